/-
  Slices of keys: what lies in their cells; a key taken out of them; keys laid one behind the other.
-/
import Derived.Test.YtopajipagacmkaaKeys
import Derived.Test.YtopajipagacmkaaRelyCells
import Derived.Test.YtopajipagacmkaaApart
import Derived.Deep.Slices
import Derived.Maps.AppendAt
import Derived.Laws.AppendOwnNone
import Derived.OwnWalk
namespace Go.Proofs.Ytopajipagacmkaa
open Go.RowKit

/-- Keys in a row: byte m. -/
def flatK (K : Nat → Nat → Nat) : Nat → Nat := fun m => K (m / 16) (m % 16)

theorem flat_at (K : Nat → Nat → Nat) (i j : Nat) (hj : j < 16) : flatK K (i * 16 + j) = K i j := by
  unfold flatK
  rw [show (i * 16 + j) / 16 = i by omega, show (i * 16 + j) % 16 = j by omega]

/-- The cells of the first n keys. -/
def keyL (n : Nat) (K : Nat → Nat → Nat) : List Value := (List.range (n * 16)).map (w8 (flatK K))

theorem keyL_length (n : Nat) (K : Nat → Nat → Nat) : (keyL n K).length = n * 16 := by simp [keyL]
theorem keyL_one (n : Nat) (K : Nat → Nat → Nat) : ∀ u ∈ keyL n K, u.oneCell' = true := w8_one _ _
theorem keyL_get (n : Nat) (K : Nat → Nat → Nat) (m : Nat) (h : m < n * 16) : (keyL n K)[m]? = some (.int .u8 (flatK K m : Nat)) := by
  unfold keyL
  rw [List.getElem?_map, List.getElem?_range h]
  rfl
theorem keyL_zero (K : Nat → Nat → Nat) : keyL 0 K = [] := rfl
theorem keyL_congr {n : Nat} {K L : Nat → Nat → Nat} (h : ∀ i, i < n → ∀ j, j < 16 → K i j = L i j) : keyL n K = keyL n L := by
  unfold keyL
  apply List.map_congr_left
  intro m hm
  have hm' : m < n * 16 := by simpa using hm
  unfold w8 flatK
  rw [h (m / 16) (by omega) (m % 16) (by omega)]
theorem keyL_succ (n : Nat) (K : Nat → Nat → Nat) : keyL n K ++ (rowOf 16 (w8 (K n))).toList = keyL (n + 1) K := by
  unfold keyL rowOf
  rw [show (n + 1) * 16 = n * 16 + 16 by omega, List.range_add, List.map_append, List.map_map]
  congr 1
  show (List.range 16).map (w8 (K n)) = _
  apply List.map_congr_left
  intro j hj
  have hj' : j < 16 := by simpa using hj
  show w8 (K n) j = w8 (flatK K) (n * 16 + j)
  unfold w8
  rw [flat_at K n j hj']

/-- The keys lie in the cells of a slice. -/
def SeesK (w : World) (a : Option Addr) (n : Nat) (K : Nat → Nat → Nat) : Prop :=
  ∀ m, m < n * 16 → ∃ ad, a = some ad ∧ ad.block < w.heap.size ∧ w.cell? (ad.add m) = some (.int .u8 (flatK K m : Nat))

theorem SeesK.below {B : Nat} {w w' : World} {a : Option Addr} {n : Nat} {K : Nat → Nat → Nat} (h : SeesK w a n K) (hb : Below B w w') (hB : ∀ ad, a = some ad → ad.block < B) : SeesK w' a n K := fun m hm => by
  obtain ⟨ad, e, hl, hc⟩ := h m hm
  exact ⟨ad, e, Nat.lt_of_lt_of_le hl hb.size, (hb.cell (by rw [block_add]; exact hB ad e)).trans hc⟩
theorem SeesK.after {w w' : World} {a : Option Addr} {n : Nat} {K : Nat → Nat → Nat} (h : SeesK w a n K) (hb : Below w.heap.size w w') : SeesK w' a n K := fun m hm => by
  obtain ⟨ad, e, hl, hc⟩ := h m hm
  exact ⟨ad, e, Nat.lt_of_lt_of_le hl hb.size, (hb.cell (by rw [block_add]; exact hl)).trans hc⟩
theorem SeesK.take {w : World} {a : Option Addr} {n k : Nat} {K : Nat → Nat → Nat} (h : SeesK w a n K) (hk : k ≤ n) : SeesK w a k K := fun m hm => h m (by omega)
theorem SeesK.nil (w : World) (a : Option Addr) (K : Nat → Nat → Nat) : SeesK w a 0 K := fun m hm => by omega
theorem SeesK.some {w : World} {a : Option Addr} {n : Nat} {K : Nat → Nat → Nat} (h : SeesK w a n K) (hn : 0 < n) : ∃ ad, a = some ad ∧ ad.block < w.heap.size := by
  obtain ⟨ad, e, hl, _⟩ := h 0 (by omega)
  exact ⟨ad, e, hl⟩
theorem SeesK.congr {w : World} {a : Option Addr} {n : Nat} {K L : Nat → Nat → Nat} (h : SeesK w a n K) (e : ∀ i, i < n → ∀ j, j < 16 → K i j = L i j) : SeesK w a n L := fun m hm => by
  obtain ⟨ad, e1, hl, hc⟩ := h m hm
  refine ⟨ad, e1, hl, hc.trans ?_⟩
  unfold flatK
  rw [e (m / 16) (by omega) (m % 16) (by omega)]
theorem SeesK.apart {p : Nat} {w w' : World} {a : Option Addr} {n : Nat} {K : Nat → Nat → Nat} (h : SeesK w a n K) (hb : Apart p w w') (hp : ∀ ad, a = Option.some ad → ad.block ≠ p) : SeesK w' a n K := fun m hm => by
  obtain ⟨ad, e, hl, hc⟩ := h m hm
  refine ⟨ad, e, Nat.lt_of_lt_of_le hl hb.size, ?_⟩
  rw [← hc]
  apply World.cell?_of_block
  rw [block_add]
  have h1 := (hb #[]).block ad.block hl
  rwa [setRow_other _ _ _ _ (hp ad e), setRow_other _ _ _ _ (hp ad e)] at h1

/-- Keys that the call owns are seen. -/
theorem own_seesK {w : World} {base : Nat} {v : Value} {n : Nat} {K : Nat → Nat → Nat} (h : w.ownsRow base 31 16 v n (keyL n K)) : ∃ a c, v = .slice a n c ∧ SeesK w a n K ∧ n ≤ c ∧ c ≤ maxLen ∧ ∀ ad, a = some ad → base ≤ ad.block ∧ v.ownBlock = some ad.block ∧ ad = ⟨ad.block, 0, none⟩ := by
  rcases h.2 with ⟨rfl, rfl⟩ | ⟨g, cap, cur, rfl, hg, hr, hc, hm, _⟩
  · exact ⟨none, 0, rfl, .nil _ _ _, Nat.le_refl _, by decide, fun ad e => by cases e⟩
  · refine ⟨some ⟨g, 0, none⟩, cap, rfl, fun m hm => ?_, hc, hm, fun ad e => by cases e; exact ⟨hg, rfl, rfl⟩⟩
    exact ⟨_, rfl, (Array.getElem?_eq_some_iff.1 hr).1, h.cells rfl m _ (keyL_get n K m hm)⟩

/-- The address of key i. -/
def elA (a : Option Addr) (i : Nat) : Addr := (a.getD ⟨0, 0, none⟩).add (i * 16)

theorem Try.infoKey : (Try.prog.info? 31).map (fun i => (i.zero, i.size, i.bytes)) = some (some (.agg (rowOf 16 (w8 zeroN))), 16, 16) := by kernel_rfl
theorem size_key (w : World) : (sizeOf 31).run Try.prog w = .ok 16 w := by
  obtain ⟨i0, hi, hz0, hz1, hz2⟩ := info_parts Try.infoKey
  simp [sizeOf, typeInfo, hi, hz1]

theorem run_loadVar_cells {P : Program} (w : World) (x : Addr) (ty : TypeId) (d : TypeDesc) (n : Nat) (f : Nat → Value) (hc : ∀ j, j < n → w.cell? (x.add j) = some (f j))
    (hu : P.underlying ty = some d) (hd : (match d with | .struct _ | .array _ _ => true | _ => false) = true) (hi : (P.info? ty).map (·.size) = some n) :
    (loadVar ty x).run P w = .ok (.agg (rowOf n f)) w := by
  have hl : (loadCells x (rowOf n f).toList.length).run P w = .ok (rowOf n f).toList.toArray w :=
    run_loadCells_list (P := P) w x (rowOf n f).toList (fun j v hv => by
      have hj : j < n := by
        have := (List.getElem?_eq_some_iff.1 hv).1
        simpa [rowOf] using this
      rw [hc j hj]
      have h2 := rowOf_get n f j hj
      rw [← Array.getElem?_toList] at h2
      exact h2.symm.trans hv)
  cases hq : P.info? ty with
  | none => simp [hq] at hi
  | some i =>
    have hs : i.size = n := by simpa [hq] using hi
    have hagg : (isAgg ty).run P w = .ok true w := by
      unfold isAgg
      rw [Sem.run_bind, run_underlying hu w]
      cases d <;> simp_all
    simp only [Array.length_toList, Array.toArray_toList, rowOf_size] at hl
    simp [loadVar, Sem.run_bind, hagg, sizeOf, typeInfo, hq, hs, hl]

theorem load_el {w : World} {a : Option Addr} {n : Nat} {K : Nat → Nat → Nat} (h : SeesK w a n K) {i : Nat} (hi : i < n) : (loadVar 31 (elA a i)).run Try.prog w = .ok (.agg (rowOf 16 (w8 (K i)))) w := by
  obtain ⟨ad, rfl, _⟩ := h.some (by omega)
  refine run_loadVar_cells w _ _ _ 16 (w8 (K i)) (fun j hj => ?_) Try.underlying31 rfl (by kernel_rfl)
  obtain ⟨ad', e, _, hc⟩ := h (i * 16 + j) (by omega)
  cases e
  show w.cell? ((ad.add (i * 16)).add j) = _
  rw [Deep.add_add, hc, flat_at K i j hj]
  rfl

theorem index_el {w0 : World} {a : Option Addr} {n c : Nat} {K : Nat → Nat → Nat} (h : SeesK w0 a n K) {i : Nat} (hi : i < n) (w : World) : (Instr.indexAt 52 (.slice a n c) (.int .i64 (i : Int))).run Try.prog w = .ok (.pointer (some (elA a i))) w := by
  obtain ⟨ad, rfl, _⟩ := h.some (by omega)
  have he : Try.prog.elem 52 = 31 := by kernel_rfl
  have hu : Try.prog.underlying 52 = some (.slice (Try.prog.elem 52)) := by rw [he]; exact Try.underlying52
  rw [run_indexAt_slice w 52 ad n c .i64 i hu, if_pos (by omega), he, size_key]
  simp [Result.andThen, elA]

/-- At the operation. -/
theorem run_index_el {w0 : World} {ad : Option Addr} {n c : Nat} {K : Nat → Nat → Nat} (h : SeesK w0 ad n K) {i : Nat} (hi : i < n) {o : Oper} {a : Act} {x y : Operand} (ho : o.op = .indexAddr 52 x y) (hx : a.eval x = .slice ad n c) (hy : a.eval y = .int .i64 (i : Int)) (w : World) :
    (execOp a.eval o).run Try.prog w = .ok (.value (.pointer (some (elA ad i)))) w := by
  unfold execOp
  simp only [ho, hx, hy, Sem.run_bind, index_el h hi w, Result.andThen_ok, Sem.run_pure]
theorem run_load_el {w : World} {ad : Option Addr} {n : Nat} {K : Nat → Nat → Nat} (h : SeesK w ad n K) {i : Nat} (hi : i < n) {o : Oper} {a : Act} {x : Operand} (ho : o.op = .load 31 x) (hx : a.eval x = .pointer (some (elA ad i))) :
    (execOp a.eval o).run Try.prog w = .ok (.value (.agg (rowOf 16 (w8 (K i))))) w := by
  unfold execOp
  simp only [ho, hx, Instr.loadAt, Instr.sureAddr, Sem.run_bind, Sem.run_pure, Result.andThen_ok, load_el h hi]

end Go.Proofs.Ytopajipagacmkaa
