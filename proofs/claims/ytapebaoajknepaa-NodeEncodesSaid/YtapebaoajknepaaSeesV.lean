/-
  Slices whose cells hold known values; slices of numbers; what is owned.
-/
import Derived.Test.YtapebaoajknepaaRelyCells
import Derived.Test.YtapebaoajknepaaApart
import Derived.Test.YtapebaoajknepaaWant
import Derived.Deep.Slices
import Derived.Maps.AppendAt
import Derived.Laws.AppendOwnNone
import Derived.OwnWalk
namespace Go.Proofs.Ytapebaoajknepaa
open Go.RowKit
set_option linter.unusedVariables false

/-- Values that lie in the cells of a slice. -/
def SeesV (w : World) (a : Option Addr) (n : Nat) (F : Nat → Value) : Prop :=
  ∀ m, m < n → ∃ ad, a = some ad ∧ ad.block < w.heap.size ∧ w.cell? (ad.add m) = some (F m)
/-- The address of cell m. -/
def elV (a : Option Addr) (m : Nat) : Addr := (a.getD ⟨0, 0, none⟩).add m

theorem SeesV.after {w w' : World} {a : Option Addr} {n : Nat} {F : Nat → Value} (h : SeesV w a n F) (hb : Below w.heap.size w w') : SeesV w' a n F := fun m hm => by
  obtain ⟨ad, e, hl, hc⟩ := h m hm
  exact ⟨ad, e, Nat.lt_of_lt_of_le hl hb.size, (hb.cell (by rw [block_add]; exact hl)).trans hc⟩
theorem SeesV.take {w : World} {a : Option Addr} {n k : Nat} {F : Nat → Value} (h : SeesV w a n F) (hk : k ≤ n) : SeesV w a k F := fun m hm => h m (by omega)
theorem SeesV.nil (w : World) (a : Option Addr) (F : Nat → Value) : SeesV w a 0 F := fun m hm => by omega
theorem SeesV.some {w : World} {a : Option Addr} {n : Nat} {F : Nat → Value} (h : SeesV w a n F) (hn : 0 < n) : ∃ ad, a = some ad ∧ ad.block < w.heap.size := by
  obtain ⟨ad, e, hl, _⟩ := h 0 hn
  exact ⟨ad, e, hl⟩
theorem SeesV.congr {w : World} {a : Option Addr} {n : Nat} {F G : Nat → Value} (h : SeesV w a n F) (e : ∀ i, i < n → F i = G i) : SeesV w a n G := fun m hm => by
  obtain ⟨ad, e1, hl, hc⟩ := h m hm
  exact ⟨ad, e1, hl, hc.trans (by rw [e m hm])⟩
theorem SeesV.cell {w : World} {a : Option Addr} {n : Nat} {F : Nat → Value} (h : SeesV w a n F) {m : Nat} (hm : m < n) : w.cell? (elV a m) = Option.some (F m) := by
  obtain ⟨ad, rfl, _, hc⟩ := h m hm
  exact hc
/-- Blocks that turned elsewhere. -/
theorem SeesV.kept {w w' : World} {a : Option Addr} {n : Nat} {F : Nat → Value} (h : SeesV w a n F) (hb : ∀ ad, a = Option.some ad → ad.block < w.heap.size → ad.block < w'.heap.size ∧ w'.heap[ad.block]? = w.heap[ad.block]?) : SeesV w' a n F := fun m hm => by
  obtain ⟨ad, e, hl, hc⟩ := h m hm
  obtain ⟨h1, h2⟩ := hb ad e hl
  refine ⟨ad, e, h1, ?_⟩
  rw [← hc]
  apply World.cell?_of_block
  rw [block_add, h2]

/-- Values that the call owns, a cell each, are seen. -/
theorem own_seesV {w : World} {base : Nat} {t : TypeId} {v : Value} {n k : Nat} {xs : List Value} {F : Nat → Value} (h : w.ownsRow base t k v n xs) (hF : ∀ m, m < n * k → xs[m]? = some (F m)) : ∃ a c, v = .slice a n c ∧ SeesV w a (n * k) F ∧ n ≤ c ∧ c ≤ maxLen ∧ ∀ ad, a = some ad → base ≤ ad.block ∧ v.ownBlock = some ad.block ∧ ad = ⟨ad.block, 0, none⟩ := by
  rcases h.2 with ⟨rfl, rfl⟩ | ⟨g, cap, cur, rfl, hg, hr, hc, hm, _⟩
  · exact ⟨none, 0, rfl, by rw [Nat.zero_mul]; exact .nil _ _ _, Nat.le_refl _, by decide, fun ad e => by cases e⟩
  · refine ⟨some ⟨g, 0, none⟩, cap, rfl, fun m hm => ?_, hc, hm, fun ad e => by cases e; exact ⟨hg, rfl, rfl⟩⟩
    exact ⟨_, rfl, (Array.getElem?_eq_some_iff.1 hr).1, h.cells rfl m _ (hF m hm)⟩
theorem own_onto {w w' : World} {base : Nat} {e : TypeId} {size : Nat} {v : Value} {n : Nat} {xs : List Value} (h : w.ownsRow base e size v n xs) (hb : Below w.heap.size w w') : w'.ownsRow base e size v n xs := by
  refine ⟨h.1, ?_⟩
  rcases h.2 with h2 | ⟨g, cap, cur, e, hg, hr, rest⟩
  · exact .inl h2
  · exact .inr ⟨g, cap, cur, e, hg, (hb.block g (Array.getElem?_eq_some_iff.1 hr).1).trans hr, rest⟩
theorem own_from {B B' : Nat} {e : TypeId} {size n : Nat} {v : Value} {xs : List Value} {w : World} (h : w.ownsRow B' e size v n xs) (hB : B ≤ B') : w.ownsRow B e size v n xs := by
  refine ⟨h.1, ?_⟩
  rcases h.2 with h2 | ⟨g, cap, cur, e, hg, rest⟩
  · exact .inl h2
  · exact .inr ⟨g, cap, cur, e, Nat.le_trans hB hg, rest⟩
/-- Two rows of other element types lie apart. -/
theorem own_two {w : World} {b1 b2 : Nat} {e1 e2 : TypeId} {s1 s2 n1 n2 : Nat} {v1 v2 : Value} {x1 x2 : List Value} (h1 : w.ownsRow b1 e1 s1 v1 n1 x1) (h2 : w.ownsRow b2 e2 s2 v2 n2 x2) (hne : e1 ≠ e2) : v1.ownBlock = none ∨ v1.ownBlock ≠ v2.ownBlock := by
  rcases h1.2 with ⟨rfl, _⟩ | ⟨g, cap, cur, rfl, _, hh, _⟩
  · exact .inl rfl
  · rcases h2.2 with ⟨rfl, _⟩ | ⟨g2, cap2, cur2, rfl, _, hh2, _⟩
    · exact .inr (by simp [Value.ownBlock])
    · refine .inr fun e => hne ?_
      have : g = g2 := by simpa [Value.ownBlock] using e
      subst this
      rw [hh] at hh2
      cases hh2
      rfl

section
variable {P : Program} {S T : TypeId}
theorem sizeOf_k {k : Nat} (hs : (P.info? T).map (·.size) = some k) (w : World) : (sizeOf T).run P w = .ok k w := by
  cases hq : P.info? T with
  | none => simp [hq] at hs
  | some i =>
    have : i.size = k := by simpa [hq] using hs
    simp [sizeOf, typeInfo, hq, this]

/-- The address of element i, at the operation. -/
theorem run_index_v {w0 : World} {ad : Option Addr} {n c k : Nat} {F : Nat → Value} (hu : P.underlying S = some (.slice T)) (he : P.elem S = T) (hs : (P.info? T).map (·.size) = some k) (h : SeesV w0 ad (n * k) F) (hk : 0 < k) {i : Nat} (hi : i < n)
    {o : Oper} {a : Act} {x y : Operand} (ho : o.op = .indexAddr S x y) (hx : a.eval x = .slice ad n c) {z : Int} (hy : a.eval y = .int .i64 z) (hz : z = (i : Int)) (w : World) :
    (execOp a.eval o).run P w = .ok (.value (.pointer (some (elV ad (i * k))))) w := by
  subst hz
  obtain ⟨ad', rfl, _⟩ := h.some (Nat.mul_pos (by omega) hk)
  have hu' : P.underlying S = some (.slice (P.elem S)) := by rw [he]; exact hu
  unfold execOp
  simp only [ho, hx, hy, Sem.run_bind]
  rw [run_indexAt_slice w S ad' n c .i64 i hu', if_pos (by omega), he, sizeOf_k hs]
  simp [Result.andThen, elV]

theorem run_loadVar_one {d : TypeDesc} (w : World) (x : Addr) (v : Value) (hc : w.cell? x = some v) (hu : P.underlying T = some d) (hd : (match d with | .struct _ | .array _ _ => false | _ => true) = true) : (loadVar T x).run P w = .ok v w := by
  have hagg : (isAgg T).run P w = .ok false w := by
    unfold isAgg
    rw [Sem.run_bind, run_underlying hu w]
    cases d <;> simp_all
  simp [loadVar, Sem.run_bind, hagg, hc]

/-- One cell, loaded at the operation. -/
theorem run_load_one {w : World} {ad : Option Addr} {m : Nat} {v : Value} {d : TypeDesc} (hc : w.cell? (elV ad m) = some v) (hu : P.underlying T = some d) (hd : (match d with | .struct _ | .array _ _ => false | _ => true) = true)
    {o : Oper} {a : Act} {x : Operand} (ho : o.op = .load T x) (hx : a.eval x = .pointer (some (elV ad m))) : (execOp a.eval o).run P w = .ok (.value v) w := by
  unfold execOp
  simp only [ho, hx, Instr.loadAt, Instr.sureAddr, Sem.run_bind, Sem.run_pure, Result.andThen_ok, run_loadVar_one w _ v hc hu hd]

/-- A node, loaded whole at the operation. -/
theorem run_load_three {w : World} {ad : Option Addr} {n i : Nat} {F : Nat → Value} {d : TypeDesc} (h : SeesV w ad (n * 3) F) (hi : i < n) (hu : P.underlying T = some d) (hd : (match d with | .struct _ | .array _ _ => true | _ => false) = true) (hs : (P.info? T).map (·.size) = some 3)
    {o : Oper} {a : Act} {x : Operand} (ho : o.op = .load T x) (hx : a.eval x = .pointer (some (elV ad (i * 3)))) : (execOp a.eval o).run P w = .ok (.value (.agg #[F (i * 3), F (i * 3 + 1), F (i * 3 + 2)])) w := by
  have hagg : (isAgg T).run P w = .ok true w := by
    unfold isAgg
    rw [Sem.run_bind, run_underlying hu w]
    cases d <;> simp_all
  obtain ⟨ad', rfl, _⟩ := h.some (by omega)
  have hl := run_loadCells_list (P := P) w (elV (some ad') (i * 3)) [F (i * 3), F (i * 3 + 1), F (i * 3 + 2)] (fun j v hv => by
    have hj : j < 3 := (List.getElem?_eq_some_iff.1 hv).1
    have e : (elV (some ad') (i * 3)).add j = ad'.add (i * 3 + j) := Deep.add_add _ _ _
    obtain ⟨ad2, e2, _, hc⟩ := h (i * 3 + j) (by omega)
    cases e2
    rw [e, hc]
    match j, hj with
    | 0, _ => simpa using hv
    | 1, _ => simpa using hv
    | 2, _ => simpa using hv)
  unfold execOp
  simp only [ho, hx, Instr.loadAt, Instr.sureAddr, Sem.run_bind, Sem.run_pure, Result.andThen_ok]
  have e3 : (loadVar T (elV (some ad') (i * 3))).run P w = .ok (.agg #[F (i * 3), F (i * 3 + 1), F (i * 3 + 2)]) w := by
    have hl' : (loadCells (elV (some ad') (i * 3)) 3).run P w = .ok #[F (i * 3), F (i * 3 + 1), F (i * 3 + 2)] w := hl
    simp [loadVar, Sem.run_bind, hagg, sizeOf_k hs, hl']
  simp [e3]
end

/-- Numbers in a row. -/
def natV (f : Nat → Nat) : Nat → Value := fun j => .int .i64 ((f j : Nat) : Int)
abbrev SeesI (w : World) (a : Option Addr) (n : Nat) (f : Nat → Nat) : Prop := SeesV w a n (natV f)

/-- The cells of a row of n cells. -/
def cellL (n : Nat) (F : Nat → Value) : List Value := (List.range n).map F
theorem cellL_length (n : Nat) (F : Nat → Value) : (cellL n F).length = n := by simp [cellL]
theorem cellL_get (n : Nat) (F : Nat → Value) (m : Nat) (h : m < n) : (cellL n F)[m]? = some (F m) := by
  unfold cellL
  rw [List.getElem?_map, List.getElem?_range h]
  rfl
theorem cellL_succ (n : Nat) (F : Nat → Value) : cellL n F ++ [F n] = cellL (n + 1) F := by
  unfold cellL
  rw [List.range_succ, List.map_append]
  rfl
theorem cellL_three (n : Nat) (F : Nat → Value) : cellL (n * 3) F ++ [F (n * 3), F (n * 3 + 1), F (n * 3 + 2)] = cellL ((n + 1) * 3) F := by
  rw [show (n + 1) * 3 = n * 3 + 1 + 1 + 1 by omega, ← cellL_succ, ← cellL_succ, ← cellL_succ]
  simp
theorem cellL_congr {n : Nat} {F G : Nat → Value} (h : ∀ j, j < n → F j = G j) : cellL n F = cellL n G := by
  unfold cellL
  apply List.map_congr_left
  intro m hm
  exact h m (by simpa using hm)

theorem Try.infoInt : (Try.prog.info? 3).map (fun i => (i.zero, i.size, i.bytes)) = some (some (.int .i64 0), 1, 8) := by kernel_rfl
theorem sz_int : (Try.prog.info? 3).map (·.size) = some 1 := by kernel_rfl
theorem get_int {w : World} {ad : Option Addr} {m : Nat} {z : Int} (hc : w.cell? (elV ad m) = some (.int .i64 z)) {o : Oper} {a : Act} {x : Operand} (ho : o.op = .load 3 x) (hx : a.eval x = .pointer (some (elV ad m))) :
    (execOp a.eval o).run Try.prog w = .ok (.value (.int .i64 z)) w := run_load_one hc Try.underlying3 rfl ho hx

theorem add_zero (x : Addr) : x.add 0 = x := by
  cases x
  unfold Addr.add
  split <;> simp_all


end Go.Proofs.Ytapebaoajknepaa
