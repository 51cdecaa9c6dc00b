/-
  Contracts: From, the document's From.
-/
import Derived.Test.YtedmdojmgccclaaDoorDrawTold
import Derived.Test.YtedmdojmgccclaaDoorMacDerive
import Derived.Test.YtedmdojmgccclaaDoorMinMax
import Derived.Test.YtedmdojmgccclaaDoorRelyMake
namespace Go.Proofs.YtedmdojmgccclaaDoor
open Go.RowKit

/-- The keys of a seed. -/
def fromK (seed : Nat) : Nat → Nat → Nat := fun i => deriveN zeroN ⟨#[100, 114, 97, 119]⟩ ((seed + i) % 18446744073709551616)

theorem part_all8 (n : Nat) (f g : Nat → Nat) : rowOf n (w8 (part f g n)) = rowOf n (w8 f) := rowOf_congr fun k hk => by unfold w8; rw [part_below _ _ _ _ hk]

theorem made_keys (n : Nat) : madeCells (Value.agg (rowOf 16 (w8 zeroN))).cells (n * 16) = rowOf (n * 16) (w8 zeroN) := by
  apply Array.ext
  · simp [madeCells, rowOf]
  · intro j h1 h2
    have hj : j < n * 16 := by simpa [rowOf] using h2
    have e1 := rowOf_get 16 (w8 zeroN) (j % 16) (by omega)
    have e2 : (rowOf 16 (w8 zeroN))[j % 16]! = .int .u8 0 := by
      rw [Array.getElem!_eq_getD, Array.getD_eq_getD_getElem?, e1]
      rfl
    have e3 : (Value.agg (rowOf 16 (w8 zeroN))).cells = rowOf 16 (w8 zeroN) := rfl
    simp only [madeCells, e3, rowOf_size, Array.getElem_map, Array.getElem_range, e2]
    simp [rowOf, w8, zeroN]

theorem lay_key (m i : Nat) (K : Nat → Nat → Nat) (F : Nat → Nat) (h : ∀ j, j < 16 → F j = K i j) : rowOf (m * 16) (laidV (w8 (part (flatK K) zeroN (i * 16))) (w8 F) (i * 16) 16) = rowOf (m * 16) (w8 (part (flatK K) zeroN ((i + 1) * 16))) := rowOf_congr fun j _ => by
  unfold laidV
  by_cases c : i * 16 ≤ j ∧ j < i * 16 + 16
  · rw [if_pos c]
    unfold w8
    rw [part_below _ _ _ _ (by omega), h _ (by omega), ← flat_at K i (j - i * 16) (by omega), show i * 16 + (j - i * 16) = j by omega]
  · rw [if_neg c]
    unfold w8
    by_cases c2 : j < i * 16
    · rw [part_below _ _ _ _ c2, part_below _ _ _ _ (by omega)]
    · rw [part_above _ _ _ _ (by omega), part_above _ _ _ _ (by omega)]

theorem from_sum (seed i : Nat) : IntKind.u64.wrap ((seed : Int) + (i : Int)) = (((seed + i) % 18446744073709551616 : Nat) : Int) := by
  simp [IntKind.wrap, IntKind.bits, IntKind.signed]

set_option maxHeartbeats 1000000 in
set_option maxRecDepth 8000 in
theorem drawFrom_any (seed : Nat) (n : Int) (hn : n ≤ 1000) (hn0 : -9223372036854775808 ≤ n) (m : Nat) (hm : m = n.toNat) (w : World) (hk : Hid (KRow w)) :
    Calls Tryd.prog 12 #[.int .u64 (seed : Int), .int .i64 n] w fun e w' => ∃ g, e = .returned (.slice (some ⟨g, 0, none⟩) m m) ∧ Hid (RowAt w' g 27 (rowOf (m * 16) (w8 (flatK (fromK seed))))) ∧ Below w.heap.size w w' := by
  have h1 : Hid ((n < 0 ∧ (m : Int) = 0) ∨ (0 ≤ n ∧ (m : Int) = n)) := by unfold Hid; omega
  have h2 : Hid (((m : Int) < 10000 ∧ (m : Int) = (m : Int)) ∨ (10000 ≤ (m : Int) ∧ (m : Int) = 10000)) := by unfold Hid; omega
  have lm : m ≤ 1000 := by omega
  replace hm := Lib.hid hm
  have mk : (Instr.makeSlice 22 (.int .i64 (m : Int)) (.int .i64 (m : Int))).run Tryd.prog w = .ok (.slice (some ⟨w.heap.size, 0, none⟩) m m) (w.alloc (.cells (rowOf (m * 16) (w8 zeroN)) 27)) := by
    obtain ⟨i0, hi, hz0, hz1, hz2⟩ := info_parts Tryd.infoKey
    have h := run_makeSlice (P := Tryd.prog) w 22 27 i0 (.agg (rowOf 16 (w8 zeroN))) Tryd.underlying22 hi hz0 .i64 .i64 (m : Int) (m : Int) (by omega) (by omega) (by rw [hz1]; simp; omega) (by rw [hz2]; omega) (by omega)
    rw [hz1] at h
    simp only [Int.toNat_natCast, made_keys] at h
    exact h
  have q0 : Hid (RowAt (w.alloc (.cells (rowOf (m * 16) (w8 zeroN)) 27)) w.heap.size 27 (rowOf (m * 16) (w8 (part (flatK (fromK seed)) zeroN (0 * 16))))) := (RowAt.new _ _ _).congr (by rw [Nat.zero_mul, part_zero])
  have b0 : Below w.heap.size w (w.alloc (.cells (rowOf (m * 16) (w8 zeroN)) 27)) := (Below.refl _ _).alloc (Nat.le_refl _) _
  go_enter Tryd.func12, Tryd.ntmps12
  go_wp2_with (first | (refine wpList_max2 rfl _ _ rfl rfl n 0 (m : Int) rfl rfl h1.out ?_) | (refine wpList_min2 rfl _ _ rfl rfl (m : Int) 10000 (m : Int) rfl rfl h2.out ?_))
  clear mk h1 h2
  generalize w.alloc (.cells (rowOf (m * 16) (w8 zeroN)) 27) = w0 at *
  go_loopw [13] (fun c wr => ∃ i : Nat, i ≤ m ∧ c = .int .i64 i ∧ Hid (RowAt wr w.heap.size 27 (rowOf (m * 16) (w8 (part (flatK (fromK seed)) zeroN (i * 16))))) ∧ Below w.heap.size w wr) (fun c _ => m - (intOf c).toNat)
  case atStart => exact ⟨0, Nat.zero_le _, rfl, q0, b0⟩
  case round =>
    clear q0 b0
    obtain ⟨i, hi, rfl, q1, b1⟩ := hrel
    by_cases hlt : i < m
    · have li : (i : Int) < (m : Int) := by omega
      have es := Lib.hid (from_sum seed i)
      have k1 := Lib.hid (hk.out.below b1 hk.out.1 b1.size)
      have DX := Lib.hid (derive_any zeroN zero_bytes ⟨#[100, 114, 97, 119]⟩ (by decide) ((seed + i) % 18446744073709551616) (Nat.mod_lt _ (by decide)) wr k1)
      have ef : Hid (deriveN zeroN ⟨#[100, 114, 97, 119]⟩ ((seed + i) % 18446744073709551616) = fromK seed i) := rfl
      rw [ef.out] at DX
      go_wp2_with fail
      rw [es.out, ← z8_16]
      refine DX.out.mono ?_
      rintro e w2 ⟨rfl, hb2⟩
      replace b1 := b1.trans (hb2.mono b1.size)
      replace q1 := Lib.hid (q1.out.below hb2 q1.out.lt)
      clear hb2 DX ef k1 es
      generalize hF : fromK seed i = F at *
      have hL : i * 16 + 16 ≤ m * 16 := by omega
      have q2 := Lib.hid ((q1.out.setRow (rowOf (m * 16) (laidV (w8 (part (flatK (fromK seed)) zeroN (i * 16))) (w8 F) (i * 16) 16))).congr (lay_key m i (fromK seed) F (fun j _ => by rw [← hF])))
      have b2 := below_setRow' b1 (Nat.le_refl _) (rowOf (m * 16) (laidV (w8 (part (flatK (fromK seed)) zeroN (i * 16))) (w8 F) (i * 16) 16))
      clear hF
      go_wp2_with (refine wpList_store_at rfl 27 _ _ rfl w.heap.size (i * 16) (m * 16) 16 (w8 (part (flatK (fromK seed)) zeroN (i * 16))) (w8 F) rfl rfl 27 q1.out (by kernel_rfl) (rowOf_cells8 _ _) hL ?_)
      go_roundw
      case rel => exact ⟨i + 1, by omega, by go_num, q2, b2⟩
      case measure => simp [intOf]; omega
    · have li : ¬ (i : Int) < (m : Int) := by omega
      have ei : i = m := by omega
      subst ei
      go_wp2
      go_ret
      exact ⟨_, rfl, q1.out.congr (part_all8 _ _ _), b1⟩

theorem news_row {w : World} {g : Nat} {cs : Array Value} {t : TypeId} (h : RowAt w g t cs) : ∀ j u, cs.toList[j]? = some u → w.cell? ((⟨g, 0, none⟩ : Addr).add j) = some u := fun j u hj => by
  rw [addr_add, Nat.zero_add, cell_of_row w g j cs t (0, 0) h]
  rw [Array.getElem?_toList] at hj
  exact hj

theorem row_one (n : Nat) (f : Nat → Nat) : ∀ u ∈ (rowOf n (w8 f)).toList, u.oneCell' = true := fun u hu => by
  have hu' : u ∈ (List.range n).map (w8 f) := hu
  exact w8_one _ _ u hu'

/-- A slice of one key. -/
theorem build_one (F : Nat → Nat) (w : World) : (Instr.buildSlice 22 1 #[(0, .agg (rowOf 16 (w8 F)))]).run Tryd.prog w = .ok (.slice (some ⟨w.heap.size, 0, none⟩) 1 1) (w.alloc (.cells (rowOf 16 (w8 F)) 27)) := by kernel_rfl

theorem wpList_build_one {ops : Array Oper} {rest : List Oper} {o : Oper} {a : Act} {w : World} {Q : Exit → Act → World → Prop} (hgd : o.guard = none) (x : Operand) (ho : o.op = .buildSlice 22 1 #[(0, x)]) (F : Nat → Nat) (hx : a.eval x = .agg (rowOf 16 (w8 F)))
    (h : wpList Tryd.prog ops Q rest (a.put o.dst (.slice (some ⟨w.heap.size, 0, none⟩) 1 1)) (w.alloc (.cells (rowOf 16 (w8 F)) 27))) : wpList Tryd.prog ops Q (o :: rest) a w :=
  wpList_plain hgd fun _ hK => by
    unfold Oper.wp execOp
    simp only [ho, List.map_toArray, List.map_cons, List.map_nil, hx, Sem.run_bind, build_one F w, Result.andThen_ok, Sem.run_pure]
    exact hK _ _ h

set_option maxHeartbeats 1000000 in
set_option maxRecDepth 8000 in
theorem refFrom_any (seed : Nat) (n : Int) (hn : n ≤ 1000) (hn0 : -9223372036854775808 ≤ n) (m : Nat) (hm : m = n.toNat) (w : World) :
    Calls Tryd.prog 13 #[.int .u64 (seed : Int), .int .i64 n] w fun e w' => ∃ v, e = .returned v ∧ Hid (w'.ownsRow w.heap.size 27 16 v m (keyL m (fromK seed))) ∧ Below w.heap.size w w' := by
  have lm : m ≤ 1000 := by omega
  have hmn : Hid ((n < 0 ∧ m = 0) ∨ (0 ≤ n ∧ (m : Int) = n)) := by unfold Hid; omega
  obtain ⟨i0, hi0, hz0, hz1, hz2⟩ := info_parts Tryd.infoKey
  have o0 : Hid ((w.alloc (.cells #[] 27)).ownsRow w.heap.size 27 16 (.slice (some ⟨w.heap.size, 0, none⟩) 0 0) 0 (keyL 0 (fromK seed))) := World.ownsRow_made w #[] 0 (Nat.le_refl _) (by decide) rfl
  have b0 : Below w.heap.size w (w.alloc (.cells #[] 27)) := (Below.refl _ _).alloc (Nat.le_refl _) _
  replace hm := Lib.hid hm
  go_enter Tryd.func13, Tryd.ntmps13
  go_wp2
  generalize w.alloc (.cells #[] 27) = w0 at *
  go_loopw [5, 6] (fun v c wr => ∃ i : Nat, i ≤ m ∧ c = .int .i64 i ∧ Hid (wr.ownsRow w.heap.size 27 16 v i (keyL i (fromK seed))) ∧ Below w.heap.size w wr) (fun _ c _ => m - (intOf c).toNat)
  case atStart => exact ⟨0, Nat.zero_le _, rfl, o0, b0⟩
  case round =>
    clear o0 b0
    obtain ⟨i, hi, rfl, own, b1⟩ := hrel
    by_cases hlt : i < m
    · have li : (i : Int) < n := by have := hmn.out; omega
      have l2 : (i : Int) < 10000 := by omega
      have es := Lib.hid (from_sum seed i)
      have DX := Lib.hid (refDerive_any zeroN zero_bytes ⟨#[100, 114, 97, 119]⟩ (by decide) ((seed + i) % 18446744073709551616) (Nat.mod_lt _ (by decide)) wr)
      have ef : Hid (deriveN zeroN ⟨#[100, 114, 97, 119]⟩ ((seed + i) % 18446744073709551616) = fromK seed i) := rfl
      rw [ef.out] at DX
      go_wp2_with fail
      rw [es.out, ← z8_16]
      refine DX.out.mono ?_
      rintro e w2 ⟨rfl, hb2⟩
      replace b1 := b1.trans (hb2.mono b1.size)
      replace own := Lib.hid (own_after own.out hb2)
      clear hb2 DX ef es
      have ks := Lib.hid (keyL_succ i (fromK seed))
      generalize hF : fromK seed i = F at *
      clear hF
      have q2 := Lib.hid (RowAt.new w2 27 (rowOf 16 (w8 F)))
      have o2 := Lib.hid (own.out.alloc (.cells (rowOf 16 (w8 F)) 27))
      have b2 := b1.alloc b1.size (.cells (rowOf 16 (w8 F)) 27)
      have n2 := Lib.hid (news_row q2.out)
      have lk := Lib.hid (show (rowOf 16 (w8 F)).toList.length = 1 * 16 from rfl)
      go_wp2_with (first | (refine wpList_build_one rfl _ rfl F rfl ?_) | (refine wpList_append_own_at _ rfl _ _ 22 rfl w.heap.size 27 i0 (.agg (rowOf 16 (w8 zeroN))) 16 16 Tryd.underlying22 hi0 hz0 hz1 hz2 rfl (by decide) _ i (keyL i (fromK seed)) rfl o2.out ⟨w2.heap.size, 0, none⟩ 1 1 (rowOf 16 (w8 F)).toList rfl lk.out n2.out (row_one 16 F) (by unfold maxLen; omega) (by omega) b2.size ?_; intro v' w3 hown' hgrow hnil hloc; replace hown' := Lib.hid hown'; replace hgrow := Lib.hid hgrow; clear hnil hloc))
      go_roundw
      case rel => exact ⟨i + 1, by omega, by go_num, ks.out ▸ hown'.out, b2.grown hgrow.out b2.size (fun k hk => (own.out.lt k hk).1)⟩
      case measure => simp [intOf]; omega
    · have li : ¬ (i : Int) < n := by have := hmn.out; omega
      have ei : i = m := by omega
      subst ei
      go_wp2
      go_ret
      exact ⟨_, rfl, own, b1⟩

end Go.Proofs.YtedmdojmgccclaaDoor
