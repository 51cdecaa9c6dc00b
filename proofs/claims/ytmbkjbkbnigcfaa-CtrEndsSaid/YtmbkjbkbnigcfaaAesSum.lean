/-
  Contracts: sum, the document's xor.
-/
import Derived.Test.YtmbkjbkbnigcfaaAesBox
import Derived.Test.YtmbkjbkbnigcfaaShaKit
namespace Go.Proofs.Ytmbkjbkbnigcfaa
open Go.RowKit

theorem u8_row (n : Nat) (f g : Nat → Nat) (j : Nat) : (rowOf n (w8 (part f g j))).setIfInBounds j (.int .u8 ((f j : Nat) : Int)) = rowOf n (w8 (part f g (j + 1))) := by
  rw [rowOf_upd8, part_upd]

theorem part_all (n : Nat) (f g : Nat → Nat) : rowOf n (w8 (part f g n)) = rowOf n (w8 f) := rowOf_congr fun k hk => by unfold w8; rw [part_below _ _ _ _ hk]

set_option maxHeartbeats 400000 in
set_option maxRecDepth 8000 in
theorem sum_keys (f g : Nat → Nat) (hf : Hid (Byt f)) (hg : Hid (Byt g)) (w : World) :
    Calls Try.prog 30 #[.agg (rowOf 16 (w8 f)), .agg (rowOf 16 (w8 g))] w fun e w' => e = .returned (.agg (rowOf 16 (w8 (aAdd f g)))) ∧ Below w.heap.size w w' := by
  go_enter Try.func30, Try.ntmps30
  go_wp2
  rw [← z8_16]
  have r0 : Hid (RowAt (((w.alloc (.cells (rowOf 16 (w8 f)) 23)).alloc (.cells (rowOf 16 (w8 g)) 23)).alloc (.cells (rowOf 16 (w8 zeroN)) 23)) w.heap.size 23 (rowOf 16 (w8 f))) := ((RowAt.new _ _ _).alloc _).alloc _
  have r1 : Hid (RowAt (((w.alloc (.cells (rowOf 16 (w8 f)) 23)).alloc (.cells (rowOf 16 (w8 g)) 23)).alloc (.cells (rowOf 16 (w8 zeroN)) 23)) (w.heap.size + 1) 23 (rowOf 16 (w8 g))) := row_new1 w _ _ _ _
  have r2 : Hid (RowAt (((w.alloc (.cells (rowOf 16 (w8 f)) 23)).alloc (.cells (rowOf 16 (w8 g)) 23)).alloc (.cells (rowOf 16 (w8 zeroN)) 23)) (w.heap.size + 1 + 1) 23 (rowOf 16 (w8 zeroN))) := row_new2 w _ _ _ _
  have b0 : Below w.heap.size w (((w.alloc (.cells (rowOf 16 (w8 f)) 23)).alloc (.cells (rowOf 16 (w8 g)) 23)).alloc (.cells (rowOf 16 (w8 zeroN)) 23)) := (((Below.refl _ _).alloc (Nat.le_refl _) _).alloc (by simp) _).alloc (by simp; omega) _
  generalize ((w.alloc (.cells (rowOf 16 (w8 f)) 23)).alloc (.cells (rowOf 16 (w8 g)) 23)).alloc (.cells (rowOf 16 (w8 zeroN)) 23) = w1 at *
  go_loopw [6] (fun i wr => ∃ j : Nat, j ≤ 16 ∧ i = .int .i64 j ∧ Hid (RowAt wr w.heap.size 23 (rowOf 16 (w8 (part (aAdd f g) f j)))) ∧ Hid (RowAt wr (w.heap.size + 1) 23 (rowOf 16 (w8 g))) ∧ Hid (RowAt wr (w.heap.size + 1 + 1) 23 (rowOf 16 (w8 zeroN))) ∧ Below w.heap.size w wr)
    (fun i _ => 16 - (intOf i).toNat)
  case atStart => exact ⟨0, by omega, rfl, by rw [part_zero]; exact r0, r1, r2, b0⟩
  case round =>
    clear r0 r1 r2 b0
    obtain ⟨j, hj, rfl, h0, h1, h2, hbl⟩ := hrel
    by_cases hlt : j < 16
    · go_wp2
      refine wp_region_still_tail 8 (by kernel_rfl) (by kernel_rfl) ?_
      change wpStill _ _ wr.drew (fun a' => wpList _ _ _ _ a' wr.drew) _ _
      replace h0 : Hid (RowAt wr.drew w.heap.size 23 (rowOf 16 (w8 (part (aAdd f g) f j)))) := h0
      replace h1 : Hid (RowAt wr.drew (w.heap.size + 1) 23 (rowOf 16 (w8 g))) := h1
      replace h2 : Hid (RowAt wr.drew (w.heap.size + 1 + 1) 23 (rowOf 16 (w8 zeroN))) := h2
      replace hbl : Below w.heap.size w wr.drew := hbl.drew
      generalize wr.drew = w9 at *
      have c0 := h0.out.cell j hlt
      have f0 := h0.out.free j
      have c1 := h1.out.cell j hlt
      unfold w8 at c0 c1
      rw [part_above _ _ _ _ (Nat.le_refl j)] at c0
      have E1 := Lib.hid (u8_xor_nat (f j) (g j) (hf.out j) (hg.out j))
      have e3 := Lib.hid (u8_row 16 (aAdd f g) f j)
      simp only [List.take_succ_cons, List.take_zero, List.drop_succ_cons, List.drop_zero]
      refine wpStill_of_quiet _ _ ?_
      repeat (first | go_big_quiet_skip | (go_big_quiet_want; go_big_quiet_op; go_big_quiet_on))
      refine wpQuiet_nil ?_
      go_wp2
      go_roundw
      case rel =>
        refine ⟨j + 1, by omega, by go_num, ?_, h1.out.setOther _ _ (by simp), h2.out.setOther _ _ (by simp; omega), hbl.setCell (Nat.le_refl _) _⟩
        rw [E1.out]
        exact (h0.out.set j _).congr e3.out
      case measure => simp [intOf]; omega
    · have : j = 16 := by omega
      subst this
      have hr2 : Hid (RowAt wr w.heap.size 23 (rowOf 16 (w8 (aAdd f g)))) := h0.out.congr (part_all 16 _ _)
      clear h0
      go_wp2_with (first | (refine wpList_load_row rfl 23 _ rfl w.heap.size rfl 23 _ (0, 0) _ hr2.out Try.underlying23 rfl (info_key _) ?_) | (refine wpList_store_row rfl 23 _ _ rfl (w.heap.size + 1 + 1) (rowOf 16 (w8 (aAdd f g))) rfl rfl 23 _ h2.out (info_key _) (by rw [rowOf_size, rowOf_size]) (rowOf_cells8 _ _) ?_))
      refine bodyPost_ret (v := .agg (rowOf 16 (w8 (aAdd f g)))) ?_ rfl ⟨rfl, below_setRow' hbl (by omega) _⟩
      exact results_cell_row Try.results30 _ _ (w.heap.size + 1 + 1) 23 (rowOf 16 (w8 (aAdd f g))) (0, 0) _ rfl (h2.out.setRow _) Try.underlying23 rfl (info_key _)

set_option maxHeartbeats 400000 in
set_option maxRecDepth 8000 in
theorem refXor_keys (f g : Nat → Nat) (hf : Hid (Byt f)) (hg : Hid (Byt g)) (w : World) :
    Calls Try.prog 21 #[.agg (rowOf 16 (w8 f)), .agg (rowOf 16 (w8 g))] w fun e w' => e = .returned (.agg (rowOf 16 (w8 (aAdd f g)))) ∧ Below w.heap.size w w' := by
  go_enter Try.func21, Try.ntmps21
  go_wp2
  rw [← z8_16]
  have r0 : Hid (RowAt (((w.alloc (.cells (rowOf 16 (w8 f)) 23)).alloc (.cells (rowOf 16 (w8 g)) 23)).alloc (.cells (rowOf 16 (w8 zeroN)) 23)) w.heap.size 23 (rowOf 16 (w8 f))) := ((RowAt.new _ _ _).alloc _).alloc _
  have r1 : Hid (RowAt (((w.alloc (.cells (rowOf 16 (w8 f)) 23)).alloc (.cells (rowOf 16 (w8 g)) 23)).alloc (.cells (rowOf 16 (w8 zeroN)) 23)) (w.heap.size + 1) 23 (rowOf 16 (w8 g))) := row_new1 w _ _ _ _
  have r2 : Hid (RowAt (((w.alloc (.cells (rowOf 16 (w8 f)) 23)).alloc (.cells (rowOf 16 (w8 g)) 23)).alloc (.cells (rowOf 16 (w8 zeroN)) 23)) (w.heap.size + 1 + 1) 23 (rowOf 16 (w8 zeroN))) := row_new2 w _ _ _ _
  have b0 : Below w.heap.size w (((w.alloc (.cells (rowOf 16 (w8 f)) 23)).alloc (.cells (rowOf 16 (w8 g)) 23)).alloc (.cells (rowOf 16 (w8 zeroN)) 23)) := (((Below.refl _ _).alloc (Nat.le_refl _) _).alloc (by simp) _).alloc (by simp; omega) _
  generalize ((w.alloc (.cells (rowOf 16 (w8 f)) 23)).alloc (.cells (rowOf 16 (w8 g)) 23)).alloc (.cells (rowOf 16 (w8 zeroN)) 23) = w1 at *
  go_loopw [5] (fun i wr => ∃ j : Nat, j ≤ 16 ∧ i = .int .i64 j ∧ Hid (RowAt wr w.heap.size 23 (rowOf 16 (w8 (part (aAdd f g) f j)))) ∧ Hid (RowAt wr (w.heap.size + 1) 23 (rowOf 16 (w8 g))) ∧ Hid (RowAt wr (w.heap.size + 1 + 1) 23 (rowOf 16 (w8 zeroN))) ∧ Below w.heap.size w wr)
    (fun i _ => 16 - (intOf i).toNat)
  case atStart => exact ⟨0, by omega, rfl, by rw [part_zero]; exact r0, r1, r2, b0⟩
  case round =>
    clear r0 r1 r2 b0
    obtain ⟨j, hj, rfl, h0, h1, h2, hbl⟩ := hrel
    by_cases hlt : j < 16
    · go_wp2
      refine wp_region_still_tail 9 (by kernel_rfl) (by kernel_rfl) ?_
      change wpStill _ _ wr.drew (fun a' => wpList _ _ _ _ a' wr.drew) _ _
      replace h0 : Hid (RowAt wr.drew w.heap.size 23 (rowOf 16 (w8 (part (aAdd f g) f j)))) := h0
      replace h1 : Hid (RowAt wr.drew (w.heap.size + 1) 23 (rowOf 16 (w8 g))) := h1
      replace h2 : Hid (RowAt wr.drew (w.heap.size + 1 + 1) 23 (rowOf 16 (w8 zeroN))) := h2
      replace hbl : Below w.heap.size w wr.drew := hbl.drew
      generalize wr.drew = w9 at *
      have c0 := h0.out.cell j hlt
      have f0 := h0.out.free j
      have c1 := h1.out.cell j hlt
      unfold w8 at c0 c1
      rw [part_above _ _ _ _ (Nat.le_refl j)] at c0
      have E1 := Lib.hid (u8_xor_nat (f j) (g j) (hf.out j) (hg.out j))
      have e3 := Lib.hid (u8_row 16 (aAdd f g) f j)
      simp only [List.take_succ_cons, List.take_zero, List.drop_succ_cons, List.drop_zero]
      refine wpStill_of_quiet _ _ ?_
      repeat (first | go_big_quiet_skip | (go_big_quiet_want; go_big_quiet_op; go_big_quiet_on))
      refine wpQuiet_nil ?_
      go_wp2
      go_roundw
      case rel =>
        refine ⟨j + 1, by omega, by go_num, ?_, h1.out.setOther _ _ (by simp), h2.out.setOther _ _ (by simp; omega), hbl.setCell (Nat.le_refl _) _⟩
        rw [E1.out]
        exact (h0.out.set j _).congr e3.out
      case measure => simp [intOf]; omega
    · have : j = 16 := by omega
      subst this
      have hr2 : Hid (RowAt wr w.heap.size 23 (rowOf 16 (w8 (aAdd f g)))) := h0.out.congr (part_all 16 _ _)
      clear h0
      go_wp2_with (first | (refine wpList_load_row rfl 23 _ rfl w.heap.size rfl 23 _ (0, 0) _ hr2.out Try.underlying23 rfl (info_key _) ?_) | (refine wpList_store_row rfl 23 _ _ rfl (w.heap.size + 1 + 1) (rowOf 16 (w8 (aAdd f g))) rfl rfl 23 _ h2.out (info_key _) (by rw [rowOf_size, rowOf_size]) (rowOf_cells8 _ _) ?_))
      refine bodyPost_ret (v := .agg (rowOf 16 (w8 (aAdd f g)))) ?_ rfl ⟨rfl, below_setRow' hbl (by omega) _⟩
      exact results_cell_row Try.results21 _ _ (w.heap.size + 1 + 1) 23 (rowOf 16 (w8 (aAdd f g))) (0, 0) _ rfl (h2.out.setRow _) Try.underlying23 rfl (info_key _)

end Go.Proofs.Ytmbkjbkbnigcfaa
