/-
  Contracts: nextRound.
-/
import Derived.Test.YtmbkjbkbnigcfaaAesMixed
namespace Go.Proofs.Ytmbkjbkbnigcfaa
open Go.RowKit

/-- The first column of the next round key, but for the mark. -/
def nextA (f : Nat → Nat) : Nat → Nat := fun j => f j ^^^ boxN (f (12 + (j + 1) % 4))

theorem nextA_lt {f : Nat → Nat} (hf : Byt f) (j : Nat) : nextA f j < 256 := xor8 (hf _) (box_lt_any _)

theorem next_mark (f : Nat → Nat) (x : Nat) : (rowOf 16 (w8 (part (nextA f) f 4))).setIfInBounds 0 (.int .u8 ((nextA f 0 ^^^ x : Nat) : Int)) = rowOf 16 (w8 (part (rkNext f x) f 4)) := by
  rw [rowOf_upd8]
  refine rowOf_congr fun j hj => ?_
  unfold w8
  congr 2
  unfold upd
  by_cases h0 : j = 0
  · subst h0
    rw [if_pos rfl, part_below _ _ _ _ (by decide)]
    show _ = f 0 ^^^ (boxN (f (12 + (0 + 1) % 4)) ^^^ x)
    unfold nextA
    rw [Nat.xor_assoc]
  · rw [if_neg h0]
    by_cases h4 : j < 4
    · rw [part_below _ _ _ _ h4, part_below _ _ _ _ h4]
      unfold rkNext nextA
      rw [show j / 4 = 0 by omega, show j % 4 = j by omega]
      unfold rkCol
      rw [if_neg h0]
    · rw [part_above _ _ _ _ (by omega), part_above _ _ _ _ (by omega)]

theorem next_col (f : Nat → Nat) (x j i : Nat) (hi : j = i + 4) : f j ^^^ rkNext f x i = rkNext f x j := by
  unfold rkNext
  obtain ⟨c, hc⟩ : ∃ c, i / 4 = c := ⟨_, rfl⟩
  rw [show j / 4 = c + 1 by omega, show j % 4 = i % 4 by omega, hc]
  show _ = f (4 * (c + 1) + i % 4) ^^^ _
  rw [show 4 * (c + 1) + i % 4 = j by omega]

theorem rkNext_byt {f : Nat → Nat} (hf : Byt f) {x : Nat} (hx : x < 256) : Byt (rkNext f x) := fun _ => rkCol_lt hf hx _ _

set_option maxHeartbeats 1000000 in
set_option maxRecDepth 8000 in
theorem next_any (f : Nat → Nat) (x : Nat) (hf : Hid (Byt f)) (hx : x < 256) (w : World) :
    Calls Try.prog 39 #[.agg (rowOf 16 (w8 f)), .int .u8 (x : Int)] w fun e w' => e = .returned (.agg (rowOf 16 (w8 (rkNext f x)))) ∧ Below w.heap.size w w' := by
  have la : Hid (RowAt ((w.alloc (.cells (rowOf 16 (w8 f)) 23)).alloc (.cells (rowOf 16 (w8 zeroN)) 23)) w.heap.size 23 (rowOf 16 (w8 f))) := (RowAt.new _ _ _).alloc _
  have lb : Hid (RowAt (((w.alloc (.cells (rowOf 16 (w8 f)) 23)).alloc (.cells (rowOf 16 (w8 zeroN)) 23)).alloc (.cells (rowOf 16 (w8 zeroN)) 23)) (w.heap.size + 1 + 1) 23 (rowOf 16 (w8 zeroN))) := row_new2 w _ _ _ _
  have lc : Hid (RowAt (((w.alloc (.cells (rowOf 16 (w8 f)) 23)).alloc (.cells (rowOf 16 (w8 zeroN)) 23)).alloc (.cells (rowOf 16 (w8 zeroN)) 23)) (w.heap.size + 1) 23 (rowOf 16 (w8 zeroN))) := row_new1 w _ _ _ _
  have bb : Below w.heap.size w (((w.alloc (.cells (rowOf 16 (w8 f)) 23)).alloc (.cells (rowOf 16 (w8 zeroN)) 23)).alloc (.cells (rowOf 16 (w8 zeroN)) 23)) := (((Below.refl _ _).alloc (Nat.le_refl _) _).alloc (by simp) _).alloc (by simp; omega) _
  have r0 := Lib.hid ((la.out.alloc (.cells (rowOf 16 (w8 zeroN)) 23)).setRowOther (w.heap.size + 1 + 1) (rowOf 16 (w8 f)) (by omega))
  have r1 := Lib.hid (lc.out.setRowOther (w.heap.size + 1 + 1) (rowOf 16 (w8 f)) (by omega))
  have r2 := Lib.hid (lb.out.setRow (rowOf 16 (w8 f)))
  have b0 := below_setRow' bb (show w.heap.size ≤ w.heap.size + 1 + 1 by omega) (rowOf 16 (w8 f))
  have sl : ∀ W, (Instr.sliceAt 23 (.pointer (some ⟨w.heap.size, 0, none⟩)) (some (.int .i64 12)) none none).run Try.prog W = .ok (.slice (some ⟨w.heap.size, 12, none⟩) 4 4) W := fun W => run_slice_l (P := Try.prog) Try.underlying23 sz8 w.heap.size 12 12 rfl (by decide) W
  rw [z8_16] at la lb
  clear lc bb
  go_enter Try.func39, Try.ntmps39
  go_wp2_with (first | (refine wpList_load_row rfl 23 _ rfl w.heap.size rfl 23 _ (0, 0) _ la.out Try.underlying23 rfl (info_key _) ?_) | (refine wpList_store_row rfl 23 _ _ rfl (w.heap.size + 1 + 1) (rowOf 16 (w8 f)) rfl rfl 23 _ lb.out (info_key _) (by rw [rowOf_size]; rfl) (rowOf_cells8 _ _) ?_))
  clear la lb sl
  rw [← z8_16]
  generalize World.setRow _ _ _ = w1 at *
  go_loopw [11] (fun i wr => ∃ r : Nat, r ≤ 4 ∧ i = .int .i64 r ∧ Hid (RowAt wr (w.heap.size + 1 + 1) 23 (rowOf 16 (w8 (part (nextA f) f r)))) ∧ Below (w.heap.size + 1 + 1) w1 wr)
    (fun i _ => 4 - (intOf i).toNat)
  case atStart => exact ⟨0, by omega, rfl, by rw [part_zero]; exact r2, Below.refl _ _⟩
  case round =>
    clear r2
    obtain ⟨r, hr, rfl, h2, hbl⟩ := hrel
    by_cases hlt : r < 4
    · obtain ⟨y, hy⟩ : ∃ y, y = (r + 1) % 4 := ⟨_, rfl⟩
      have ey : ((r : Int) + 1) % 4 = (y : Int) := by omega
      have y4 : y < 4 := by omega
      have N : Hid (f r ^^^ boxN (f (12 + y)) = nextA f r) := by unfold Hid nextA; rw [hy]
      clear hy
      go_wp2
      refine wp_region_still_tail 12 (by kernel_rfl) (by kernel_rfl) ?_
      change wpStill _ _ wr.drew (fun a' => wpList _ _ _ _ a' wr.drew) _ _
      replace h2 : Hid (RowAt wr.drew (w.heap.size + 1 + 1) 23 (rowOf 16 (w8 (part (nextA f) f r)))) := h2
      replace hbl : Below (w.heap.size + 1 + 1) w1 wr.drew := hbl.drew
      generalize wr.drew = w9 at *
      have c0 := (r0.out.below hbl (by omega)).cell (12 + y) (by omega)
      have c2 := h2.out.cell r (by omega)
      have f2 := h2.out.free r
      unfold w8 at c0 c2
      rw [part_above _ _ _ _ (Nat.le_refl r)] at c2
      have l1 := hf.out (12 + y)
      have l2 := hf.out r
      have T := Lib.hid (box_any (f (12 + y)) l1 w9)
      have l3 := box_lt_any (f (12 + y))
      have E1 := Lib.hid (u8_xor_nat (f r) (boxN (f (12 + y))) l2 l3)
      have e3 := Lib.hid (u8_row 16 (nextA f) f r)
      rw [N.out] at E1
      generalize boxN (f (12 + y)) = z at *
      simp only [List.take_succ_cons, List.take_zero, List.drop_succ_cons, List.drop_zero]
      refine wpStill_of_quiet _ _ ?_
      repeat (first | go_big_quiet_skip | (go_big_quiet_want; go_big_quiet_op; go_big_quiet_on))
      (go_big_quiet_want; go_big_quiet_op; apply Exists.intro; refine ⟨T.out, ?_⟩; go_big_quiet_on)
      repeat (first | go_big_quiet_skip | (go_big_quiet_want; go_big_quiet_op; go_big_quiet_on))
      refine wpQuiet_nil ?_
      clear T
      go_wp2
      go_roundw
      case rel =>
        refine ⟨r + 1, by omega, by go_num, ?_, hbl.setCell (Nat.le_refl _) _⟩
        rw [E1.out]
        exact (h2.out.set r _).congr e3.out
      case measure => simp [intOf]; omega
    · have : r = 4 := by omega
      subst this
      have c2 := h2.out.cell 0 (by decide)
      have f2 := h2.out.free 0
      unfold w8 at c2
      rw [part_below _ _ _ _ (by decide)] at c2
      have E1 := Lib.hid (u8_xor_nat (nextA f 0) x (nextA_lt hf.out 0) hx)
      have e3 := Lib.hid (next_mark f x)
      generalize hz : nextA f 0 = z at *
      clear hz
      go_wp2
      rw [E1.out]
      replace h2 := Lib.hid ((h2.out.set 0 (.int .u8 ((z ^^^ x : Nat) : Int))).congr e3.out)
      replace hbl : Below (w.heap.size + 1 + 1) w1 (wr.setCell ⟨w.heap.size + 1 + 1, 0, none⟩ (.int .u8 ((z ^^^ x : Nat) : Int))) := hbl.setCell (Nat.le_refl _) _
      clear c2 f2 E1 e3
      generalize wr.setCell _ _ = w5 at *
      go_loopw [8] (fun i wr => ∃ j : Nat, 4 ≤ j ∧ j ≤ 16 ∧ i = .int .i64 j ∧ Hid (RowAt wr (w.heap.size + 1 + 1) 23 (rowOf 16 (w8 (part (rkNext f x) f j)))) ∧ Below (w.heap.size + 1 + 1) w1 wr)
        (fun i _ => 16 - (intOf i).toNat)
      case atStart => exact ⟨4, by omega, by omega, rfl, h2, hbl⟩
      case round =>
        clear h2 hbl
        obtain ⟨j, hj4, hj, rfl, h2, hbl⟩ := hrel
        by_cases hlj : j < 16
        · obtain ⟨i, hi⟩ : ∃ i, j = i + 4 := ⟨j - 4, by omega⟩
          have ei : (j : Int) - 4 = (i : Int) := by omega
          have N := Lib.hid (next_col f x j i hi)
          have ij : i < j := by omega
          clear hi
          go_wp2
          refine wp_region_still_tail 9 (by kernel_rfl) (by kernel_rfl) ?_
          change wpStill _ _ wr.drew (fun a' => wpList _ _ _ _ a' wr.drew) _ _
          replace h2 : Hid (RowAt wr.drew (w.heap.size + 1 + 1) 23 (rowOf 16 (w8 (part (rkNext f x) f j)))) := h2
          replace hbl : Below (w.heap.size + 1 + 1) w1 wr.drew := hbl.drew
          generalize wr.drew = w9 at *
          have c2 := h2.out.cell j hlj
          have c3 := h2.out.cell i (by omega)
          have f2 := h2.out.free j
          unfold w8 at c2 c3
          rw [part_above _ _ _ _ (Nat.le_refl j)] at c2
          rw [part_below _ _ _ _ ij] at c3
          have l1 := hf.out j
          have l2 := rkNext_byt hf.out hx i
          have E1 := Lib.hid (u8_xor_nat (f j) (rkNext f x i) l1 l2)
          have e3 := Lib.hid (u8_row 16 (rkNext f x) f j)
          rw [N.out] at E1
          generalize rkNext f x i = z at *
          simp only [List.take_succ_cons, List.take_zero, List.drop_succ_cons, List.drop_zero]
          refine wpStill_of_quiet _ _ ?_
          repeat (first | go_big_quiet_skip | (go_big_quiet_want; go_big_quiet_op; go_big_quiet_on))
          refine wpQuiet_nil ?_
          go_wp2
          go_roundw
          case rel =>
            refine ⟨j + 1, by omega, by omega, by go_num, ?_, hbl.setCell (Nat.le_refl _) _⟩
            rw [E1.out]
            exact (h2.out.set j _).congr e3.out
          case measure => simp [intOf]; omega
        · have : j = 16 := by omega
          subst this
          have hr2 : Hid (RowAt wr (w.heap.size + 1 + 1) 23 (rowOf 16 (w8 (rkNext f x)))) := h2.out.congr (part_all 16 _ _)
          have h1 : Hid (RowAt wr (w.heap.size + 1) 23 (rowOf 16 (w8 zeroN))) := r1.out.below hbl (by omega)
          clear h2
          go_wp2_with (first | (refine wpList_load_row rfl 23 _ rfl (w.heap.size + 1 + 1) rfl 23 _ (0, 0) _ hr2.out Try.underlying23 rfl (info_key _) ?_) | (refine wpList_store_row rfl 23 _ _ rfl (w.heap.size + 1) (rowOf 16 (w8 (rkNext f x))) rfl rfl 23 _ h1.out (info_key _) (by rw [rowOf_size, rowOf_size]) (rowOf_cells8 _ _) ?_))
          refine bodyPost_ret (v := .agg (rowOf 16 (w8 (rkNext f x)))) ?_ rfl ⟨rfl, below_setRow' (b0.trans (hbl.mono (by omega))) (by omega) _⟩
          exact results_cell_row Try.results39 _ _ (w.heap.size + 1) 23 (rowOf 16 (w8 (rkNext f x))) (0, 0) _ rfl (h1.out.setRow _) Try.underlying23 rfl (info_key _)

end Go.Proofs.Ytmbkjbkbnigcfaa
