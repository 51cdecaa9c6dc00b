/-
  Contracts: Step, Short. What a copy out of a text, or out of a row, lays into a row.
-/
import Derived.Test.YtcglbbkphgdnmaaDoorShaStep
import Derived.Test.YtcglbbkphgdnmaaDoorShaRefStep
import Derived.Test.YtcglbbkphgdnmaaDoorShaFill
import Derived.Test.YtcglbbkphgdnmaaDoorCopyText
namespace Go.Proofs.YtcglbbkphgdnmaaDoor
open Go.RowKit

set_option maxHeartbeats 400000 in
set_option maxRecDepth 8000 in
theorem short_any (g : Nat → Nat) (w : World) :
    Calls Tryd.prog 35 #[.agg (rowOf 32 (w8 g))] w fun e w' => e = .returned (.agg (rowOf 16 (w8 g))) ∧ Below w.heap.size w w' := by
  have sl1 := run_slice_all (P := Tryd.prog) Tryd.underlying70 sz8 (w.heap.size + 1 + 1)
  have sl2 := run_slice_all (P := Tryd.prog) Tryd.underlying44 sz8 w.heap.size
  go_enter Tryd.func35, Tryd.ntmps35
  go_wp2
  rw [← z8_16]
  refine wp_region_still_tail 2 (by kernel_rfl) (by kernel_rfl) ?_
  change wpStill _ _ (World.drew _) (fun a' => wpList _ _ _ _ a' (World.drew _)) _ _
  have r0 : Hid (RowAt (World.drew (((w.alloc (.cells (rowOf 32 (w8 g)) 44)).alloc (.cells (rowOf 16 (w8 zeroN)) 70)).alloc (.cells (rowOf 16 (w8 zeroN)) 70))) w.heap.size 44 (rowOf 32 (w8 g))) := ((RowAt.new _ _ _).alloc _).alloc _
  have r1 : Hid (RowAt (World.drew (((w.alloc (.cells (rowOf 32 (w8 g)) 44)).alloc (.cells (rowOf 16 (w8 zeroN)) 70)).alloc (.cells (rowOf 16 (w8 zeroN)) 70))) (w.heap.size + 1) 70 (rowOf 16 (w8 zeroN))) := row_new1 w _ _ _ _
  have r2 : Hid (RowAt (World.drew (((w.alloc (.cells (rowOf 32 (w8 g)) 44)).alloc (.cells (rowOf 16 (w8 zeroN)) 70)).alloc (.cells (rowOf 16 (w8 zeroN)) 70))) (w.heap.size + 1 + 1) 70 (rowOf 16 (w8 zeroN))) := row_new2 w _ _ _ _
  have b0 : Below w.heap.size w (World.drew (((w.alloc (.cells (rowOf 32 (w8 g)) 44)).alloc (.cells (rowOf 16 (w8 zeroN)) 70)).alloc (.cells (rowOf 16 (w8 zeroN)) 70))) := ((((Below.refl _ _).alloc (Nat.le_refl _) _).alloc (by simp) _).alloc (by simp; omega) _).drew
  generalize World.drew _ = w1 at *
  have cp := Lib.hid (run_copy_bytes (P := Tryd.prog) w1 42 42 3 5 (w.heap.size + 1 + 1) w.heap.size 16 16 32 32 zeroN g 16 32 70 44 Tryd.underlying42 sz8 r2.out r0.out 16 rfl (by decide) (by decide))
  rw [laid_all] at cp
  simp only [List.take_succ_cons, List.take_zero, List.drop_succ_cons, List.drop_zero]
  refine wpStill_of_quiet _ _ ?_
  repeat (first | go_big_quiet_skip | (go_big_quiet_want; go_big_quiet_op; go_big_quiet_on))
  refine wpQuiet_nil ?_
  clear sl1 sl2
  have hr2 := Lib.hid (r2.out.setRow (rowOf 16 (w8 g)))
  have hr1 := Lib.hid (r1.out.setRowOther (w.heap.size + 1 + 1) (rowOf 16 (w8 g)) (by omega))
  have b2 := below_setRow' b0 (show w.heap.size ≤ w.heap.size + 1 + 1 by omega) (rowOf 16 (w8 g))
  refine wpList_copy_known _ rfl _ _ 42 42 rfl _ _ rfl rfl cp.out ?_
  generalize World.setRow _ _ _ = w2 at *
  clear cp b0 r0 r1 r2
  go_wp2_with (first | (refine wpList_load_row rfl 70 _ rfl (w.heap.size + 1 + 1) rfl 70 _ (0, 0) _ hr2.out Tryd.underlying70 rfl (info_key _) ?_) | (refine wpList_store_row rfl 70 _ _ rfl (w.heap.size + 1) (rowOf 16 (w8 g)) rfl rfl 70 _ hr1.out (info_key _) (by rw [rowOf_size, rowOf_size]) (rowOf_cells8 _ _) ?_))
  refine bodyPost_ret (v := .agg (rowOf 16 (w8 g))) ?_ rfl ⟨rfl, below_setRow' b2 (by omega) _⟩
  exact results_cell_row Tryd.results35 _ _ (w.heap.size + 1) 70 (rowOf 16 (w8 g)) (0, 0) _ rfl (hr1.out.setRow _) Tryd.underlying70 rfl (info_key _)

end Go.Proofs.YtcglbbkphgdnmaaDoor
