/-
  Contract: blockKeyOf.
-/
import Derived.Test.YtedmdojmgccclaaDoorMacKey
namespace Go.Proofs.YtedmdojmgccclaaDoor
open Go.RowKit

set_option maxHeartbeats 400000 in
set_option maxRecDepth 8000 in
theorem blockKeyOf_long (key : ByteArray) (hk : 64 < key.size) (hm : key.size ≤ 100000) (w : World) (hK : Hid (KRow w)) :
    Calls Tryd.prog 33 #[.string key] w fun e w' => e = .returned (.agg (rowOf 64 (w8 (blockN key.data.toList)))) ∧ Below w.heap.size w w' := by
  have hL : key.data.toList.length = key.size := by simp
  have d : decide ((key.size : Int) ≤ 64) = false := decide_eq_false (by omega)
  have E := Lib.hid (laid_sum key.data.toList (by omega))
  have S0 := Lib.hid (fun w hk => sum_one key hm w hk)
  generalize blockN key.data.toList = B at *
  generalize sumN key.data.toList = y at *
  have r0 : Hid (RowAt ((w.alloc (.cells (rowOf 64 (w8 zeroN)) 69)).alloc (.cells (rowOf 64 (w8 zeroN)) 69)) w.heap.size 69 (rowOf 64 (w8 zeroN))) := (RowAt.new _ _ _).alloc _
  have r1 : Hid (RowAt ((w.alloc (.cells (rowOf 64 (w8 zeroN)) 69)).alloc (.cells (rowOf 64 (w8 zeroN)) 69)) (w.heap.size + 1) 69 (rowOf 64 (w8 zeroN))) := row_second w _ _ _
  have b0 : Below w.heap.size w ((w.alloc (.cells (rowOf 64 (w8 zeroN)) 69)).alloc (.cells (rowOf 64 (w8 zeroN)) 69)) := ((Below.refl _ _).alloc (Nat.le_refl _) _).alloc (by simp) _
  have S1 := Lib.hid (S0.out _ (hK.out.below b0 hK.out.1 b0.size))
  have hz : ((w.alloc (.cells (rowOf 64 (w8 zeroN)) 69)).alloc (.cells (rowOf 64 (w8 zeroN)) 69)).heap.size = w.heap.size + 1 + 1 := by rw [World.size_alloc, World.size_alloc]
  rw [hz] at S1
  have HZ := Lib.hid hz
  clear hz
  go_enter Tryd.func33, Tryd.ntmps33
  go_wp2_with fail
  rw [← z8_64]
  generalize (w.alloc (.cells (rowOf 64 (w8 zeroN)) 69)).alloc (.cells (rowOf 64 (w8 zeroN)) 69) = w1 at *
  refine S1.out.mono ?_
  rintro e w2 ⟨rfl, hb2⟩
  replace hb2 : Below w1.heap.size w1 w2 := by rw [HZ.out]; exact hb2
  replace r0 : Hid (RowAt w2 w.heap.size 69 (rowOf 64 (w8 zeroN))) := r0.out.below hb2 r0.out.lt
  replace r1 : Hid (RowAt w2 (w.heap.size + 1) 69 (rowOf 64 (w8 zeroN))) := r1.out.below hb2 r1.out.lt
  replace b0 : Below w.heap.size w w2 := b0.trans (hb2.mono b0.size)
  clear hb2 S0 S1
  go_wp2_with (refine wpList_store_row rfl 59 _ _ rfl w2.heap.size (rowOf 32 (w8 y)) rfl rfl 59 _ (RowAt.new _ _ _) (info_hash _) (by rw [rowOf_size]; rfl) (rowOf_cells8 _ _) ?_; rw [World.setRow_alloc_new]; have r2 := Lib.hid (RowAt.new w2 59 (rowOf 32 (w8 y))); replace r0 := Lib.hid (r0.out.alloc (.cells (rowOf 32 (w8 y)) 59)); replace r1 := Lib.hid (r1.out.alloc (.cells (rowOf 32 (w8 y)) 59)); replace b0 := b0.alloc b0.size (.cells (rowOf 32 (w8 y)) 59); generalize w2.alloc _ = w3 at *; generalize w2.heap.size = p at *)
  have sl1 := run_slice_all (P := Tryd.prog) Tryd.underlying69 sz8 (w.heap.size + 1)
  have sl2 := run_slice_all (P := Tryd.prog) Tryd.underlying59 sz8 p
  refine wp_region_still_tail 2 (by kernel_rfl) (by kernel_rfl) ?_
  change wpStill _ _ (World.drew _) (fun a' => wpList _ _ _ _ a' (World.drew _)) _ _
  replace r0 : Hid (RowAt w3.drew w.heap.size 69 (rowOf 64 (w8 zeroN))) := r0
  replace r1 : Hid (RowAt w3.drew (w.heap.size + 1) 69 (rowOf 64 (w8 zeroN))) := r1
  replace r2 : Hid (RowAt w3.drew p 59 (rowOf 32 (w8 y))) := r2
  replace b0 : Below w.heap.size w w3.drew := b0.drew
  generalize World.drew _ = w4 at *
  have cp := Lib.hid (run_copy_bytes (P := Tryd.prog) w4 54 54 3 5 (w.heap.size + 1) p 64 64 32 32 zeroN y 64 32 69 59 Tryd.underlying54 sz8 r1.out r2.out 32 rfl (by decide) (by decide))
  rw [E.out] at cp
  simp only [List.take_succ_cons, List.take_zero, List.drop_succ_cons, List.drop_zero]
  refine wpStill_of_quiet _ _ ?_
  simp only [Act.put]
  repeat (first | go_big_quiet_skip | (go_big_quiet_want; go_big_quiet_op; go_big_quiet_on))
  refine wpQuiet_nil ?_
  clear sl1 sl2
  have hr1 := Lib.hid (r1.out.setRow (rowOf 64 (w8 B)))
  have hr0 := Lib.hid (r0.out.setRowOther (w.heap.size + 1) (rowOf 64 (w8 B)) (by omega))
  have b2 := below_setRow' b0 (show w.heap.size ≤ w.heap.size + 1 by omega) (rowOf 64 (w8 B))
  refine wpList_copy_known _ rfl _ _ 54 54 rfl _ _ rfl rfl cp.out ?_
  generalize World.setRow _ _ _ = w5 at *
  clear cp b0 r0 r1 r2
  go_wp2_with (first | (refine wpList_load_row rfl 69 _ rfl (w.heap.size + 1) rfl 69 _ (0, 0) _ hr1.out Tryd.underlying69 rfl (info_block _) ?_) | (refine wpList_store_row rfl 69 _ _ rfl w.heap.size (rowOf 64 (w8 B)) rfl rfl 69 _ hr0.out (info_block _) (by rw [rowOf_size, rowOf_size]) (rowOf_cells8 _ _) ?_))
  refine bodyPost_ret (v := .agg (rowOf 64 (w8 B))) ?_ rfl ⟨rfl, below_setRow' b2 (Nat.le_refl _) _⟩
  exact results_cell_row Tryd.results33 _ _ w.heap.size 69 (rowOf 64 (w8 B)) (0, 0) _ rfl (hr0.out.setRow _) Tryd.underlying69 rfl (info_block _)

theorem blockKeyOf_any (key : ByteArray) (hm : key.size ≤ 100000) (w : World) (hK : Hid (KRow w)) :
    Calls Tryd.prog 33 #[.string key] w fun e w' => e = .returned (.agg (rowOf 64 (w8 (blockN key.data.toList)))) ∧ Below w.heap.size w w' := by
  by_cases h : key.size ≤ 64
  · exact blockKeyOf_short key h w
  · exact blockKeyOf_long key (by omega) hm w hK

end Go.Proofs.YtedmdojmgccclaaDoor
