/-
  Contracts: the document's Boxes.
-/
import Derived.Test.YtmbkjbkbnigcfaaAesSum
namespace Go.Proofs.Ytmbkjbkbnigcfaa
open Go.RowKit

theorem zero256 : (Try.prog.info? 47).map (fun i => (i.zero, i.size)) = some (some (.agg (rowOf 256 (w8 zeroN))), 256) := by kernel_rfl
theorem info_256 (f : Nat → Value) : (Try.prog.info? 47).map (·.size) = some (rowOf 256 f).size := by rw [rowOf_size]; kernel_rfl

set_option maxHeartbeats 1000000 in
set_option maxRecDepth 8000 in
theorem refBoxes_any (w : World) :
    Calls Try.prog 19 #[] w fun e w' => e = .returned (.agg (rowOf 256 (w8 boxN))) ∧ Below w.heap.size w w' := by
  have zv := (zero_of_info zero256).1
  have r0 : Hid (RowAt ((w.alloc (.cells (rowOf 256 (w8 zeroN)) 47)).alloc (.cells (rowOf 256 (w8 zeroN)) 47)) w.heap.size 47 (rowOf 256 (w8 zeroN))) := (RowAt.new _ _ _).alloc _
  have r1 : Hid (RowAt ((w.alloc (.cells (rowOf 256 (w8 zeroN)) 47)).alloc (.cells (rowOf 256 (w8 zeroN)) 47)) (w.heap.size + 1) 47 (rowOf 256 (w8 zeroN))) := by
    have := RowAt.new (w.alloc (.cells (rowOf 256 (w8 zeroN)) 47)) 47 (rowOf 256 (w8 zeroN))
    rw [World.size_alloc] at this
    exact this
  have b0 : Below w.heap.size w ((w.alloc (.cells (rowOf 256 (w8 zeroN)) 47)).alloc (.cells (rowOf 256 (w8 zeroN)) 47)) := ((Below.refl _ _).alloc (Nat.le_refl _) _).alloc (by simp) _
  go_enter Try.func19, Try.ntmps19
  go_wp2_with (first | (refine wpList_buildTo rfl 47 _ rfl _ rfl (rowOf 256 (w8 zeroN)) (by kernel_rfl) ?_) | (refine wpList_store_row rfl 47 _ _ rfl (w.heap.size + 1) (rowOf 256 (w8 zeroN)) rfl rfl 47 _ r1.out (info_256 _) (by rw [rowOf_size]) (rowOf_cells8 _ _) ?_))
  clear zv
  replace r0 := Lib.hid (r0.out.setRowOther (w.heap.size + 1) (rowOf 256 (w8 zeroN)) (by omega))
  replace r1 := Lib.hid (r1.out.setRow (rowOf 256 (w8 zeroN)))
  replace b0 := below_setRow' b0 (show w.heap.size ≤ w.heap.size + 1 by omega) (rowOf 256 (w8 zeroN))
  generalize World.setRow _ _ _ = w1 at *
  go_loopw [2] (fun i wr => ∃ j : Nat, j ≤ 256 ∧ i = .int .i64 j ∧ Hid (RowAt wr (w.heap.size + 1) 47 (rowOf 256 (w8 (part boxN zeroN j)))) ∧ Below (w.heap.size + 1) w1 wr)
    (fun i _ => 256 - (intOf i).toNat)
  case atStart => exact ⟨0, by omega, rfl, by rw [part_zero]; exact r1, Below.refl _ _⟩
  case round =>
    clear r1
    obtain ⟨j, hj, rfl, h1, hbl⟩ := hrel
    by_cases hlt : j < 256
    · have T := Lib.hid (refBox_any j hlt wr)
      have c1 := h1.out.cell j hlt
      have f1 := h1.out.free j
      have e3 := Lib.hid (u8_row 256 boxN zeroN j)
      generalize hy : boxN j = y at *
      clear hy
      go_wp2_with fail
      refine T.out.mono ?_
      rintro e w' ⟨rfl, rfl⟩
      clear T
      go_wp2
      go_roundw
      case rel => exact ⟨j + 1, by omega, by go_num, (h1.out.set j _).congr e3.out, hbl.setCell (Nat.le_refl _) _⟩
      case measure => simp [intOf]; omega
    · have : j = 256 := by omega
      subst this
      have hr2 : Hid (RowAt wr (w.heap.size + 1) 47 (rowOf 256 (w8 boxN))) := h1.out.congr (part_all 256 _ _)
      have h0 : Hid (RowAt wr w.heap.size 47 (rowOf 256 (w8 zeroN))) := r0.out.below hbl (by omega)
      clear h1
      go_wp2_with (first | (refine wpList_load_row rfl 47 _ rfl (w.heap.size + 1) rfl 47 _ (0, 0) _ hr2.out Try.underlying47 rfl (info_256 _) ?_) | (refine wpList_store_row rfl 47 _ _ rfl w.heap.size (rowOf 256 (w8 boxN)) rfl rfl 47 _ h0.out (info_256 _) (by rw [rowOf_size, rowOf_size]) (rowOf_cells8 _ _) ?_))
      refine bodyPost_ret (v := .agg (rowOf 256 (w8 boxN))) ?_ rfl ⟨rfl, below_setRow' (b0.trans (hbl.mono (by omega))) (by omega) _⟩
      exact results_cell_row Try.results19 _ _ w.heap.size 47 (rowOf 256 (w8 boxN)) (0, 0) _ rfl (h0.out.setRow _) Try.underlying47 rfl (info_256 _)

end Go.Proofs.Ytmbkjbkbnigcfaa
