/-
  Contracts: firstWords, the document's Wide, Narrow, k.
-/
import Derived.Test.YtcglbbkphgdnmaaDoorShaHash
namespace Go.Proofs.YtcglbbkphgdnmaaDoor
open Go.RowKit

theorem first_row : rowOf 8 (w32 firstN) = #[.int .u32 1779033703, .int .u32 3144134277, .int .u32 1013904242, .int .u32 2773480762, .int .u32 1359893119, .int .u32 2600822924, .int .u32 528734635, .int .u32 1541459225] := rfl
theorem first_row64 : rowOf 8 (w64 firstN) = #[.int .u64 1779033703, .int .u64 3144134277, .int .u64 1013904242, .int .u64 2773480762, .int .u64 1359893119, .int .u64 2600822924, .int .u64 528734635, .int .u64 1541459225] := rfl

theorem row_new0 (w : World) (t : TypeId) (cs : Array Value) : RowAt (w.alloc (.cells cs t (0, 0))) w.heap.size t cs := RowAt.new w t cs

set_option maxHeartbeats 400000 in
theorem firstWords_any (w : World) :
    Calls Tryd.prog 49 #[] w fun e w' => e = .returned (.agg (rowOf 8 (w32 firstN))) ∧ Below w.heap.size w w' := by
  go_enter Tryd.func49, Tryd.ntmps49
  go_wp2_with (refine wpList_store_row rfl 87 _ _ rfl w.heap.size (rowOf 8 (w32 firstN)) rfl rfl 87 _ (row_new0 w _ _) (info_w8 _) (by rw [rowOf_size]; rfl) (rowOf_cells32 _ _) ?_)
  refine bodyPost_ret (v := .agg (rowOf 8 (w32 firstN))) ?_ rfl ⟨rfl, below_setRow' ((Below.refl _ _).alloc (Nat.le_refl _) _) (Nat.le_refl _) _⟩
  exact results_cell_row Tryd.results49 _ _ w.heap.size 87 (rowOf 8 (w32 firstN)) (0, 0) _ rfl ((row_new0 w _ _).setRow _) Tryd.underlying87 rfl (info_w8 _)

set_option maxHeartbeats 400000 in
set_option maxRecDepth 4000 in
theorem refK_any (w : World) :
    Calls Tryd.prog 55 #[] w fun e w' => e = .returned (.agg (rowOf 64 (w64 kN))) ∧ Below w.heap.size w w' := by
  go_enter Tryd.func55, Tryd.ntmps55
  go_wp2_with (refine wpList_store_row rfl 93 _ _ rfl w.heap.size (rowOf 64 (w64 kN)) rfl rfl 93 _ (row_new0 w _ _) (info_d64 _) (by rw [rowOf_size]; rfl) (rowOf_cells64 _ _) ?_)
  refine bodyPost_ret (v := .agg (rowOf 64 (w64 kN))) ?_ rfl ⟨rfl, below_setRow' ((Below.refl _ _).alloc (Nat.le_refl _) _) (Nat.le_refl _) _⟩
  exact results_cell_row Tryd.results55 _ _ w.heap.size 93 (rowOf 64 (w64 kN)) (0, 0) _ rfl ((row_new0 w _ _).setRow _) Tryd.underlying93 rfl (info_d64 _)

end Go.Proofs.YtcglbbkphgdnmaaDoor
