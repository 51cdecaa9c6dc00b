/-
  Contracts: firstWords, the document's Wide, Narrow, k.
-/
import Derived.Test.YtjdhakkfekjpbaaDoorShaHash
namespace Go.Proofs.YtjdhakkfekjpbaaDoor
open Go.RowKit

theorem first_row : rowOf 8 (w32 firstN) = #[.int .u32 1779033703, .int .u32 3144134277, .int .u32 1013904242, .int .u32 2773480762, .int .u32 1359893119, .int .u32 2600822924, .int .u32 528734635, .int .u32 1541459225] := rfl
theorem first_row64 : rowOf 8 (w64 firstN) = #[.int .u64 1779033703, .int .u64 3144134277, .int .u64 1013904242, .int .u64 2773480762, .int .u64 1359893119, .int .u64 2600822924, .int .u64 528734635, .int .u64 1541459225] := rfl

theorem row_new0 (w : World) (t : TypeId) (cs : Array Value) : RowAt (w.alloc (.cells cs t (0, 0))) w.heap.size t cs := RowAt.new w t cs

set_option maxHeartbeats 400000 in
theorem firstWords_any (w : World) :
    Calls Tryd.prog 19 #[] w fun e w' => e = .returned (.agg (rowOf 8 (w32 firstN))) ∧ Below w.heap.size w w' := by
  go_enter Tryd.func19, Tryd.ntmps19
  go_wp2_with (refine wpList_store_row rfl 30 _ _ rfl w.heap.size (rowOf 8 (w32 firstN)) rfl rfl 30 _ (row_new0 w _ _) (info_w8 _) (by rw [rowOf_size]; rfl) (rowOf_cells32 _ _) ?_)
  refine bodyPost_ret (v := .agg (rowOf 8 (w32 firstN))) ?_ rfl ⟨rfl, below_setRow' ((Below.refl _ _).alloc (Nat.le_refl _) _) (Nat.le_refl _) _⟩
  exact results_cell_row Tryd.results19 _ _ w.heap.size 30 (rowOf 8 (w32 firstN)) (0, 0) _ rfl ((row_new0 w _ _).setRow _) Tryd.underlying30 rfl (info_w8 _)

set_option maxHeartbeats 400000 in
theorem refWide_any (s : Nat → Nat) (hs : Hid (Words s)) (w : World) :
    Calls Tryd.prog 17 #[.agg (rowOf 8 (w32 s))] w fun e w' => e = .returned (.agg (rowOf 8 (w64 s))) ∧ Below w.heap.size w w' := by
  go_enter Tryd.func17, Tryd.ntmps17
  go_wp2
  rw [← z64_8]
  obtain ⟨w1, hw1⟩ : ∃ w1, ((w.alloc (.cells (rowOf 8 (w32 s)) 30)).alloc (.cells (rowOf 8 (w64 zeroN)) 34)).alloc (.cells (rowOf 8 (w64 zeroN)) 34) = w1 := ⟨_, rfl⟩
  have r0 : Hid (RowAt w1 w.heap.size 30 (rowOf 8 (w32 s))) := by rw [← hw1]; exact ((RowAt.new _ _ _).alloc _).alloc _
  have r1 : Hid (RowAt w1 (w.heap.size + 1) 34 (rowOf 8 (w64 zeroN))) := by rw [← hw1]; exact row_new1 w _ _ _ _
  have r2 : Hid (RowAt w1 (w.heap.size + 1 + 1) 34 (rowOf 8 (w64 zeroN))) := by rw [← hw1]; exact row_new2 w _ _ _ _
  have b0 : Below w.heap.size w w1 := by rw [← hw1]; exact (((Below.refl _ _).alloc (Nat.le_refl _) _).alloc (by simp) _).alloc (by simp; omega) _
  rw [hw1]
  clear hw1
  go_loopw [4] (fun i wr => ∃ j : Nat, j ≤ 8 ∧ i = .int .i64 j ∧ Hid (RowAt wr (w.heap.size + 1 + 1) 34 (rowOf 8 (w64 (part s zeroN j)))) ∧ Below (w.heap.size + 1 + 1) w1 wr)
    (fun i _ => 8 - (intOf i).toNat)
  case atStart => exact ⟨0, by omega, rfl, by rw [part_zero]; exact r2, Below.refl _ _⟩
  case round =>
    obtain ⟨j, hj, rfl, hr, hbl⟩ := hrel
    by_cases hlt : j < 8
    · have c0 := (r0.out.below hbl (by omega)).cell j (by omega)
      have c2 := hr.out.cell j hlt
      have f2 := hr.out.free j
      unfold w32 at c0
      have hy := hs.out j
      have e3 : Hid ((rowOf 8 (w64 (part s zeroN j))).setIfInBounds j (.int .u64 ((s j : Nat) : Int)) = rowOf 8 (w64 (part s zeroN (j + 1)))) := by
        unfold Hid; rw [rowOf_upd64, part_upd]
      go_wp2
      go_roundw
      case rel => exact ⟨j + 1, by omega, by go_num, (hr.out.set j _).congr e3.out, hbl.setCell (Nat.le_refl _) _⟩
      case measure => simp [intOf]; omega
    · have : j = 8 := by omega
      subst this
      have hr2 : Hid (RowAt wr (w.heap.size + 1 + 1) 34 (rowOf 8 (w64 s))) := hr.out.congr (rowOf_congr fun k hk => by unfold w64; rw [part_below _ _ _ _ hk])
      have hq : Hid (RowAt wr (w.heap.size + 1) 34 (rowOf 8 (w64 zeroN))) := r1.out.below hbl (by omega)
      clear hr
      go_wp2_with (first | (refine wpList_load_row rfl 34 _ rfl (w.heap.size + 1 + 1) rfl 34 _ (0, 0) _ hr2.out Tryd.underlying34 rfl (info_d8 _) ?_) | (refine wpList_store_row rfl 34 _ _ rfl (w.heap.size + 1) (rowOf 8 (w64 s)) rfl rfl 34 _ hq.out (info_d8 _) (by rw [rowOf_size, rowOf_size]) (rowOf_cells64 _ _) ?_))
      refine bodyPost_ret (v := .agg (rowOf 8 (w64 s))) ?_ rfl ⟨rfl, below_setRow' (b0.trans (hbl.mono (by omega))) (by omega) _⟩
      exact results_cell_row Tryd.results17 _ _ (w.heap.size + 1) 34 (rowOf 8 (w64 s)) (0, 0) _ rfl (hq.out.setRow _) Tryd.underlying34 rfl (info_d8 _)

set_option maxHeartbeats 400000 in
theorem refNarrow_any (s : Nat → Nat) (hs : Hid (Words s)) (w : World) :
    Calls Tryd.prog 15 #[.agg (rowOf 8 (w64 s))] w fun e w' => e = .returned (.agg (rowOf 8 (w32 s))) ∧ Below w.heap.size w w' := by
  go_enter Tryd.func15, Tryd.ntmps15
  go_wp2
  rw [← z32_8]
  obtain ⟨w1, hw1⟩ : ∃ w1, ((w.alloc (.cells (rowOf 8 (w64 s)) 34)).alloc (.cells (rowOf 8 (w32 zeroN)) 30)).alloc (.cells (rowOf 8 (w32 zeroN)) 30) = w1 := ⟨_, rfl⟩
  have r0 : Hid (RowAt w1 w.heap.size 34 (rowOf 8 (w64 s))) := by rw [← hw1]; exact ((RowAt.new _ _ _).alloc _).alloc _
  have r1 : Hid (RowAt w1 (w.heap.size + 1) 30 (rowOf 8 (w32 zeroN))) := by rw [← hw1]; exact row_new1 w _ _ _ _
  have r2 : Hid (RowAt w1 (w.heap.size + 1 + 1) 30 (rowOf 8 (w32 zeroN))) := by rw [← hw1]; exact row_new2 w _ _ _ _
  have b0 : Below w.heap.size w w1 := by rw [← hw1]; exact (((Below.refl _ _).alloc (Nat.le_refl _) _).alloc (by simp) _).alloc (by simp; omega) _
  rw [hw1]
  clear hw1
  go_loopw [4] (fun i wr => ∃ j : Nat, j ≤ 8 ∧ i = .int .i64 j ∧ Hid (RowAt wr (w.heap.size + 1 + 1) 30 (rowOf 8 (w32 (part s zeroN j)))) ∧ Below (w.heap.size + 1 + 1) w1 wr)
    (fun i _ => 8 - (intOf i).toNat)
  case atStart => exact ⟨0, by omega, rfl, by rw [part_zero]; exact r2, Below.refl _ _⟩
  case round =>
    obtain ⟨j, hj, rfl, hr, hbl⟩ := hrel
    by_cases hlt : j < 8
    · have c0 := (r0.out.below hbl (by omega)).cell j (by omega)
      have c2 := hr.out.cell j hlt
      have f2 := hr.out.free j
      unfold w64 at c0
      have hy := hs.out j
      have e3 : Hid ((rowOf 8 (w32 (part s zeroN j))).setIfInBounds j (.int .u32 ((s j : Nat) : Int)) = rowOf 8 (w32 (part s zeroN (j + 1)))) := by
        unfold Hid; rw [rowOf_upd32, part_upd]
      go_wp2
      go_roundw
      case rel => exact ⟨j + 1, by omega, by go_num, (hr.out.set j _).congr e3.out, hbl.setCell (Nat.le_refl _) _⟩
      case measure => simp [intOf]; omega
    · have : j = 8 := by omega
      subst this
      have hr2 : Hid (RowAt wr (w.heap.size + 1 + 1) 30 (rowOf 8 (w32 s))) := hr.out.congr (rowOf_congr fun k hk => by unfold w32; rw [part_below _ _ _ _ hk])
      have hq : Hid (RowAt wr (w.heap.size + 1) 30 (rowOf 8 (w32 zeroN))) := r1.out.below hbl (by omega)
      clear hr
      go_wp2_with (first | (refine wpList_load_row rfl 30 _ rfl (w.heap.size + 1 + 1) rfl 30 _ (0, 0) _ hr2.out Tryd.underlying30 rfl (info_w8 _) ?_) | (refine wpList_store_row rfl 30 _ _ rfl (w.heap.size + 1) (rowOf 8 (w32 s)) rfl rfl 30 _ hq.out (info_w8 _) (by rw [rowOf_size, rowOf_size]) (rowOf_cells32 _ _) ?_))
      refine bodyPost_ret (v := .agg (rowOf 8 (w32 s))) ?_ rfl ⟨rfl, below_setRow' (b0.trans (hbl.mono (by omega))) (by omega) _⟩
      exact results_cell_row Tryd.results15 _ _ (w.heap.size + 1) 30 (rowOf 8 (w32 s)) (0, 0) _ rfl (hq.out.setRow _) Tryd.underlying30 rfl (info_w8 _)

set_option maxHeartbeats 400000 in
set_option maxRecDepth 4000 in
theorem refK_any (w : World) :
    Calls Tryd.prog 25 #[] w fun e w' => e = .returned (.agg (rowOf 64 (w64 kN))) ∧ Below w.heap.size w w' := by
  go_enter Tryd.func25, Tryd.ntmps25
  go_wp2_with (refine wpList_store_row rfl 53 _ _ rfl w.heap.size (rowOf 64 (w64 kN)) rfl rfl 53 _ (row_new0 w _ _) (info_d64 _) (by rw [rowOf_size]; rfl) (rowOf_cells64 _ _) ?_)
  refine bodyPost_ret (v := .agg (rowOf 64 (w64 kN))) ?_ rfl ⟨rfl, below_setRow' ((Below.refl _ _).alloc (Nat.le_refl _) _) (Nat.le_refl _) _⟩
  exact results_cell_row Tryd.results25 _ _ w.heap.size 53 (rowOf 64 (w64 kN)) (0, 0) _ rfl ((row_new0 w _ _).setRow _) Tryd.underlying53 rfl (info_d64 _)

end Go.Proofs.YtjdhakkfekjpbaaDoor
