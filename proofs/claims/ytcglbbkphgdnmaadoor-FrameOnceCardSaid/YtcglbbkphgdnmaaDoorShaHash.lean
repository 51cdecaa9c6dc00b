/-
  Contracts: hashOf, firstWords, the document's Wide, Narrow, k.
-/
import Derived.Test.YtcglbbkphgdnmaaDoorShaWord
import Derived.Test.YtcglbbkphgdnmaaDoorKeys
import Derived.Laws.Tables
namespace Go.Proofs.YtcglbbkphgdnmaaDoor
open Go.RowKit

theorem z8_32 : rowOf 32 (w8 zeroN) = #[.int .u8 0, .int .u8 0, .int .u8 0, .int .u8 0, .int .u8 0, .int .u8 0, .int .u8 0, .int .u8 0, .int .u8 0, .int .u8 0, .int .u8 0, .int .u8 0, .int .u8 0, .int .u8 0, .int .u8 0, .int .u8 0, .int .u8 0, .int .u8 0, .int .u8 0, .int .u8 0, .int .u8 0, .int .u8 0, .int .u8 0, .int .u8 0, .int .u8 0, .int .u8 0, .int .u8 0, .int .u8 0, .int .u8 0, .int .u8 0, .int .u8 0, .int .u8 0] := rfl
theorem z32_8 : rowOf 8 (w32 zeroN) = #[.int .u32 0, .int .u32 0, .int .u32 0, .int .u32 0, .int .u32 0, .int .u32 0, .int .u32 0, .int .u32 0] := rfl
theorem z64_8 : rowOf 8 (w64 zeroN) = #[.int .u64 0, .int .u64 0, .int .u64 0, .int .u64 0, .int .u64 0, .int .u64 0, .int .u64 0, .int .u64 0] := rfl

theorem info_hash (f : Nat → Value) : (Tryd.prog.info? 44).map (·.size) = some (rowOf 32 f).size := by rw [rowOf_size]; kernel_rfl
theorem info_w8 (f : Nat → Value) : (Tryd.prog.info? 87).map (·.size) = some (rowOf 8 f).size := by rw [rowOf_size]; kernel_rfl
theorem info_d8 (f : Nat → Value) : (Tryd.prog.info? 73).map (·.size) = some (rowOf 8 f).size := by rw [rowOf_size]; kernel_rfl
theorem info_w64 (f : Nat → Value) : (Tryd.prog.info? 108).map (·.size) = some (rowOf 64 f).size := by rw [rowOf_size]; kernel_rfl
theorem info_d64 (f : Nat → Value) : (Tryd.prog.info? 93).map (·.size) = some (rowOf 64 f).size := by rw [rowOf_size]; kernel_rfl
theorem info_b64 (f : Nat → Value) : (Tryd.prog.info? 89).map (·.size) = some (rowOf 64 f).size := by rw [rowOf_size]; kernel_rfl

theorem hash_shift (s : Nat → Nat) (j y : Nat) (hy : y = s (j / 4)) (c : Nat) (hc : c = 24 - 8 * (j % 4)) : (y : Int) / 2 ^ c % 256 = ((hashN s j : Nat) : Int) := by
  subst hy hc
  unfold hashN
  simp

set_option maxHeartbeats 400000 in
theorem hashOf_any (s : Nat → Nat) (hs : Hid (Words s)) (w : World) :
    Calls Tryd.prog 53 #[.agg (rowOf 8 (w32 s))] w fun e w' => e = .returned (.agg (rowOf 32 (w8 (hashN s)))) ∧ Below w.heap.size w w' := by
  go_enter Tryd.func53, Tryd.ntmps53
  go_wp2
  rw [← z8_32]
  obtain ⟨w1, hw1⟩ : ∃ w1, ((w.alloc (.cells (rowOf 8 (w32 s)) 87)).alloc (.cells (rowOf 32 (w8 zeroN)) 44)).alloc (.cells (rowOf 32 (w8 zeroN)) 44) = w1 := ⟨_, rfl⟩
  have r0 : Hid (RowAt w1 w.heap.size 87 (rowOf 8 (w32 s))) := by rw [← hw1]; exact ((RowAt.new _ _ _).alloc _).alloc _
  have r1 : Hid (RowAt w1 (w.heap.size + 1) 44 (rowOf 32 (w8 zeroN))) := by rw [← hw1]; exact row_new1 w _ _ _ _
  have r2 : Hid (RowAt w1 (w.heap.size + 1 + 1) 44 (rowOf 32 (w8 zeroN))) := by rw [← hw1]; exact row_new2 w _ _ _ _
  have b0 : Below w.heap.size w w1 := by rw [← hw1]; exact (((Below.refl _ _).alloc (Nat.le_refl _) _).alloc (by simp) _).alloc (by simp; omega) _
  rw [hw1]
  clear hw1
  go_loopw [6] (fun i wr => ∃ j : Nat, j ≤ 32 ∧ i = .int .i64 j ∧ Hid (RowAt wr (w.heap.size + 1 + 1) 44 (rowOf 32 (w8 (part (hashN s) zeroN j)))) ∧ Below (w.heap.size + 1 + 1) w1 wr)
    (fun i _ => 32 - (intOf i).toNat)
  case atStart => exact ⟨0, by omega, rfl, by rw [part_zero]; exact r2, Below.refl _ _⟩
  case round =>
    obtain ⟨j, hj, rfl, hr, hbl⟩ := hrel
    by_cases hlt : j < 32
    · have c0 := (r0.out.below hbl (by omega)).cell (j / 4) (by omega)
      have c2 := hr.out.cell j hlt
      have f2 := hr.out.free j
      unfold w32 at c0
      have hy := hs.out (j / 4)
      obtain ⟨y, hye⟩ : ∃ y, s (j / 4) = y := ⟨_, rfl⟩
      rw [hye] at c0 hy
      obtain ⟨c, hc⟩ : ∃ c, c = 24 - 8 * (j % 4) := ⟨_, rfl⟩
      have e1 := Lib.hid (hash_shift s j y hye.symm c hc)
      have e2 : (8 : Int) * (3 - (j : Int) % 4) = (c : Int) := by omega
      have cc : c ≤ 24 := by omega
      have e3 : Hid ((rowOf 32 (w8 (part (hashN s) zeroN j))).setIfInBounds j (.int .u8 ((hashN s j : Nat) : Int)) = rowOf 32 (w8 (part (hashN s) zeroN (j + 1)))) := by
        unfold Hid; rw [rowOf_upd8, part_upd]
      clear hc hye
      go_wp2
      go_roundw
      case rel =>
        rw [e1.out]
        exact ⟨j + 1, by omega, by go_num, (hr.out.set j _).congr e3.out, hbl.setCell (Nat.le_refl _) _⟩
      case measure => simp [intOf]; omega
    · have : j = 32 := by omega
      subst this
      have hr2 : Hid (RowAt wr (w.heap.size + 1 + 1) 44 (rowOf 32 (w8 (hashN s)))) := hr.out.congr (rowOf_congr fun k hk => by unfold w8; rw [part_below _ _ _ _ hk])
      have hq : Hid (RowAt wr (w.heap.size + 1) 44 (rowOf 32 (w8 zeroN))) := r1.out.below hbl (by omega)
      clear hr
      go_wp2_with (first | (refine wpList_load_row rfl 44 _ rfl (w.heap.size + 1 + 1) rfl 44 _ (0, 0) _ hr2.out Tryd.underlying44 rfl (info_hash _) ?_) | (refine wpList_store_row rfl 44 _ _ rfl (w.heap.size + 1) (rowOf 32 (w8 (hashN s))) rfl rfl 44 _ hq.out (info_hash _) (by rw [rowOf_size, rowOf_size]) (rowOf_cells8 _ _) ?_))
      refine bodyPost_ret (v := .agg (rowOf 32 (w8 (hashN s)))) ?_ rfl ⟨rfl, below_setRow' (b0.trans (hbl.mono (by omega))) (by omega) _⟩
      exact results_cell_row Tryd.results53 _ _ (w.heap.size + 1) 44 (rowOf 32 (w8 (hashN s))) (0, 0) _ rfl (hq.out.setRow _) Tryd.underlying44 rfl (info_hash _)

end Go.Proofs.YtcglbbkphgdnmaaDoor
