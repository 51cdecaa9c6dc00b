/-
  Contract: spread.
-/
import Derived.Test.YtcglbbkphgdnmaaDoorShaHash
import Derived.Test.YtcglbbkphgdnmaaDoorShaKit
namespace Go.Proofs.YtcglbbkphgdnmaaDoor
open Go.RowKit

theorem z32_64 : rowOf 64 (w32 zeroN) = #[.int .u32 0, .int .u32 0, .int .u32 0, .int .u32 0, .int .u32 0, .int .u32 0, .int .u32 0, .int .u32 0, .int .u32 0, .int .u32 0, .int .u32 0, .int .u32 0, .int .u32 0, .int .u32 0, .int .u32 0, .int .u32 0, .int .u32 0, .int .u32 0, .int .u32 0, .int .u32 0, .int .u32 0, .int .u32 0, .int .u32 0, .int .u32 0, .int .u32 0, .int .u32 0, .int .u32 0, .int .u32 0, .int .u32 0, .int .u32 0, .int .u32 0, .int .u32 0, .int .u32 0, .int .u32 0, .int .u32 0, .int .u32 0, .int .u32 0, .int .u32 0, .int .u32 0, .int .u32 0, .int .u32 0, .int .u32 0, .int .u32 0, .int .u32 0, .int .u32 0, .int .u32 0, .int .u32 0, .int .u32 0, .int .u32 0, .int .u32 0, .int .u32 0, .int .u32 0, .int .u32 0, .int .u32 0, .int .u32 0, .int .u32 0, .int .u32 0, .int .u32 0, .int .u32 0, .int .u32 0, .int .u32 0, .int .u32 0, .int .u32 0, .int .u32 0] := rfl
theorem z64_64 : rowOf 64 (w64 zeroN) = #[.int .u64 0, .int .u64 0, .int .u64 0, .int .u64 0, .int .u64 0, .int .u64 0, .int .u64 0, .int .u64 0, .int .u64 0, .int .u64 0, .int .u64 0, .int .u64 0, .int .u64 0, .int .u64 0, .int .u64 0, .int .u64 0, .int .u64 0, .int .u64 0, .int .u64 0, .int .u64 0, .int .u64 0, .int .u64 0, .int .u64 0, .int .u64 0, .int .u64 0, .int .u64 0, .int .u64 0, .int .u64 0, .int .u64 0, .int .u64 0, .int .u64 0, .int .u64 0, .int .u64 0, .int .u64 0, .int .u64 0, .int .u64 0, .int .u64 0, .int .u64 0, .int .u64 0, .int .u64 0, .int .u64 0, .int .u64 0, .int .u64 0, .int .u64 0, .int .u64 0, .int .u64 0, .int .u64 0, .int .u64 0, .int .u64 0, .int .u64 0, .int .u64 0, .int .u64 0, .int .u64 0, .int .u64 0, .int .u64 0, .int .u64 0, .int .u64 0, .int .u64 0, .int .u64 0, .int .u64 0, .int .u64 0, .int .u64 0, .int .u64 0, .int .u64 0] := rfl
theorem z8_64 : rowOf 64 (w8 zeroN) = #[.int .u8 0, .int .u8 0, .int .u8 0, .int .u8 0, .int .u8 0, .int .u8 0, .int .u8 0, .int .u8 0, .int .u8 0, .int .u8 0, .int .u8 0, .int .u8 0, .int .u8 0, .int .u8 0, .int .u8 0, .int .u8 0, .int .u8 0, .int .u8 0, .int .u8 0, .int .u8 0, .int .u8 0, .int .u8 0, .int .u8 0, .int .u8 0, .int .u8 0, .int .u8 0, .int .u8 0, .int .u8 0, .int .u8 0, .int .u8 0, .int .u8 0, .int .u8 0, .int .u8 0, .int .u8 0, .int .u8 0, .int .u8 0, .int .u8 0, .int .u8 0, .int .u8 0, .int .u8 0, .int .u8 0, .int .u8 0, .int .u8 0, .int .u8 0, .int .u8 0, .int .u8 0, .int .u8 0, .int .u8 0, .int .u8 0, .int .u8 0, .int .u8 0, .int .u8 0, .int .u8 0, .int .u8 0, .int .u8 0, .int .u8 0, .int .u8 0, .int .u8 0, .int .u8 0, .int .u8 0, .int .u8 0, .int .u8 0, .int .u8 0, .int .u8 0] := rfl

theorem turns_two (x a b : Nat) : turnsN x [a, b] = rotr x a ^^^ rotr x b := by simp [turnsN]
theorem turns_three (x a b c : Nat) : turnsN x [a, b, c] = rotr x a ^^^ rotr x b ^^^ rotr x c := by simp [turnsN, Nat.xor_assoc]

theorem next_value (x y z v : Nat) (hx : x < 4294967296) (hy : y < 4294967296) :
    ((z : Int) + bits .xor .u32 ((turnsN x [7, 18] : Nat) : Int) ((x : Int) / 8) + (v : Int) + bits .xor .u32 ((turnsN y [17, 19] : Nat) : Int) ((y : Int) / 1024)) % 4294967296 =
      (((z + (rotr x 7 ^^^ rotr x 18 ^^^ x / 8) + v + (rotr y 17 ^^^ rotr y 19 ^^^ y / 1024)) % 4294967296 : Nat) : Int) := by
  rw [turns_two, turns_two, show (x : Int) / 8 = ((x / 8 : Nat) : Int) by omega, show (y : Int) / 1024 = ((y / 1024 : Nat) : Int) by omega]
  rw [bits_xor_u32_nat _ _ (xor_lt _ _ (rotr_lt x 7 hx (by decide)) (rotr_lt x 18 hx (by decide))) (by omega)]
  rw [bits_xor_u32_nat _ _ (xor_lt _ _ (rotr_lt y 17 hy (by decide)) (rotr_lt y 19 hy (by decide))) (by omega)]
  omega

theorem words_part (B : Nat → Nat) : part (wordN B) zeroN 16 = wordsN B := rfl

set_option maxHeartbeats 400000 in
theorem spread_any (B : Nat → Nat) (hB : Hid (Bytes B)) (w : World) :
    Calls Tryd.prog 68 #[.agg (rowOf 64 (w8 B))] w fun e w' => e = .returned (.agg (rowOf 64 (w32 (spreadN B 48)))) ∧ Below w.heap.size w w' := by
  go_enter Tryd.func68, Tryd.ntmps68
  go_wp2_with fail
  refine (turns_any _ _ _ _).mono ?_
  rintro e w1 ⟨rfl, rfl⟩
  go_wp2_with fail
  refine (turns_any _ _ _ _).mono ?_
  rintro e w1 ⟨rfl, rfl⟩
  go_wp2_with fail
  rw [← z32_64]
  obtain ⟨os, hos⟩ : ∃ os : List Obj, os = [.cells (rowOf 64 (w8 B)) 89, .cells (rowOf 64 (w32 zeroN)) 108, .cells #[.int .i64 7, .int .i64 18] 3, .cells #[.slice (some ⟨w.heap.size + 1 + 1, 0, none⟩) 2 2] 118,
    .cells #[.int .i64 17, .int .i64 19] 3, .cells #[.slice (some ⟨w.heap.size + 1 + 1 + 1 + 1, 0, none⟩) 2 2] 118, .cells (rowOf 64 (w32 zeroN)) 108] := ⟨_, rfl⟩
  obtain ⟨w1, hw1⟩ : ∃ w1, os.foldl World.alloc w = w1 := ⟨_, rfl⟩
  have r0 : Hid (RowAt w1 w.heap.size 89 (rowOf 64 (w8 B))) := by rw [← hw1]; exact allocs_row os w 0 _ _ (by rw [hos]; rfl)
  have r1 : Hid (RowAt w1 (w.heap.size + 1) 108 (rowOf 64 (w32 zeroN))) := by rw [← hw1]; exact allocs_row os w 1 _ _ (by rw [hos]; rfl)
  have t1 : Hid (Turner (w.heap.size + 6) w1 (.func (.func 75) #[] #[.pointer (some ⟨w.heap.size + 1 + 1 + 1, 0, none⟩)]) [7, 18]) := by
    rw [← hw1]
    exact ⟨w.heap.size + 2, w.heap.size + 3, 2, rfl, by omega, by omega, allocs_row os w 3 _ _ (by rw [hos]; rfl), allocs_row os w 2 _ _ (by rw [hos]; rfl)⟩
  have t2 : Hid (Turner (w.heap.size + 6) w1 (.func (.func 75) #[] #[.pointer (some ⟨w.heap.size + 1 + 1 + 1 + 1 + 1, 0, none⟩)]) [17, 19]) := by
    rw [← hw1]
    exact ⟨w.heap.size + 4, w.heap.size + 5, 2, rfl, by omega, by omega, allocs_row os w 5 _ _ (by rw [hos]; rfl), allocs_row os w 4 _ _ (by rw [hos]; rfl)⟩
  have r6 : Hid (RowAt w1 (w.heap.size + 1 + 1 + 1 + 1 + 1 + 1) 108 (rowOf 64 (w32 zeroN))) := by rw [← hw1]; exact allocs_row os w 6 _ _ (by rw [hos]; rfl)
  have b0 : Below w.heap.size w w1 := by rw [← hw1]; exact allocs_below os w
  rw [hos] at hw1
  simp only [List.foldl_cons, List.foldl_nil] at hw1
  rw [hw1]
  clear hw1 hos os
  obtain ⟨p, hp⟩ : ∃ p, w.heap.size + 1 + 1 + 1 + 1 + 1 + 1 = p := ⟨_, rfl⟩
  rw [hp] at r6
  rw [hp]
  have hp6 : w.heap.size + 6 ≤ p := by omega
  clear hp
  go_loopw [14] (fun i wr => ∃ j : Nat, j ≤ 16 ∧ i = .int .i64 j ∧ Hid (RowAt wr p 108 (rowOf 64 (w32 (part (wordN B) zeroN j)))) ∧ Below p w1 wr)
    (fun i _ => 16 - (intOf i).toNat)
  case atStart => exact ⟨0, by omega, rfl, by rw [part_zero]; exact r6, Below.refl _ _⟩
  case round =>
    obtain ⟨j, hj, rfl, hr, hbl⟩ := hrel
    by_cases hlt : j < 16
    · have hr0 : Hid (RowAt wr w.heap.size 89 (rowOf 64 (w8 B))) := r0.out.below hbl (by omega)
      have e3 : Hid ((rowOf 64 (w32 (part (wordN B) zeroN j))).setIfInBounds j (.int .u32 ((wordN B j : Nat) : Int)) = rowOf 64 (w32 (part (wordN B) zeroN (j + 1)))) := by
        unfold Hid; rw [rowOf_upd32, part_upd]
      go_wp2_with (first | (refine wpList_load_row rfl 89 _ rfl w.heap.size rfl 89 _ (0, 0) _ hr0.out Tryd.underlying89 rfl (info_b64 _) ?_))
      refine (wordAt_any B hB j hlt _).mono ?_
      rintro e w2 ⟨rfl, hb2⟩
      have hr2 : Hid (RowAt w2 p 108 (rowOf 64 (w32 (part (wordN B) zeroN j)))) := hr.out.below hb2 hr.out.lt
      have hbl2 : Below p w1 w2 := hbl.trans (hb2.mono (Nat.le_of_lt hr.out.lt))
      have c2 := hr2.out.cell j (by omega)
      have f2 := hr2.out.free j
      clear hb2 hr hbl hr0
      go_wp2
      go_roundw
      case rel => exact ⟨j + 1, by omega, by go_num, (hr2.out.set j _).congr e3.out, hbl2.setCell (Nat.le_refl _) _⟩
      case measure => simp [intOf]; omega
    · have : j = 16 := by omega
      subst this
      rw [words_part] at hr
      go_wp2
      go_loopw [7] (fun i wr => ∃ i' n : Nat, n ≤ 48 ∧ i = .int .i64 i' ∧ i' = n + 16 ∧ Hid (RowAt wr p 108 (rowOf 64 (w32 (spreadN B n)))) ∧ Below p w1 wr)
        (fun i _ => 64 - (intOf i).toNat)
      case atStart => exact ⟨16, 0, by omega, rfl, rfl, hr, hbl⟩
      case round =>
        obtain ⟨i, n, hn, rfl, hin, hr, hbl⟩ := hrel
        by_cases hlt : i < 64
        · have e15 : (i : Int) - 15 = ((n + 1 : Nat) : Int) := by omega
          have e2 : (i : Int) - 2 = ((n + 14 : Nat) : Int) := by omega
          have e16 : (i : Int) - 16 = (n : Int) := by omega
          have e7 : (i : Int) - 7 = ((n + 9 : Nat) : Int) := by omega
          have l15 : n + 1 < 64 := by omega
          have l2 : n + 14 < 64 := by omega
          have l16 : n < 64 := by omega
          have l7 : n + 9 < 64 := by omega
          have hW := spreadN_words hB.out n
          have c15 := hr.out.cell (n + 1) l15
          have c2 := hr.out.cell (n + 14) l2
          have c16 := hr.out.cell n l16
          have c7 := hr.out.cell (n + 9) l7
          unfold w32 at c15 c2 c16 c7
          have hx := hW (n + 1)
          have hy := hW (n + 14)
          have hz := hW n
          have hv := hW (n + 9)
          have E0 : Hid (nextN (spreadN B n) i = nextN (spreadN B n) i) := rfl
          unfold Hid at E0
          rw (occs := [1]) [nextN] at E0
          rw [show i - 16 = n by omega, show i - 15 = n + 1 by omega, show i - 7 = n + 9 by omega, show i - 2 = n + 14 by omega] at E0
          obtain ⟨x, gx⟩ : ∃ x, spreadN B n (n + 1) = x := ⟨_, rfl⟩
          obtain ⟨y, gy⟩ : ∃ y, spreadN B n (n + 14) = y := ⟨_, rfl⟩
          obtain ⟨z, gz⟩ : ∃ z, spreadN B n n = z := ⟨_, rfl⟩
          obtain ⟨v, gv⟩ : ∃ v, spreadN B n (n + 9) = v := ⟨_, rfl⟩
          rw [gx] at c15 hx
          rw [gy] at c2 hy
          rw [gz] at c16 hz
          rw [gv] at c7 hv
          rw [gx, gy, gz, gv] at E0
          replace gz := Lib.hid gz
          replace gv := Lib.hid gv
          clear gx gy
          have E1 := Lib.hid E0
          have HI := Lib.hid hin
          clear hW E0 hin
          go_wp2
          go_quiet (fail)
          go_wp2
          clear c15 c2 c16 c7
          refine wp_region_still_tail 25 (by kernel_rfl) (by kernel_rfl) ?_
          change wpStill _ _ (World.drew (wr.drewN nq)) (fun a' => wpList _ _ _ _ a' (World.drew (wr.drewN nq))) _ _
          have hr2 : Hid (RowAt (World.drew (wr.drewN nq)) p 108 (rowOf 64 (w32 (spreadN B n)))) := hr
          have hbl2 : Below p w1 (World.drew (wr.drewN nq)) := (below_drewN hbl nq).drew
          generalize World.drew (wr.drewN nq) = w2 at *
          clear hr hbl
          have c16 := hr2.out.cell n l16
          have c7 := hr2.out.cell (n + 9) l7
          have ci := hr2.out.cell i (by omega)
          have fi := hr2.out.free i
          unfold w32 at c16 c7
          rw [gz.out] at c16
          rw [gv.out] at c7
          have k1 := turner_call (t1.out.below hbl2 (by omega)) (by decide) (by decide) x hx
          have k2 := turner_call (t2.out.below hbl2 (by omega)) (by decide) (by decide) y hy
          have K1 := Lib.hid k1
          have K2 := Lib.hid k2
          clear k1 k2
          simp only [List.take_succ_cons, List.take_zero, List.drop_succ_cons, List.drop_zero]
          refine wpStill_of_quiet _ _ ?_
          repeat (first | go_big_quiet_skip | (go_big_quiet_want; go_big_quiet_op; go_big_quiet_on))
          (go_big_quiet_want; go_big_quiet_op; apply Exists.intro; refine ⟨K1.out, ?_⟩; go_big_quiet_on)
          repeat (first | go_big_quiet_skip | (go_big_quiet_want; go_big_quiet_op; go_big_quiet_on))
          (go_big_quiet_want; go_big_quiet_op; apply Exists.intro; refine ⟨K2.out, ?_⟩; go_big_quiet_on)
          repeat (first | go_big_quiet_skip | (go_big_quiet_want; go_big_quiet_op; go_big_quiet_on))
          refine wpQuiet_nil ?_
          have EV := Lib.hid ((next_value x y z v hx hy).trans (congrArg Int.ofNat E1.out))
          have e3 : Hid ((rowOf 64 (w32 (spreadN B n))).setIfInBounds i (.int .u32 ((nextN (spreadN B n) i : Nat) : Int)) = rowOf 64 (w32 (spreadN B (n + 1)))) := by
            unfold Hid; rw [rowOf_upd32]; rw [HI.out, Nat.add_comm n 16]; rfl
          go_wp2
          go_roundw
          case rel => exact ⟨i + 1, n + 1, by omega, by go_num, by rw [HI.out], by rw [EV.out]; exact (hr2.out.set i _).congr e3.out, hbl2.setCell (Nat.le_refl _) _⟩
          case measure => simp [intOf]; omega
        · have : n = 48 := by omega
          subst this
          have hq : Hid (RowAt wr (w.heap.size + 1) 108 (rowOf 64 (w32 zeroN))) := r1.out.below hbl (by omega)
          clear hin
          go_wp2_with (first | (refine wpList_load_row rfl 108 _ rfl p rfl 108 _ (0, 0) _ hr.out Tryd.underlying108 rfl (info_w64 _) ?_) | (refine wpList_store_row rfl 108 _ _ rfl (w.heap.size + 1) (rowOf 64 (w32 (spreadN B 48))) rfl rfl 108 _ hq.out (info_w64 _) (by rw [rowOf_size, rowOf_size]) (rowOf_cells32 _ _) ?_))
          refine bodyPost_ret (v := .agg (rowOf 64 (w32 (spreadN B 48)))) ?_ rfl ⟨rfl, below_setRow' (b0.trans (hbl.mono (by omega))) (by omega) _⟩
          exact results_cell_row Tryd.results68 _ _ (w.heap.size + 1) 108 (rowOf 64 (w32 (spreadN B 48))) (0, 0) _ rfl (hq.out.setRow _) Tryd.underlying108 rfl (info_w64 _)

end Go.Proofs.YtcglbbkphgdnmaaDoor
