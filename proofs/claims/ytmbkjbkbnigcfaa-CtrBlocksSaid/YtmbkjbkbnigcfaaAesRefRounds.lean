/-
  Contract: the document's Rounds.
-/
import Derived.Test.YtmbkjbkbnigcfaaAesCipher
namespace Go.Proofs.Ytmbkjbkbnigcfaa
open Go.RowKit

theorem zero176 : (Try.prog.info? 49).map (fun i => (i.zero, i.size)) = some (some (.agg (rowOf 176 (w8 zeroN))), 176) := by kernel_rfl
theorem info_176 (f : Nat → Value) : (Try.prog.info? 49).map (·.size) = some (rowOf 176 f).size := by rw [rowOf_size]; kernel_rfl

theorem ring_at2 (key : Nat → Nat) (i j : Nat) (hj : j < 16) : ringN key (i * 16 + j) = rkN key i j := by rw [Nat.mul_comm]; exact ring_at key i j hj

theorem ring_first (key : Nat → Nat) : rowOf 176 (laidV (w8 zeroN) (w8 key) 0 16) = rowOf 176 (w8 (part (ringN key) zeroN (1 * 16))) := rowOf_congr fun j _ => by
  unfold laidV
  by_cases h : j < 16
  · rw [if_pos (by omega)]
    unfold w8
    rw [part_below _ _ _ _ (by omega), show ringN key j = rkN key 0 j by have := ring_at2 key 0 j h; rwa [Nat.zero_mul, Nat.zero_add] at this]
    rfl
  · rw [if_neg (by omega)]
    unfold w8
    rw [part_above _ _ _ _ (by omega)]

theorem rk_zero (key : Nat → Nat) (k : Nat) (y : Nat) (hy : y = 13) : rkN key k 0 ^^^ (boxN (rkN key k y) ^^^ xtsN 1 k) = rkN key (k + 1) 0 := by subst hy; rfl
theorem rk_row (key : Nat → Nat) (k j y : Nat) (hj : j < 4) (h0 : j ≠ 0) (hy : y = 12 + (j + 1) % 4) : rkN key k j ^^^ boxN (rkN key k y) = rkN key (k + 1) j := by
  subst hy
  show _ = rkCol (rkN key k) (xtsN 1 k) (j / 4) (j % 4)
  rw [show j / 4 = 0 by omega, show j % 4 = j by omega]
  unfold rkCol
  rw [if_neg h0]

set_option maxHeartbeats 4000000 in
set_option maxRecDepth 8000 in
theorem refRounds_any (key : Nat → Nat) (hk : Hid (Byt key)) (w : World) :
    Calls Try.prog 20 #[.agg (rowOf 256 (w8 boxN)), .agg (rowOf 16 (w8 key))] w fun e w' => e = .returned (.agg (rowOf 176 (w8 (ringN key)))) ∧ Below w.heap.size w w' := by
  have zv := (zero_of_info zero176).1
  have hw1 := Lib.hid (allocs_row [.cells (rowOf 256 (w8 boxN)) 47, .cells (rowOf 16 (w8 key)) 23, .cells (rowOf 176 (w8 zeroN)) 49, .cells (rowOf 176 (w8 zeroN)) 49] w)
  have r0 : Hid (RowAt ((((w.alloc (.cells (rowOf 256 (w8 boxN)) 47)).alloc (.cells (rowOf 16 (w8 key)) 23)).alloc (.cells (rowOf 176 (w8 zeroN)) 49)).alloc (.cells (rowOf 176 (w8 zeroN)) 49)) w.heap.size 47 (rowOf 256 (w8 boxN))) := hw1.out 0 _ _ rfl
  have r1 : Hid (RowAt ((((w.alloc (.cells (rowOf 256 (w8 boxN)) 47)).alloc (.cells (rowOf 16 (w8 key)) 23)).alloc (.cells (rowOf 176 (w8 zeroN)) 49)).alloc (.cells (rowOf 176 (w8 zeroN)) 49)) (w.heap.size + 1) 23 (rowOf 16 (w8 key))) := hw1.out 1 _ _ rfl
  have r2 : Hid (RowAt ((((w.alloc (.cells (rowOf 256 (w8 boxN)) 47)).alloc (.cells (rowOf 16 (w8 key)) 23)).alloc (.cells (rowOf 176 (w8 zeroN)) 49)).alloc (.cells (rowOf 176 (w8 zeroN)) 49)) (w.heap.size + 1 + 1) 49 (rowOf 176 (w8 zeroN))) := hw1.out 2 _ _ rfl
  have r3 : Hid (RowAt ((((w.alloc (.cells (rowOf 256 (w8 boxN)) 47)).alloc (.cells (rowOf 16 (w8 key)) 23)).alloc (.cells (rowOf 176 (w8 zeroN)) 49)).alloc (.cells (rowOf 176 (w8 zeroN)) 49)) (w.heap.size + 1 + 1 + 1) 49 (rowOf 176 (w8 zeroN))) := hw1.out 3 _ _ rfl
  have b0 : Below w.heap.size w ((((w.alloc (.cells (rowOf 256 (w8 boxN)) 47)).alloc (.cells (rowOf 16 (w8 key)) 23)).alloc (.cells (rowOf 176 (w8 zeroN)) 49)).alloc (.cells (rowOf 176 (w8 zeroN)) 49)) := allocs_below [.cells (rowOf 256 (w8 boxN)) 47, .cells (rowOf 16 (w8 key)) 23, .cells (rowOf 176 (w8 zeroN)) 49, .cells (rowOf 176 (w8 zeroN)) 49] w
  clear hw1
  have q0 := Lib.hid ((r0.out.setRowOther (w.heap.size + 1 + 1 + 1) (rowOf 176 (w8 zeroN)) (by omega)).setRowOther (w.heap.size + 1 + 1 + 1) (rowOf 176 (laidV (w8 zeroN) (w8 key) 0 16)) (by omega))
  have q1 := Lib.hid (r1.out.setRowOther (w.heap.size + 1 + 1 + 1) (rowOf 176 (w8 zeroN)) (by omega))
  have q2 := Lib.hid ((r2.out.setRowOther (w.heap.size + 1 + 1 + 1) (rowOf 176 (w8 zeroN)) (by omega)).setRowOther (w.heap.size + 1 + 1 + 1) (rowOf 176 (laidV (w8 zeroN) (w8 key) 0 16)) (by omega))
  have q3 := Lib.hid (r3.out.setRow (rowOf 176 (w8 zeroN)))
  have q4 := Lib.hid (q3.out.setRow (rowOf 176 (laidV (w8 zeroN) (w8 key) 0 16)))
  have b2 := below_setRow' (below_setRow' b0 (show w.heap.size ≤ (w.heap.size + 1 + 1 + 1) by omega) (rowOf 176 (w8 zeroN))) (show w.heap.size ≤ (w.heap.size + 1 + 1 + 1) by omega) (rowOf 176 (laidV (w8 zeroN) (w8 key) 0 16))
  go_enter Try.func20, Try.ntmps20
  go_wp2_with (first | (refine wpList_buildTo rfl 49 _ rfl _ rfl (rowOf 176 (w8 zeroN)) (by kernel_rfl) ?_) | (refine wpList_store_row rfl 49 _ _ rfl (w.heap.size + 1 + 1 + 1) (rowOf 176 (w8 zeroN)) rfl rfl 49 _ r3.out (info_176 _) (by rw [rowOf_size]) (rowOf_cells8 _ _) ?_) | (refine wpList_load_row rfl 23 _ rfl (w.heap.size + 1) rfl 23 _ (0, 0) _ q1.out Try.underlying23 rfl (info_key _) ?_) | (refine wpList_store_at rfl 23 _ _ rfl (w.heap.size + 1 + 1 + 1) 0 176 16 (w8 zeroN) (w8 key) rfl rfl 49 q3.out (by kernel_rfl) (rowOf_cells8 _ _) (by decide) ?_))
  clear zv r0 r1 r2 r3 b0 q1 q3
  generalize World.setRow _ _ _ = w2 at *
  replace q4 := Lib.hid (q4.out.congr (ring_first key))
  go_loopw [6, 7] (fun y c wr => ∃ k i x : Nat, i = k + 1 ∧ k ≤ 10 ∧ c = .int .i64 i ∧ y = .int .u8 x ∧ x < 256 ∧ Hid (x = xtsN 1 k) ∧ Hid (RowAt wr (w.heap.size + 1 + 1 + 1) 49 (rowOf 176 (w8 (part (ringN key) zeroN (i * 16))))) ∧ Below (w.heap.size + 1 + 1 + 1) w2 wr)
    (fun _ c _ => 11 - (intOf c).toNat)
  case atStart => exact ⟨0, 1, 1, rfl, by omega, rfl, rfl, by omega, rfl, q4, Below.refl _ _⟩
  case round =>
    clear q4
    obtain ⟨k, i, x, hi, hk10, rfl, rfl, hx, hxx, h3, hbl⟩ := hrel
    by_cases hlt : k < 10
    · have ei : (i : Int) - 1 = (k : Int) := by omega
      have lk : (k : Int) < 11 := by omega
      have li : (i : Int) < 11 := by omega
      have BK := Lib.hid (rk_byt hk.out k)
      have HI := Lib.hid hi
      have KI : k * 16 + 16 = i * 16 := by omega
      have k10 : k < 10 := hlt
      clear hi hk10 hlt
      go_wp2
      go_loopw [8] (fun c wr' => ∃ j : Nat, j ≤ 4 ∧ c = .int .i64 j ∧ Hid (RowAt wr' (w.heap.size + 1 + 1 + 1) 49 (rowOf 176 (w8 (part (ringN key) zeroN (i * 16 + j))))) ∧ Below (w.heap.size + 1 + 1 + 1) w2 wr')
        (fun c _ => 4 - (intOf c).toNat)
      case atStart => exact ⟨0, by omega, rfl, h3, hbl⟩
      case round =>
        clear h3 hbl
        obtain ⟨j, hj, rfl, h3, hbl⟩ := hrel
        by_cases hlj : j < 4
        · obtain ⟨y, hy⟩ : ∃ y, y = 12 + (j + 1) % 4 := ⟨_, rfl⟩
          have ey : (12 : Int) + ((j : Int) + 1) % 4 = (y : Int) := by omega
          have ly : (y : Int) < 16 := by omega
          have ly' : y < 16 := by omega
          have lj : (j : Int) < 16 := by omega
          have c0 := h3.out.cell (k * 16 + y) (by omega)
          unfold w8 at c0
          rw [part_below _ _ _ _ (by omega), ring_at2 _ _ _ ly'] at c0
          have lz : rkN key k y < 256 := BK.out y
          have c1 := (q0.out.below hbl (by omega)).cell (rkN key k y) lz
          unfold w8 at c1
          have lz' : ((rkN key k y : Nat) : Int) < 256 := by omega
          by_cases h0 : j = 0
          · have d0 : ((j : Int) == 0) = true := by simp; omega
            have N : Hid (rkN key k j ^^^ (boxN (rkN key k y) ^^^ x) = ringN key (i * 16 + j)) := by
              unfold Hid
              rw [hxx.out, ring_at2 _ _ _ (by omega), HI.out, h0]
              exact rk_zero key k y (by omega)
            replace h0 := Lib.hid h0
            clear hy
            have X1 := u8_xor_nat (boxN (rkN key k y)) x (box_lt_any _) hx
            have lc : boxN (rkN key k y) ^^^ x < 256 := xor8 (box_lt_any _) hx
            generalize boxN (rkN key k y) ^^^ x = cc at *
            generalize boxN (rkN key k y) = bb at *
            generalize hz : rkN key k y = z at *
            clear hz
            go_wp2
            clear X1
            refine wp_region_still_tail 12 (by kernel_rfl) (by kernel_rfl) ?_
            change wpStill _ _ wr.drew (fun a' => wpList _ _ _ _ a' wr.drew) _ _
            replace h3 : Hid (RowAt wr.drew (w.heap.size + 1 + 1 + 1) 49 (rowOf 176 (w8 (part (ringN key) zeroN (i * 16 + j))))) := h3
            replace hbl : Below (w.heap.size + 1 + 1 + 1) w2 wr.drew := hbl.drew
            generalize wr.drew = w9 at *
            have c4 := h3.out.cell (k * 16 + j) (by omega)
            have c5 := h3.out.cell (i * 16 + j) (by omega)
            have f5 := h3.out.free (i * 16 + j)
            unfold w8 at c4
            rw [part_below _ _ _ _ (by omega), ring_at2 _ _ _ (by omega)] at c4
            have E1 := Lib.hid (u8_xor_nat (rkN key k j) cc (BK.out j) lc)
            rw [N.out] at E1
            have e3 := Lib.hid (u8_row 176 (ringN key) zeroN (i * 16 + j))
            clear c0 c1
            simp only [List.take_succ_cons, List.take_zero, List.drop_succ_cons, List.drop_zero]
            refine wpStill_of_quiet _ _ ?_
            repeat (first | go_big_quiet_skip | (go_big_quiet_want; go_big_quiet_op; go_big_quiet_on))
            refine wpQuiet_nil ?_
            go_wp2
            go_roundw
            case rel =>
              refine ⟨j + 1, by omega, by go_num, ?_, hbl.setCell (Nat.le_refl _) _⟩
              rw [E1.out]
              exact (h3.out.set (i * 16 + j) _).congr e3.out
            case measure => simp [intOf]; omega
          · have d0 : ((j : Int) == 0) = false := by simp; omega
            have N : Hid (rkN key k j ^^^ boxN (rkN key k y) = ringN key (i * 16 + j)) := by
              unfold Hid
              rw [ring_at2 _ _ _ (by omega), HI.out]
              exact rk_row key k j y hlj h0 hy
            clear hy h0
            have lc : boxN (rkN key k y) < 256 := box_lt_any _
            generalize boxN (rkN key k y) = bb at *
            generalize hz : rkN key k y = z at *
            clear hz
            go_wp2
            refine wp_region_still_tail 12 (by kernel_rfl) (by kernel_rfl) ?_
            change wpStill _ _ wr.drew (fun a' => wpList _ _ _ _ a' wr.drew) _ _
            replace h3 : Hid (RowAt wr.drew (w.heap.size + 1 + 1 + 1) 49 (rowOf 176 (w8 (part (ringN key) zeroN (i * 16 + j))))) := h3
            replace hbl : Below (w.heap.size + 1 + 1 + 1) w2 wr.drew := hbl.drew
            generalize wr.drew = w9 at *
            have c4 := h3.out.cell (k * 16 + j) (by omega)
            have c5 := h3.out.cell (i * 16 + j) (by omega)
            have f5 := h3.out.free (i * 16 + j)
            unfold w8 at c4
            rw [part_below _ _ _ _ (by omega), ring_at2 _ _ _ (by omega)] at c4
            have E1 := Lib.hid (u8_xor_nat (rkN key k j) bb (BK.out j) lc)
            rw [N.out] at E1
            have e3 := Lib.hid (u8_row 176 (ringN key) zeroN (i * 16 + j))
            clear c0 c1
            simp only [List.take_succ_cons, List.take_zero, List.drop_succ_cons, List.drop_zero]
            refine wpStill_of_quiet _ _ ?_
            repeat (first | go_big_quiet_skip | (go_big_quiet_want; go_big_quiet_op; go_big_quiet_on))
            refine wpQuiet_nil ?_
            go_wp2
            go_roundw
            case rel =>
              refine ⟨j + 1, by omega, by go_num, ?_, hbl.setCell (Nat.le_refl _) _⟩
              rw [E1.out]
              exact (h3.out.set (i * 16 + j) _).congr e3.out
            case measure => simp [intOf]; omega
        · have : j = 4 := by omega
          subst this
          go_wp2
          go_loopw [10] (fun c wr' => ∃ j : Nat, 4 ≤ j ∧ j ≤ 16 ∧ c = .int .i64 j ∧ Hid (RowAt wr' (w.heap.size + 1 + 1 + 1) 49 (rowOf 176 (w8 (part (ringN key) zeroN (i * 16 + j))))) ∧ Below (w.heap.size + 1 + 1 + 1) w2 wr')
            (fun c _ => 16 - (intOf c).toNat)
          case atStart => exact ⟨4, by omega, by omega, rfl, h3, hbl⟩
          case round =>
            clear h3 hbl
            obtain ⟨j, hj4, hj, rfl, h3, hbl⟩ := hrel
            by_cases hlj : j < 16
            · obtain ⟨m, hm⟩ : ∃ m, j = m + 4 := ⟨j - 4, by omega⟩
              have em : (j : Int) - 4 = (m : Int) := by omega
              have lm : (m : Int) < 16 := by omega
              have lj : (j : Int) < 16 := by omega
              have N : Hid (rkN key k j ^^^ rkN key i m = ringN key (i * 16 + j)) := by
                unfold Hid
                rw [ring_at2 _ _ _ hlj, HI.out]
                exact next_col (rkN key k) (xtsN 1 k) j m hm
              have mj : m < j := by omega
              have lr : rkN key i m < 256 := rk_byt hk.out i m
              clear hm
              go_wp2
              refine wp_region_still_tail 17 (by kernel_rfl) (by kernel_rfl) ?_
              change wpStill _ _ wr.drew (fun a' => wpList _ _ _ _ a' wr.drew) _ _
              replace h3 : Hid (RowAt wr.drew (w.heap.size + 1 + 1 + 1) 49 (rowOf 176 (w8 (part (ringN key) zeroN (i * 16 + j))))) := h3
              replace hbl : Below (w.heap.size + 1 + 1 + 1) w2 wr.drew := hbl.drew
              generalize wr.drew = w9 at *
              have c4 := h3.out.cell (k * 16 + j) (by omega)
              have c5 := h3.out.cell (i * 16 + j) (by omega)
              have c6 := h3.out.cell (i * 16 + m) (by omega)
              have f5 := h3.out.free (i * 16 + j)
              unfold w8 at c4 c6
              rw [part_below _ _ _ _ (by omega), ring_at2 _ _ _ (by omega)] at c4
              rw [part_below _ _ _ _ (by omega), ring_at2 _ _ _ (by omega)] at c6
              have E1 := Lib.hid (u8_xor_nat (rkN key k j) (rkN key i m) (BK.out j) lr)
              rw [N.out] at E1
              have e3 := Lib.hid (u8_row 176 (ringN key) zeroN (i * 16 + j))
              generalize rkN key i m = z at *
              simp only [List.take_succ_cons, List.take_zero, List.drop_succ_cons, List.drop_zero]
              refine wpStill_of_quiet _ _ ?_
              repeat (first | go_big_quiet_skip | (go_big_quiet_want; go_big_quiet_op; go_big_quiet_on))
              refine wpQuiet_nil ?_
              go_wp2
              go_roundw
              case rel =>
                refine ⟨j + 1, by omega, by omega, by go_num, ?_, hbl.setCell (Nat.le_refl _) _⟩
                rw [E1.out]
                exact (h3.out.set (i * 16 + j) _).congr e3.out
              case measure => simp [intOf]; omega
            · have : j = 16 := by omega
              subst this
              have T := Lib.hid (fun W => refTimes_any x 2 hx (by decide) W)
              rw [times_two hx] at T
              have l1 := xt_lt hx
              have A1 : Hid (xtN x = xtsN 1 i) := by unfold Hid; rw [hxx.out, HI.out]; rfl
              have i10 : i ≤ 10 := by omega
              have r16 : Hid (i * 16 + 16 = (i + 1) * 16) := by unfold Hid; omega
              rw [r16.out] at h3
              go_wp2_with fail
              refine (T.out _).mono ?_
              rintro e w4 ⟨rfl, rfl⟩
              clear T
              go_wp2
              go_roundw
              case rel => exact ⟨i, i + 1, xtN x, rfl, i10, by go_num, rfl, l1, A1, h3, hbl⟩
              case measure => simp [intOf]; omega
    · have : k = 10 := by omega
      subst this
      have : i = 11 := by omega
      subst this
      have hr3 : Hid (RowAt wr (w.heap.size + 1 + 1 + 1) 49 (rowOf 176 (w8 (ringN key)))) := h3.out.congr (part_all 176 _ _)
      have h2 : Hid (RowAt wr (w.heap.size + 1 + 1) 49 (rowOf 176 (w8 zeroN))) := q2.out.below hbl (by omega)
      clear h3
      go_wp2_with (first | (refine wpList_load_row rfl 49 _ rfl (w.heap.size + 1 + 1 + 1) rfl 49 _ (0, 0) _ hr3.out Try.underlying49 rfl (info_176 _) ?_) | (refine wpList_store_row rfl 49 _ _ rfl (w.heap.size + 1 + 1) (rowOf 176 (w8 (ringN key))) rfl rfl 49 _ h2.out (info_176 _) (by rw [rowOf_size, rowOf_size]) (rowOf_cells8 _ _) ?_))
      refine bodyPost_ret (v := .agg (rowOf 176 (w8 (ringN key)))) ?_ rfl ⟨rfl, below_setRow' (b2.trans (hbl.mono (by omega))) (by omega) _⟩
      exact results_cell_row Try.results20 _ _ (w.heap.size + 1 + 1) 49 (rowOf 176 (w8 (ringN key))) (0, 0) _ rfl (h2.out.setRow _) Try.underlying49 rfl (info_176 _)

end Go.Proofs.Ytmbkjbkbnigcfaa
