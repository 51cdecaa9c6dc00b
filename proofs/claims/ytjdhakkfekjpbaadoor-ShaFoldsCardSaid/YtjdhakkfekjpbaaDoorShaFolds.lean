/-
  The walk of the law ShaFolds.
-/
import Derived.Test.YtjdhakkfekjpbaaDoorShaSteps
namespace Go.Proofs.YtjdhakkfekjpbaaDoor
open Go.RowKit

set_option maxHeartbeats 1000000 in
set_option maxRecDepth 8000 in
theorem walk_ShaFolds (s : ByteArray) (_hs : s.size ≤ maxLen) (w : World) (hk : KRow w) :
    Calls Tryd.prog 8 #[.string s] w fun e w' => e = .returned (.bool true) ∧ Below w.heap.size w w' := by
  have HK := Lib.hid hk
  clear hk
  by_cases h : (500 : Int) < (s.size : Int)
  · go_enter Tryd.func8, Tryd.ntmps8
    go_wp2_with fail
    refine (shown_any _ HK).mono ?_
    rintro e w1 ⟨rfl, hb1⟩
    go_wp2
    go_ret
    exact ⟨rfl, hb1⟩
  · have d : decide ((500 : Int) < (s.size : Int)) = false := decide_eq_false h
    have l5 : s.size ≤ 500 := by omega
    have hS : s.data.toList.length = s.size := by simp
    have E : Hid (sumN s.data.toList = hashN (foldN (s.data.toList ++ fillL s.size) ((s.data.toList ++ fillL s.size).length / 64))) := by unfold Hid sumN; rw [hS]
    obtain ⟨A, hA⟩ : ∃ A, s.data.toList ++ fillL s.size = A := ⟨_, rfl⟩
    have hA64 : A.length % 64 = 0 := by rw [← hA, ← hS]; exact full_length _
    have hAl : A.length ≤ 200000 := by
      rw [← hA, List.length_append, fillL_length, hS]
      unfold fillZ
      omega
    rw [hA] at E
    obtain ⟨m, hm2⟩ : ∃ m, A.length / 64 = m := ⟨_, rfl⟩
    have hAm : A.length = 64 * m := by omega
    rw [hm2] at E
    have sA : Hid ((s ++ bs (fillL s.size)).data.toList = A) := by unfold Hid; rw [bs_append]; exact hA
    have zA : (s ++ bs (fillL s.size)).size = 64 * m := by
      rw [← hAm, ← sA.out]
      simp
    have fz : (bs (fillL s.size)).size ≤ 100 := by
      show (fillL s.size).toArray.size ≤ 100
      rw [List.size_toArray, fillL_length]
      unfold fillZ
      omega
    have ns : ¬ 9223372036854775807 < s.size + (bs (fillL s.size)).size := by omega
    have lm : 64 * m ≤ 200000 := by omega
    clear hA hm2 hA64 hS hAl fz
    go_enter Tryd.func8, Tryd.ntmps8
    go_wp2_with fail
    refine (shown_any _ HK).mono ?_
    rintro e w1 ⟨rfl, hb1⟩
    clear d
    go_wp2_with (refine wpList_store_row rfl 30 _ _ rfl w1.heap.size (rowOf 8 (w32 firstN)) rfl rfl 30 _ (RowAt.new _ _ _) (info_w8 _) (by rw [rowOf_size]; rfl) (rowOf_cells32 _ _) ?_; rw [World.setRow_alloc_new, ← first_row]; have x1 := Lib.hid (RowAt.new w1 30 (rowOf 8 (w32 firstN))); have b1 := hb1.alloc hb1.size (.cells (rowOf 8 (w32 firstN)) 30); have q1 := hb1.size; generalize w1.alloc _ = w2 at *; generalize w1.heap.size = q at *)
    clear hb1
    refine (fill_any s.size (by omega) _).mono ?_
    rintro e w3 ⟨rfl, hb3⟩
    replace x1 : Hid (RowAt w3 q 30 (rowOf 8 (w32 firstN))) := x1.out.below hb3 x1.out.lt
    replace b1 : Below w.heap.size w w3 := b1.trans (hb3.mono b1.size)
    clear hb3
    go_wp2
    generalize s ++ bs (fillL s.size) = t at *
    clear ns
    go_loopw [5] (fun i wr => ∃ (k i' : Nat), k ≤ m ∧ i = .int .i64 i' ∧ i' = 64 * k ∧ Hid (RowAt wr q 30 (rowOf 8 (w32 (foldN A k)))) ∧ Below w.heap.size w wr)
      (fun i _ => 64 * m + 64 - (intOf i).toNat)
    case atStart => exact ⟨0, 0, by omega, rfl, rfl, x1, b1⟩
    case round =>
      clear x1 b1
      obtain ⟨k, i, hkm, rfl, hik, hv, hbl⟩ := hrel
      by_cases hlt : k < m
      · have hd : decide ((i : Int) + 64 ≤ (t.size : Int)) = true := decide_eq_true (by omega)
        have i64 : (i : Int) + 64 ≤ (t.size : Int) := by omega
        have hW := Lib.hid (foldN_words A k)
        have hcz : (t.extract i (i + 64)).size = 64 := by rw [ByteArray.size_extract]; omega
        have hct : Hid (byteL (t.extract i (i + 64)).data.toList = byteL ((A.drop (64 * k)).take 64)) := by
          unfold Hid
          rw [ByteArray.data_extract, Array.toList_extract, List.extract_eq_take_drop, sA.out, hik]
          congr 2
          omega
        have hst : Hid (stepN (foldN A k) (byteL (t.extract i (i + 64)).data.toList) = foldN A (k + 1)) := by unfold Hid; rw [hct.out, foldN_cut]
        have li : i ≤ 200000 := by omega
        have i1 : (i : Int) ≤ (i : Int) + 64 := by omega
        have i0 : (0 : Int) ≤ (i : Int) := by omega
        have e6 : ((i : Int) + 64).toNat = i + 64 := by omega
        have i64n : i + 64 ≤ t.size := by omega
        have HI := Lib.hid hik
        have HCZ := Lib.hid hcz
        have HZ := Lib.hid zA
        clear hcz hct hik zA
        go_wp2
        refine wp_region_still_tail 6 (by kernel_rfl) (by kernel_rfl) ?_
        change wpStill _ _ wr.drew (fun a' => wpList _ _ _ _ a' wr.drew) _ _
        replace hv : Hid (RowAt wr.drew q 30 (rowOf 8 (w32 (foldN A k)))) := hv
        replace hbl : Below w.heap.size w wr.drew := hbl.drew
        generalize wr.drew = w5 at *
        simp only [List.take_succ_cons, List.take_zero, List.drop_succ_cons, List.drop_zero]
        refine wpStill_load_row rfl 30 _ rfl q rfl 30 _ (0, 0) _ hv.out Tryd.underlying30 rfl (info_w8 _) ?_
        refine wpStill_of_quiet _ _ ?_
        simp only [Act.put, List.setIfInBounds_toArray, List.set_cons_succ, List.set_cons_zero]
        repeat (first | go_big_quiet_skip | (go_big_quiet_want; go_big_quiet_op; go_big_quiet_on))
        refine wpQuiet_nil ?_
        go_wp2_with fail
        refine (shaStep_yes _ hW (t.extract i (i + 64)) HCZ.out _ (HK.out.below hbl HK.out.1 hbl.size)).mono ?_
        rintro e w6 ⟨rfl, hb6⟩
        rw [hst.out]
        obtain ⟨y2, hy2⟩ : ∃ y2, foldN A (k + 1) = y2 := ⟨_, rfl⟩
        rw [hy2]
        have HY2 := Lib.hid hy2
        clear hy2
        have hv6 : Hid (RowAt w6 q 30 (rowOf 8 (w32 (foldN A k)))) := hv.out.below hb6 hv.out.lt
        have hbl6 : Below w.heap.size w w6 := hbl.trans (hb6.mono hbl.size)
        have hv7 := Lib.hid (hv6.out.setRow (rowOf 8 (w32 y2)))
        have hbl7 := below_setRow' hbl6 q1 (rowOf 8 (w32 y2))
        clear hb6 hv hbl hbl6 hW hst
        go_wp2_with (refine wpList_store_row rfl 30 _ _ rfl q (rowOf 8 (w32 y2)) rfl rfl 30 _ hv6.out (info_w8 _) (by rw [rowOf_size, rowOf_size]) (rowOf_cells32 _ _) ?_; clear hv6; generalize World.setRow _ _ _ = w7 at *)
        go_roundw
        case rel => exact ⟨k + 1, i + 64, by omega, by go_num, by have := HI.out; omega, by rw [HY2.out]; exact hv7, hbl7⟩
        case measure => simp [intOf]; have := HI.out; omega
      · have : k = m := by omega
        subst this
        have hd : decide ((i : Int) + 64 ≤ (t.size : Int)) = false := decide_eq_false (by omega)
        have li : i ≤ 200000 := by omega
        have ng : ¬ (i : Int) + 64 ≤ (t.size : Int) := by omega
        have t64 : (t.size : Int) % 64 = 0 := by omega
        have hY := Lib.hid (foldN_words A k)
        obtain ⟨y, hy⟩ : ∃ y, foldN A k = y := ⟨_, rfl⟩
        rw [hy] at hv hY E
        have S1 := Lib.hid (fun hk => sum_one s (by omega) wr hk)
        rw [E.out] at S1
        have hkr : Hid (KRow wr) := HK.out.below hbl HK.out.1 hbl.size
        obtain ⟨z, hz⟩ : ∃ z, hashN y = z := ⟨_, rfl⟩
        rw [hz] at S1
        have HZ := Lib.hid hz
        clear hy hik hAm zA sA hkm E hz
        go_wp2_with fail
        refine (S1.out hkr.out).mono ?_
        rintro e w6 ⟨rfl, hb6⟩
        have hv6 : Hid (RowAt w6 q 30 (rowOf 8 (w32 y))) := hv.out.below hb6 hv.out.lt
        have hbl6 : Below w.heap.size w w6 := hbl.trans (hb6.mono hbl.size)
        clear S1 hb6 hv hbl hkr
        go_wp2_with (refine wpList_store_row rfl 24 _ _ rfl w6.heap.size (rowOf 32 (w8 z)) rfl rfl 24 _ (RowAt.new _ _ _) (info_hash _) (by rw [rowOf_size]; rfl) (rowOf_cells8 _ _) ?_; rw [World.setRow_alloc_new]; have x2 := Lib.hid (RowAt.new w6 24 (rowOf 32 (w8 z))); replace hv6 := Lib.hid (hv6.out.alloc (.cells (rowOf 32 (w8 z)) 24)); replace hbl6 := hbl6.alloc hbl6.size (.cells (rowOf 32 (w8 z)) 24); generalize w6.alloc _ = w7 at *; generalize w6.heap.size = p at *)
        go_loopw [7] (fun i wr => ∃ j : Nat, j ≤ 32 ∧ i = .int .i64 j ∧ Hid (RowAt wr q 30 (rowOf 8 (w32 y)) ∧ RowAt wr p 24 (rowOf 32 (w8 z))) ∧ Below w.heap.size w wr)
          (fun i _ => 32 - (intOf i).toNat)
        case atStart => exact ⟨0, by omega, rfl, ⟨hv6.out, x2.out⟩, hbl6⟩
        case round =>
          clear hv6 x2 hbl6
          obtain ⟨j, hj, rfl, hrs, hbl⟩ := hrel
          by_cases hlt2 : j < 32
          · have hd2 : decide ((j : Int) < 32) = true := decide_eq_true (by omega)
            go_wp2
            refine wp_region_one (by kernel_rfl) (by kernel_rfl) ?_
            replace hrs : Hid (RowAt wr.drew q 30 (rowOf 8 (w32 y)) ∧ RowAt wr.drew p 24 (rowOf 32 (w8 z))) := hrs
            replace hbl : Below w.heap.size w wr.drew := hbl.drew
            generalize wr.drew = w8 at *
            have c0 := hrs.out.1.cell (j / 4) (by omega)
            have c1 := hrs.out.2.cell j (by omega)
            unfold Go.Proofs.YtjdhakkfekjpbaaDoor.w8 at c1
            unfold w32 at c0
            have lv := hY.out (j / 4)
            obtain ⟨c, hc⟩ : ∃ c, c = 24 - 8 * (j % 4) := ⟨_, rfl⟩
            have ec : (24 : Int) - 8 * ((j : Int) % 4) = (c : Int) := by omega
            have lc : c ≤ 24 := by omega
            have EV := hash_shift y j (y (j / 4)) rfl c hc
            rw [HZ.out] at EV
            generalize y (j / 4) = v at *
            clear hc
            repeat (first | go_big_quiet_skip | (go_big_quiet_want; go_big_quiet_op; go_big_quiet_on))
            refine wpQuiet_nil ?_
            go_wp2
            go_roundw
            case rel => exact ⟨j + 1, by omega, by go_num, hrs, hbl⟩
            case measure => simp [intOf]; omega
          · go_wp2
            go_ret
            exact ⟨rfl, hbl⟩

end Go.Proofs.YtjdhakkfekjpbaaDoor
