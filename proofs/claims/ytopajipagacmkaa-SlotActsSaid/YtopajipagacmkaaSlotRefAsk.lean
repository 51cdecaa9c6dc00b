/-
  Contracts: the document's Write, Erase, Read.
-/
import Derived.Test.YtopajipagacmkaaSlotRefTurn
namespace Go.Proofs.Ytopajipagacmkaa
open Go.RowKit
set_option linter.unusedVariables false

theorem wrong_zero {S : SS} {z : Int} (h : wrongE S z = 0) : S.p.up = true ∧ inB z 2 = true := by
  unfold wrongE at h
  by_cases hu : S.p.up = false
  · rw [if_pos hu] at h; cases h
  · rw [if_neg hu] at h
    by_cases hin : inB z 2 = false
    · rw [if_pos hin] at h; cases h
    · exact ⟨by simpa using hu, by simpa using hin⟩
theorem wrong_erase {S : SS} {z : Int} (h : wrongE S z ≠ 0) : slEraseS S z = S ∧ slEraseE S z = wrongE S z := by
  unfold slEraseS slEraseE
  unfold wrongE at h ⊢
  by_cases hu : S.p.up = false
  · rw [if_pos hu, if_pos hu, if_pos hu]; exact ⟨rfl, rfl⟩
  · rw [if_neg hu] at h
    rw [if_neg hu, if_neg hu, if_neg hu]
    by_cases hin : inB z 2 = false
    · rw [if_pos hin, if_pos hin, if_pos hin]; exact ⟨rfl, rfl⟩
    · rw [if_neg hin] at h; exact absurd rfl h
theorem wrong_write {S : SS} {z : Int} (k : Nat → Nat) (ep : Nat) (h : wrongE S z ≠ 0) : writeS S z k ep = S ∧ writeE S z = wrongE S z := by
  unfold writeS writeE
  unfold wrongE at h ⊢
  by_cases hu : S.p.up = false
  · rw [if_pos hu, if_pos hu, if_pos hu]; exact ⟨rfl, rfl⟩
  · rw [if_neg hu] at h
    rw [if_neg hu, if_neg hu, if_neg hu]
    by_cases hin : inB z 2 = false
    · rw [if_pos hin, if_pos hin, if_pos hin]; exact ⟨rfl, rfl⟩
    · rw [if_neg hin] at h; exact absurd rfl h
theorem wrong_read {S : SS} {z : Int} (h : wrongE S z ≠ 0) : readVS S z = #[.agg (rowOf 16 (w8 zeroN)), .int .u64 0, .int .i64 (wrongE S z : Nat)] := by
  unfold readVS readC readE
  unfold wrongE at h ⊢
  by_cases hu : S.p.up = false
  · rw [if_pos hu, if_pos hu, if_pos hu]; rfl
  · rw [if_neg hu] at h
    rw [if_neg hu, if_neg hu, if_neg hu]
    by_cases hin : inB z 2 = false
    · rw [if_pos hin, if_pos hin, if_pos hin]; rfl
    · rw [if_neg hin] at h; exact absurd rfl h

set_option maxHeartbeats 4000000 in
set_option maxRecDepth 8000 in
theorem refSErase_any (S : SS) (z : Int) (w : World) (hh : S.p.left < 9223372036854775808) :
    Calls Try.prog 14 #[.agg (rowOf 40 (rsF S)), .int .i64 z] w (RsEnd (slEraseS S z) (slEraseE S z) w) := by
  obtain ⟨w2, hw2⟩ : ∃ w2, Hid (w2 = (w.alloc (.cells (rowOf 40 (rsF S)) 37)).alloc (.cells (rowOf 40 (rsF noneSS)) 37)) := ⟨_, rfl⟩
  have b0 : Below w.heap.size w w2 := by rw [hw2.out]; exact allocs_below [.cells (rowOf 40 (rsF S)) 37, .cells (rowOf 40 (rsF noneSS)) 37] w
  have r1 : Hid (RowAt w2 w.heap.size 37 (rowOf 40 (rsF S))) := by rw [hw2.out]; exact allocs_row [.cells (rowOf 40 (rsF S)) 37, .cells (rowOf 40 (rsF noneSS)) 37] w 0 _ _ rfl
  have r2 : Hid (RowAt w2 (w.heap.size + 1) 37 (rowOf 40 (rsF noneSS))) := by rw [hw2.out]; exact allocs_row [.cells (rowOf 40 (rsF S)) 37, .cells (rowOf 40 (rsF noneSS)) 37] w 1 _ _ rfl
  have W := Lib.hid (refWrong_any S z w2)
  by_cases hE : wrongE S z = 0
  · obtain ⟨hu, hin⟩ := wrong_zero hE
    rw [hE] at W
    clear hE
    obtain ⟨i, rfl, hi⟩ := inB_get hin
    have C := Lib.hid (fun w' => refChange_any S i hi blankC w' hu hh)
    have eS : Hid (slEraseS S (i : Nat) = turnS S i blankC) := by unfold Hid slEraseS; rw [if_neg (by rw [hu]; decide), if_neg (by rw [hin]; decide)]; rfl
    have eE : Hid (slEraseE S (i : Nat) = turnE S.p) := by unfold Hid slEraseE; rw [if_neg (by rw [hu]; decide), if_neg (by rw [hin]; decide)]
    generalize turnS S i blankC = S' at *
    generalize turnE S.p = E at *
    clear hu hin hh
    go_enter Try.func14, Try.ntmps14
    go_wp2_with (first | (refine wpList_new rfl (run_allocRef rfl _) ?_; rw [← hw2.out]) | (refine wpList_load_row rfl 37 _ rfl w.heap.size rfl 37 (rowOf 40 (rsF S)) (0, 0) _ r1.out Try.underlying37 rfl (infoRef _) ?_))
    refine W.out.mono ?_
    rintro e w3 ⟨rfl, b3⟩
    replace r1 := Lib.hid (r1.out.below b3 r1.out.lt)
    replace r2 := Lib.hid (r2.out.below b3 r2.out.lt)
    replace b0 := b0.trans (b3.mono b0.size)
    clear b3 W hw2
    go_wp2_with (first | (refine wpList_load_row rfl 37 _ rfl w.heap.size rfl 37 (rowOf 40 (rsF S)) (0, 0) _ r1.out Try.underlying37 rfl (infoRef _) ?_) | (refine wpList_buildTo rfl 34 _ rfl _ rfl (rowOf 18 (celF blankC)) (by kernel_rfl) ?_))
    refine (C.out _).mono ?_
    rintro e w4 ⟨rfl, b4⟩
    replace r2 := Lib.hid (r2.out.below b4 r2.out.lt)
    replace b0 := b0.trans (b4.mono b0.size)
    clear b4 C r1
    go_wp2_with (refine wpList_store_row rfl 37 _ _ rfl (w.heap.size + 1) (rowOf 40 (rsF S')) rfl rfl 37 (rowOf 40 (rsF noneSS)) r2.out (infoRef _) (by rw [rowOf_size, rowOf_size]) (rsF_all _) ?_)
    refine bodyPost_ret (v := .tuple #[.agg (rowOf 40 (rsF S')), .int .i64 (E : Nat)]) ?_ rfl ⟨by rw [eS.out, eE.out], below_setRow' b0 (by omega) _⟩
    exact results_row_one Try.results14 _ _ (w.heap.size + 1) 37 (rowOf 40 (rsF S')) (0, 0) _ rfl (r2.out.setRow _) Try.underlying37 rfl (infoRef _)
  · obtain ⟨eS, eE⟩ := wrong_erase hE
    rw [eS, eE]
    clear eS eE hh
    obtain ⟨x, hx⟩ : ∃ x : Int, ((wrongE S z : Nat) : Int) = x := ⟨_, rfl⟩
    have n0 : (x != 0) = true := ne_lit (by omega)
    unfold RsEnd
    rw [hx] at W ⊢
    clear hE hx
    go_enter Try.func14, Try.ntmps14
    go_wp2_with (first | (refine wpList_new rfl (run_allocRef rfl _) ?_; rw [← hw2.out]) | (refine wpList_load_row rfl 37 _ rfl w.heap.size rfl 37 (rowOf 40 (rsF S)) (0, 0) _ r1.out Try.underlying37 rfl (infoRef _) ?_))
    refine W.out.mono ?_
    rintro e w3 ⟨rfl, b3⟩
    replace r1 := Lib.hid (r1.out.below b3 r1.out.lt)
    replace r2 := Lib.hid (r2.out.below b3 r2.out.lt)
    replace b0 := b0.trans (b3.mono b0.size)
    clear b3 W hw2
    go_wp2_with (first | (refine wpList_load_row rfl 37 _ rfl w.heap.size rfl 37 (rowOf 40 (rsF S)) (0, 0) _ r1.out Try.underlying37 rfl (infoRef _) ?_) | (refine wpList_store_row rfl 37 _ _ rfl (w.heap.size + 1) (rowOf 40 (rsF S)) rfl rfl 37 (rowOf 40 (rsF noneSS)) r2.out (infoRef _) (by rw [rowOf_size, rowOf_size]) (rsF_all _) ?_))
    refine bodyPost_ret (v := .tuple #[.agg (rowOf 40 (rsF S)), .int .i64 x]) ?_ rfl ⟨rfl, below_setRow' b0 (by omega) _⟩
    exact results_row_one Try.results14 _ _ (w.heap.size + 1) 37 (rowOf 40 (rsF S)) (0, 0) _ rfl (r2.out.setRow _) Try.underlying37 rfl (infoRef _)

set_option maxHeartbeats 4000000 in
set_option maxRecDepth 8000 in
theorem refSWrite_any (S : SS) (z : Int) (k : Nat → Nat) (ep : Nat) (w : World) (hh : S.p.left < 9223372036854775808) :
    Calls Try.prog 12 #[.agg (rowOf 40 (rsF S)), .int .i64 z, .agg (rowOf 16 (w8 k)), .int .u64 (ep : Nat)] w (RsEnd (writeS S z k ep) (writeE S z) w) := by
  obtain ⟨w2, hw2⟩ : ∃ w2, Hid (w2 = ((w.alloc (.cells (rowOf 40 (rsF S)) 37)).alloc (.cells (rowOf 16 (w8 k)) 31)).alloc (.cells (rowOf 40 (rsF noneSS)) 37)) := ⟨_, rfl⟩
  have b0 : Below w.heap.size w w2 := by rw [hw2.out]; exact allocs_below [.cells (rowOf 40 (rsF S)) 37, .cells (rowOf 16 (w8 k)) 31, .cells (rowOf 40 (rsF noneSS)) 37] w
  have r1 : Hid (RowAt w2 w.heap.size 37 (rowOf 40 (rsF S))) := by rw [hw2.out]; exact allocs_row [.cells (rowOf 40 (rsF S)) 37, .cells (rowOf 16 (w8 k)) 31, .cells (rowOf 40 (rsF noneSS)) 37] w 0 _ _ rfl
  have r3 : Hid (RowAt w2 (w.heap.size + 1) 31 (rowOf 16 (w8 k))) := by rw [hw2.out]; exact allocs_row [.cells (rowOf 40 (rsF S)) 37, .cells (rowOf 16 (w8 k)) 31, .cells (rowOf 40 (rsF noneSS)) 37] w 1 _ _ rfl
  have r2 : Hid (RowAt w2 (w.heap.size + 1 + 1) 37 (rowOf 40 (rsF noneSS))) := by rw [hw2.out]; exact allocs_row [.cells (rowOf 40 (rsF S)) 37, .cells (rowOf 16 (w8 k)) 31, .cells (rowOf 40 (rsF noneSS)) 37] w 2 _ _ rfl
  have W := Lib.hid (refWrong_any S z w2)
  by_cases hE : wrongE S z = 0
  · obtain ⟨hu, hin⟩ := wrong_zero hE
    rw [hE] at W
    clear hE
    obtain ⟨i, rfl, hi⟩ := inB_get hin
    have i1 := (cell_no i hi).2
    cases hc : (S.c i).h with
    | true =>
      have eS : Hid (writeS S (i : Nat) k ep = S) := by unfold Hid writeS; rw [if_neg (by rw [hu]; decide), if_neg (by rw [hin]; decide), show ((i : Nat) : Int).toNat = i from rfl, if_pos hc]
      have eE : Hid (writeE S (i : Nat) = 100) := by unfold Hid writeE; rw [if_neg (by rw [hu]; decide), if_neg (by rw [hin]; decide), show ((i : Nat) : Int).toNat = i from rfl, if_pos hc]
      clear hu hin hh
      go_enter Try.func12, Try.ntmps12
      go_wp2_with (first | (refine wpList_new rfl (run_allocRef rfl _) ?_; rw [← hw2.out]) | (refine wpList_load_row rfl 37 _ rfl w.heap.size rfl 37 (rowOf 40 (rsF S)) (0, 0) _ r1.out Try.underlying37 rfl (infoRef _) ?_))
      refine W.out.mono ?_
      rintro e w3 ⟨rfl, b3⟩
      replace r1 := Lib.hid (r1.out.below b3 r1.out.lt)
      replace r2 := Lib.hid (r2.out.below b3 r2.out.lt)
      replace b0 := b0.trans (b3.mono b0.size)
      clear b3 W hw2
      have ci := rsIs r1.out hi
      rw [hc] at ci
      clear hc
      go_wp2_with (first | (refine wpList_load_row rfl 37 _ rfl w.heap.size rfl 37 (rowOf 40 (rsF S)) (0, 0) _ r1.out Try.underlying37 rfl (infoRef _) ?_) | (refine wpList_store_row rfl 37 _ _ rfl (w.heap.size + 1 + 1) (rowOf 40 (rsF S)) rfl rfl 37 (rowOf 40 (rsF noneSS)) r2.out (infoRef _) (by rw [rowOf_size, rowOf_size]) (rsF_all _) ?_))
      refine bodyPost_ret (v := .tuple #[.agg (rowOf 40 (rsF S)), .int .i64 100]) ?_ rfl ⟨by rw [eS.out, eE.out]; rfl, below_setRow' b0 (by omega) _⟩
      exact results_row_one Try.results12 _ _ (w.heap.size + 1 + 1) 37 (rowOf 40 (rsF S)) (0, 0) _ rfl (r2.out.setRow _) Try.underlying37 rfl (infoRef _)
    | false =>
      have C := Lib.hid (fun w' => refChange_any S i hi ⟨true, k, ep⟩ w' hu hh)
      have eS : Hid (writeS S (i : Nat) k ep = turnS S i ⟨true, k, ep⟩) := by unfold Hid writeS; rw [if_neg (by rw [hu]; decide), if_neg (by rw [hin]; decide), show ((i : Nat) : Int).toNat = i from rfl, if_neg (by rw [hc]; decide)]
      have eE : Hid (writeE S (i : Nat) = turnE S.p) := by unfold Hid writeE; rw [if_neg (by rw [hu]; decide), if_neg (by rw [hin]; decide), show ((i : Nat) : Int).toNat = i from rfl, if_neg (by rw [hc]; decide)]
      generalize turnS S i ⟨true, k, ep⟩ = S' at *
      generalize turnE S.p = E at *
      clear hu hin hh
      go_enter Try.func12, Try.ntmps12
      go_wp2_with (first | (refine wpList_new rfl (run_allocRef rfl _) ?_; rw [← hw2.out]) | (refine wpList_load_row rfl 37 _ rfl w.heap.size rfl 37 (rowOf 40 (rsF S)) (0, 0) _ r1.out Try.underlying37 rfl (infoRef _) ?_))
      refine W.out.mono ?_
      rintro e w3 ⟨rfl, b3⟩
      replace r1 := Lib.hid (r1.out.below b3 r1.out.lt)
      replace r2 := Lib.hid (r2.out.below b3 r2.out.lt)
      replace r3 := Lib.hid (r3.out.below b3 r3.out.lt)
      replace b0 := b0.trans (b3.mono b0.size)
      clear b3 W hw2
      have ci := rsIs r1.out hi
      rw [hc] at ci
      clear hc
      go_wp2_with (first | (refine wpList_load_row rfl 37 _ rfl w.heap.size rfl 37 (rowOf 40 (rsF S)) (0, 0) _ r1.out Try.underlying37 rfl (infoRef _) ?_) | (refine wpList_load_row rfl 31 _ rfl (w.heap.size + 1) rfl 31 (rowOf 16 (w8 k)) (0, 0) _ r3.out Try.underlying31 rfl (info_key _) ?_) | (refine wpList_buildTo rfl 34 _ rfl _ rfl (rowOf 18 (celF ⟨true, k, ep⟩)) (by kernel_rfl) ?_))
      refine (C.out _).mono ?_
      rintro e w4 ⟨rfl, b4⟩
      replace r2 := Lib.hid (r2.out.below b4 r2.out.lt)
      replace b0 := b0.trans (b4.mono b0.size)
      clear b4 C r1 ci
      go_wp2_with (refine wpList_store_row rfl 37 _ _ rfl (w.heap.size + 1 + 1) (rowOf 40 (rsF S')) rfl rfl 37 (rowOf 40 (rsF noneSS)) r2.out (infoRef _) (by rw [rowOf_size, rowOf_size]) (rsF_all _) ?_)
      refine bodyPost_ret (v := .tuple #[.agg (rowOf 40 (rsF S')), .int .i64 (E : Nat)]) ?_ rfl ⟨by rw [eS.out, eE.out], below_setRow' b0 (by omega) _⟩
      exact results_row_one Try.results12 _ _ (w.heap.size + 1 + 1) 37 (rowOf 40 (rsF S')) (0, 0) _ rfl (r2.out.setRow _) Try.underlying37 rfl (infoRef _)
  · obtain ⟨eS, eE⟩ := wrong_write k ep hE
    rw [eS, eE]
    clear eS eE hh
    obtain ⟨x, hx⟩ : ∃ x : Int, ((wrongE S z : Nat) : Int) = x := ⟨_, rfl⟩
    have n0 : (x != 0) = true := ne_lit (by omega)
    unfold RsEnd
    rw [hx] at W ⊢
    clear hE hx
    go_enter Try.func12, Try.ntmps12
    go_wp2_with (first | (refine wpList_new rfl (run_allocRef rfl _) ?_; rw [← hw2.out]) | (refine wpList_load_row rfl 37 _ rfl w.heap.size rfl 37 (rowOf 40 (rsF S)) (0, 0) _ r1.out Try.underlying37 rfl (infoRef _) ?_))
    refine W.out.mono ?_
    rintro e w3 ⟨rfl, b3⟩
    replace r1 := Lib.hid (r1.out.below b3 r1.out.lt)
    replace r2 := Lib.hid (r2.out.below b3 r2.out.lt)
    replace b0 := b0.trans (b3.mono b0.size)
    clear b3 W hw2
    go_wp2_with (first | (refine wpList_load_row rfl 37 _ rfl w.heap.size rfl 37 (rowOf 40 (rsF S)) (0, 0) _ r1.out Try.underlying37 rfl (infoRef _) ?_) | (refine wpList_store_row rfl 37 _ _ rfl (w.heap.size + 1 + 1) (rowOf 40 (rsF S)) rfl rfl 37 (rowOf 40 (rsF noneSS)) r2.out (infoRef _) (by rw [rowOf_size, rowOf_size]) (rsF_all _) ?_))
    refine bodyPost_ret (v := .tuple #[.agg (rowOf 40 (rsF S)), .int .i64 x]) ?_ rfl ⟨rfl, below_setRow' b0 (by omega) _⟩
    exact results_row_one Try.results12 _ _ (w.heap.size + 1 + 1) 37 (rowOf 40 (rsF S)) (0, 0) _ rfl (r2.out.setRow _) Try.underlying37 rfl (infoRef _)

end Go.Proofs.Ytopajipagacmkaa
