/-
  The walk of NodeEncodes.
-/
import Derived.Test.YtapebaoajknepaaNodeShown
import Derived.Test.YtapebaoajknepaaNodeIts
import Derived.Test.YtapebaoajknepaaNodeRefDec
import Derived.Test.YtapebaoajknepaaNodeRefEnc
import Derived.Test.YtapebaoajknepaaNodeOpen
import Derived.Test.YtapebaoajknepaaAdvStep
namespace Go.Proofs.Ytapebaoajknepaa
open Go.RowKit
set_option linter.unusedVariables false

set_option maxHeartbeats 4000000 in
set_option maxRecDepth 8000 in
theorem encodes_walk (N : Nod) (hb : ∀ i, i < 4 → BndC (N.c i)) (w : World) :
    Calls Try.prog 3 #[.agg (rowOf 85 (nF N))] w fun e w' => e = .returned (.bool true) ∧ Below w.heap.size w w' := by
  have r0 := Lib.hid (RowAt.new w 29 (rowOf 85 (nF N)))
  have b0 := Lib.hid ((Below.refl _ w).alloc (Nat.le_refl _) (.cells (rowOf 85 (nF N)) 29))
  have EN := Lib.hid (encode_any N hb)
  have RE := Lib.hid (refEncode_any N hb)
  have DE := Lib.hid (fun W => decode_any (encS N) W)
  have fate : (encE N ≠ 0 ∧ encS N = ⟨#[]⟩) ∨ (encE N = 0 ∧ decE (encS N).data.toList = 0 ∧ sameN (decV (encS N).data.toList) N = true) := by
    unfold encS encE
    cases hm : mayN N with
    | false => exact .inl ⟨by decide, rfl⟩
    | true =>
      obtain ⟨M, h1, h2⟩ := decN_enc hb hm
      refine .inr ⟨rfl, ?_, ?_⟩
      · show decE (encN N) = 0
        unfold decE
        rw [h1]
      · show sameN (decV (encN N)) N = true
        unfold decV
        rw [h1]
        exact h2
  generalize decV (encS N).data.toList = M at *
  generalize decE (encS N).data.toList = D at *
  generalize encS N = s at *
  generalize encE N = E at *
  clear hb
  go_enter Try.func3, Try.ntmps3
  go_wp2_with (refine wpList_load_row rfl 29 _ rfl w.heap.size rfl 29 _ (0, 0) _ r0.out Try.underlying29 rfl (infoNod' _) ?_)
  generalize w.alloc (.cells (rowOf 85 (nF N)) 29) = w0 at *
  refine (EN.out w0).mono ?_
  rintro e w1 ⟨rfl, b1⟩
  replace r0 := Lib.hid (r0.out.below b1 r0.out.lt)
  replace b0 := Lib.hid (b0.out.trans (b1.mono b0.out.size))
  clear EN b1
  go_wp2_with (refine wpList_load_row rfl 29 _ rfl w.heap.size rfl 29 _ (0, 0) _ r0.out Try.underlying29 rfl (infoNod' _) ?_)
  refine (its_any N w1).mono ?_
  rintro e w2 ⟨rfl, b2⟩
  replace r0 := Lib.hid (r0.out.below b2 r0.out.lt)
  replace b0 := Lib.hid (b0.out.trans (b2.mono b0.out.size))
  clear b2
  go_wp2_with fail
  refine (RE.out w2).mono ?_
  rintro e w3 ⟨rfl, b3⟩
  replace r0 := Lib.hid (r0.out.below b3 r0.out.lt)
  replace b0 := Lib.hid (b0.out.trans (b3.mono b0.out.size))
  clear RE b3
  go_wp2_with fail
  have HC : Hid (RowC w3 w.heap.size 29 (rowOf 85 (nF N)) w3.drew) := ⟨(Below.refl _ _).drew, r0.out⟩
  obtain ⟨m, hm⟩ : ∃ m, mayN N = m := ⟨_, rfl⟩
  obtain ⟨n, hn⟩ : ∃ n, emptyN N = n := ⟨_, rfl⟩
  have KM0 := Lib.hid (fun W => may_any N W)
  have KR0 := Lib.hid (fun W => refMay_node N W)
  have KE0 := Lib.hid (fun W => empty_any N W)
  have KF0 := Lib.hid (fun W => refEmpty_node N W)
  rw [hm] at KM0 KR0
  rw [hn] at KE0 KF0
  clear hm hn
  have KM : Hid (∀ w', RowC w3 w.heap.size 29 (rowOf 85 (nF N)) w' → Calls Try.prog 13 #[.agg (rowOf 85 (nF N))] w' fun e w'' => e = .returned (.bool m) ∧ RowC w3 w.heap.size 29 (rowOf 85 (nF N)) w'') := fun w' h => (KM0.out w').mono fun e w'' ⟨h1, h2⟩ => ⟨h1, RowC.after h2 h⟩
  have KI : Hid (∀ w', RowC w3 w.heap.size 29 (rowOf 85 (nF N)) w' → Calls Try.prog 12 #[.agg (rowOf 85 (nF N))] w' fun e w'' => e = .returned (.agg (rowOf 85 (nF N))) ∧ RowC w3 w.heap.size 29 (rowOf 85 (nF N)) w'') := fun w' h => (its_any N w').mono fun e w'' ⟨h1, h2⟩ => ⟨h1, RowC.after h2 h⟩
  have KR : Hid (∀ w', RowC w3 w.heap.size 29 (rowOf 85 (nF N)) w' → Calls Try.prog 14 #[.agg (rowOf 85 (nF N))] w' fun e w'' => e = .returned (.bool m) ∧ RowC w3 w.heap.size 29 (rowOf 85 (nF N)) w'') := fun w' h => (KR0.out w').mono fun e w'' ⟨h1, h2⟩ => ⟨h1, RowC.after h2 h⟩
  have KE : Hid (∀ w', RowC w3 w.heap.size 29 (rowOf 85 (nF N)) w' → Calls Try.prog 15 #[.agg (rowOf 85 (nF N))] w' fun e w'' => e = .returned (.bool n) ∧ RowC w3 w.heap.size 29 (rowOf 85 (nF N)) w'') := fun w' h => (KE0.out w').mono fun e w'' ⟨h1, h2⟩ => ⟨h1, RowC.after h2 h⟩
  have KF : Hid (∀ w', RowC w3 w.heap.size 29 (rowOf 85 (nF N)) w' → Calls Try.prog 16 #[.agg (rowOf 85 (nF N))] w' fun e w'' => e = .returned (.bool n) ∧ RowC w3 w.heap.size 29 (rowOf 85 (nF N)) w'') := fun w' h => (KF0.out w').mono fun e w'' ⟨h1, h2⟩ => ⟨h1, RowC.after h2 h⟩
  have KS : Hid (∀ w', RowC w3 w.heap.size 29 (rowOf 85 (nF N)) w' → Calls Try.prog 17 #[] w' fun e w'' => e = .returned (.bool true) ∧ RowC w3 w.heap.size 29 (rowOf 85 (nF N)) w'') := fun w' h => (shown14_any w').mono fun e w'' ⟨h1, h2⟩ => ⟨h1, RowC.after h2 h⟩
  refine wp_region_class (RowC w3 w.heap.size 29 (rowOf 85 (nF N))) (by kernel_rfl) (by kernel_rfl) HC.out ?_
  refine wpQuiet_load_row (by rfl) 29 _ rfl w.heap.size rfl 29 _ _ (fun w' hC => hC.2) Try.underlying29 rfl (infoNod' _) ?_
  simp only [Act.put, List.setIfInBounds_toArray, List.set_cons_succ, List.set_cons_zero]
  (go_big_quiet_want; go_big_quiet_op; apply Exists.intro; refine ⟨KM.out, ?_⟩; go_big_quiet_on)
  refine wpQuiet_load_row (by rfl) 29 _ rfl w.heap.size rfl 29 _ _ (fun w' hC => hC.2) Try.underlying29 rfl (infoNod' _) ?_
  simp only [Act.put, List.setIfInBounds_toArray, List.set_cons_succ, List.set_cons_zero]
  (go_big_quiet_want; go_big_quiet_op; apply Exists.intro; refine ⟨KI.out, ?_⟩; go_big_quiet_on)
  (go_big_quiet_want; go_big_quiet_op; apply Exists.intro; refine ⟨KR.out, ?_⟩; go_big_quiet_on)
  refine wpQuiet_val (by rfl) (.bool false) (fun w' hC => by go_simp) ?_
  simp only [Act.put, List.setIfInBounds_toArray, List.set_cons_succ, List.set_cons_zero]
  refine wpQuiet_val (by rfl) (.bool false) (fun w' hC => by go_simp) ?_
  simp only [Act.put, List.setIfInBounds_toArray, List.set_cons_succ, List.set_cons_zero]
  refine wpQuiet_load_row (by rfl) 29 _ rfl w.heap.size rfl 29 _ _ (fun w' hC => hC.2) Try.underlying29 rfl (infoNod' _) ?_
  simp only [Act.put, List.setIfInBounds_toArray, List.set_cons_succ, List.set_cons_zero]
  (go_big_quiet_want; go_big_quiet_op; apply Exists.intro; refine ⟨KE.out, ?_⟩; go_big_quiet_on)
  refine wpQuiet_load_row (by rfl) 29 _ rfl w.heap.size rfl 29 _ _ (fun w' hC => hC.2) Try.underlying29 rfl (infoNod' _) ?_
  simp only [Act.put, List.setIfInBounds_toArray, List.set_cons_succ, List.set_cons_zero]
  (go_big_quiet_want; go_big_quiet_op; apply Exists.intro; refine ⟨KI.out, ?_⟩; go_big_quiet_on)
  (go_big_quiet_want; go_big_quiet_op; apply Exists.intro; refine ⟨KF.out, ?_⟩; go_big_quiet_on)
  refine wpQuiet_val (by rfl) (.bool false) (fun w' hC => by go_simp) ?_
  simp only [Act.put, List.setIfInBounds_toArray, List.set_cons_succ, List.set_cons_zero]
  refine wpQuiet_val (by rfl) (.bool false) (fun w' hC => by go_simp) ?_
  simp only [Act.put, List.setIfInBounds_toArray, List.set_cons_succ, List.set_cons_zero]
  refine wpQuiet_val (by rfl) (.bool false) (fun w' hC => by go_simp) ?_
  simp only [Act.put, List.setIfInBounds_toArray, List.set_cons_succ, List.set_cons_zero]
  refine wpQuiet_val (by rfl) (.string s) (fun w' hC => by go_simp) ?_
  simp only [Act.put, List.setIfInBounds_toArray, List.set_cons_succ, List.set_cons_zero]
  refine wpQuiet_val (by rfl) (.string s) (fun w' hC => by go_simp) ?_
  simp only [Act.put, List.setIfInBounds_toArray, List.set_cons_succ, List.set_cons_zero]
  refine wpQuiet_val (by rfl) (.bool false) (fun w' hC => by go_simp) ?_
  simp only [Act.put, List.setIfInBounds_toArray, List.set_cons_succ, List.set_cons_zero]
  refine wpQuiet_val (by rfl) (.bool false) (fun w' hC => by go_simp) ?_
  simp only [Act.put, List.setIfInBounds_toArray, List.set_cons_succ, List.set_cons_zero]
  refine wpQuiet_val (by rfl) (.bool false) (fun w' hC => by go_simp) ?_
  simp only [Act.put, List.setIfInBounds_toArray, List.set_cons_succ, List.set_cons_zero]
  refine wpQuiet_val (by rfl) (.int .i64 E) (fun w' hC => by go_simp) ?_
  simp only [Act.put, List.setIfInBounds_toArray, List.set_cons_succ, List.set_cons_zero]
  refine wpQuiet_val (by rfl) (.int .i64 E) (fun w' hC => by go_simp) ?_
  simp only [Act.put, List.setIfInBounds_toArray, List.set_cons_succ, List.set_cons_zero]
  refine wpQuiet_val (by rfl) (.bool false) (fun w' hC => by go_simp) ?_
  simp only [Act.put, List.setIfInBounds_toArray, List.set_cons_succ, List.set_cons_zero]
  refine wpQuiet_val (by rfl) (.bool false) (fun w' hC => by go_simp) ?_
  simp only [Act.put, List.setIfInBounds_toArray, List.set_cons_succ, List.set_cons_zero]
  refine wpQuiet_val (by rfl) (.bool false) (fun w' hC => by go_simp) ?_
  simp only [Act.put, List.setIfInBounds_toArray, List.set_cons_succ, List.set_cons_zero]
  (go_big_quiet_want; go_big_quiet_op; apply Exists.intro; refine ⟨KS.out, ?_⟩; go_big_quiet_on)
  refine wpQuiet_val (by rfl) (.bool false) (fun w' hC => by go_simp) ?_
  simp only [Act.put, List.setIfInBounds_toArray, List.set_cons_succ, List.set_cons_zero]
  refine wpQuiet_val (by rfl) (.bool false) (fun w' hC => by go_simp) ?_
  simp only [Act.put, List.setIfInBounds_toArray, List.set_cons_succ, List.set_cons_zero]
  refine wpQuiet_nil ?_
  intro w4 hC
  have r4 := Lib.hid hC.2
  have b4 := Lib.hid (b0.out.trans (hC.1.mono b0.out.size))
  clear hC HC KM KI KR KE KF KS KM0 KR0 KE0 KF0 r0 b0
  rcases fate with ⟨hE, rfl⟩ | ⟨rfl, rfl, sm⟩
  · have nz : (E != 0) = true := by simpa using hE
    go_wp2
    go_ret
    exact ⟨rfl, b4.out⟩
  · have SM := Lib.hid sm
    clear sm
    go_wp2_with fail
    refine (DE.out w4).mono ?_
    rintro e w5 ⟨rfl, b5⟩
    replace r4 := Lib.hid ((r4.out.below b5 r4.out.lt).alloc (.cells (rowOf 85 (nF M)) 29))
    replace b4 := Lib.hid (b4.out.trans (b5.mono b4.out.size))
    have r6 := Lib.hid (RowAt.new w5 29 (rowOf 85 (nF M)))
    have b6 := Lib.hid (b4.out.alloc b4.out.size (.cells (rowOf 85 (nF M)) 29))
    clear DE b5 b4
    go_wp2_with (first | (refine wpList_new rfl (run_allocNod rfl _) ?_) | (refine wpList_store_row rfl 29 _ _ rfl w5.heap.size (rowOf 85 (nF M)) rfl rfl 29 _ (RowAt.new _ _ _) (infoNod' _) (by simp only [rowOf_size]) (nF_all' _) ?_; rw [World.setRow_alloc_new]) | (refine wpList_wload_row (by kernel_rfl) 29 _ rfl w5.heap.size rfl 29 _ _ r6.out Try.underlying29 rfl (infoNod' _) ?_) | (refine wpList_wload_row (by kernel_rfl) 29 _ rfl w.heap.size rfl 29 _ _ r4.out Try.underlying29 rfl (infoNod' _) ?_) | (refine wpList_wknown (by kernel_rfl) (run_eql_nod SM.out rfl rfl rfl _) ?_))
    go_ret
    exact ⟨rfl, b6.out⟩

end Go.Proofs.Ytapebaoajknepaa
