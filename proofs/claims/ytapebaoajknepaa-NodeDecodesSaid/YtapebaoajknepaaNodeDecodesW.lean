/-
  The walk of NodeDecodes.
-/
import Derived.Test.YtapebaoajknepaaNodeShown
import Derived.Test.YtapebaoajknepaaNodeIts
import Derived.Test.YtapebaoajknepaaNodeRefDec
import Derived.Test.YtapebaoajknepaaNodeRefEnc
import Derived.Test.YtapebaoajknepaaNodeOpen
import Derived.Test.YtapebaoajknepaaAdvStep
namespace Go.Proofs.Ytapebaoajknepaa
open Go.RowKit
set_option linter.unusedVariables false

theorem rdU_bad {N : Nod} {L : List UInt8} {n : Nat} : ∀ {i : Nat}, rdU N L i = .error n → n ≠ 0
  | 0, h => by cases h
  | i + 1, h => by
    have h' : (match rdU N L i with | .error e => (Except.error e : Except Nat (Nod × List UInt8)) | .ok (M, L1) => match rdC M.l L1 with | .error e => .error e | .ok (c, L2) => .ok (M.put i c, L2)) = .error n := h
    cases e : rdU N L i with
    | error m =>
      rw [e] at h'
      cases h'
      exact rdU_bad e
    | ok a =>
      obtain ⟨M0, L0⟩ := a
      rw [e] at h'
      simp only at h'
      cases e2 : rdC M0.l L0 with
      | error m =>
        rw [e2] at h'
        cases h'
        exact rdC_bad e2
      | ok b => rw [e2] at h'; cases h'
theorem decN_bad {L : List UInt8} {n : Nat} (h : decN L = .error n) : n ≠ 0 := by
  unfold decN rdA at h
  cases e1 : rdB 2 L with
  | error m => rw [e1] at h; cases h; exact rdB_bad e1
  | ok a =>
    obtain ⟨b, L1⟩ := a
    rw [e1] at h
    simp only at h
    cases e2 : rdU ⟨decide (b = 1), fun _ => noChd⟩ L1 4 with
    | error m => rw [e2] at h; cases h; exact rdU_bad e2
    | ok a =>
      obtain ⟨N, L2⟩ := a
      rw [e2] at h
      simp only at h
      by_cases hL : L2 = []
      · rw [if_pos hL] at h; cases h
      · rw [if_neg hL] at h; cases h; decide
/-- Two nodes that lie in blocks. -/
def TwoR (w : World) (p q : Nat) (M : Nod) (w' : World) : Prop := Below w.heap.size w w' ∧ RowAt w' p 29 (rowOf 85 (nF M)) ∧ RowAt w' q 37 (rowOf 85 (nF M))
theorem TwoR.after {w w1 w2 : World} {p q : Nat} {M : Nod} (hb : Below w1.heap.size w1 w2) (h : TwoR w p q M w1) : TwoR w p q M w2 := ⟨h.1.trans (hb.mono h.1.size), h.2.1.below hb h.2.1.lt, h.2.2.below hb h.2.2.lt⟩

set_option maxHeartbeats 4000000 in
set_option maxRecDepth 8000 in
theorem decodes_walk (s : ByteArray) (hw : s.size ≤ maxLen) (w : World) :
    Calls Try.prog 4 #[.string s] w fun e w' => e = .returned (.bool true) ∧ Below w.heap.size w w' := by
  have SH := Lib.hid (fun W => shown14_any W)
  by_cases hs : s.size ≤ 600
  · have d0 : decide ((s.size : Int) > 600) = false := decide_eq_false (by omega)
    have d1 : decide ((600 : Int) < (s.size : Int)) = false := d0
    have d2 : decide (600 < s.size) = false := decide_eq_false (by omega)
    have DE := Lib.hid (fun W => decode_any s W)
    have RD := Lib.hid (fun W => refDecode_any s (by omega) W)
    have IT := Lib.hid (fun N W => its_any N W)
    have SM : Hid (∀ M, (!sameN M M) = false) := fun M => by rw [sameN_rfl]; rfl
    have fate : (decV s.data.toList = noNod ∧ decE s.data.toList ≠ 0) ∨ (decE s.data.toList = 0 ∧ mayN (decV s.data.toList) = true ∧ bs (encN (decV s.data.toList)) = s ∧ ∀ i, i < 4 → BndC ((decV s.data.toList).c i)) := by
      unfold decV decE
      cases h : decN s.data.toList with
      | error n => exact .inl ⟨rfl, decN_bad h⟩
      | ok M =>
        obtain ⟨h1, h2, h3⟩ := decN_ok h
        exact .inr ⟨rfl, h1, by show bs (encN M) = s; rw [h2, bs_data], h3⟩
    generalize decV s.data.toList = M at *
    generalize decE s.data.toList = E at *
    go_enter Try.func4, Try.ntmps4
    go_wp2_with fail
    refine (SH.out w).mono ?_
    rintro e w1 ⟨rfl, b1⟩
    go_wp2_with fail
    refine (DE.out w1).mono ?_
    rintro e w2 ⟨rfl, b2⟩
    have p2 := Lib.hid (RowAt.new w2 29 (rowOf 85 (nF M)))
    have b3 := Lib.hid ((b1.trans (b2.mono b1.size)).alloc (b1.trans (b2.mono b1.size)).size (.cells (rowOf 85 (nF M)) 29))
    clear DE b1 b2 d0 d1 d2
    go_wp2_with (first | (refine wpList_new rfl (run_allocNod rfl _) ?_) | (refine wpList_store_row rfl 29 _ _ rfl w2.heap.size (rowOf 85 (nF M)) rfl rfl 29 _ (RowAt.new _ _ _) (infoNod' _) (by simp only [rowOf_size]) (nF_all' _) ?_; rw [World.setRow_alloc_new]))
    generalize w2.heap.size = p at *
    generalize w2.alloc (.cells (rowOf 85 (nF M)) 29) = w3 at *
    refine (RD.out w3).mono ?_
    rintro e w4 ⟨rfl, b4⟩
    replace p2 := Lib.hid ((p2.out.below b4 p2.out.lt).alloc (.cells (rowOf 85 (nF M)) 37))
    replace b3 := Lib.hid (b3.out.trans (b4.mono b3.out.size))
    have q2 := Lib.hid (RowAt.new w4 37 (rowOf 85 (nF M)))
    have b5 := Lib.hid (b3.out.alloc b3.out.size (.cells (rowOf 85 (nF M)) 37))
    clear RD b4 b3
    go_wp2_with (first | (refine wpList_new rfl (run_allocNodRef rfl _) ?_) | (refine wpList_store_row rfl 37 _ _ rfl w4.heap.size (rowOf 85 (nF M)) rfl rfl 37 _ (RowAt.new _ _ _) (infoNodRef' _) (by simp only [rowOf_size]) (nF_all' _) ?_; rw [World.setRow_alloc_new]))
    generalize w4.heap.size = q at *
    generalize w4.alloc (.cells (rowOf 85 (nF M)) 37) = w5 at *
    have HC : Hid (TwoR w5 p q M w5.drew) := ⟨(Below.refl _ _).drew, p2.out, q2.out⟩
    have KI : Hid (∀ w', TwoR w5 p q M w' → Calls Try.prog 12 #[.agg (rowOf 85 (nF M))] w' fun e w'' => e = .returned (.agg (rowOf 85 (nF M))) ∧ TwoR w5 p q M w'') := fun w' h => (IT.out M w').mono fun e w'' ⟨h1, h2⟩ => ⟨h1, TwoR.after h2 h⟩
    refine wp_region_class (TwoR w5 p q M) (by kernel_rfl) (by kernel_rfl) HC.out ?_
    refine wpQuiet_load_row (by rfl) 29 _ rfl p rfl 29 _ _ (fun w' hC => hC.2.1) Try.underlying29 rfl (infoNod' _) ?_
    simp only [Act.put, List.setIfInBounds_toArray, List.set_cons_succ, List.set_cons_zero]
    (go_big_quiet_want; go_big_quiet_op; apply Exists.intro; refine ⟨KI.out, ?_⟩; go_big_quiet_on)
    refine wpQuiet_load_row (by rfl) 37 _ rfl q rfl 37 _ _ (fun w' hC => hC.2.2) Try.underlying37 rfl (infoNodRef' _) ?_
    simp only [Act.put, List.setIfInBounds_toArray, List.set_cons_succ, List.set_cons_zero]
    refine wpQuiet_val (by rfl) (.bool false) (fun w' hC => run_neq_nodRef (SM.out M) rfl rfl rfl _) ?_
    simp only [Act.put, List.setIfInBounds_toArray, List.set_cons_succ, List.set_cons_zero]
    refine wpQuiet_val (by rfl) (.bool false) (fun w' hC => by go_simp) ?_
    simp only [Act.put, List.setIfInBounds_toArray, List.set_cons_succ, List.set_cons_zero]
    refine wpQuiet_val (by rfl) (.int .i64 (E : Int)) (fun w' hC => by go_simp) ?_
    simp only [Act.put, List.setIfInBounds_toArray, List.set_cons_succ, List.set_cons_zero]
    refine wpQuiet_val (by rfl) (.int .i64 (E : Int)) (fun w' hC => by go_simp) ?_
    simp only [Act.put, List.setIfInBounds_toArray, List.set_cons_succ, List.set_cons_zero]
    refine wpQuiet_val (by rfl) (.bool false) (fun w' hC => by go_simp) ?_
    simp only [Act.put, List.setIfInBounds_toArray, List.set_cons_succ, List.set_cons_zero]
    refine wpQuiet_val (by rfl) (.bool false) (fun w' hC => by go_simp) ?_
    simp only [Act.put, List.setIfInBounds_toArray, List.set_cons_succ, List.set_cons_zero]
    refine wpQuiet_nil ?_
    intro w6 hC
    have p6 := Lib.hid hC.2.1
    have b6 := Lib.hid (b5.out.trans (hC.1.mono b5.out.size))
    clear hC HC KI p2 q2 b5
    rcases fate with ⟨rfl, hE⟩ | ⟨rfl, hm, he, hb⟩
    · have nz : ((E : Int) != 0) = true := by simpa using hE
      have SN : sameN noNod noNod = true := sameN_rfl _
      go_wp2_with (first | (refine wpList_load_row rfl 29 _ rfl p rfl 29 _ (0, 0) _ p6.out Try.underlying29 rfl (infoNod' _) ?_) | (refine wpList_buildTo rfl 29 _ rfl _ rfl (rowOf 85 (nF noNod)) (by kernel_rfl) ?_) | (refine wpList_known rfl (run_eql_nod SN rfl rfl rfl _) ?_))
      go_ret
      exact ⟨rfl, b6.out⟩
    · have EN := Lib.hid (encode_any M hb)
      rw [show encS M = bs (encN M) from if_pos hm, show encE M = 0 from if_pos hm, he] at EN
      clear hm he hb
      go_wp2_with (refine wpList_load_row rfl 29 _ rfl p rfl 29 _ (0, 0) _ p6.out Try.underlying29 rfl (infoNod' _) ?_)
      refine (EN.out _).mono ?_
      rintro e w7 ⟨rfl, b7⟩
      go_wp2
      go_ret
      exact ⟨rfl, b6.out.trans (b7.mono b6.out.size)⟩
  · have d0 : decide ((s.size : Int) > 600) = true := decide_eq_true (by omega)
    have d1 : decide ((600 : Int) < (s.size : Int)) = true := d0
    have d2 : decide (600 < s.size) = true := decide_eq_true (by omega)
    go_enter Try.func4, Try.ntmps4
    go_wp2_with fail
    refine (SH.out w).mono ?_
    rintro e w1 ⟨rfl, b1⟩
    go_wp2
    go_ret
    exact ⟨rfl, b1⟩

end Go.Proofs.Ytapebaoajknepaa
