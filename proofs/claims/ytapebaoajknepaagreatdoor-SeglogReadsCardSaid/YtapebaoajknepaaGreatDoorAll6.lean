/-
  Texts 6 of 8, merged.
-/
import Derived.Test.YtapebaoajknepaaGreatDoorAll5
import Derived.OwnWalkIn
import Derived.TacticsInMore
import Derived.RangeFuncBox
import Derived.RangeFuncLeaves
import Derived.MapKept
import Derived.WideMake
import Derived.Lib.ItoaNum
/-
  Contracts: blanks, and its iterator: the pages of a segment that are not programmed.
-/
namespace Go.Proofs.YtapebaoajknepaaGreatDoor
open Go.RowKit
set_option linter.unusedVariables false

theorem Lg.outer {B : Nat} {w w' : World} {lp : Nat} {L : Lay} {S : St} {hv : Value} {G : Sg} {K : Nat → Prop} (h : Lg B w lp L S hv G) (c : OuterK K w w') (hK : ∀ k, footG lp L hv k → K k) : Lg B w' lp L S hv G :=
  ⟨h.ch.outer c (fun k hk => hK k (.inr hk)), c.row h.log (hK _ (.inl rfl)), h.lo, h.up, h.wide, h.opn⟩

/-- The first t pages' blanks of a segment. -/
def blL (S : St) (seg : Nat) : Nat → List Nat
  | 0 => []
  | t + 1 => blL S seg t ++ (if isB (S.page seg t) = true then [] else [t])

theorem blL_pre (S : St) (seg t : Nat) : ∀ d, ∃ r, blL S seg (t + d) = blL S seg t ++ r
  | 0 => ⟨[], by simp⟩
  | d + 1 => by
    obtain ⟨r, hr⟩ := blL_pre S seg t d
    refine ⟨r ++ (if isB (S.page seg (t + d)) = true then [] else [t + d]), ?_⟩
    show blL S seg (t + d) ++ (if isB (S.page seg (t + d)) = true then [] else [t + d]) = _
    rw [hr, List.append_assoc]
theorem blL_none {S : St} {seg t : Nat} (h : isB (S.page seg t) = true) : blL S seg (t + 1) = blL S seg t := by
  show blL S seg t ++ _ = _
  rw [if_pos h, List.append_nil]
theorem blL_at {S : St} {seg t m : Nat} (ht : t < m) (h : isB (S.page seg t) = false) : (blL S seg t).length < (blL S seg m).length ∧ (blL S seg m).getD (blL S seg t).length 0 = t ∧ (blL S seg (t + 1)).length = (blL S seg t).length + 1 := by
  have h1 : blL S seg (t + 1) = blL S seg t ++ [t] := by
    show blL S seg t ++ _ = _
    rw [if_neg (by rw [h]; decide)]
  obtain ⟨r, hr⟩ := blL_pre S seg (t + 1) (m - (t + 1))
  rw [show t + 1 + (m - (t + 1)) = m by omega] at hr
  rw [hr, h1]
  refine ⟨by simp, ?_, by simp⟩
  simp [List.getD_eq_getElem?_getD]
theorem blL_length (S : St) (seg : Nat) : ∀ t, (blL S seg t).length ≤ t
  | 0 => Nat.le_refl _
  | t + 1 => by
    show (blL S seg t ++ _).length ≤ _
    have := blL_length S seg t
    rw [List.length_append]
    split
    · simp; omega
    · simp; omega

set_option maxRecDepth 8000 in
theorem blanks_any (lp : Nat) (z : Int) (w : World) :
    Calls Tryz.prog 37 #[.pointer (some ⟨lp, 0, none⟩), .int .i64 z] w fun e w' => e = .returned (.func (.func 72) #[] #[.pointer (some ⟨w.heap.size, 0, none⟩), .pointer (some ⟨w.heap.size + 1, 0, none⟩)]) ∧
      Hid (RowAt w' w.heap.size 28 #[.pointer (some ⟨lp, 0, none⟩)]) ∧ Hid (RowAt w' (w.heap.size + 1) 3 #[.int .i64 z]) ∧ w'.heap.size = w.heap.size + 2 ∧ Below w.heap.size w w' := by
  have b0 := ((Below.refl w.heap.size w).alloc (Nat.le_refl _) (.cells #[.pointer (some ⟨lp, 0, none⟩)] 28)).alloc (by simp) (.cells #[.int .i64 z] 3)
  have r0 := Lib.hid ((RowAt.new w 28 #[.pointer (some ⟨lp, 0, none⟩)]).alloc (.cells #[.int .i64 z] 3))
  have r1 := RowAt.new (w.alloc (.cells #[.pointer (some ⟨lp, 0, none⟩)] 28)) 3 #[.int .i64 z]
  rw [World.size_alloc] at r1
  replace r1 := Lib.hid r1
  go_enter Tryz.func37, Tryz.ntmps37
  go_wp2
  go_ret
  exact ⟨rfl, r0, r1, by simp, b0⟩

/-- What the iterator leans on. -/
structure ItB (B : Nat) (lp : Nat) (L : Lay) (S : St) (hv : Value) (G : Sg) (s seg : Nat) (w : World) : Prop where
  lg : Lg B w lp L S hv G
  b1 : RowAt w s 28 #[.pointer (some ⟨lp, 0, none⟩)]
  b2 : RowAt w (s + 1) 3 #[.int .i64 (seg : Nat)]
section
variable {B : Nat} {lp : Nat} {L : Lay} {S : St} {hv : Value} {G : Sg} {s seg : Nat} {w w' : World}
theorem ItB.after (h : ItB B lp L S hv G s seg w) (hb : Below w.heap.size w w') : ItB B lp L S hv G s seg w' := ⟨h.lg.after hb, h.b1.below hb h.b1.lt, h.b2.below hb h.b2.lt⟩
theorem ItB.outer {K : Nat → Prop} (h : ItB B lp L S hv G s seg w) (c : OuterK K w w') (hK : K s ∧ K (s + 1) ∧ ∀ k, footG lp L hv k → K k) : ItB B lp L S hv G s seg w' := ⟨h.lg.outer c hK.2.2, c.row h.b1 hK.1, c.row h.b2 hK.2.1⟩
end

theorem wp_at_yield4 {P : Program} {ops : Array Oper} {Q : Exit → Act → World → Prop} {a : Act} {w : World} (h : (Code.region 4 ops false).wpIn Fence.wide 1 P (fun e a w => Hid (Q e a w)) a w) : (Code.region 4 ops false).wp P Q a w := wpIn_wide.1 (wpIn_mono h fun e a w h => h.out)

set_option maxHeartbeats 4000000 in
set_option maxRecDepth 8000 in
theorem blanks_seq (B : Nat) (lp : Nat) (L : Lay) (S : St) (hv : Value) (G : Sg) (seg : Nat) (hseg : seg < L.n) (s : Nat) (K : Nat → Prop) (C : World → Prop) (w0 : World)
    (h : Hid (ItB B lp L S hv G s seg w0)) (hK : Hid (K s ∧ K (s + 1) ∧ ∀ k, footG lp L hv k → K k)) :
    SeqK K C Tryz.prog 72 #[.pointer (some ⟨s, 0, none⟩), .pointer (some ⟨s + 1, 0, none⟩)] (blL S seg L.m).length (fun k => #[.agg #[.int .i64 (seg : Nat), .int .i64 (((blL S seg L.m).getD k 0 : Nat) : Int)]]) w0 := by
  intro l J W hW hJ hC hY h0
  have HY := Lib.hid hY
  have HJ := Lib.hid hJ
  have H0 := Lib.hid h0
  have I0 := Lib.hid (h.out.after hW)
  clear hY hJ h0 hW h hC
  show Calls _ _ #[.func (.yield l) #[] #[], .pointer (some ⟨s, 0, none⟩), .pointer (some ⟨s + 1, 0, none⟩)] W _
  have c1 := I0.out.b1.one 0 rfl
  have c0 := I0.out.lg.l0
  have PG := Lib.hid (pages_any B W L S hv (Lib.hid I0.out.lg.ch))
  go_enter Tryz.func72, Tryz.ntmps72
  go_wp2_with fail
  refine PG.out.mono ?_
  rintro e w1 ⟨rfl, rfl⟩
  clear PG c1 c0
  have hm := I0.out.lg.ch.room.2.2
  go_wp2
  go_loopw [13] (fun v wr => ∃ t : Nat, t ≤ L.m ∧ v = .int .i64 (t : Int) ∧ Hid (J (blL S seg t).length wr) ∧ Hid (ItB B lp L S hv G s seg wr)) (fun v _ => L.m - (intOf v).toNat)
  case atStart => exact ⟨0, Nat.zero_le _, rfl, H0, I0⟩
  case round =>
    clear H0 I0
    obtain ⟨t, ht, rfl, hj, hI⟩ := hrel
    by_cases htm : t < L.m
    · have l0 : (t : Int) < (L.m : Int) := by omega
      have c1 := hI.out.b1.one 0 rfl
      have c2 := hI.out.b2.one 0 rfl
      have c0 := hI.out.lg.l0
      go_wp2_with fail
      have b3 : Below wr.heap.size wr wr.drew := (Below.refl _ _).drew
      have I3 := Lib.hid (hI.out.after b3)
      have j3 := Lib.hid (HJ.out _ _ _ hj.out b3)
      clear c1 c2 c0 hI hj b3
      generalize hw3 : wr.drew = w3 at *
      have R := Lib.hid (fun w' (hC : Below w3.heap.size w3 w') => read_yes B w' L S hv (Lib.hid (I3.out.after hC).lg.ch) seg t hseg htm I3.out.lg.up)
      refine wp_region_class (fun w' => Below w3.heap.size w3 w') (by kernel_rfl) (by kernel_rfl) (by rw [hw3]; exact Below.refl _ _) ?_
      refine wpQuiet_val rfl (.pointer (some ⟨lp, 0, none⟩)) (fun w' hC => by
        have hc := I3.out.after hC
        have c0 := hc.lg.l0
        have c1 := hc.b1.one 0 rfl
        have c2 := hc.b2.one 0 rfl
        go_simp) ?_
      simp only [Act.put, List.setIfInBounds_toArray, List.set_cons_succ, List.set_cons_zero]
      refine wpQuiet_val rfl (.pointer (some ⟨lp, 0, none⟩)) (fun w' hC => by
        have hc := I3.out.after hC
        have c0 := hc.lg.l0
        have c1 := hc.b1.one 0 rfl
        have c2 := hc.b2.one 0 rfl
        go_simp) ?_
      simp only [Act.put, List.setIfInBounds_toArray, List.set_cons_succ, List.set_cons_zero]
      refine wpQuiet_val rfl (.pointer (some ⟨lp, 0, none⟩)) (fun w' hC => by
        have hc := I3.out.after hC
        have c0 := hc.lg.l0
        have c1 := hc.b1.one 0 rfl
        have c2 := hc.b2.one 0 rfl
        go_simp) ?_
      simp only [Act.put, List.setIfInBounds_toArray, List.set_cons_succ, List.set_cons_zero]
      refine wpQuiet_val rfl (.pointer (some ⟨L.cp, 0, none⟩)) (fun w' hC => by
        have hc := I3.out.after hC
        have c0 := hc.lg.l0
        have c1 := hc.b1.one 0 rfl
        have c2 := hc.b2.one 0 rfl
        go_simp) ?_
      simp only [Act.put, List.setIfInBounds_toArray, List.set_cons_succ, List.set_cons_zero]
      refine wpQuiet_val rfl (.int .i64 (seg : Nat)) (fun w' hC => by
        have hc := I3.out.after hC
        have c0 := hc.lg.l0
        have c1 := hc.b1.one 0 rfl
        have c2 := hc.b2.one 0 rfl
        go_simp) ?_
      simp only [Act.put, List.setIfInBounds_toArray, List.set_cons_succ, List.set_cons_zero]
      refine wpQuiet_val rfl (.int .i64 (t : Nat)) (fun w' hC => by
        have hc := I3.out.after hC
        have c0 := hc.lg.l0
        have c1 := hc.b1.one 0 rfl
        have c2 := hc.b2.one 0 rfl
        go_simp) ?_
      simp only [Act.put, List.setIfInBounds_toArray, List.set_cons_succ, List.set_cons_zero]
      (go_big_quiet_want; go_big_quiet_op; apply Exists.intro; refine ⟨fun w' hC => (R.out w' hC).mono fun e w'' h => ⟨h.1, hC.trans (h.2.mono hC.size)⟩, ?_⟩; go_big_quiet_on)
      refine wpQuiet_val rfl (.tuple #[.string (S.page seg t), .bool (isB (S.page seg t)), .int .i64 0]) (fun w' hC => by
        have hc := I3.out.after hC
        have c0 := hc.lg.l0
        have c1 := hc.b1.one 0 rfl
        have c2 := hc.b2.one 0 rfl
        go_simp) ?_
      simp only [Act.put, List.setIfInBounds_toArray, List.set_cons_succ, List.set_cons_zero]
      refine wpQuiet_val rfl (.string (S.page seg t)) (fun w' hC => by
        have hc := I3.out.after hC
        have c0 := hc.lg.l0
        have c1 := hc.b1.one 0 rfl
        have c2 := hc.b2.one 0 rfl
        go_simp) ?_
      simp only [Act.put, List.setIfInBounds_toArray, List.set_cons_succ, List.set_cons_zero]
      refine wpQuiet_val rfl (.bool (isB (S.page seg t))) (fun w' hC => by
        have hc := I3.out.after hC
        have c0 := hc.lg.l0
        have c1 := hc.b1.one 0 rfl
        have c2 := hc.b2.one 0 rfl
        go_simp) ?_
      simp only [Act.put, List.setIfInBounds_toArray, List.set_cons_succ, List.set_cons_zero]
      refine wpQuiet_val rfl (.int .i64 0) (fun w' hC => by
        have hc := I3.out.after hC
        have c0 := hc.lg.l0
        have c1 := hc.b1.one 0 rfl
        have c2 := hc.b2.one 0 rfl
        go_simp) ?_
      simp only [Act.put, List.setIfInBounds_toArray, List.set_cons_succ, List.set_cons_zero]
      refine wpQuiet_val rfl (.string (S.page seg t)) (fun w' hC => by
        have hc := I3.out.after hC
        have c0 := hc.lg.l0
        have c1 := hc.b1.one 0 rfl
        have c2 := hc.b2.one 0 rfl
        go_simp) ?_
      simp only [Act.put, List.setIfInBounds_toArray, List.set_cons_succ, List.set_cons_zero]
      refine wpQuiet_val rfl (.bool (isB (S.page seg t))) (fun w' hC => by
        have hc := I3.out.after hC
        have c0 := hc.lg.l0
        have c1 := hc.b1.one 0 rfl
        have c2 := hc.b2.one 0 rfl
        go_simp) ?_
      simp only [Act.put, List.setIfInBounds_toArray, List.set_cons_succ, List.set_cons_zero]
      refine wpQuiet_val rfl (.int .i64 0) (fun w' hC => by
        have hc := I3.out.after hC
        have c0 := hc.lg.l0
        have c1 := hc.b1.one 0 rfl
        have c2 := hc.b2.one 0 rfl
        go_simp) ?_
      simp only [Act.put, List.setIfInBounds_toArray, List.set_cons_succ, List.set_cons_zero]
      refine wpQuiet_nil fun w4 hC => ?_
      have I4 := Lib.hid (I3.out.after hC)
      have j4 := Lib.hid (HJ.out _ _ _ j3.out hC)
      clear R I3 j3 hC hw3
      cases hb : isB (S.page seg t)
      · obtain ⟨dk, dg, dn⟩ := blL_at htm hb
        have Y := HY.out _ w4 j4.out dk
        rw [dg] at Y
        obtain ⟨fn, tm, asg, bd, hy, hR⟩ := Y
        have hR' := Lib.hid hR
        have dn' := Lib.hid dn
        have c2 := I4.out.b2.one 0 rfl
        clear hR hb dk dg dn j4
        repeat (first | (with_reducible refine wp_at_yield4 ?_) | go_values | go_skip | go_guarded | go_step | go_upon | go_back)
        gi_wp2
        refine hR'.out.mono ?_
        rintro e w5 ⟨rfl, j5, o5⟩
        have I5 := Lib.hid (I4.out.outer o5 hK.out)
        rw [← dn'.out] at j5
        replace j5 := Lib.hid j5
        clear hR' hy I4 o5 c2
        gi_wp2
        refine Lib.hid ?_
        go_wp2
        go_roundw
        case rel => exact ⟨t + 1, by omega, by go_num, j5, I5⟩
        case measure => simp [intOf]; omega
      · have ed : Hid (blL S seg (t + 1) = blL S seg t) := blL_none hb
        have j5 : Hid (J (blL S seg (t + 1)).length w4) := by unfold Hid; rw [ed.out]; exact j4.out
        clear hb ed j4
        go_wp2
        go_roundw
        case rel => exact ⟨t + 1, by omega, by go_num, j5, I4⟩
        case measure => simp [intOf]; omega
    · have et : t = L.m := by omega
      subst et
      have l0 : ¬ (L.m : Int) < (L.m : Int) := by omega
      go_wp2
      go_end0
      exact ⟨⟨_, rfl⟩, hj.out⟩

end Go.Proofs.YtapebaoajknepaaGreatDoor
/-
  Contract: left: how many pages of a segment are not programmed.
-/
namespace Go.Proofs.YtapebaoajknepaaGreatDoor
open Go.RowKit
set_option linter.unusedVariables false

set_option maxHeartbeats 4000000 in
set_option maxRecDepth 8000 in
theorem left_any (B : Nat) (lp : Nat) (L : Lay) (S : St) (hv : Value) (G : Sg) (seg : Nat) (hseg : seg < L.n) (w : World) (h : Hid (Lg B w lp L S hv G)) :
    Calls Tryz.prog 25 #[.pointer (some ⟨lp, 0, none⟩), .int .i64 (seg : Nat)] w fun e w' => e = .returned (.int .i64 ((blL S seg L.m).length : Nat)) ∧ Below w.heap.size w w' := by
  have hm16 : Hid ((blL S seg L.m).length ≤ 16) := by have := blL_length S seg L.m; have := h.out.ch.room.2.2; unfold Hid; omega
  obtain ⟨N, hN⟩ : ∃ N, Hid ((blL S seg L.m).length = N) := ⟨_, rfl⟩
  rw [hN.out] at hm16 ⊢
  refine (callsIn_wide (n := 1)).1 (callsIn_of_wp_marks Tryz.func25 rfl trivial (wpIn_wide.2 ?_) rfl)
  simp only [Tryz.ntmps25, List.size_toArray, List.length_cons, List.length_nil, Nat.reduceAdd, Nat.reduceSub, Array.replicate_succ, Array.replicate_zero, List.push_toArray, List.append_toArray, List.nil_append, List.cons_append]
  have b1 : Below w.heap.size w (w.alloc (.cells #[.int .i64 0] 3)) := (Below.refl _ _).alloc (Nat.le_refl _) _
  have r1 := Lib.hid (RowAt.new w 3 #[.int .i64 0])
  have h1 := Lib.hid (h.out.after b1)
  have BL := Lib.hid (blanks_any lp (seg : Int) (w.alloc (.cells #[.int .i64 0] 3)))
  obtain ⟨q, hq⟩ : ∃ q, Hid (q = w.heap.size) := ⟨_, rfl⟩
  go_wp2_with fail
  rw [← hq.out] at r1 b1 ⊢
  have hq1 : (w.alloc (.cells #[.int .i64 0] 3)).heap.size = q + 1 := by rw [World.size_alloc, hq.out]
  generalize w.alloc (.cells #[.int .i64 0] 3) = w1 at *
  refine BL.out.mono ?_
  rintro e w3 ⟨rfl, c1, c2, hz3, hb3⟩
  have b3 : Below q w w3 := b1.trans (hb3.mono (by omega))
  have r3 := Lib.hid (r1.out.below hb3 r1.out.lt)
  have I3 : Hid (ItB B lp L S hv G w1.heap.size seg w3) := ⟨h1.out.after hb3, c1.out, c2.out⟩
  have hK : Hid ((fun k => k ≠ q) w1.heap.size ∧ (fun k => k ≠ q) (w1.heap.size + 1) ∧ ∀ k, footG lp L hv k → (fun k => k ≠ q) k) := ⟨by show _ ≠ _; omega, by show _ ≠ _; omega, fun k hk e => by
    have := (h.out.base k hk).2
    have := hq.out
    have e' : k = q := e
    omega⟩
  have hqw : q < w3.heap.size := by omega
  clear BL c1 c2 hz3 hb3 r1 h1 b1
  generalize w1.heap.size = s at *
  subst hq1
  have SQ := blanks_seq B lp L S hv G seg hseg (q + 1) (fun k => k ≠ q) (fun _ => True) w3 I3 hK
  rw [hN.out] at SQ
  go_wp2
  refine wp_rangeFunc_k (K := fun k => k ≠ q) (C := fun _ => True) (w0 := w3) rfl (enters_of Tryz.func72 (by kernel_rfl) rfl) SQ (Below.refl _ _) (fun _ => rfl)
    (fun k W => RowAt W q 3 #[.int .i64 (k : Nat)] ∧ Below q w W) ?hI (fun _ _ _ => trivial) ?h0
    (fun k a1 W => (∃ v, a1 = { tmps := #[.pointer (some ⟨lp, 0, none⟩), .int .i64 (seg : Nat), undef, undef, .int .i64 0, .pointer (some ⟨q, 0, none⟩), .pointer (some ⟨lp, 0, none⟩), .int .i64 (seg : Nat), .func (.func 72) #[] #[.pointer (some ⟨q + 1, 0, none⟩), .pointer (some ⟨q + 1 + 1, 0, none⟩)], v, undef, undef, undef], defers := [] }) ∧ RowAt W q 3 #[.int .i64 (k : Nat)] ∧ Below q w W) ?hI2 ?assign ?body ?done
  case hI => exact fun k A A' h c => ⟨h.1.cel c, h.2.trans (c.below (by omega) (by have := h.1.lt; omega))⟩
  case h0 => exact ⟨r3.out, b3⟩
  case hI2 => exact fun k a1 A A' h c => ⟨h.1, h.2.1.cel c, h.2.2.trans (c.below (by omega) (by have := h.2.1.lt; omega))⟩
  case assign =>
    intro l k W Kk hI hk hKk
    simp only [List.zip_toArray, List.zip_cons_cons, List.zip_nil_right, List.foldl_toArray, List.foldl_cons, List.foldl_nil, List.setIfInBounds_toArray, List.set_cons_succ, List.set_cons_zero]
    gi_wp2
    exact hKk _ _ ⟨⟨_, rfl⟩, hI⟩ (.refl _)
  case body =>
    rintro l k a1 W ⟨⟨v, rfl⟩, hr, hb⟩ hk
    have hk2 : k < 16 := by have := hm16.out; omega
    have c0 := hr.one 0 rfl
    have f0 := hr.free 0
    have r4 := Lib.hid (hr.set 0 (.int .i64 ((k + 1 : Nat) : Int)))
    have o4 : Hid (OuterK (fun k => k ≠ q) W (W.setCell ⟨q, 0, none⟩ (.int .i64 ((k + 1 : Nat) : Int)))) := OuterK.setCell hr 0 _ (fun h => h rfl)
    have b4 : Hid (Below q w (W.setCell ⟨q, 0, none⟩ (.int .i64 ((k + 1 : Nat) : Int)))) := hb.setCell (p := ⟨q, 0, none⟩) (Nat.le_refl _) _
    clear hr hb
    refine wpIn_block (wpIn_round_list' l (by kernel_rfl) roundPostK_block ?_)
    go_wp2
    exact ⟨rfl, ⟨r4.out, b4.out⟩, o4.out⟩
  case done =>
    rintro D W hD ⟨hr, hb⟩ hKd
    have c0 := hr.one 0 rfl
    have hKd' := Lib.hid hKd
    clear hKd hr
    go_wp2
    refine ⟨by simp, .inl ⟨_, _, rfl, run_takeDeferred hKd'.out, ?_⟩⟩
    refine ⟨_, results_tmp rfl _ _ _, ?_⟩
    exact ⟨rfl, by rw [← hq.out]; exact hb.trans ⟨rfl, rfl, rfl, by rw [World.putObj_size]; exact Nat.le_refl _, fun k hk => World.putObj_heap_other (by omega)⟩⟩

end Go.Proofs.YtapebaoajknepaaGreatDoor
/-
  Maps with keys of the kind int, as they lie: an entry put, an entry found.
-/
namespace Go.Proofs.YtapebaoajknepaaGreatDoor
open Go.RowKit
set_option linter.unusedVariables false

section
variable {P : Program} {w : World} {t kt et : TypeId} {r clock : Nat} {es : Array MapEntry} {z : Int}
theorem run_mput {val : Value} (hu : P.underlying t = some (.map kt et)) (hd : P.underlying kt = some (.int .i64)) (hb : w.heap[r]? = some (.map es clock)) (hf : Instr.findNow (.int .i64) (.int .i64 z) es.toList 0 = some none) :
    (Instr.mapUpdate t (.map (some r)) (.int .i64 z) val).run P w = .ok () (w.putObj r (.map (es.push { key := .int .i64 z, val := val, born := clock }) (clock + 1))) := by
  have hc : (Instr.checkKey false 10000 kt (.int .i64 z)).run P w = .ok () w := MapKept.run_checkKey (k := .int .i64 z) hd (by simp [MapKept.IsKey]) false 9999
  simp [Instr.mapUpdate, run_underlying hu, MapKept.run_getObj_map hb, hc, MapKept.run_findKey hd hf, MapKept.run_setObj_map _ hb, Result.andThen, World.putObj]
theorem run_mget {i : Nat} {v : Value} (hu : P.underlying t = some (.map kt et)) (hd : P.underlying kt = some (.int .i64)) (hb : w.heap[r]? = some (.map es clock)) (hf : Instr.findNow (.int .i64) (.int .i64 z) es.toList 0 = some (some (i, v))) :
    (Instr.lookup t (.map (some r)) (.int .i64 z) false).run P w = .ok v w := by
  have hc : (Instr.checkKey es.isEmpty 10000 kt (.int .i64 z)).run P w = .ok () w := MapKept.run_checkKey (k := .int .i64 z) hd (by simp [MapKept.IsKey]) es.isEmpty 9999
  simp [Instr.lookup, run_underlying hu, MapKept.run_getObj_map hb, hc, MapKept.run_findKey hd hf, Result.andThen]
theorem op_mget {i : Nat} {v : Value} (hu : P.underlying t = some (.map kt et)) (hd : P.underlying kt = some (.int .i64)) (hb : w.heap[r]? = some (.map es clock)) (hf : Instr.findNow (.int .i64) (.int .i64 z) es.toList 0 = some (some (i, v)))
    {o : Oper} {a : Act} {m k : Operand} (ho : o.op = .lookup t m k false) (hm : a.eval m = .map (some r)) (hk : a.eval k = .int .i64 z) : (execOp a.eval o).run P w = .ok (.value v) w := by
  simp [execOp, ho, hm, hk, run_mget hu hd hb hf, Result.andThen]
theorem wpList_mins {ops : Array Oper} {rest : List Oper} {o : Oper} {a : Act} {Q : Exit → Act → World → Prop} {val : Value} (hgd : o.guard = none) {m k x : Operand} (ho : o.op = .insert t m k x ∨ o.op = .mapUpdate t m k x) (hu : P.underlying t = some (.map kt et)) (hd : P.underlying kt = some (.int .i64)) (hb : w.heap[r]? = some (.map es clock)) (hf : Instr.findNow (.int .i64) (.int .i64 z) es.toList 0 = some none)
    (hm : a.eval m = .map (some r)) (hk : a.eval k = .int .i64 z) (hx : a.eval x = val)
    (h : wpList P ops Q rest (a.put o.dst undef) (w.putObj r (.map (es.push { key := .int .i64 z, val := val, born := clock }) (clock + 1)))) : wpList P ops Q (o :: rest) a w :=
  wpList_plain hgd fun _ hK => by
    unfold Oper.wp
    rcases ho with ho | ho <;> simp only [execOp, ho, hm, hk, hx, Sem.run_bind, run_mput hu hd hb hf, Result.andThen_ok, Sem.run_pure, Oper.upon] <;> exact hK _ _ h
end
theorem below_putObj {n r : Nat} {w w' : World} {o : Obj} (h : Below n w w') (hr : n ≤ r) : Below n w (w'.putObj r o) :=
  h.trans ⟨rfl, rfl, rfl, by rw [World.putObj_size]; exact Nat.le_refl _, fun k hk => World.putObj_heap_other (by omega)⟩
theorem row_putObj {w : World} {r : Nat} {o o' : Obj} {p : Nat} {t : TypeId} {cs : Array Value} (h : RowAt w p t cs) (hj : w.heap[r]? = some o) (ho : o.isCells = false) : RowAt (w.putObj r o') p t cs :=
  h.cel (Cel.put (m := 0) o' (Nat.zero_le _) hj ho)

end Go.Proofs.YtapebaoajknepaaGreatDoor
/-
  Contracts: the closures of the classes, and their map.
-/
namespace Go.Proofs.YtapebaoajknepaaGreatDoor
open Go.RowKit
set_option linter.unusedVariables false

/-- What the map of the classes has. -/
def clsE (lb ib : Nat) : Array MapEntry := #[{ key := .int .i64 0, val := .func (.func 51) #[] #[.pointer (some ⟨lb, 0, none⟩)], born := 0 }, { key := .int .i64 1, val := .func (.func 52) #[] #[.pointer (some ⟨lb, 0, none⟩)], born := 1 }, { key := .int .i64 2, val := .func (.func 53) #[] #[.pointer (some ⟨lb, 0, none⟩)], born := 2 }, { key := .int .i64 3, val := .func (.func 54) #[] #[.pointer (some ⟨ib, 0, none⟩)], born := 3 }]
/-- The classes, in memory. -/
structure Cls (w : World) (lp lb ib mb : Nat) : Prop where
  rl : RowAt w lb 28 #[.pointer (some ⟨lp, 0, none⟩)]
  ri : RowAt w ib 76 #[.map (some mb)]
  mp : w.heap[mb]? = some (.map (clsE lb ib) 4)
theorem Cls.after {w w' : World} {lp lb ib mb : Nat} (h : Cls w lp lb ib mb) (hb : Below w.heap.size w w') : Cls w' lp lb ib mb :=
  ⟨h.rl.below hb h.rl.lt, h.ri.below hb h.ri.lt, block_kept hb h.mp⟩

/-- Which segments are free, open, retired, used. -/
def freeB (L : Lay) (S : St) (G : Sg) (seg : Nat) : Bool := !G.worn seg && (((blL S seg L.m).length : Int) == (L.m : Int))
def openB (G : Sg) (seg : Nat) : Bool := ((seg : Int) == G.op)
def usedB (L : Lay) (S : St) (G : Sg) (seg : Nat) : Bool := !freeB L S G seg && (!openB G seg && !G.worn seg)

section
variable (B lp : Nat) (L : Lay) (S : St) (hv : Value) (G : Sg) (seg : Nat) (hseg : seg < L.n) (lb ib mb : Nat) (w : World) (h : Hid (Lg B w lp L S hv G)) (hc : Hid (Cls w lp lb ib mb))
include hseg h hc

set_option maxHeartbeats 1000000 in
set_option maxRecDepth 8000 in
theorem isOpen_any : Calls Tryz.prog 52 #[.int .i64 (seg : Nat), .pointer (some ⟨lb, 0, none⟩)] w fun e w' => e = .returned (.bool (openB G seg)) ∧ Below w.heap.size w w' := by
  have c1 := hc.out.rl.one 0 rfl
  have c2 := h.out.l2
  have hd : Hid (openB G seg = ((seg : Int) == G.op)) := rfl
  obtain ⟨n1, hn1⟩ : ∃ n1, seg + n1 = L.n := ⟨L.n - seg, by omega⟩
  clear hn1 hseg
  go_enter Tryz.func52, Tryz.ntmps52
  go_wp2
  go_ret
  exact ⟨by rw [hd.out]; rfl, Below.refl _ _⟩

set_option maxHeartbeats 1000000 in
set_option maxRecDepth 8000 in
theorem isRetired_any : Calls Tryz.prog 53 #[.int .i64 (seg : Nat), .pointer (some ⟨lb, 0, none⟩)] w fun e w' => e = .returned (.bool (G.worn seg)) ∧ Below w.heap.size w w' := by
  have c1 := hc.out.rl.one 0 rfl
  have hs : seg < 64 := by have := h.out.ch.room.2.1; omega
  have c2 := h.out.l3 hs
  have i0 : (seg : Int) < 64 := by omega
  go_enter Tryz.func53, Tryz.ntmps53
  go_wp2
  go_ret
  exact ⟨rfl, Below.refl _ _⟩

set_option maxHeartbeats 1000000 in
set_option maxRecDepth 8000 in
theorem isFree_any : Calls Tryz.prog 51 #[.int .i64 (seg : Nat), .pointer (some ⟨lb, 0, none⟩)] w fun e w' => e = .returned (.bool (freeB L S G seg)) ∧ Below w.heap.size w w' := by
  have b3 : Below w.heap.size w w.drew := (Below.refl _ _).drew
  have h3 := Lib.hid (h.out.after b3)
  have k3 := Lib.hid (hc.out.after b3)
  have hs : seg < 64 := by have := h.out.ch.room.2.1; omega
  have i0 : (seg : Int) < 64 := by omega
  clear h hc
  go_enter Tryz.func51, Tryz.ntmps51
  go_wp2_with fail
  generalize hw3 : w.drew = w3 at *
  obtain ⟨N, hN⟩ : ∃ N, Hid ((blL S seg L.m).length = N) := ⟨_, rfl⟩
  have LF := Lib.hid (fun w' (hC : Below w3.heap.size w3 w') => left_any B lp L S hv G seg hseg w' (Lib.hid (h3.out.after hC)))
  rw [hN.out] at LF
  have PG := Lib.hid (fun w' (hC : Below w3.heap.size w3 w') => pages_any B w' L S hv (Lib.hid (h3.out.after hC).ch))
  cases hw : G.worn seg
  · have fr : Hid (freeB L S G seg = ((N : Int) == (L.m : Int))) := by unfold Hid freeB; rw [hw, hN.out]; rfl
    refine wp_region_class (fun w' => Below w3.heap.size w3 w') (by kernel_rfl) (by kernel_rfl) (by rw [hw3]; exact Below.refl _ _) ?_
    refine wpQuiet_val rfl (.pointer (some ⟨lp, 0, none⟩)) (fun w' hC => by
      have hc := h3.out.after hC
      have c0 := hc.l0
      have q1 := (k3.out.after hC).rl.one 0 rfl
      have c1 := hc.l3 hs
      rw [hw] at c1
      go_simp) ?_
    simp only [Act.put, List.setIfInBounds_toArray, List.set_cons_succ, List.set_cons_zero]
    refine wpQuiet_val rfl (.int .i64 (seg : Nat)) (fun w' hC => by
      have hc := h3.out.after hC
      have c0 := hc.l0
      have q1 := (k3.out.after hC).rl.one 0 rfl
      have c1 := hc.l3 hs
      rw [hw] at c1
      go_simp) ?_
    simp only [Act.put, List.setIfInBounds_toArray, List.set_cons_succ, List.set_cons_zero]
    refine wpQuiet_val rfl (.pointer (some ⟨lp, 0, none⟩)) (fun w' hC => by
      have hc := h3.out.after hC
      have c0 := hc.l0
      have q1 := (k3.out.after hC).rl.one 0 rfl
      have c1 := hc.l3 hs
      rw [hw] at c1
      go_simp) ?_
    simp only [Act.put, List.setIfInBounds_toArray, List.set_cons_succ, List.set_cons_zero]
    refine wpQuiet_val rfl (.pointer (some ⟨lp, 3, none⟩)) (fun w' hC => by
      have hc := h3.out.after hC
      have c0 := hc.l0
      have q1 := (k3.out.after hC).rl.one 0 rfl
      have c1 := hc.l3 hs
      rw [hw] at c1
      go_simp) ?_
    simp only [Act.put, List.setIfInBounds_toArray, List.set_cons_succ, List.set_cons_zero]
    refine wpQuiet_val rfl (.pointer (some ⟨lp, 3 + seg, none⟩)) (fun w' hC => by
      have hc := h3.out.after hC
      have c0 := hc.l0
      have q1 := (k3.out.after hC).rl.one 0 rfl
      have c1 := hc.l3 hs
      rw [hw] at c1
      go_simp) ?_
    simp only [Act.put, List.setIfInBounds_toArray, List.set_cons_succ, List.set_cons_zero]
    refine wpQuiet_val rfl (.bool false) (fun w' hC => by
      have hc := h3.out.after hC
      have c0 := hc.l0
      have q1 := (k3.out.after hC).rl.one 0 rfl
      have c1 := hc.l3 hs
      rw [hw] at c1
      go_simp) ?_
    simp only [Act.put, List.setIfInBounds_toArray, List.set_cons_succ, List.set_cons_zero]
    refine wpQuiet_val rfl (.bool true) (fun w' hC => by
      have hc := h3.out.after hC
      have c0 := hc.l0
      have q1 := (k3.out.after hC).rl.one 0 rfl
      have c1 := hc.l3 hs
      rw [hw] at c1
      go_simp) ?_
    simp only [Act.put, List.setIfInBounds_toArray, List.set_cons_succ, List.set_cons_zero]
    refine wpQuiet_val rfl (.bool true) (fun w' hC => by
      have hc := h3.out.after hC
      have c0 := hc.l0
      have q1 := (k3.out.after hC).rl.one 0 rfl
      have c1 := hc.l3 hs
      rw [hw] at c1
      go_simp) ?_
    simp only [Act.put, List.setIfInBounds_toArray, List.set_cons_succ, List.set_cons_zero]
    refine wpQuiet_val rfl (.pointer (some ⟨lp, 0, none⟩)) (fun w' hC => by
      have hc := h3.out.after hC
      have c0 := hc.l0
      have q1 := (k3.out.after hC).rl.one 0 rfl
      have c1 := hc.l3 hs
      rw [hw] at c1
      go_simp) ?_
    simp only [Act.put, List.setIfInBounds_toArray, List.set_cons_succ, List.set_cons_zero]
    refine wpQuiet_val rfl (.int .i64 (seg : Nat)) (fun w' hC => by
      have hc := h3.out.after hC
      have c0 := hc.l0
      have q1 := (k3.out.after hC).rl.one 0 rfl
      have c1 := hc.l3 hs
      rw [hw] at c1
      go_simp) ?_
    simp only [Act.put, List.setIfInBounds_toArray, List.set_cons_succ, List.set_cons_zero]
    (go_big_quiet_want; go_big_quiet_op; apply Exists.intro; refine ⟨fun w' hC => (LF.out w' hC).mono fun e w'' h => ⟨h.1, hC.trans (h.2.mono hC.size)⟩, ?_⟩; go_big_quiet_on)
    refine wpQuiet_val rfl (.pointer (some ⟨lp, 0, none⟩)) (fun w' hC => by
      have hc := h3.out.after hC
      have c0 := hc.l0
      have q1 := (k3.out.after hC).rl.one 0 rfl
      have c1 := hc.l3 hs
      rw [hw] at c1
      go_simp) ?_
    simp only [Act.put, List.setIfInBounds_toArray, List.set_cons_succ, List.set_cons_zero]
    refine wpQuiet_val rfl (.pointer (some ⟨lp, 0, none⟩)) (fun w' hC => by
      have hc := h3.out.after hC
      have c0 := hc.l0
      have q1 := (k3.out.after hC).rl.one 0 rfl
      have c1 := hc.l3 hs
      rw [hw] at c1
      go_simp) ?_
    simp only [Act.put, List.setIfInBounds_toArray, List.set_cons_succ, List.set_cons_zero]
    refine wpQuiet_val rfl (.pointer (some ⟨lp, 0, none⟩)) (fun w' hC => by
      have hc := h3.out.after hC
      have c0 := hc.l0
      have q1 := (k3.out.after hC).rl.one 0 rfl
      have c1 := hc.l3 hs
      rw [hw] at c1
      go_simp) ?_
    simp only [Act.put, List.setIfInBounds_toArray, List.set_cons_succ, List.set_cons_zero]
    refine wpQuiet_val rfl (.pointer (some ⟨L.cp, 0, none⟩)) (fun w' hC => by
      have hc := h3.out.after hC
      have c0 := hc.l0
      have q1 := (k3.out.after hC).rl.one 0 rfl
      have c1 := hc.l3 hs
      rw [hw] at c1
      go_simp) ?_
    simp only [Act.put, List.setIfInBounds_toArray, List.set_cons_succ, List.set_cons_zero]
    (go_big_quiet_want; go_big_quiet_op; apply Exists.intro; refine ⟨fun w' hC => (PG.out w' hC).mono fun e w'' h => ⟨h.1, by rw [h.2]; exact hC⟩, ?_⟩; go_big_quiet_on)
    refine wpQuiet_val rfl (.bool ((N : Int) == (L.m : Int))) (fun w' hC => by
      have hc := h3.out.after hC
      have c0 := hc.l0
      have q1 := (k3.out.after hC).rl.one 0 rfl
      have c1 := hc.l3 hs
      rw [hw] at c1
      go_simp) ?_
    simp only [Act.put, List.setIfInBounds_toArray, List.set_cons_succ, List.set_cons_zero]
    refine wpQuiet_val rfl (.bool ((N : Int) == (L.m : Int))) (fun w' hC => by
      have hc := h3.out.after hC
      have c0 := hc.l0
      have q1 := (k3.out.after hC).rl.one 0 rfl
      have c1 := hc.l3 hs
      rw [hw] at c1
      go_simp) ?_
    simp only [Act.put, List.setIfInBounds_toArray, List.set_cons_succ, List.set_cons_zero]
    refine wpQuiet_val rfl (.bool ((N : Int) == (L.m : Int))) (fun w' hC => by
      have hc := h3.out.after hC
      have c0 := hc.l0
      have q1 := (k3.out.after hC).rl.one 0 rfl
      have c1 := hc.l3 hs
      rw [hw] at c1
      go_simp) ?_
    simp only [Act.put, List.setIfInBounds_toArray, List.set_cons_succ, List.set_cons_zero]
    refine wpQuiet_nil fun w4 hC => ?_
    have b4 : Below w.heap.size w w4 := b3.trans (hC.mono b3.size)
    clear LF PG h3 k3 hC hw3
    go_wp2
    go_ret
    exact ⟨by rw [fr.out]; rfl, b4⟩
  · have fr : Hid (freeB L S G seg = false) := by unfold Hid freeB; rw [hw]; rfl
    refine wp_region_class (fun w' => Below w3.heap.size w3 w') (by kernel_rfl) (by kernel_rfl) (by rw [hw3]; exact Below.refl _ _) ?_
    refine wpQuiet_val rfl (.pointer (some ⟨lp, 0, none⟩)) (fun w' hC => by
      have hc := h3.out.after hC
      have c0 := hc.l0
      have q1 := (k3.out.after hC).rl.one 0 rfl
      have c1 := hc.l3 hs
      rw [hw] at c1
      go_simp) ?_
    simp only [Act.put, List.setIfInBounds_toArray, List.set_cons_succ, List.set_cons_zero]
    refine wpQuiet_val rfl (.int .i64 (seg : Nat)) (fun w' hC => by
      have hc := h3.out.after hC
      have c0 := hc.l0
      have q1 := (k3.out.after hC).rl.one 0 rfl
      have c1 := hc.l3 hs
      rw [hw] at c1
      go_simp) ?_
    simp only [Act.put, List.setIfInBounds_toArray, List.set_cons_succ, List.set_cons_zero]
    refine wpQuiet_val rfl (.pointer (some ⟨lp, 0, none⟩)) (fun w' hC => by
      have hc := h3.out.after hC
      have c0 := hc.l0
      have q1 := (k3.out.after hC).rl.one 0 rfl
      have c1 := hc.l3 hs
      rw [hw] at c1
      go_simp) ?_
    simp only [Act.put, List.setIfInBounds_toArray, List.set_cons_succ, List.set_cons_zero]
    refine wpQuiet_val rfl (.pointer (some ⟨lp, 3, none⟩)) (fun w' hC => by
      have hc := h3.out.after hC
      have c0 := hc.l0
      have q1 := (k3.out.after hC).rl.one 0 rfl
      have c1 := hc.l3 hs
      rw [hw] at c1
      go_simp) ?_
    simp only [Act.put, List.setIfInBounds_toArray, List.set_cons_succ, List.set_cons_zero]
    refine wpQuiet_val rfl (.pointer (some ⟨lp, 3 + seg, none⟩)) (fun w' hC => by
      have hc := h3.out.after hC
      have c0 := hc.l0
      have q1 := (k3.out.after hC).rl.one 0 rfl
      have c1 := hc.l3 hs
      rw [hw] at c1
      go_simp) ?_
    simp only [Act.put, List.setIfInBounds_toArray, List.set_cons_succ, List.set_cons_zero]
    refine wpQuiet_val rfl (.bool true) (fun w' hC => by
      have hc := h3.out.after hC
      have c0 := hc.l0
      have q1 := (k3.out.after hC).rl.one 0 rfl
      have c1 := hc.l3 hs
      rw [hw] at c1
      go_simp) ?_
    simp only [Act.put, List.setIfInBounds_toArray, List.set_cons_succ, List.set_cons_zero]
    refine wpQuiet_val rfl (.bool false) (fun w' hC => by
      have hc := h3.out.after hC
      have c0 := hc.l0
      have q1 := (k3.out.after hC).rl.one 0 rfl
      have c1 := hc.l3 hs
      rw [hw] at c1
      go_simp) ?_
    simp only [Act.put, List.setIfInBounds_toArray, List.set_cons_succ, List.set_cons_zero]
    refine wpQuiet_val rfl (.bool false) (fun w' hC => by
      have hc := h3.out.after hC
      have c0 := hc.l0
      have q1 := (k3.out.after hC).rl.one 0 rfl
      have c1 := hc.l3 hs
      rw [hw] at c1
      go_simp) ?_
    simp only [Act.put, List.setIfInBounds_toArray, List.set_cons_succ, List.set_cons_zero]
    go_big_quiet_skip
    go_big_quiet_skip
    go_big_quiet_skip
    go_big_quiet_skip
    go_big_quiet_skip
    go_big_quiet_skip
    go_big_quiet_skip
    go_big_quiet_skip
    go_big_quiet_skip
    refine wpQuiet_val rfl (.bool false) (fun w' hC => by
      have hc := h3.out.after hC
      have c0 := hc.l0
      have q1 := (k3.out.after hC).rl.one 0 rfl
      have c1 := hc.l3 hs
      rw [hw] at c1
      go_simp) ?_
    simp only [Act.put, List.setIfInBounds_toArray, List.set_cons_succ, List.set_cons_zero]
    refine wpQuiet_val rfl (.bool false) (fun w' hC => by
      have hc := h3.out.after hC
      have c0 := hc.l0
      have q1 := (k3.out.after hC).rl.one 0 rfl
      have c1 := hc.l3 hs
      rw [hw] at c1
      go_simp) ?_
    simp only [Act.put, List.setIfInBounds_toArray, List.set_cons_succ, List.set_cons_zero]
    refine wpQuiet_nil fun w4 hC => ?_
    have b4 : Below w.heap.size w w4 := b3.trans (hC.mono b3.size)
    clear LF PG h3 k3 hC hw3
    go_wp2
    go_ret
    exact ⟨by rw [fr.out]; rfl, b4⟩
end

theorem find0 (lb ib : Nat) : Instr.findNow (.int .i64) (.int .i64 0) (clsE lb ib).toList 0 = some (some (0, .func (.func 51) #[] #[.pointer (some ⟨lb, 0, none⟩)])) := rfl
theorem find1 (lb ib : Nat) : Instr.findNow (.int .i64) (.int .i64 1) (clsE lb ib).toList 0 = some (some (1, .func (.func 52) #[] #[.pointer (some ⟨lb, 0, none⟩)])) := rfl
theorem find2 (lb ib : Nat) : Instr.findNow (.int .i64) (.int .i64 2) (clsE lb ib).toList 0 = some (some (2, .func (.func 53) #[] #[.pointer (some ⟨lb, 0, none⟩)])) := rfl
theorem find3 (lb ib : Nat) : Instr.findNow (.int .i64) (.int .i64 3) (clsE lb ib).toList 0 = some (some (3, .func (.func 54) #[] #[.pointer (some ⟨ib, 0, none⟩)])) := rfl

set_option maxHeartbeats 2000000 in
set_option maxRecDepth 8000 in
theorem isUsed_any (B lp : Nat) (L : Lay) (S : St) (hv : Value) (G : Sg) (seg : Nat) (hseg : seg < L.n) (lb ib mb : Nat) (w : World) (h : Hid (Lg B w lp L S hv G)) (hc : Hid (Cls w lp lb ib mb)) : Calls Tryz.prog 54 #[.int .i64 (seg : Nat), .pointer (some ⟨ib, 0, none⟩)] w fun e w' => e = .returned (.bool (usedB L S G seg)) ∧ Below w.heap.size w w' := by
  have c1 := hc.out.ri.one 0 rfl
  have F := Lib.hid (isFree_any B lp L S hv G seg hseg lb ib mb w h hc)
  have O := Lib.hid (fun w' (hC : Below w.heap.size w w') => isOpen_any B lp L S hv G seg hseg lb ib mb w' (Lib.hid (h.out.after hC)) (Lib.hid (hc.out.after hC)))
  have R := Lib.hid (fun w' (hC : Below w.heap.size w w') => isRetired_any B lp L S hv G seg hseg lb ib mb w' (Lib.hid (h.out.after hC)) (Lib.hid (hc.out.after hC)))
  have U : Hid (usedB L S G seg = (!freeB L S G seg && (!openB G seg && !G.worn seg))) := rfl
  have um := Tryz.underlying76
  have uk := Tryz.underlying78
  generalize usedB L S G seg = ub at *
  generalize freeB L S G seg = fb at *
  generalize openB G seg = ob at *
  generalize G.worn seg = wb at *
  have m0 := hc.out.mp
  replace um := Lib.hid um
  replace uk := Lib.hid uk
  replace m0 := Lib.hid m0
  go_enter Tryz.func54, Tryz.ntmps54
  go_wp2_with (refine wpList_known rfl (op_mget um.out uk.out m0.out (find0 lb ib) rfl rfl rfl) ?_)
  refine F.out.mono ?_
  rintro e w1 ⟨rfl, b1⟩
  have k1 := Lib.hid (hc.out.after b1)
  have c1 := k1.out.ri.one 0 rfl
  have m1 := Lib.hid k1.out.mp
  have O1 := Lib.hid (O.out w1 b1)
  clear F m0 O h hc
  cases fb
  · go_wp2_with (refine wpList_wknown rfl (op_mget um.out uk.out m1.out (find1 lb ib) rfl rfl rfl) ?_)
    refine O1.out.mono ?_
    rintro e w2 ⟨rfl, b2⟩
    have k2 := Lib.hid (k1.out.after b2)
    have c1 := k2.out.ri.one 0 rfl
    have m2 := Lib.hid k2.out.mp
    have b3 := b1.trans (b2.mono b1.size)
    have R2 := Lib.hid (R.out w2 b3)
    clear O1 m1 R k1 b1 b2
    cases ob
    · go_wp2_with (refine wpList_wknown rfl (op_mget um.out uk.out m2.out (find2 lb ib) rfl rfl rfl) ?_)
      refine R2.out.mono ?_
      rintro e w4 ⟨rfl, b4⟩
      have b5 := b3.trans (b4.mono b3.size)
      clear R2 m2 k2 b4 b3 c1
      go_wp2
      go_ret
      exact ⟨by rw [U.out]; rfl, b5⟩
    · clear R2 m2 k2 c1
      go_wp2
      go_ret
      exact ⟨by rw [U.out]; rfl, b3⟩
  · clear O1 m1 R k1 c1
    go_wp2
    go_ret
    exact ⟨by rw [U.out]; rfl, b1⟩

/-- What classes comes to. -/
def ClsEnd (lp : Nat) (w : World) (e : Ending) (w' : World) : Prop := ∃ lb ib mb, e = .returned (.map (some mb)) ∧ Hid (Cls w' lp lb ib mb) ∧ Below w.heap.size w w'

set_option maxHeartbeats 2000000 in
set_option maxRecDepth 8000 in
theorem classes_any (lp : Nat) (w : World) : Calls Tryz.prog 24 #[.pointer (some ⟨lp, 0, none⟩)] w (ClsEnd lp w) := by
  have um := Lib.hid Tryz.underlying76
  have uk := Lib.hid Tryz.underlying78
  obtain ⟨q, hq⟩ : ∃ q, Hid (q = w.heap.size) := ⟨_, rfl⟩
  have b1 : Below w.heap.size w ((w.alloc (.cells #[.pointer (some ⟨lp, 0, none⟩)] 28)).alloc (.map #[] 0)) := ((Below.refl _ w).alloc (Nat.le_refl _) _).alloc (by simp) _
  have r1 := Lib.hid ((RowAt.new w 28 #[.pointer (some ⟨lp, 0, none⟩)]).alloc (.map #[] 0))
  have m1 := World.alloc_heap_new (w.alloc (.cells #[.pointer (some ⟨lp, 0, none⟩)] 28)) (.map #[] 0)
  rw [World.size_alloc, ← hq.out] at m1
  rw [← hq.out] at r1 b1
  have z1 : Hid (((w.alloc (.cells #[.pointer (some ⟨lp, 0, none⟩)] 28)).alloc (.map #[] 0)).heap.size = q + 2) := by unfold Hid; rw [World.size_alloc, World.size_alloc, ← hq.out]
  replace m1 := Lib.hid m1
  have hmm := @run_makeMap Tryz.prog
  go_enter Tryz.func24, Tryz.ntmps24
  go_wp2_with (refine wpList_mins (r := q + 1) (es := #[]) (clock := 0) rfl (.inl rfl) um.out uk.out m1.out rfl (by rw [hq.out]; rfl) rfl rfl (Hid.out ?_))
  rw [← hq.out]
  generalize (w.alloc (.cells #[.pointer (some ⟨lp, 0, none⟩)] 28)).alloc (.map #[] 0) = w1 at *
  have y2 : Hid ((w1.putObj (q + 1) (.map #[{ key := .int .i64 0, val := .func (.func 51) #[] #[.pointer (some ⟨q, 0, none⟩)], born := 0 }] 1)).heap[q + 1]? = some (.map #[{ key := .int .i64 0, val := .func (.func 51) #[] #[.pointer (some ⟨q, 0, none⟩)], born := 0 }] 1)) := World.putObj_heap_same (Array.getElem?_eq_some_iff.1 m1.out).1
  have r2 := Lib.hid (row_putObj (o' := .map #[{ key := .int .i64 0, val := .func (.func 51) #[] #[.pointer (some ⟨q, 0, none⟩)], born := 0 }] 1) r1.out m1.out rfl)
  have b2 := below_putObj (o := .map #[{ key := .int .i64 0, val := .func (.func 51) #[] #[.pointer (some ⟨q, 0, none⟩)], born := 0 }] 1) b1 (Nat.le_succ q)
  have z2 : Hid ((w1.putObj (q + 1) (.map #[{ key := .int .i64 0, val := .func (.func 51) #[] #[.pointer (some ⟨q, 0, none⟩)], born := 0 }] 1)).heap.size = q + 2) := by unfold Hid; rw [World.putObj_size]; exact z1.out
  refine Lib.hid ?_
  change wpList _ _ _ _ _ (w1.putObj (q + 1) (.map #[{ key := .int .i64 0, val := .func (.func 51) #[] #[.pointer (some ⟨q, 0, none⟩)], born := 0 }] 1))
  clear m1 r1 b1 z1
  generalize w1.putObj (q + 1) (.map #[{ key := .int .i64 0, val := .func (.func 51) #[] #[.pointer (some ⟨q, 0, none⟩)], born := 0 }] 1) = w2 at *
  have m2 := y2
  clear y2
  go_wp2_with (refine wpList_mins (r := q + 1) (es := #[{ key := .int .i64 0, val := .func (.func 51) #[] #[.pointer (some ⟨q, 0, none⟩)], born := 0 }]) (clock := 1) rfl (.inl rfl) um.out uk.out m2.out rfl rfl rfl rfl (Hid.out ?_))
  have y3 : Hid ((w2.putObj (q + 1) (.map #[{ key := .int .i64 0, val := .func (.func 51) #[] #[.pointer (some ⟨q, 0, none⟩)], born := 0 }, { key := .int .i64 1, val := .func (.func 52) #[] #[.pointer (some ⟨q, 0, none⟩)], born := 1 }] 2)).heap[q + 1]? = some (.map #[{ key := .int .i64 0, val := .func (.func 51) #[] #[.pointer (some ⟨q, 0, none⟩)], born := 0 }, { key := .int .i64 1, val := .func (.func 52) #[] #[.pointer (some ⟨q, 0, none⟩)], born := 1 }] 2)) := World.putObj_heap_same (Array.getElem?_eq_some_iff.1 m2.out).1
  have r3 := Lib.hid (row_putObj (o' := .map #[{ key := .int .i64 0, val := .func (.func 51) #[] #[.pointer (some ⟨q, 0, none⟩)], born := 0 }, { key := .int .i64 1, val := .func (.func 52) #[] #[.pointer (some ⟨q, 0, none⟩)], born := 1 }] 2) r2.out m2.out rfl)
  have b3 := below_putObj (o := .map #[{ key := .int .i64 0, val := .func (.func 51) #[] #[.pointer (some ⟨q, 0, none⟩)], born := 0 }, { key := .int .i64 1, val := .func (.func 52) #[] #[.pointer (some ⟨q, 0, none⟩)], born := 1 }] 2) b2 (Nat.le_succ q)
  have z3 : Hid ((w2.putObj (q + 1) (.map #[{ key := .int .i64 0, val := .func (.func 51) #[] #[.pointer (some ⟨q, 0, none⟩)], born := 0 }, { key := .int .i64 1, val := .func (.func 52) #[] #[.pointer (some ⟨q, 0, none⟩)], born := 1 }] 2)).heap.size = q + 2) := by unfold Hid; rw [World.putObj_size]; exact z2.out
  refine Lib.hid ?_
  change wpList _ _ _ _ _ (w2.putObj (q + 1) (.map #[{ key := .int .i64 0, val := .func (.func 51) #[] #[.pointer (some ⟨q, 0, none⟩)], born := 0 }, { key := .int .i64 1, val := .func (.func 52) #[] #[.pointer (some ⟨q, 0, none⟩)], born := 1 }] 2))
  clear m2 r2 b2 z2
  generalize w2.putObj (q + 1) (.map #[{ key := .int .i64 0, val := .func (.func 51) #[] #[.pointer (some ⟨q, 0, none⟩)], born := 0 }, { key := .int .i64 1, val := .func (.func 52) #[] #[.pointer (some ⟨q, 0, none⟩)], born := 1 }] 2) = w3 at *
  have m3 := y3
  clear y3
  go_wp2_with (refine wpList_mins (r := q + 1) (es := #[{ key := .int .i64 0, val := .func (.func 51) #[] #[.pointer (some ⟨q, 0, none⟩)], born := 0 }, { key := .int .i64 1, val := .func (.func 52) #[] #[.pointer (some ⟨q, 0, none⟩)], born := 1 }]) (clock := 2) rfl (.inl rfl) um.out uk.out m3.out rfl rfl rfl rfl (Hid.out ?_))
  have y4 : Hid ((w3.putObj (q + 1) (.map #[{ key := .int .i64 0, val := .func (.func 51) #[] #[.pointer (some ⟨q, 0, none⟩)], born := 0 }, { key := .int .i64 1, val := .func (.func 52) #[] #[.pointer (some ⟨q, 0, none⟩)], born := 1 }, { key := .int .i64 2, val := .func (.func 53) #[] #[.pointer (some ⟨q, 0, none⟩)], born := 2 }] 3)).heap[q + 1]? = some (.map #[{ key := .int .i64 0, val := .func (.func 51) #[] #[.pointer (some ⟨q, 0, none⟩)], born := 0 }, { key := .int .i64 1, val := .func (.func 52) #[] #[.pointer (some ⟨q, 0, none⟩)], born := 1 }, { key := .int .i64 2, val := .func (.func 53) #[] #[.pointer (some ⟨q, 0, none⟩)], born := 2 }] 3)) := World.putObj_heap_same (Array.getElem?_eq_some_iff.1 m3.out).1
  have r4 := Lib.hid (row_putObj (o' := .map #[{ key := .int .i64 0, val := .func (.func 51) #[] #[.pointer (some ⟨q, 0, none⟩)], born := 0 }, { key := .int .i64 1, val := .func (.func 52) #[] #[.pointer (some ⟨q, 0, none⟩)], born := 1 }, { key := .int .i64 2, val := .func (.func 53) #[] #[.pointer (some ⟨q, 0, none⟩)], born := 2 }] 3) r3.out m3.out rfl)
  have b4 := below_putObj (o := .map #[{ key := .int .i64 0, val := .func (.func 51) #[] #[.pointer (some ⟨q, 0, none⟩)], born := 0 }, { key := .int .i64 1, val := .func (.func 52) #[] #[.pointer (some ⟨q, 0, none⟩)], born := 1 }, { key := .int .i64 2, val := .func (.func 53) #[] #[.pointer (some ⟨q, 0, none⟩)], born := 2 }] 3) b3 (Nat.le_succ q)
  have z4 : Hid ((w3.putObj (q + 1) (.map #[{ key := .int .i64 0, val := .func (.func 51) #[] #[.pointer (some ⟨q, 0, none⟩)], born := 0 }, { key := .int .i64 1, val := .func (.func 52) #[] #[.pointer (some ⟨q, 0, none⟩)], born := 1 }, { key := .int .i64 2, val := .func (.func 53) #[] #[.pointer (some ⟨q, 0, none⟩)], born := 2 }] 3)).heap.size = q + 2) := by unfold Hid; rw [World.putObj_size]; exact z3.out
  refine Lib.hid ?_
  change wpList _ _ _ _ _ (w3.putObj (q + 1) (.map #[{ key := .int .i64 0, val := .func (.func 51) #[] #[.pointer (some ⟨q, 0, none⟩)], born := 0 }, { key := .int .i64 1, val := .func (.func 52) #[] #[.pointer (some ⟨q, 0, none⟩)], born := 1 }, { key := .int .i64 2, val := .func (.func 53) #[] #[.pointer (some ⟨q, 0, none⟩)], born := 2 }] 3))
  clear m3 r3 b3 z3
  generalize w3.putObj (q + 1) (.map #[{ key := .int .i64 0, val := .func (.func 51) #[] #[.pointer (some ⟨q, 0, none⟩)], born := 0 }, { key := .int .i64 1, val := .func (.func 52) #[] #[.pointer (some ⟨q, 0, none⟩)], born := 1 }, { key := .int .i64 2, val := .func (.func 53) #[] #[.pointer (some ⟨q, 0, none⟩)], born := 2 }] 3) = w4 at *
  have m4 := y4
  clear y4
  have r5 := Lib.hid (r4.out.alloc (.cells #[.map (some (q + 1))] 76))
  have i5 := RowAt.new w4 76 #[.map (some (q + 1))]
  have m5 : Hid ((w4.alloc (.cells #[.map (some (q + 1))] 76)).heap[q + 1]? = some (.map #[{ key := .int .i64 0, val := .func (.func 51) #[] #[.pointer (some ⟨q, 0, none⟩)], born := 0 }, { key := .int .i64 1, val := .func (.func 52) #[] #[.pointer (some ⟨q, 0, none⟩)], born := 1 }, { key := .int .i64 2, val := .func (.func 53) #[] #[.pointer (some ⟨q, 0, none⟩)], born := 2 }] 3)) := (Below.heap_alloc _ _ _ (by rw [z4.out]; omega)).trans m4.out
  have b5 := b4.alloc (by rw [z4.out]; omega) (.cells #[.map (some (q + 1))] 76)
  rw [z4.out] at i5
  replace i5 := Lib.hid i5
  have c5 := i5.out.one 0 rfl
  clear r4 m4 b4
  replace z4 := z4.out
  go_wp2_with (refine wpList_mins (r := q + 1) (es := #[{ key := .int .i64 0, val := .func (.func 51) #[] #[.pointer (some ⟨q, 0, none⟩)], born := 0 }, { key := .int .i64 1, val := .func (.func 52) #[] #[.pointer (some ⟨q, 0, none⟩)], born := 1 }, { key := .int .i64 2, val := .func (.func 53) #[] #[.pointer (some ⟨q, 0, none⟩)], born := 2 }]) (clock := 3) rfl (.inr rfl) um.out uk.out m5.out rfl rfl rfl rfl (Hid.out ?_))
  generalize w4.alloc (.cells #[.map (some (q + 1))] 76) = w5 at *
  have y6 : Hid ((w5.putObj (q + 1) (.map (clsE q (q + 2)) 4)).heap[q + 1]? = some (.map (clsE q (q + 2)) 4)) := World.putObj_heap_same (Array.getElem?_eq_some_iff.1 m5.out).1
  have r6 := Lib.hid (row_putObj (o' := .map (clsE q (q + 2)) 4) r5.out m5.out rfl)
  have i6 := Lib.hid (row_putObj (o' := .map (clsE q (q + 2)) 4) i5.out m5.out rfl)
  have b6 := below_putObj (o := .map (clsE q (q + 2)) 4) b5 (Nat.le_succ q)
  have c6 := i6.out.one 0 rfl
  refine Lib.hid ?_
  change wpList _ _ _ _ _ (w5.putObj (q + 1) (.map (clsE q (q + 2)) 4))
  clear m5 r5 b5 i5 c5
  generalize w5.putObj (q + 1) (.map (clsE q (q + 2)) 4) = w6 at *
  go_wp2
  go_ret
  exact ⟨q, q + 2, q + 1, rfl, ⟨r6.out, i6.out, y6.out⟩, by rw [← hq.out]; exact b6⟩

end Go.Proofs.YtapebaoajknepaaGreatDoor
/-
  Terms, apart from any program: nodes, which lists may be, the term at a place, its text, its size, the first place of a term, the parts.
-/
namespace Go.Proofs.YtapebaoajknepaaGreatDoor
set_option linter.unusedVariables false

/-- Nodes: K i 0, K i 1, K i 2 are Op, A and B of the node at i. -/
abbrev Nds := Nat → Nat → Int

/-- May a node stand behind the first n? -/
def okX (K : Nds) (n : Nat) (o a b : Int) : Bool :=
  if o = 0 ∨ o = 1 then decide (0 ≤ a) && decide (a ≤ 999999) && decide (b = 0)
  else if o = 2 then decide (0 ≤ a ∧ a < n) && decide (0 ≤ b ∧ b < n)
  else if o = 3 then decide (0 ≤ a ∧ a < n) && decide (0 ≤ b ∧ b < n) && decide (K a.toNat 0 = 1)
  else false
def okN (K : Nds) (i : Nat) : Bool := okX K i (K i 0) (K i 1) (K i 2)
def mayB (K : Nds) (n : Nat) : Bool := decide (n ≤ 200) && (List.range n).all (okN K)
def placeB (K : Nds) (n : Nat) (i : Int) : Bool := (decide (0 ≤ i) && decide (i < n)) && mayB K n

/-- The first n nodes may be. -/
def Wf (K : Nds) (n : Nat) : Prop := ∀ i, i < n → okN K i = true

theorem mayB_iff (K : Nds) (n : Nat) : mayB K n = true ↔ n ≤ 200 ∧ Wf K n := by
  unfold mayB Wf
  simp [List.all_eq_true]
theorem mayB_no {K : Nds} {n i : Nat} (hi : i < n) (h : okN K i = false) : mayB K n = false := by
  cases hm : mayB K n
  · rfl
  · have := ((mayB_iff K n).1 hm).2 i hi
    rw [h] at this
    cases this
theorem mayB_big {K : Nds} {n : Nat} (h : 200 < n) : mayB K n = false := by
  cases hm : mayB K n
  · rfl
  · have := ((mayB_iff K n).1 hm).1
    omega
theorem Wf.take {K : Nds} {n m : Nat} (h : Wf K n) (hm : m ≤ n) : Wf K m := fun i hi => h i (by omega)

/-- What a node that may be is. -/
theorem okX_kinds {K : Nds} {n : Nat} {o a b : Int} (h : okX K n o a b = true) :
    (o = 0 ∨ o = 1) ∧ 0 ≤ a ∧ a ≤ 999999 ∧ b = 0 ∨ o = 2 ∧ 0 ≤ a ∧ a < n ∧ 0 ≤ b ∧ b < n ∨ o = 3 ∧ 0 ≤ a ∧ a < n ∧ 0 ≤ b ∧ b < n ∧ K a.toNat 0 = 1 := by
  unfold okX at h
  split at h
  · rename_i h0
    simp at h
    exact .inl ⟨h0, h.1.1, h.1.2, h.2⟩
  · split at h
    · rename_i h0
      simp at h
      exact .inr (.inl ⟨h0, h.1.1, h.1.2, h.2.1, h.2.2⟩)
    · split at h
      · rename_i h0
        simp at h
        exact .inr (.inr ⟨h0, h.1.1.1, h.1.1.2, h.1.2.1, h.1.2.2, h.2⟩)
      · cases h

/-- A node of two others, or not. -/
theorem Wf.kinds {K : Nds} {n : Nat} (h : Wf K n) {i : Nat} (hi : i < n) :
    ((K i 0 = 0 ∨ K i 0 = 1) ∧ (∃ x : Nat, x ≤ 999999 ∧ K i 1 = x) ∧ K i 2 = 0) ∨ ((K i 0 = 2 ∨ K i 0 = 3) ∧ ∃ x y : Nat, x < i ∧ y < i ∧ K i 1 = x ∧ K i 2 = y) := by
  rcases okX_kinds (h i hi) with ⟨h0, h1, h2, h3⟩ | ⟨h0, h1, h2, h3, h4⟩ | ⟨h0, h1, h2, h3, h4, _⟩
  · exact .inl ⟨h0, ⟨(K i 1).toNat, by omega, by omega⟩, h3⟩
  · exact .inr ⟨.inl h0, (K i 1).toNat, (K i 2).toNat, by omega, by omega, by omega, by omega⟩
  · exact .inr ⟨.inr h0, (K i 1).toNat, (K i 2).toNat, by omega, by omega, by omega, by omega⟩

/-- Terms. -/
inductive Tm where
  | atom (a : Nat)
  | key (a : Nat)
  | pair (x y : Tm)
  | lock (x y : Tm)

def leafT (K : Nds) (i : Nat) : Tm := if K i 0 = 1 then .key (K i 1).toNat else .atom (K i 1).toNat
def tmF (K : Nds) : Nat → Nat → Tm
  | 0, i => leafT K i
  | f + 1, i => if K i 0 = 2 then .pair (tmF K f (K i 1).toNat) (tmF K f (K i 2).toNat) else if K i 0 = 3 then .lock (tmF K f (K i 1).toNat) (tmF K f (K i 2).toNat) else leafT K i
/-- The term at a place. -/
def tm (K : Nds) (i : Nat) : Tm := tmF K i i

theorem tmF_eq {K : Nds} {n : Nat} (h : Wf K n) : ∀ i f, i ≤ f → i < n → tmF K f i = tmF K i i := by
  intro i
  induction i using Nat.strongRecOn with
  | _ i ih =>
    intro f hf hi
    rcases h.kinds hi with ⟨h0, _, _⟩ | ⟨h0, x, y, hx, hy, e1, e2⟩
    · have n2 : ¬ K i 0 = 2 := by omega
      have n3 : ¬ K i 0 = 3 := by omega
      cases f <;> cases i <;> simp [tmF, n2, n3]
    · obtain ⟨f, rfl⟩ : ∃ f', f = f' + 1 := ⟨f - 1, by omega⟩
      obtain ⟨j, rfl⟩ : ∃ j, i = j + 1 := ⟨i - 1, by omega⟩
      simp only [tmF, e1, e2, Int.toNat_natCast]
      rw [ih x hx f (by omega) (by omega), ih x hx j (by omega) (by omega), ih y hy f (by omega) (by omega), ih y hy j (by omega) (by omega)]

theorem tm_leaf {K : Nds} {i : Nat} (h0 : K i 0 = 0 ∨ K i 0 = 1) : tm K i = leafT K i := by
  have n2 : ¬ K i 0 = 2 := by omega
  have n3 : ¬ K i 0 = 3 := by omega
  unfold tm
  cases i <;> simp [tmF, n2, n3]
theorem tm_atom {K : Nds} {n : Nat} (h : Wf K n) {i : Nat} (hi : i < n) (h0 : K i 0 = 0) {x : Nat} (hx : K i 1 = x) : tm K i = .atom x := by
  rw [tm_leaf (.inl h0)]
  simp [leafT, h0, hx]
theorem tm_key {K : Nds} {n : Nat} (h : Wf K n) {i : Nat} (hi : i < n) (h0 : K i 0 = 1) {x : Nat} (hx : K i 1 = x) : tm K i = .key x := by
  rw [tm_leaf (.inr h0)]
  simp [leafT, h0, hx]
theorem tm_pair {K : Nds} {n : Nat} (h : Wf K n) {i : Nat} (hi : i < n) (h0 : K i 0 = 2) {x y : Nat} (hx : x < i) (hy : y < i) (e1 : K i 1 = x) (e2 : K i 2 = y) : tm K i = .pair (tm K x) (tm K y) := by
  obtain ⟨j, rfl⟩ : ∃ j, i = j + 1 := ⟨i - 1, by omega⟩
  unfold tm
  simp only [tmF, e1, e2, Int.toNat_natCast, h0, if_true]
  rw [tmF_eq h x j (by omega) (by omega), tmF_eq h y j (by omega) (by omega)]
theorem tm_lock {K : Nds} {n : Nat} (h : Wf K n) {i : Nat} (hi : i < n) (h0 : K i 0 = 3) {x y : Nat} (hx : x < i) (hy : y < i) (e1 : K i 1 = x) (e2 : K i 2 = y) : tm K i = .lock (tm K x) (tm K y) := by
  obtain ⟨j, rfl⟩ : ∃ j, i = j + 1 := ⟨i - 1, by omega⟩
  unfold tm
  simp only [tmF, e1, e2, Int.toNat_natCast, h0, if_true]
  rw [tmF_eq h x j (by omega) (by omega), tmF_eq h y j (by omega) (by omega)]
  rfl

/-- The text of a term. -/
def txT : Tm → List UInt8
  | .atom a => 97 :: Lib.decDigits a
  | .key a => 107 :: Lib.decDigits a
  | .pair x y => 40 :: (txT x ++ 44 :: (txT y ++ [41]))
  | .lock x y => 123 :: (txT y ++ 125 :: txT x)
def lnT (t : Tm) : Nat := (txT t).length

theorem lnT_atom (a : Nat) : lnT (.atom a) = 1 + (Lib.decDigits a).length := by simp [lnT, txT]; omega
theorem lnT_key (a : Nat) : lnT (.key a) = 1 + (Lib.decDigits a).length := by simp [lnT, txT]; omega
theorem lnT_pair (x y : Tm) : lnT (.pair x y) = 3 + lnT x + lnT y := by simp [lnT, txT]; omega
theorem lnT_lock (x y : Tm) : lnT (.lock x y) = 2 + lnT x + lnT y := by simp [lnT, txT]; omega
theorem digits_pos (a : Nat) : 0 < (Lib.decDigits a).length := by
  rw [Lib.decDigits]
  split <;> simp
theorem digits_len : ∀ (k x : Nat), x < 10 ^ (k + 1) → (Lib.decDigits x).length ≤ k + 1
  | 0, x, h => by rw [Lib.decDigits_one (by simpa using h)]; simp
  | k + 1, x, h => by
    by_cases hx : x < 10
    · rw [Lib.decDigits_one hx]; simp
    · have ih := digits_len k (x / 10) (by rw [Nat.pow_succ] at h; omega)
      rw [Lib.decDigits, dif_neg hx, List.length_append, List.length_singleton]
      omega
theorem digits_six {x : Nat} (h : x ≤ 999999) : (Lib.decDigits x).length ≤ 6 := digits_len 5 x (by omega)
theorem lnT_pos (t : Tm) : 0 < lnT t := by cases t <;> simp [lnT, txT]

/-- The size that is told. -/
def szT (t : Tm) : Nat := min (lnT t) 1000000000
theorem szT_pair (x y : Tm) : szT (.pair x y) = min (3 + szT x + szT y) 1000000000 := by unfold szT; rw [lnT_pair]; omega
theorem szT_lock (x y : Tm) : szT (.lock x y) = min (2 + szT x + szT y) 1000000000 := by unfold szT; rw [lnT_lock]; omega
theorem szT_pos (t : Tm) : 0 < szT t := by unfold szT; have := lnT_pos t; omega
theorem szT_le (t : Tm) : szT t ≤ 1000000000 := by unfold szT; omega

/- A numeral's digits; where it ends. -/
def isDig (c : UInt8) : Bool := decide (48 ≤ c.toNat) && decide (c.toNat ≤ 57)
/-- What may follow a numeral. -/
def NoDig : List UInt8 → Prop
  | [] => True
  | c :: _ => isDig c = false

theorem dig_is {d : Nat} (h : d < 10) : isDig (UInt8.ofNat (48 + d)) = true := by
  have : (UInt8.ofNat (48 + d)).toNat = 48 + d := by rw [UInt8.toNat_ofNat']; omega
  unfold isDig
  rw [this]
  simp
  omega
theorem dig_inj {d e : Nat} (hd : d < 10) (he : e < 10) (h : UInt8.ofNat (48 + d) = UInt8.ofNat (48 + e)) : d = e := by
  have h1 : (UInt8.ofNat (48 + d)).toNat = 48 + d := by rw [UInt8.toNat_ofNat']; omega
  have h2 : (UInt8.ofNat (48 + e)).toNat = 48 + e := by rw [UInt8.toNat_ofNat']; omega
  rw [h, h2] at h1
  omega
theorem digits_all (a : Nat) : ∀ c ∈ Lib.decDigits a, isDig c = true := by
  induction a using Nat.strongRecOn with
  | _ a ih =>
    intro c hc
    rw [Lib.decDigits] at hc
    split at hc
    · rename_i h
      have := List.mem_singleton.1 hc
      subst this
      exact dig_is h
    · rcases List.mem_append.1 hc with h | h
      · exact ih (a / 10) (by omega) c h
      · have := List.mem_singleton.1 h
        subst this
        exact dig_is (Nat.mod_lt _ (by decide))

theorem app_cut : ∀ (l m r s : List UInt8), (∀ c ∈ l, isDig c = true) → (∀ c ∈ m, isDig c = true) → NoDig r → NoDig s → l ++ r = m ++ s → l = m ∧ r = s
  | [], [], r, s, _, _, _, _, h => ⟨rfl, by simpa using h⟩
  | [], c :: m, r, s, _, h2, hr, _, h => by
    rw [List.nil_append, List.cons_append] at h
    rw [h] at hr
    have h3 : isDig c = false := hr
    rw [h2 c (List.mem_cons_self ..)] at h3
    cases h3
  | c :: l, [], r, s, h1, _, _, hs, h => by
    rw [List.nil_append, List.cons_append] at h
    rw [← h] at hs
    have h3 : isDig c = false := hs
    rw [h1 c (List.mem_cons_self ..)] at h3
    cases h3
  | c :: l, d :: m, r, s, h1, h2, hr, hs, h => by
    rw [List.cons_append, List.cons_append] at h
    obtain ⟨e1, e2⟩ := List.cons.inj h
    obtain ⟨e3, e4⟩ := app_cut l m r s (fun c hc => h1 c (List.mem_cons_of_mem _ hc)) (fun c hc => h2 c (List.mem_cons_of_mem _ hc)) hr hs e2
    exact ⟨by rw [e1, e3], e4⟩

theorem digits_big {u : Nat} (h : ¬ u < 10) : Lib.decDigits u = Lib.decDigits (u / 10) ++ [UInt8.ofNat (48 + u % 10)] := by rw [Lib.decDigits, dif_neg h]
theorem digits_inj : ∀ (a b : Nat), Lib.decDigits a = Lib.decDigits b → a = b := by
  intro a
  induction a using Nat.strongRecOn with
  | _ a ih =>
    intro b h
    by_cases ha : a < 10
    · by_cases hb : b < 10
      · rw [Lib.decDigits_one ha, Lib.decDigits_one hb] at h
        exact dig_inj ha hb (List.singleton_inj.1 h)
      · rw [Lib.decDigits_one ha, digits_big hb] at h
        have := congrArg List.length h
        have hp := digits_pos (b / 10)
        rw [List.length_append, List.length_singleton, List.length_singleton] at this
        omega
    · by_cases hb : b < 10
      · rw [Lib.decDigits_one hb, digits_big ha] at h
        have := congrArg List.length h
        have hp := digits_pos (a / 10)
        rw [List.length_append, List.length_singleton, List.length_singleton] at this
        omega
      · rw [digits_big ha, digits_big hb] at h
        obtain ⟨e1, e2⟩ := List.append_inj' h rfl
        have e3 := ih (a / 10) (by omega) (b / 10) e1
        have e4 := dig_inj (Nat.mod_lt a (by decide)) (Nat.mod_lt b (by decide)) (List.singleton_inj.1 e2)
        omega
theorem noDig_cons {c : UInt8} {l : List UInt8} (h : isDig c = false) : NoDig (c :: l) := h

theorem text_cut : ∀ (t u : Tm) (r s : List UInt8), NoDig r → NoDig s → txT t ++ r = txT u ++ s → t = u ∧ r = s
  | .atom a, u, r, s, hr, hs, h => by
    cases u with
    | atom b =>
      simp only [txT, List.cons_append, List.cons.injEq, true_and] at h
      obtain ⟨e1, e2⟩ := app_cut _ _ _ _ (digits_all a) (digits_all b) hr hs h
      exact ⟨by rw [digits_inj a b e1], e2⟩
    | key b => simp [txT] at h
    | pair x y => simp [txT] at h
    | lock x y => simp [txT] at h
  | .key a, u, r, s, hr, hs, h => by
    cases u with
    | key b =>
      simp only [txT, List.cons_append, List.cons.injEq, true_and] at h
      obtain ⟨e1, e2⟩ := app_cut _ _ _ _ (digits_all a) (digits_all b) hr hs h
      exact ⟨by rw [digits_inj a b e1], e2⟩
    | atom b => simp [txT] at h
    | pair x y => simp [txT] at h
    | lock x y => simp [txT] at h
  | .pair x y, u, r, s, hr, hs, h => by
    cases u with
    | pair x' y' =>
      simp only [txT, List.cons_append, List.append_assoc, List.cons.injEq, true_and] at h
      obtain ⟨e1, e2⟩ := text_cut x x' _ _ (noDig_cons (by decide)) (noDig_cons (by decide)) h
      obtain ⟨_, e2⟩ := List.cons.inj e2
      obtain ⟨e3, e4⟩ := text_cut y y' _ _ (noDig_cons (by decide)) (noDig_cons (by decide)) e2
      exact ⟨by rw [e1, e3], by simpa using e4⟩
    | atom b => simp [txT] at h
    | key b => simp [txT] at h
    | lock x y => simp [txT] at h
  | .lock x y, u, r, s, hr, hs, h => by
    cases u with
    | lock x' y' =>
      simp only [txT, List.cons_append, List.append_assoc, List.cons.injEq, true_and] at h
      obtain ⟨e1, e2⟩ := text_cut y y' _ _ (noDig_cons (by decide)) (noDig_cons (by decide)) h
      obtain ⟨_, e2⟩ := List.cons.inj e2
      obtain ⟨e3, e4⟩ := text_cut x x' _ _ hr hs e2
      exact ⟨by rw [e1, e3], e4⟩
    | atom b => simp [txT] at h
    | key b => simp [txT] at h
    | pair x y => simp [txT] at h

/-- Terms are the same just if their texts are. -/
theorem text_inj {t u : Tm} (h : txT t = txT u) : t = u := (text_cut t u [] [] trivial trivial (by rw [h])).1

/- The first place of a term. -/
theorem fst_exists (K : Nds) (i : Nat) : ∃ j, tm K j = tm K i ∧ ∀ k, k < j → tm K k ≠ tm K i := by
  have key : ∀ m, (∃ j, j < m ∧ tm K j = tm K i ∧ ∀ k, k < j → tm K k ≠ tm K i) ∨ ∀ k, k < m → tm K k ≠ tm K i := by
    intro m
    induction m with
    | zero => exact .inr fun k hk => absurd hk (Nat.not_lt_zero _)
    | succ m ih =>
      rcases ih with ⟨j, h1, h2⟩ | ih
      · exact .inl ⟨j, by omega, h2⟩
      · by_cases e : tm K m = tm K i
        · exact .inl ⟨m, by omega, e, ih⟩
        · refine .inr fun k hk => ?_
          by_cases e2 : k = m
          · rw [e2]; exact e
          · exact ih k (by omega)
  rcases key (i + 1) with ⟨j, _, h⟩ | h
  · exact ⟨j, h⟩
  · exact absurd rfl (h i (by omega))
noncomputable def fst (K : Nds) (i : Nat) : Nat := Classical.choose (fst_exists K i)
theorem fst_tm (K : Nds) (i : Nat) : tm K (fst K i) = tm K i := (Classical.choose_spec (fst_exists K i)).1
theorem fst_least (K : Nds) (i : Nat) : ∀ k, k < fst K i → tm K k ≠ tm K i := (Classical.choose_spec (fst_exists K i)).2
theorem fst_le (K : Nds) (i : Nat) : fst K i ≤ i := by
  rcases Nat.lt_or_ge i (fst K i) with h | h
  · exact absurd rfl (fst_least K i i h)
  · exact h
theorem fst_unique {K : Nds} {i j : Nat} (h1 : tm K j = tm K i) (h2 : ∀ k, k < j → tm K k ≠ tm K i) : j = fst K i := by
  have a := fst_least K i j
  have b := h2 (fst K i)
  rcases Nat.lt_trichotomy j (fst K i) with h | h | h
  · exact absurd h1 (a h)
  · exact h
  · exact absurd (fst_tm K i) (b h)
theorem fst_same (K : Nds) (i j : Nat) : fst K i = fst K j ↔ tm K i = tm K j := by
  constructor
  · intro h
    rw [← fst_tm K i, ← fst_tm K j, h]
  · intro h
    exact fst_unique ((fst_tm K i).trans h) fun k hk => by rw [← h]; exact fst_least K i k hk

/-- When two places have the same term. -/
theorem tm_same {K : Nds} {n : Nat} (h : Wf K n) {i j : Nat} (hi : i < n) (hj : j < n) :
    tm K i = tm K j ↔ K i 0 = K j 0 ∧ ((K i 0 < 2 ∧ K i 1 = K j 1) ∨ (2 ≤ K i 0 ∧ tm K (K i 1).toNat = tm K (K j 1).toNat ∧ tm K (K i 2).toNat = tm K (K j 2).toNat)) := by
  rcases h.kinds hi with ⟨a0, ⟨x, _, a1⟩, _⟩ | ⟨a0, x, y, hx, hy, a1, a2⟩
  · rcases h.kinds hj with ⟨b0, ⟨u, _, b1⟩, _⟩ | ⟨b0, u, v, hu, hv, b1, b2⟩
    · rcases a0 with a0 | a0 <;> rcases b0 with b0 | b0
      · rw [tm_atom h hi a0 a1, tm_atom h hj b0 b1, a0, b0, a1, b1]; simp; omega
      · rw [tm_atom h hi a0 a1, tm_key h hj b0 b1, a0, b0]; simp
      · rw [tm_key h hi a0 a1, tm_atom h hj b0 b1, a0, b0]; simp
      · rw [tm_key h hi a0 a1, tm_key h hj b0 b1, a0, b0, a1, b1]; simp; omega
    · rcases a0 with a0 | a0 <;> rcases b0 with b0 | b0
      · rw [tm_atom h hi a0 a1, tm_pair h hj b0 hu hv b1 b2, a0, b0]; simp
      · rw [tm_atom h hi a0 a1, tm_lock h hj b0 hu hv b1 b2, a0, b0]; simp
      · rw [tm_key h hi a0 a1, tm_pair h hj b0 hu hv b1 b2, a0, b0]; simp
      · rw [tm_key h hi a0 a1, tm_lock h hj b0 hu hv b1 b2, a0, b0]; simp
  · rcases h.kinds hj with ⟨b0, ⟨u, _, b1⟩, _⟩ | ⟨b0, u, v, hu, hv, b1, b2⟩
    · rcases a0 with a0 | a0 <;> rcases b0 with b0 | b0
      · rw [tm_pair h hi a0 hx hy a1 a2, tm_atom h hj b0 b1, a0, b0]; simp
      · rw [tm_pair h hi a0 hx hy a1 a2, tm_key h hj b0 b1, a0, b0]; simp
      · rw [tm_lock h hi a0 hx hy a1 a2, tm_atom h hj b0 b1, a0, b0]; simp
      · rw [tm_lock h hi a0 hx hy a1 a2, tm_key h hj b0 b1, a0, b0]; simp
    · rw [a1, a2, b1, b2, Int.toNat_natCast, Int.toNat_natCast, Int.toNat_natCast, Int.toNat_natCast]
      rcases a0 with a0 | a0 <;> rcases b0 with b0 | b0
      · rw [tm_pair h hi a0 hx hy a1 a2, tm_pair h hj b0 hu hv b1 b2, a0, b0]; simp
      · rw [tm_pair h hi a0 hx hy a1 a2, tm_lock h hj b0 hu hv b1 b2, a0, b0]; simp
      · rw [tm_lock h hi a0 hx hy a1 a2, tm_pair h hj b0 hu hv b1 b2, a0, b0]; simp
      · rw [tm_lock h hi a0 hx hy a1 a2, tm_lock h hj b0 hu hv b1 b2, a0, b0]; simp

/- Parts, marked from behind. -/
def madeB (o : Int) : Bool := (o == 2) || (o == 3)
def setT (f : Nat → Bool) (p : Nat) : Nat → Bool := fun q => if q = p then true else f q
def stepM (K : Nds) (f : Nat → Bool) (k : Nat) : Nat → Bool := if f k = true ∧ madeB (K k 0) = true then setT (setT f (K k 1).toNat) (K k 2).toNat else f
/-- The marks behind t steps, from i down. -/
def marks (K : Nds) (i : Nat) : Nat → Nat → Bool
  | 0 => setT (fun _ => false) i
  | t + 1 => stepM K (marks K i t) (i - t)
/-- The places that i is made of. -/
def partB (K : Nds) (i : Nat) : Nat → Bool := marks K i (i + 1)
def partL (K : Nds) (i : Nat) : List Nat := (List.range (i + 1)).filter (partB K i)
/-- The first t of them, from behind. -/
def downL (K : Nds) (i : Nat) : Nat → List Nat
  | 0 => []
  | t + 1 => downL K i t ++ (if partB K i (i - t) = true then [i - t] else [])

theorem step_keep {K : Nds} {n : Nat} (h : Wf K n) {k p : Nat} (hk : k < n) (hp : k ≤ p) (f : Nat → Bool) : stepM K f k p = f p := by
  unfold stepM
  split
  · rename_i hm
    rcases h.kinds hk with ⟨h0, _⟩ | ⟨_, x, y, hx, hy, e1, e2⟩
    · exfalso
      have := hm.2
      unfold madeB at this
      rcases h0 with h0 | h0 <;> rw [h0] at this <;> cases this
    · unfold setT
      rw [e1, e2, Int.toNat_natCast, Int.toNat_natCast, if_neg (by omega), if_neg (by omega)]
  · rfl
theorem marks_keep {K : Nds} {n : Nat} (h : Wf K n) {i : Nat} (hi : i < n) : ∀ d t p, t + d ≤ i + 1 → i - t ≤ p → marks K i (t + d) p = marks K i t p
  | 0, t, p, _, _ => rfl
  | d + 1, t, p, h1, h2 => by
    show stepM K (marks K i (t + d)) (i - (t + d)) p = _
    rw [step_keep h (by omega) (by omega)]
    exact marks_keep h hi d t p (by omega) h2
/-- Whether a place is a part is known once those behind it are gone through. -/
theorem part_at {K : Nds} {n : Nat} (h : Wf K n) {i : Nat} (hi : i < n) {t : Nat} (ht : t ≤ i) : partB K i (i - t) = marks K i t (i - t) := by
  have := marks_keep h hi (i + 1 - t) t (i - t) (by omega) (Nat.le_refl _)
  rwa [show t + (i + 1 - t) = i + 1 by omega] at this
theorem set_le (f : Nat → Bool) (p q : Nat) (h : f q = true) : setT f p q = true := by unfold setT; split <;> simp [h]
theorem step_le (K : Nds) (f : Nat → Bool) (k q : Nat) (h : f q = true) : stepM K f k q = true := by
  unfold stepM
  split
  · exact set_le _ _ _ (set_le _ _ _ h)
  · exact h
theorem marks_le (K : Nds) (i : Nat) : ∀ d t q, marks K i t q = true → marks K i (t + d) q = true
  | 0, t, q, h => h
  | d + 1, t, q, h => step_le K _ _ q (marks_le K i d t q h)
theorem part_self (K : Nds) (i : Nat) : partB K i i = true := by
  have := marks_le K i (i + 1) 0 i (by simp [marks, setT])
  rwa [Nat.zero_add] at this
/-- The parts of a part are parts. -/
theorem part_made {K : Nds} {n : Nat} (h : Wf K n) {i p : Nat} (hi : i < n) (hp : p ≤ i) (hb : partB K i p = true) (hm : madeB (K p 0) = true) : partB K i (K p 1).toNat = true ∧ partB K i (K p 2).toNat = true := by
  have e := part_at h hi (t := i - p) (by omega)
  rw [show i - (i - p) = p by omega, hb] at e
  have hs : marks K i (i - p + 1) = setT (setT (marks K i (i - p)) (K p 1).toNat) (K p 2).toNat := by
    show stepM K (marks K i (i - p)) (i - (i - p)) = _
    rw [show i - (i - p) = p by omega]
    unfold stepM
    rw [if_pos ⟨e.symm, hm⟩]
  have e2 : i - p + 1 + p = i + 1 := by omega
  constructor
  · have := marks_le K i p (i - p + 1) (K p 1).toNat (by rw [hs]; exact set_le _ _ _ (by simp [setT]))
    rwa [e2] at this
  · have := marks_le K i p (i - p + 1) (K p 2).toNat (by rw [hs]; simp [setT])
    rwa [e2] at this

theorem downL_rev (K : Nds) (i : Nat) : ∀ t, t ≤ i + 1 → (downL K i t).reverse = (List.range' (i + 1 - t) t).filter (partB K i)
  | 0, _ => rfl
  | t + 1, ht => by
    have ih := downL_rev K i t (by omega)
    unfold downL
    rw [List.reverse_append, ih, List.range'_succ, show i + 1 - (t + 1) = i - t by omega, show i - t + 1 = i + 1 - t by omega, List.filter_cons]
    split <;> simp
theorem partL_eq (K : Nds) (i : Nat) : (downL K i (i + 1)).reverse = partL K i := by
  rw [downL_rev K i (i + 1) (Nat.le_refl _), Nat.sub_self]
  unfold partL
  rw [List.range_eq_range']
theorem downL_length (K : Nds) (i : Nat) : ∀ t, (downL K i t).length ≤ t
  | 0 => Nat.le_refl _
  | t + 1 => by
    have := downL_length K i t
    unfold downL
    rw [List.length_append]
    split <;> simp <;> omega
theorem partL_length (K : Nds) (i : Nat) : (partL K i).length ≤ i + 1 := by
  rw [← partL_eq, List.length_reverse]
  exact downL_length K i (i + 1)
theorem partL_mem (K : Nds) (i p : Nat) : p ∈ partL K i ↔ p ≤ i ∧ partB K i p = true := by
  unfold partL
  rw [List.mem_filter, List.mem_range]
  constructor <;> intro h <;> exact ⟨by omega, h.2⟩
theorem partL_nodup (K : Nds) (i : Nat) : (partL K i).Nodup := List.Nodup.sublist List.filter_sublist List.nodup_range
theorem partL_last (K : Nds) (i : Nat) : ∃ l, partL K i = l ++ [i] := by
  unfold partL
  rw [List.range_succ, List.filter_append]
  exact ⟨_, by rw [List.filter_cons, if_pos (part_self K i)]; rfl⟩

end Go.Proofs.YtapebaoajknepaaGreatDoor
/-
  An element of a slice of ints, at the operation.
-/
namespace Go.Proofs.YtapebaoajknepaaGreatDoor
open Go.RowKit

theorem el_ints : Tryz.prog.elem 46 = 3 := by kernel_rfl

theorem at_ints {w0 : World} {ad : Option Addr} {n c i : Nat} {f : Nat → Nat} (h : SeesI w0 ad n f) (hi : i < n) {o : Oper} {a : Act} {x y : Operand} (ho : o.op = .indexAddr 46 x y) (hx : a.eval x = .slice ad n c) {z : Int} (hy : a.eval y = .int .i64 z) (hz : z = (i : Int)) (w : World) :
    (execOp a.eval o).run Tryz.prog w = .ok (.value (.pointer (some (elV ad i)))) w := by
  have := run_index_v Tryz.underlying46 el_ints sz_int (k := 1) (n := n) (by rw [Nat.mul_one]; exact h) (by decide) hi ho hx hy hz w
  rwa [Nat.mul_one] at this
end Go.Proofs.YtapebaoajknepaaGreatDoor
/-
  Slices of nodes.
-/
namespace Go.Proofs.YtapebaoajknepaaGreatDoor
open Go.RowKit
set_option linter.unusedVariables false

/-- Nodes in a row: cell m. -/
def flatN (K : Nds) : Nat → Value := fun m => .int .i64 (K (m / 3) (m % 3))
theorem flatN_0 (K : Nds) (i : Nat) : flatN K (i * 3) = .int .i64 (K i 0) := by unfold flatN; rw [show i * 3 / 3 = i by omega, show i * 3 % 3 = 0 by omega]
theorem flatN_1 (K : Nds) (i : Nat) : flatN K (i * 3 + 1) = .int .i64 (K i 1) := by unfold flatN; rw [show (i * 3 + 1) / 3 = i by omega, show (i * 3 + 1) % 3 = 1 by omega]
theorem flatN_2 (K : Nds) (i : Nat) : flatN K (i * 3 + 2) = .int .i64 (K i 2) := by unfold flatN; rw [show (i * 3 + 2) / 3 = i by omega, show (i * 3 + 2) % 3 = 2 by omega]
abbrev SeesN (w : World) (a : Option Addr) (n : Nat) (K : Nds) : Prop := SeesV w a (n * 3) (flatN K)
end Go.Proofs.YtapebaoajknepaaGreatDoor
/-
  One thing appended to a row of the call's own: a number, a node, a byte.
-/
namespace Go.Proofs.YtapebaoajknepaaGreatDoor
open Go.RowKit
set_option linter.unusedVariables false

theorem new_cells (w : World) (cs : List Value) (t : TypeId) : ∀ j u, cs[j]? = some u → (w.alloc (.cells cs.toArray t)).cell? ((⟨w.heap.size, 0, none⟩ : Addr).add j) = some u := by
  intro j u hu
  rw [addr_add, Nat.zero_add]
  have := World.cell?_alloc_mark w cs.toArray t (0, 0) j
  rw [this]
  simpa using hu

section
variable {P : Program} {S T : TypeId} {ops : Array Oper} {rest : List Oper} {o : Oper} {a : Act} {w : World} {Q : Exit → Act → World → Prop}
theorem wpList_append_cs (hu : P.underlying S = some (.slice T)) {z : Value} {size bytes : Nat} (hi : (P.info? T).map (fun i => (i.zero, i.size, i.bytes)) = some (some z, size, bytes)) (hzs : z.cells.size = size) (hsz : 0 < size) (hby : bytes ≤ 24)
    (hgd : o.guard = none) (s x : Operand) (ho : o.op = .call { callee := .builtin .append, args := #[s, x], argTypes := #[S, S] }) (base : Nat) (v : Value) (n : Nat) (xs cs : List Value) (hs : a.eval s = v) (w0 : World) (hown : w0.ownsRow base T size v n xs)
    (hw : w = w0.alloc (.cells cs.toArray T)) {g : Nat} (hx : a.eval x = .slice (some ⟨g, 0, none⟩) 1 1) (hgs : g = w0.heap.size) (hl : cs.length = size) (h1 : ∀ u ∈ cs, u.oneCell' = true) (hn : n ≤ 1000000) (hbase : base ≤ w0.heap.size)
    (h : ∀ v' w', Hid (w'.ownsRow base T size v' (n + 1) (xs ++ cs)) → Hid (w0.grownBy w' v.ownBlock) → Hid (Below base w0 w') → wpList P ops Q rest (a.put o.dst v') w') : wpList P ops Q (o :: rest) a w := by
  obtain ⟨i0, hi0, hz0, hz1, hz2⟩ := info_parts hi
  subst hw
  subst hgs
  refine wpList_append_own _ hgd s x S ho base T i0 z size bytes hu hi0 hz0 hz1 hz2 hzs hsz v n xs hs (hown.alloc _) ⟨w0.heap.size, 0, none⟩ 1 1 cs hx (by rw [hl, Nat.one_mul]) (new_cells w0 cs T) h1 (by unfold maxLen; omega) ?_ (by simp; omega) ?_
  · have : (n + 1) * bytes ≤ 1000001 * 24 := Nat.mul_le_mul (by omega) hby
    omega
  · intro v' w' h2 h3 _
    have g := (World.grownBy_alloc w0 (.cells cs.toArray T) v.ownBlock).trans h3
    exact h v' w' h2 g ((Below.refl base w0).grown g hbase (fun g hg => (hown.lt g hg).1))
end

/-- A number. -/
theorem wpList_append_num {ops : Array Oper} {rest : List Oper} {o : Oper} {a : Act} {w : World} {Q : Exit → Act → World → Prop} (hgd : o.guard = none) (s x : Operand)
    (ho : o.op = .call { callee := .builtin .append, args := #[s, x], argTypes := #[46, 46] }) (base : Nat) (v : Value) (n : Nat) (f : Nat → Nat) (z : Int) (hz : z = ((f n : Nat) : Int)) (hs : a.eval s = v) (w0 : World) (hown : w0.ownsRow base 3 1 v n (cellL n (natV f)))
    (hw : w = w0.alloc (.cells #[.int .i64 z] 3)) {g : Nat} (hx : a.eval x = .slice (some ⟨g, 0, none⟩) 1 1) (hgs : g = w0.heap.size) (hn : n ≤ 1000000) (hbase : base ≤ w0.heap.size)
    (h : ∀ v' w', Hid (w'.ownsRow base 3 1 v' (n + 1) (cellL (n + 1) (natV f))) → Hid (w0.grownBy w' v.ownBlock) → Hid (Below base w0 w') → wpList Tryz.prog ops Q rest (a.put o.dst v') w') : wpList Tryz.prog ops Q (o :: rest) a w := by
  subst hz
  refine wpList_append_cs Tryz.underlying46 Tryz.infoInt rfl (by decide) (by decide) hgd s x ho base v n _ [.int .i64 ((f n : Nat) : Int)] hs w0 hown hw hx hgs rfl (fun u hu => by simp at hu; subst hu; rfl) hn hbase ?_
  intro v' w' h1
  have e : cellL n (natV f) ++ [.int .i64 ((f n : Nat) : Int)] = cellL (n + 1) (natV f) := cellL_succ n (natV f)
  rw [e] at h1
  exact h v' w' h1
/-- Numbers that the call owns are seen. -/
theorem own_ints {w : World} {base n : Nat} {v : Value} {f : Nat → Nat} (h : w.ownsRow base 3 1 v n (cellL n (natV f))) : ∃ a c, v = .slice a n c ∧ SeesI w a n f ∧ n ≤ c ∧ c ≤ maxLen ∧ ∀ ad, a = some ad → base ≤ ad.block ∧ v.ownBlock = some ad.block ∧ ad = ⟨ad.block, 0, none⟩ := by
  have := own_seesV (F := natV f) h (fun m hm => cellL_get n _ m (by omega))
  rwa [Nat.mul_one] at this
theorem own_nodes {w : World} {T : TypeId} {base n : Nat} {v : Value} {K : Nds} (h : w.ownsRow base T 3 v n (cellL (n * 3) (flatN K))) : ∃ a c, v = .slice a n c ∧ SeesN w a n K ∧ n ≤ c ∧ c ≤ maxLen ∧ ∀ ad, a = some ad → base ≤ ad.block ∧ v.ownBlock = some ad.block ∧ ad = ⟨ad.block, 0, none⟩ :=
  own_seesV h (fun m hm => cellL_get _ _ m hm)

end Go.Proofs.YtapebaoajknepaaGreatDoor
/-
  Contracts: the segments of a class; Free, Used, Retired.
-/
namespace Go.Proofs.YtapebaoajknepaaGreatDoor
open Go.RowKit
set_option linter.unusedVariables false

/-- The segments below t that p names. -/
def sgL (p : Nat → Bool) : Nat → List Nat
  | 0 => []
  | t + 1 => sgL p t ++ (if p t = true then [t] else [])
theorem sgL_pre (p : Nat → Bool) (t : Nat) : ∀ d, ∃ r, sgL p (t + d) = sgL p t ++ r
  | 0 => ⟨[], by simp⟩
  | d + 1 => by
    obtain ⟨r, hr⟩ := sgL_pre p t d
    refine ⟨r ++ (if p (t + d) = true then [t + d] else []), ?_⟩
    show sgL p (t + d) ++ (if p (t + d) = true then [t + d] else []) = _
    rw [hr, List.append_assoc]
theorem sgL_none {p : Nat → Bool} {t : Nat} (h : p t = false) : sgL p (t + 1) = sgL p t := by
  show sgL p t ++ _ = _
  rw [if_neg (by rw [h]; decide), List.append_nil]
theorem sgL_at {p : Nat → Bool} {t m : Nat} (ht : t < m) (h : p t = true) : (sgL p m).getD (sgL p t).length 0 = t ∧ (sgL p (t + 1)).length = (sgL p t).length + 1 := by
  have h1 : sgL p (t + 1) = sgL p t ++ [t] := by
    show sgL p t ++ _ = _
    rw [if_pos h]
  obtain ⟨r, hr⟩ := sgL_pre p (t + 1) (m - (t + 1))
  rw [show t + 1 + (m - (t + 1)) = m by omega] at hr
  rw [hr, h1]
  refine ⟨?_, by simp⟩
  simp [List.getD_eq_getElem?_getD]
theorem sgL_length (p : Nat → Bool) : ∀ t, (sgL p t).length ≤ t
  | 0 => Nat.le_refl _
  | t + 1 => by
    show (sgL p t ++ _).length ≤ _
    have := sgL_length p t
    rw [List.length_append]
    split
    · simp; omega
    · simp; omega

/-- Segments that are told. -/
def SegsEnd (l : List Nat) (w : World) (e : Ending) (w' : World) : Prop := ∃ a c, e = .returned (.slice a l.length c) ∧ Hid (SeesI w' a l.length (fun j => l.getD j 0)) ∧ Below w.heap.size w w'

set_option maxHeartbeats 2000000 in
set_option maxRecDepth 8000 in
theorem segs_free (B lp : Nat) (L : Lay) (S : St) (hv : Value) (G : Sg) (w : World) (h : Hid (Lg B w lp L S hv G)) :
    Calls Tryz.prog 34 #[.pointer (some ⟨lp, 0, none⟩), .int .i64 0] w (SegsEnd (sgL (freeB L S G) L.n) w) := by
  have K := Lib.hid (classes_any lp w)
  have um := Lib.hid Tryz.underlying76
  have uk := Lib.hid Tryz.underlying78
  go_enter Tryz.func34, Tryz.ntmps34
  go_wp2_with fail
  refine K.out.mono ?_
  rintro e w1 ⟨lb, ib, mb, rfl, hc, b1⟩
  have h1 := Lib.hid (h.out.after b1)
  have m1 := Lib.hid hc.out.mp
  have c0 := h1.out.l0
  have SG := Lib.hid (segs_any B w1 L S hv (Lib.hid h1.out.ch))
  clear K
  go_wp2_with (refine wpList_known rfl (op_mget um.out uk.out m1.out (find0 lb ib) rfl rfl rfl) ?_)
  refine SG.out.mono ?_
  rintro e w2 ⟨rfl, rfl⟩
  have hn := h1.out.ch.room.2.1
  obtain ⟨f, hf⟩ : ∃ f : Nat → Nat, Hid (f = fun j => (sgL (freeB L S G) L.n).getD j 0) := ⟨_, rfl⟩
  have o0 : Hid (w2.ownsRow w2.heap.size 3 1 (.slice none 0 0) (sgL (freeB L S G) 0).length (cellL (sgL (freeB L S G) 0).length (natV f))) := World.ownsRow_nil _ _ _ _
  clear SG c0 m1 um uk
  go_wp2
  go_loopw [5, 17] (fun v5 v17 wr => ∃ i : Nat, i ≤ L.n ∧ v17 = .int .i64 (i : Int) ∧ Hid (wr.ownsRow w2.heap.size 3 1 v5 (sgL (freeB L S G) i).length (cellL (sgL (freeB L S G) i).length (natV f))) ∧ Hid (Below w2.heap.size w2 wr)) (fun v5 v17 _ => L.n - (intOf v17).toNat)
  case atStart => exact ⟨0, Nat.zero_le _, rfl, o0, Below.refl _ _⟩
  case round =>
    clear o0
    obtain ⟨i, hi, rfl, ho, hb⟩ := hrel
    have h2 := Lib.hid (h1.out.after hb.out)
    have hc2 := Lib.hid (hc.out.after hb.out)
    by_cases hin : i < L.n
    · have l0 : (i : Int) < (L.n : Int) := by omega
      have P := Lib.hid (isFree_any B lp L S hv G i hin lb ib mb wr h2 hc2)
      go_wp2_with fail
      refine P.out.mono ?_
      rintro e w3 ⟨rfl, b3⟩
      have o3 := Lib.hid (own_onto ho.out b3)
      have hb3 := Lib.hid (hb.out.trans (b3.mono hb.out.size))
      clear P h2 hc2 ho hb b3
      cases hp : (freeB L S G) i
      · have ed : Hid (sgL (freeB L S G) (i + 1) = sgL (freeB L S G) i) := sgL_none hp
        clear hp
        go_wp2
        go_roundw
        case rel => exact ⟨i + 1, by omega, by go_num, by unfold Hid; rw [ed.out]; exact o3.out, hb3⟩
        case measure => simp [intOf]; omega
      · obtain ⟨eg, el⟩ := sgL_at hin hp
        have hk : (sgL (freeB L S G) i).length ≤ 64 := by have := sgL_length (freeB L S G) i; omega
        have eg' : Hid ((i : Int) = ((f (sgL (freeB L S G) i).length : Nat) : Int)) := by unfold Hid; rw [hf.out]; show _ = (((sgL (freeB L S G) L.n).getD (sgL (freeB L S G) i).length 0 : Nat) : Int); rw [eg]
        replace el := Lib.hid el
        have hsz : w2.heap.size ≤ w3.heap.size := hb3.out.size
        clear hp eg
        generalize (sgL (freeB L S G) i).length = k at *
        go_wp2_with (at_builtin; refine wpList_append_num rfl _ _ rfl w2.heap.size _ k f (i : Int) eg'.out rfl w3 o3.out rfl rfl rfl (by omega) hsz ?_; intro v1 w4 hown hgrow hb4; refine Hid.out ?_)
        unfold Hid
        have hb5 := Lib.hid (hb3.out.trans hb4.out)
        clear o3 hb3 hgrow hb4 eg' hsz
        go_wp2
        go_roundw
        case rel => exact ⟨i + 1, by omega, by go_num, by unfold Hid; rw [el.out]; exact hown.out, hb5⟩
        case measure => simp [intOf]; omega
    · have et : i = L.n := by omega
      subst et
      have l0 : ¬ (L.n : Int) < (L.n : Int) := by omega
      obtain ⟨a, c', rfl, hs, _⟩ := own_ints ho.out
      have hs' := Lib.hid hs
      have hbe := Lib.hid (b1.trans (hb.out.mono b1.size))
      clear hs ho
      go_wp2
      go_ret
      exact ⟨a, c', rfl, by rw [hf.out] at hs'; exact hs', hbe.out⟩

set_option maxHeartbeats 2000000 in
set_option maxRecDepth 8000 in
theorem segs_retired (B lp : Nat) (L : Lay) (S : St) (hv : Value) (G : Sg) (w : World) (h : Hid (Lg B w lp L S hv G)) :
    Calls Tryz.prog 34 #[.pointer (some ⟨lp, 0, none⟩), .int .i64 2] w (SegsEnd (sgL (G.worn) L.n) w) := by
  have K := Lib.hid (classes_any lp w)
  have um := Lib.hid Tryz.underlying76
  have uk := Lib.hid Tryz.underlying78
  go_enter Tryz.func34, Tryz.ntmps34
  go_wp2_with fail
  refine K.out.mono ?_
  rintro e w1 ⟨lb, ib, mb, rfl, hc, b1⟩
  have h1 := Lib.hid (h.out.after b1)
  have m1 := Lib.hid hc.out.mp
  have c0 := h1.out.l0
  have SG := Lib.hid (segs_any B w1 L S hv (Lib.hid h1.out.ch))
  clear K
  go_wp2_with (refine wpList_known rfl (op_mget um.out uk.out m1.out (find2 lb ib) rfl rfl rfl) ?_)
  refine SG.out.mono ?_
  rintro e w2 ⟨rfl, rfl⟩
  have hn := h1.out.ch.room.2.1
  obtain ⟨f, hf⟩ : ∃ f : Nat → Nat, Hid (f = fun j => (sgL (G.worn) L.n).getD j 0) := ⟨_, rfl⟩
  have o0 : Hid (w2.ownsRow w2.heap.size 3 1 (.slice none 0 0) (sgL (G.worn) 0).length (cellL (sgL (G.worn) 0).length (natV f))) := World.ownsRow_nil _ _ _ _
  clear SG c0 m1 um uk
  go_wp2
  go_loopw [5, 17] (fun v5 v17 wr => ∃ i : Nat, i ≤ L.n ∧ v17 = .int .i64 (i : Int) ∧ Hid (wr.ownsRow w2.heap.size 3 1 v5 (sgL (G.worn) i).length (cellL (sgL (G.worn) i).length (natV f))) ∧ Hid (Below w2.heap.size w2 wr)) (fun v5 v17 _ => L.n - (intOf v17).toNat)
  case atStart => exact ⟨0, Nat.zero_le _, rfl, o0, Below.refl _ _⟩
  case round =>
    clear o0
    obtain ⟨i, hi, rfl, ho, hb⟩ := hrel
    have h2 := Lib.hid (h1.out.after hb.out)
    have hc2 := Lib.hid (hc.out.after hb.out)
    by_cases hin : i < L.n
    · have l0 : (i : Int) < (L.n : Int) := by omega
      have P := Lib.hid (isRetired_any B lp L S hv G i hin lb ib mb wr h2 hc2)
      go_wp2_with fail
      refine P.out.mono ?_
      rintro e w3 ⟨rfl, b3⟩
      have o3 := Lib.hid (own_onto ho.out b3)
      have hb3 := Lib.hid (hb.out.trans (b3.mono hb.out.size))
      clear P h2 hc2 ho hb b3
      cases hp : (G.worn) i
      · have ed : Hid (sgL (G.worn) (i + 1) = sgL (G.worn) i) := sgL_none hp
        clear hp
        go_wp2
        go_roundw
        case rel => exact ⟨i + 1, by omega, by go_num, by unfold Hid; rw [ed.out]; exact o3.out, hb3⟩
        case measure => simp [intOf]; omega
      · obtain ⟨eg, el⟩ := sgL_at hin hp
        have hk : (sgL (G.worn) i).length ≤ 64 := by have := sgL_length (G.worn) i; omega
        have eg' : Hid ((i : Int) = ((f (sgL (G.worn) i).length : Nat) : Int)) := by unfold Hid; rw [hf.out]; show _ = (((sgL (G.worn) L.n).getD (sgL (G.worn) i).length 0 : Nat) : Int); rw [eg]
        replace el := Lib.hid el
        have hsz : w2.heap.size ≤ w3.heap.size := hb3.out.size
        clear hp eg
        generalize (sgL (G.worn) i).length = k at *
        go_wp2_with (at_builtin; refine wpList_append_num rfl _ _ rfl w2.heap.size _ k f (i : Int) eg'.out rfl w3 o3.out rfl rfl rfl (by omega) hsz ?_; intro v1 w4 hown hgrow hb4; refine Hid.out ?_)
        unfold Hid
        have hb5 := Lib.hid (hb3.out.trans hb4.out)
        clear o3 hb3 hgrow hb4 eg' hsz
        go_wp2
        go_roundw
        case rel => exact ⟨i + 1, by omega, by go_num, by unfold Hid; rw [el.out]; exact hown.out, hb5⟩
        case measure => simp [intOf]; omega
    · have et : i = L.n := by omega
      subst et
      have l0 : ¬ (L.n : Int) < (L.n : Int) := by omega
      obtain ⟨a, c', rfl, hs, _⟩ := own_ints ho.out
      have hs' := Lib.hid hs
      have hbe := Lib.hid (b1.trans (hb.out.mono b1.size))
      clear hs ho
      go_wp2
      go_ret
      exact ⟨a, c', rfl, by rw [hf.out] at hs'; exact hs', hbe.out⟩

set_option maxHeartbeats 2000000 in
set_option maxRecDepth 8000 in
theorem segs_used (B lp : Nat) (L : Lay) (S : St) (hv : Value) (G : Sg) (w : World) (h : Hid (Lg B w lp L S hv G)) :
    Calls Tryz.prog 34 #[.pointer (some ⟨lp, 0, none⟩), .int .i64 3] w (SegsEnd (sgL (usedB L S G) L.n) w) := by
  have K := Lib.hid (classes_any lp w)
  have um := Lib.hid Tryz.underlying76
  have uk := Lib.hid Tryz.underlying78
  go_enter Tryz.func34, Tryz.ntmps34
  go_wp2_with fail
  refine K.out.mono ?_
  rintro e w1 ⟨lb, ib, mb, rfl, hc, b1⟩
  have h1 := Lib.hid (h.out.after b1)
  have m1 := Lib.hid hc.out.mp
  have c0 := h1.out.l0
  have SG := Lib.hid (segs_any B w1 L S hv (Lib.hid h1.out.ch))
  clear K
  go_wp2_with (refine wpList_known rfl (op_mget um.out uk.out m1.out (find3 lb ib) rfl rfl rfl) ?_)
  refine SG.out.mono ?_
  rintro e w2 ⟨rfl, rfl⟩
  have hn := h1.out.ch.room.2.1
  obtain ⟨f, hf⟩ : ∃ f : Nat → Nat, Hid (f = fun j => (sgL (usedB L S G) L.n).getD j 0) := ⟨_, rfl⟩
  have o0 : Hid (w2.ownsRow w2.heap.size 3 1 (.slice none 0 0) (sgL (usedB L S G) 0).length (cellL (sgL (usedB L S G) 0).length (natV f))) := World.ownsRow_nil _ _ _ _
  clear SG c0 m1 um uk
  go_wp2
  go_loopw [5, 17] (fun v5 v17 wr => ∃ i : Nat, i ≤ L.n ∧ v17 = .int .i64 (i : Int) ∧ Hid (wr.ownsRow w2.heap.size 3 1 v5 (sgL (usedB L S G) i).length (cellL (sgL (usedB L S G) i).length (natV f))) ∧ Hid (Below w2.heap.size w2 wr)) (fun v5 v17 _ => L.n - (intOf v17).toNat)
  case atStart => exact ⟨0, Nat.zero_le _, rfl, o0, Below.refl _ _⟩
  case round =>
    clear o0
    obtain ⟨i, hi, rfl, ho, hb⟩ := hrel
    have h2 := Lib.hid (h1.out.after hb.out)
    have hc2 := Lib.hid (hc.out.after hb.out)
    by_cases hin : i < L.n
    · have l0 : (i : Int) < (L.n : Int) := by omega
      have P := Lib.hid (isUsed_any B lp L S hv G i hin lb ib mb wr h2 hc2)
      go_wp2_with fail
      refine P.out.mono ?_
      rintro e w3 ⟨rfl, b3⟩
      have o3 := Lib.hid (own_onto ho.out b3)
      have hb3 := Lib.hid (hb.out.trans (b3.mono hb.out.size))
      clear P h2 hc2 ho hb b3
      cases hp : (usedB L S G) i
      · have ed : Hid (sgL (usedB L S G) (i + 1) = sgL (usedB L S G) i) := sgL_none hp
        clear hp
        go_wp2
        go_roundw
        case rel => exact ⟨i + 1, by omega, by go_num, by unfold Hid; rw [ed.out]; exact o3.out, hb3⟩
        case measure => simp [intOf]; omega
      · obtain ⟨eg, el⟩ := sgL_at hin hp
        have hk : (sgL (usedB L S G) i).length ≤ 64 := by have := sgL_length (usedB L S G) i; omega
        have eg' : Hid ((i : Int) = ((f (sgL (usedB L S G) i).length : Nat) : Int)) := by unfold Hid; rw [hf.out]; show _ = (((sgL (usedB L S G) L.n).getD (sgL (usedB L S G) i).length 0 : Nat) : Int); rw [eg]
        replace el := Lib.hid el
        have hsz : w2.heap.size ≤ w3.heap.size := hb3.out.size
        clear hp eg
        generalize (sgL (usedB L S G) i).length = k at *
        go_wp2_with (at_builtin; refine wpList_append_num rfl _ _ rfl w2.heap.size _ k f (i : Int) eg'.out rfl w3 o3.out rfl rfl rfl (by omega) hsz ?_; intro v1 w4 hown hgrow hb4; refine Hid.out ?_)
        unfold Hid
        have hb5 := Lib.hid (hb3.out.trans hb4.out)
        clear o3 hb3 hgrow hb4 eg' hsz
        go_wp2
        go_roundw
        case rel => exact ⟨i + 1, by omega, by go_num, by unfold Hid; rw [el.out]; exact hown.out, hb5⟩
        case measure => simp [intOf]; omega
    · have et : i = L.n := by omega
      subst et
      have l0 : ¬ (L.n : Int) < (L.n : Int) := by omega
      obtain ⟨a, c', rfl, hs, _⟩ := own_ints ho.out
      have hs' := Lib.hid hs
      have hbe := Lib.hid (b1.trans (hb.out.mono b1.size))
      clear hs ho
      go_wp2
      go_ret
      exact ⟨a, c', rfl, by rw [hf.out] at hs'; exact hs', hbe.out⟩

end Go.Proofs.YtapebaoajknepaaGreatDoor
