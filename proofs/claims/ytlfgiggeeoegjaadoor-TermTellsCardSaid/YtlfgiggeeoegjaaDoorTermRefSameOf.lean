/-
  Contract: the document's Same.
-/
import Derived.Test.YtlfgiggeeoegjaaDoorTermRefSame
namespace Go.Proofs.YtlfgiggeeoegjaaDoor
open Go.RowKit
set_option linter.unusedVariables false

theorem place_in {K : Nds} {n : Nat} {i j : Int} (h : placeB K n i = true) : placeB K n j = inB n j := by
  unfold placeB at *
  simp only [Bool.and_eq_true] at h
  rw [h.2, Bool.and_true]
  rfl

set_option maxHeartbeats 2000000 in
set_option maxRecDepth 8000 in
theorem refSame_any (K : Nds) (n : Nat) (i j : Int) (a : Option Addr) (c : Nat) (w : World) (hs : Hid (SeesN w a n K)) :
    Calls Tryd.prog 16 #[.slice a n c, .int .i64 i, .int .i64 j] w fun e w' => e = .returned (.bool (sameV K n i j)) ∧ Below w.heap.size w w' := by
  have H := place_any K n a c i w hs
  have I : ∀ w', SeesN w' a n K → _ := fun w' h => place_any K n a c j w' h
  unfold sameV
  cases hp : placeB K n i
  · rw [hp] at H
    replace H := Lib.hid H
    clear hp I
    go_enter Tryd.func16, Tryd.ntmps16
    go_wp2_with fail
    refine H.out.mono ?_
    rintro e w1 ⟨rfl, hb⟩
    go_wp2
    go_ret
    exact ⟨rfl, hb⟩
  · rw [hp] at H
    simp only [place_in hp] at I
    cases hq : inB n j
    · rw [hq] at I
      replace H := Lib.hid H
      replace I := Lib.hid I
      clear hp hq
      go_enter Tryd.func16, Tryd.ntmps16
      go_wp2_with fail
      refine H.out.mono ?_
      rintro e w1 ⟨rfl, hb⟩
      go_wp2_with fail
      refine (I.out w1 (hs.out.after hb)).mono ?_
      rintro e w2 ⟨rfl, hb2⟩
      have b2 := hb.trans (hb2.mono hb.size)
      go_wp2
      go_ret
      exact ⟨rfl, b2⟩
    · rw [hq] at I
      obtain ⟨i, hi, rfl, hn, hK⟩ := place_yes hp
      obtain ⟨j, hj, rfl⟩ := inB_yes hq
      replace H := Lib.hid H
      replace I := Lib.hid I
      replace hK := Lib.hid hK
      clear hp hq
      rw [Int.toNat_natCast, Int.toNat_natCast, Bool.and_true, Bool.true_and]
      have eb : ((fst K i : Nat) == fst K j) = (((fst K i : Nat) : Int) == ((fst K j : Nat) : Int)) := by rw [Bool.eq_iff_iff, beq_iff_eq, beq_iff_eq]; omega
      rw [eb]
      clear eb
      go_enter Tryd.func16, Tryd.ntmps16
      go_wp2_with fail
      refine H.out.mono ?_
      rintro e w1 ⟨rfl, hb⟩
      go_wp2_with fail
      refine (I.out w1 (hs.out.after hb)).mono ?_
      rintro e w2 ⟨rfl, hb2⟩
      have b2 := hb.trans (hb2.mono hb.size)
      have F := Lib.hid (classes_any K n hn hK a c w2 (hs.out.after b2))
      clear H I hb hb2
      go_wp2_with fail
      refine F.out.mono ?_
      rintro e w3 ⟨v, rfl, hown, hb3⟩
      have b3 := (b2.trans (hb3.mono b2.size)).drew
      obtain ⟨a0, c0, rfl, si, _, _, _⟩ := own_ints hown.out
      have si1 : Hid (SeesI w3.drew a0 n (fst K)) := si.after (Below.refl _ _).drew
      have gi := Lib.hid (si1.out.cell hi)
      have gj := Lib.hid (si1.out.cell hj)
      unfold numV at gi gj
      clear F hown hb3 b2 si
      obtain ⟨r, hr⟩ : ∃ r, (((fst K i : Nat) : Int) == ((fst K j : Nat) : Int)) = r := ⟨_, rfl⟩
      go_wp2_with fail
      refine wp_region_one (by kernel_rfl) (by kernel_rfl) ?_
      generalize World.drew _ = w4 at *
      go_big_quiet_want; go_big_quiet_op; go_big_quiet_on
      go_big_quiet_want; go_big_quiet_op; go_big_quiet_on
      refine wpQuiet_val (by rfl) _ (fun w' _ => at_ints si1.out hi rfl rfl rfl rfl w') ?_
      simp only [Act.put, List.setIfInBounds_toArray, List.set_cons_succ, List.set_cons_zero]
      refine wpQuiet_val (by rfl) _ (fun w' e => by subst e; exact get_int gi.out rfl rfl) ?_
      simp only [Act.put, List.setIfInBounds_toArray, List.set_cons_succ, List.set_cons_zero]
      go_big_quiet_want; go_big_quiet_op; go_big_quiet_on
      go_big_quiet_want; go_big_quiet_op; go_big_quiet_on
      refine wpQuiet_val (by rfl) _ (fun w' _ => at_ints si1.out hj rfl rfl rfl rfl w') ?_
      simp only [Act.put, List.setIfInBounds_toArray, List.set_cons_succ, List.set_cons_zero]
      refine wpQuiet_val (by rfl) _ (fun w' e => by subst e; exact get_int gj.out rfl rfl) ?_
      simp only [Act.put, List.setIfInBounds_toArray, List.set_cons_succ, List.set_cons_zero]
      refine wpQuiet_val (by rfl) (.bool r) (fun w' _ => by go_simp) ?_
      simp only [Act.put, List.setIfInBounds_toArray, List.set_cons_succ, List.set_cons_zero]
      go_big_quiet_want; go_big_quiet_op; go_big_quiet_on
      refine wpQuiet_nil ?_
      go_wp2
      go_ret
      exact ⟨by rw [← hr]; rfl, b3⟩

end Go.Proofs.YtlfgiggeeoegjaaDoor
