/-
  Contract: Same.
-/
import Derived.Test.YtlfgiggeeoegjaaDoorTermFirst
import Derived.Test.YtlfgiggeeoegjaaDoorTermSizes
namespace Go.Proofs.YtlfgiggeeoegjaaDoor
open Go.RowKit
set_option linter.unusedVariables false

/-- Whether places i and j are told to be the same. -/
noncomputable def sameV (K : Nds) (n : Nat) (i j : Int) : Bool := placeB K n i && inB n j && ((fst K i.toNat : Nat) == fst K j.toNat)

theorem inB_yes {n : Nat} {i : Int} (h : inB n i = true) : ∃ j : Nat, j < n ∧ i = j := by
  unfold inB at h
  simp at h
  exact ⟨i.toNat, by omega, by omega⟩
theorem max_cases (i j : Nat) : ((i : Int) < (j : Int) ∧ ((max i j : Nat) : Int) = j) ∨ ((j : Int) ≤ (i : Int) ∧ ((max i j : Nat) : Int) = i) := by omega

set_option maxHeartbeats 2000000 in
set_option maxRecDepth 8000 in
theorem same_any (K : Nds) (n : Nat) (i j : Int) (a : Option Addr) (c : Nat) (hc : n ≤ c) (w : World) (hs : Hid (SeesN w a n K)) :
    Calls Tryd.prog 15 #[.slice a n c, .int .i64 i, .int .i64 j] w fun e w' => e = .returned (.bool (sameV K n i j)) ∧ Below w.heap.size w w' := by
  have H := hasTerm_any K n a c hc i w hs
  have I := isPlace_any n a c j
  unfold sameV
  cases hp : placeB K n i
  · rw [hp] at H
    replace H := Lib.hid H
    clear hp I
    go_enter Tryd.func15, Tryd.ntmps15
    go_wp2_with fail
    refine H.out.mono ?_
    rintro e w1 ⟨rfl, hb⟩
    go_wp2
    go_ret
    exact ⟨rfl, hb⟩
  · rw [hp] at H
    cases hq : inB n j
    · rw [hq] at I
      replace H := Lib.hid H
      replace I := Lib.hid I
      clear hp hq
      go_enter Tryd.func15, Tryd.ntmps15
      go_wp2_with fail
      refine H.out.mono ?_
      rintro e w1 ⟨rfl, hb⟩
      go_wp2_with fail
      refine (I.out _).mono ?_
      rintro e w2 ⟨rfl, rfl⟩
      go_wp2
      go_ret
      exact ⟨rfl, hb⟩
    · rw [hq] at I
      obtain ⟨i, hi, rfl, hn, hK⟩ := place_yes hp
      obtain ⟨j, hj, rfl⟩ := inB_yes hq
      replace H := Lib.hid H
      replace I := Lib.hid I
      replace hK := Lib.hid hK
      clear hp hq
      rw [Int.toNat_natCast, Int.toNat_natCast, Bool.and_true, Bool.true_and]
      have hm := Lib.hid (max_cases i j)
      obtain ⟨m, em⟩ : ∃ m, m = max i j := ⟨_, rfl⟩
      rw [← em] at hm
      have hmn : m < n := by omega
      have hmc : m + 1 ≤ c := by omega
      have him : i < m + 1 := by omega
      have hjm : j < m + 1 := by omega
      replace em := Lib.hid em
      have eb : ((fst K i : Nat) == fst K j) = (((fst K i : Nat) : Int) == ((fst K j : Nat) : Int)) := by rw [Bool.eq_iff_iff, beq_iff_eq, beq_iff_eq]; omega
      rw [eb]
      clear eb
      go_enter Tryd.func15, Tryd.ntmps15
      go_wp2_with fail
      refine H.out.mono ?_
      rintro e w1 ⟨rfl, hb⟩
      have F := Lib.hid (firstPlaces_any K (m + 1) (by omega) (hK.out.take (by omega)) a c w1 ((hs.out.after hb).take (by omega)))
      go_wp2_with fail
      refine (I.out _).mono ?_
      rintro e w2 ⟨rfl, rfl⟩
      clear H I
      go_wp2_with (first | (refine wpList_max2 rfl _ _ rfl rfl _ _ (m : Int) rfl rfl hm.out ?_) | (refine wpList_known rfl (head_nodes hmc rfl rfl rfl (by first | rfl | omega) _) ?_))
      refine F.out.mono ?_
      rintro e w3 ⟨v, rfl, hown, hb3⟩
      have b3 := (hb.trans (hb3.mono hb.size)).drew
      obtain ⟨a0, c0, rfl, si, _, _, _⟩ := own_ints hown.out
      have si1 : Hid (SeesI w3.drew a0 (m + 1) (fst K)) := si.after (Below.refl _ _).drew
      have gi := Lib.hid (si1.out.cell him)
      have gj := Lib.hid (si1.out.cell hjm)
      unfold numV at gi gj
      clear F hown hb3 hb si
      obtain ⟨r, hr⟩ : ∃ r, (((fst K i : Nat) : Int) == ((fst K j : Nat) : Int)) = r := ⟨_, rfl⟩
      go_wp2_with fail
      refine wp_region_one (by kernel_rfl) (by kernel_rfl) ?_
      generalize World.drew _ = w4 at *
      go_big_quiet_want; go_big_quiet_op; go_big_quiet_on
      go_big_quiet_want; go_big_quiet_op; go_big_quiet_on
      refine wpQuiet_val (by rfl) _ (fun w' _ => at_ints si1.out him rfl rfl rfl rfl w') ?_
      simp only [Act.put, List.setIfInBounds_toArray, List.set_cons_succ, List.set_cons_zero]
      refine wpQuiet_val (by rfl) _ (fun w' e => by subst e; exact get_int gi.out rfl rfl) ?_
      simp only [Act.put, List.setIfInBounds_toArray, List.set_cons_succ, List.set_cons_zero]
      go_big_quiet_want; go_big_quiet_op; go_big_quiet_on
      go_big_quiet_want; go_big_quiet_op; go_big_quiet_on
      refine wpQuiet_val (by rfl) _ (fun w' _ => at_ints si1.out hjm rfl rfl rfl rfl w') ?_
      simp only [Act.put, List.setIfInBounds_toArray, List.set_cons_succ, List.set_cons_zero]
      refine wpQuiet_val (by rfl) _ (fun w' e => by subst e; exact get_int gj.out rfl rfl) ?_
      simp only [Act.put, List.setIfInBounds_toArray, List.set_cons_succ, List.set_cons_zero]
      refine wpQuiet_val (by rfl) (.bool r) (fun w' _ => by go_simp) ?_
      simp only [Act.put, List.setIfInBounds_toArray, List.set_cons_succ, List.set_cons_zero]
      go_big_quiet_want; go_big_quiet_op; go_big_quiet_on
      refine wpQuiet_nil ?_
      go_wp2
      go_ret
      exact ⟨by rw [← hr]; rfl, b3⟩

end Go.Proofs.YtlfgiggeeoegjaaDoor
