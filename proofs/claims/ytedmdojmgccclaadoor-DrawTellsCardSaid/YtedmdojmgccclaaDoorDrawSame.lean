/-
  Contracts: the document's Same, of the same keys; the document's Distinct.
-/
import Derived.Test.YtedmdojmgccclaaDoorDrawKeys
import Derived.Test.YtedmdojmgccclaaDoorShaKit
namespace Go.Proofs.YtedmdojmgccclaaDoor
open Go.RowKit

/-- No two of the first n keys are the same. -/
def distB (n : Nat) (K : Nat → Nat → Nat) : Bool := (List.range n).all fun i => (List.range i).all fun j => !sameK (K i) (K j)

theorem dist_no {n i j : Nat} {K : Nat → Nat → Nat} (hi : i < n) (hj : j < i) (h : sameK (K i) (K j) = true) : distB n K = false := by
  cases hd : distB n K
  · rfl
  · unfold distB at hd
    have h1 := List.all_eq_true.1 hd i (by simpa using hi)
    have h2 := List.all_eq_true.1 h1 j (by simpa using hj)
    rw [h] at h2
    cases h2
theorem dist_yes {n : Nat} {K : Nat → Nat → Nat} (h : ∀ i, i < n → ∀ j, j < i → sameK (K i) (K j) = false) : distB n K = true := by
  unfold distB
  refine List.all_eq_true.2 fun i hi => List.all_eq_true.2 fun j hj => ?_
  rw [h i (by simpa using hi) j (by simpa using hj)]
  rfl

set_option maxHeartbeats 1000000 in
set_option maxRecDepth 8000 in
theorem same_yes (n : Nat) (hn : n ≤ 1000000) (K : Nat → Nat → Nat) (a1 a2 : Option Addr) (c1 c2 : Nat) (w : World) (h1 : Hid (SeesK w a1 n K)) (h2 : Hid (SeesK w a2 n K)) :
    Calls Tryd.prog 10 #[.slice a1 n c1, .slice a2 n c2] w fun e w' => e = .returned (.bool true) ∧ Below w.heap.size w w' := by
  have d0 : ((n : Int) != (n : Int)) = false := by simp
  go_enter Tryd.func10, Tryd.ntmps10
  go_wp2
  go_loopw [5] (fun c wr => ∃ k : Nat, k ≤ n ∧ c = .int .i64 k ∧ Below w.heap.size w wr) (fun c _ => n - (intOf c).toNat)
  case atStart => exact ⟨0, Nat.zero_le _, rfl, Below.refl _ _⟩
  case round =>
    obtain ⟨k, hk, rfl, hb⟩ := hrel
    by_cases hlt : k < n
    · have lk : (k : Int) < (n : Int) := by omega
      go_wp2
      have s1 := Lib.hid (h1.out.after hb.drew)
      have s2 := Lib.hid (h2.out.after hb.drew)
      refine wp_region_one (by kernel_rfl) (by kernel_rfl) ?_
      replace hb := hb.drew
      generalize wr.drew = w9 at *
      go_big_quiet_want; go_big_quiet_op; go_big_quiet_on
      go_big_quiet_want; go_big_quiet_op; go_big_quiet_on
      refine wpQuiet_val (by rfl) _ (fun w' _ => run_index_el s1.out hlt rfl rfl rfl w') ?_
      simp only [Act.put, List.setIfInBounds_toArray, List.set_cons_succ, List.set_cons_zero]
      refine wpQuiet_val (by rfl) _ (fun w' e => by subst e; exact run_load_el s1.out hlt rfl rfl) ?_
      simp only [Act.put, List.setIfInBounds_toArray, List.set_cons_succ, List.set_cons_zero]
      go_big_quiet_want; go_big_quiet_op; go_big_quiet_on
      go_big_quiet_want; go_big_quiet_op; go_big_quiet_on
      refine wpQuiet_val (by rfl) _ (fun w' _ => run_index_el s2.out hlt rfl rfl rfl w') ?_
      simp only [Act.put, List.setIfInBounds_toArray, List.set_cons_succ, List.set_cons_zero]
      refine wpQuiet_val (by rfl) _ (fun w' e => by subst e; exact run_load_el s2.out hlt rfl rfl) ?_
      simp only [Act.put, List.setIfInBounds_toArray, List.set_cons_succ, List.set_cons_zero]
      refine wpQuiet_val (by rfl) _ (fun w' _ => run_neq_key2 (K k) (K k) false (by rw [sameK_rfl]; rfl) rfl rfl rfl w') ?_
      simp only [Act.put, List.setIfInBounds_toArray, List.set_cons_succ, List.set_cons_zero]
      refine wpQuiet_nil ?_
      go_wp2
      go_roundw
      case rel => exact ⟨k + 1, by omega, by go_num, hb⟩
      case measure => simp [intOf]; omega
    · have lk : ¬ (k : Int) < (n : Int) := by omega
      go_wp2
      go_ret
      exact ⟨rfl, hb⟩

set_option maxHeartbeats 2000000 in
set_option maxRecDepth 8000 in
theorem refDistinct_any (n : Nat) (hn : n ≤ 1000000) (K : Nat → Nat → Nat) (a1 : Option Addr) (c1 : Nat) (w : World) (h1 : Hid (SeesK w a1 n K)) :
    Calls Tryd.prog 15 #[.slice a1 n c1] w fun e w' => e = .returned (.bool (distB n K)) ∧ Below w.heap.size w w' := by
  go_enter Tryd.func15, Tryd.ntmps15
  go_wp2
  go_loopw [3] (fun c wr => ∃ i : Nat, i ≤ n ∧ c = .int .i64 i ∧ Hid (∀ i', i' < i → ∀ j, j < i' → sameK (K i') (K j) = false) ∧ Below w.heap.size w wr) (fun c _ => n - (intOf c).toNat)
  case atStart => exact ⟨0, Nat.zero_le _, rfl, fun i' h => absurd h (Nat.not_lt_zero _), Below.refl _ _⟩
  case round =>
    obtain ⟨i, hi, rfl, hd, hb⟩ := hrel
    by_cases hlt : i < n
    · have lk : (i : Int) < (n : Int) := by omega
      go_wp2
      go_loopw [4] (fun c wr' => ∃ j : Nat, j ≤ i ∧ c = .int .i64 j ∧ Hid (∀ j', j' < j → sameK (K i) (K j') = false) ∧ Below w.heap.size w wr') (fun c _ => i - (intOf c).toNat)
      case atStart => exact ⟨0, Nat.zero_le _, rfl, fun i' h => absurd h (Nat.not_lt_zero _), hb⟩
      case round =>
        clear hb
        obtain ⟨j, hj, rfl, hd2, hb⟩ := hrel
        by_cases hlj : j < i
        · have lj : (j : Int) < (i : Int) := by omega
          have ljn : j < n := by omega
          go_wp2
          have s1 := Lib.hid (h1.out.after hb.drew)
          refine wp_region_one (by kernel_rfl) (by kernel_rfl) ?_
          replace hb := hb.drew
          generalize World.drew _ = w9 at *
          obtain ⟨b, hbb⟩ : ∃ b, sameK (K i) (K j) = b := ⟨_, rfl⟩
          go_big_quiet_want; go_big_quiet_op; go_big_quiet_on
          go_big_quiet_want; go_big_quiet_op; go_big_quiet_on
          refine wpQuiet_val (by rfl) _ (fun w' _ => run_index_el s1.out hlt rfl rfl rfl w') ?_
          simp only [Act.put, List.setIfInBounds_toArray, List.set_cons_succ, List.set_cons_zero]
          refine wpQuiet_val (by rfl) _ (fun w' e => by subst e; exact run_load_el s1.out hlt rfl rfl) ?_
          simp only [Act.put, List.setIfInBounds_toArray, List.set_cons_succ, List.set_cons_zero]
          go_big_quiet_want; go_big_quiet_op; go_big_quiet_on
          go_big_quiet_want; go_big_quiet_op; go_big_quiet_on
          refine wpQuiet_val (by rfl) _ (fun w' _ => run_index_el s1.out ljn rfl rfl rfl w') ?_
          simp only [Act.put, List.setIfInBounds_toArray, List.set_cons_succ, List.set_cons_zero]
          refine wpQuiet_val (by rfl) _ (fun w' e => by subst e; exact run_load_el s1.out ljn rfl rfl) ?_
          simp only [Act.put, List.setIfInBounds_toArray, List.set_cons_succ, List.set_cons_zero]
          refine wpQuiet_val (by rfl) _ (fun w' _ => run_eql_key2 (K i) (K j) b hbb rfl rfl rfl w') ?_
          simp only [Act.put, List.setIfInBounds_toArray, List.set_cons_succ, List.set_cons_zero]
          refine wpQuiet_nil ?_
          replace hbb := Lib.hid hbb
          cases b
          · go_wp2
            go_roundw
            case rel =>
              refine ⟨j + 1, by omega, by go_num, fun j' hj' => ?_, hb⟩
              by_cases e : j' = j
              · rw [e]; exact hbb.out
              · exact hd2.out j' (by omega)
            case measure => simp [intOf]; omega
          · go_wp2
            go_ret
            exact ⟨by rw [dist_no hlt hlj hbb.out]; rfl, hb⟩
        · have lj : ¬ (j : Int) < (i : Int) := by omega
          have ej : j = i := by omega
          replace ej := Lib.hid ej
          go_wp2
          go_roundw
          case rel =>
            refine ⟨i + 1, by omega, by go_num, fun i' hi' j' hj' => ?_, hb⟩
            by_cases e : i' = i
            · rw [e]; exact hd2.out j' (by have := ej.out; omega)
            · exact hd.out i' (by omega) j' hj'
          case measure => simp [intOf]; omega
    · have lk : ¬ (i : Int) < (n : Int) := by omega
      have ei : Hid (i = n) := by unfold Hid; omega
      go_wp2
      go_ret
      exact ⟨by rw [dist_yes fun i1 hi1 => hd.out i1 (by have := ei.out; omega)]; rfl, hb⟩

end Go.Proofs.YtedmdojmgccclaaDoor
