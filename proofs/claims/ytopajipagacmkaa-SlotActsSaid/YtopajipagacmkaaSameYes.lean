/-
  Contract: the document's Same, of the same keys.
-/
import Derived.Test.YtopajipagacmkaaDrawKeys
import Derived.Test.YtopajipagacmkaaShaKit
namespace Go.Proofs.Ytopajipagacmkaa
open Go.RowKit

set_option maxHeartbeats 1000000 in
set_option maxRecDepth 8000 in
theorem same_yes (n : Nat) (hn : n ≤ 1000000) (K : Nat → Nat → Nat) (a1 a2 : Option Addr) (c1 c2 : Nat) (w : World) (h1 : Hid (SeesK w a1 n K)) (h2 : Hid (SeesK w a2 n K)) :
    Calls Try.prog 22 #[.slice a1 n c1, .slice a2 n c2] w fun e w' => e = .returned (.bool true) ∧ Below w.heap.size w w' := by
  have d0 : ((n : Int) != (n : Int)) = false := by simp
  go_enter Try.func22, Try.ntmps22
  go_wp2
  go_loopw [5] (fun c wr => ∃ k : Nat, k ≤ n ∧ c = .int .i64 k ∧ Below w.heap.size w wr) (fun c _ => n - (intOf c).toNat)
  case atStart => exact ⟨0, Nat.zero_le _, rfl, Below.refl _ _⟩
  case round =>
    obtain ⟨k, hk, rfl, hb⟩ := hrel
    by_cases hlt : k < n
    · have lk : (k : Int) < (n : Int) := by omega
      go_wp2
      have s1 := Lib.hid (h1.out.after hb.drew)
      have s2 := Lib.hid (h2.out.after hb.drew)
      refine wp_region_one (by kernel_rfl) (by kernel_rfl) ?_
      replace hb := hb.drew
      generalize wr.drew = w9 at *
      go_big_quiet_want; go_big_quiet_op; go_big_quiet_on
      go_big_quiet_want; go_big_quiet_op; go_big_quiet_on
      refine wpQuiet_val (by rfl) _ (fun w' _ => run_index_el s1.out hlt rfl rfl rfl w') ?_
      simp only [Act.put, List.setIfInBounds_toArray, List.set_cons_succ, List.set_cons_zero]
      refine wpQuiet_val (by rfl) _ (fun w' e => by subst e; exact run_load_el s1.out hlt rfl rfl) ?_
      simp only [Act.put, List.setIfInBounds_toArray, List.set_cons_succ, List.set_cons_zero]
      go_big_quiet_want; go_big_quiet_op; go_big_quiet_on
      go_big_quiet_want; go_big_quiet_op; go_big_quiet_on
      refine wpQuiet_val (by rfl) _ (fun w' _ => run_index_el s2.out hlt rfl rfl rfl w') ?_
      simp only [Act.put, List.setIfInBounds_toArray, List.set_cons_succ, List.set_cons_zero]
      refine wpQuiet_val (by rfl) _ (fun w' e => by subst e; exact run_load_el s2.out hlt rfl rfl) ?_
      simp only [Act.put, List.setIfInBounds_toArray, List.set_cons_succ, List.set_cons_zero]
      refine wpQuiet_val (by rfl) _ (fun w' _ => run_neq_key2 (K k) (K k) false (by rw [sameK_rfl]; rfl) rfl rfl rfl w') ?_
      simp only [Act.put, List.setIfInBounds_toArray, List.set_cons_succ, List.set_cons_zero]
      refine wpQuiet_nil ?_
      go_wp2
      go_roundw
      case rel => exact ⟨k + 1, by omega, by go_num, hb⟩
      case measure => simp [intOf]; omega
    · have lk : ¬ (k : Int) < (n : Int) := by omega
      go_wp2
      go_ret
      exact ⟨rfl, hb⟩

end Go.Proofs.Ytopajipagacmkaa
