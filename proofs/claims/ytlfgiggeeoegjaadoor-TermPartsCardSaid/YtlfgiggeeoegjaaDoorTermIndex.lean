/-
  Two nodes held against each other; contract: slices.Index of nodes.
-/
import Derived.Test.YtlfgiggeeoegjaaDoorTermMay
import Derived.Laws.StructEq
namespace Go.Proofs.YtlfgiggeeoegjaaDoor
open Go.RowKit
set_option linter.unusedVariables false

theorem run_eql_node {u v t u' v' t' : Int} (b : Bool) (hb : ((u == u') && (v == v') && (t == t')) = b) {o : Oper} {a : Act} {x y : Operand} {r : TypeId} (ho : o.op = .binOp .eql 41 x y r) (hx : a.eval x = .agg #[.int .i64 u, .int .i64 v, .int .i64 t]) (hy : a.eval y = .agg #[.int .i64 u', .int .i64 v', .int .i64 t']) (w : World) :
    (execOp a.eval o).run Tryd.prog w = .ok (.value (.bool b)) w := by
  subst hb
  unfold execOp
  simp only [ho, hx, hy]
  simp [go_sem]
  by_cases h1 : u = u' <;> by_cases h2 : v = v' <;> by_cases h3 : t = t' <;> simp [h1, h2, h3]

/-- Is the node at k this one? -/
def isN (K : Nds) (k : Nat) (o x y : Int) : Bool := (o == K k 0) && (x == K k 1) && (y == K k 2)

set_option maxHeartbeats 2000000 in
set_option maxRecDepth 8000 in
theorem index_any (K : Nds) (n : Nat) (hn : n ≤ 1000000) (a : Option Addr) (c : Nat) (o x y : Int) (j : Nat) (hj : j < n) (h1 : Hid (isN K j o x y = true)) (h2 : Hid (∀ k, k < j → isN K k o x y = false)) (w : World) (hs : Hid (SeesN w a n K)) :
    Calls Tryd.prog 36 #[.slice a n c, .agg #[.int .i64 o, .int .i64 x, .int .i64 y]] w fun e w' => e = .returned (.int .i64 (j : Int)) ∧ Below w.heap.size w w' := by
  have b0 := (Below.refl w.heap.size w).alloc (Nat.le_refl _) (.cells #[.int .i64 o, .int .i64 x, .int .i64 y] 41)
  have r0 := Lib.hid (RowAt.new w 41 #[.int .i64 o, .int .i64 x, .int .i64 y])
  have s0 := Lib.hid (hs.out.after b0)
  go_enter Tryd.func36, Tryd.ntmps36
  go_wp2
  generalize w.alloc (.cells #[.int .i64 o, .int .i64 x, .int .i64 y] 41) = w0 at *
  go_loopw [8] (fun c wr => ∃ k : Nat, k ≤ j ∧ c = .int .i64 k ∧ ∃ q, wr = w0.drewN q) (fun c _ => n - (intOf c).toNat)
  case atStart => exact ⟨0, Nat.zero_le _, rfl, 0, rfl⟩
  case round =>
    obtain ⟨k, hk, rfl, q, rfl⟩ := hrel
    have hlt : k < n := by omega
    have lk : (k : Int) < (n : Int) := by omega
    have b1 : Below w.heap.size w (w0.drewN q).drew := b0.trans ⟨rfl, rfl, rfl, Nat.le_refl _, fun _ _ => rfl⟩
    have r1 : Hid (RowAt (w0.drewN q).drew w.heap.size 41 #[.int .i64 o, .int .i64 x, .int .i64 y]) := r0.out
    have s1 : Hid (SeesN (w0.drewN q).drew a n K) := s0.out.after ⟨rfl, rfl, rfl, Nat.le_refl _, fun _ _ => rfl⟩
    have ed : (w0.drewN q).drew = w0.drewN (q + 1) := World.drewN_drewN w0 q 1
    obtain ⟨b, hb⟩ : ∃ b, isN K k o x y = b := ⟨_, rfl⟩
    go_wp2
    refine wp_region_one (by kernel_rfl) (by kernel_rfl) ?_
    generalize World.drew _ = w9 at *
    refine wpQuiet_load_row rfl 41 _ rfl w.heap.size rfl 41 #[.int .i64 o, .int .i64 x, .int .i64 y] _ (fun w' hw => by subst hw; exact r1.out) Tryd.underlying41 rfl sz_node ?_
    simp only [Act.put, List.setIfInBounds_toArray, List.set_cons_succ, List.set_cons_zero]
    go_big_quiet_want; go_big_quiet_op; go_big_quiet_on
    go_big_quiet_want; go_big_quiet_op; go_big_quiet_on
    refine wpQuiet_val (by rfl) _ (fun w' _ => at_nodes s1.out hlt rfl rfl rfl rfl w') ?_
    simp only [Act.put, List.setIfInBounds_toArray, List.set_cons_succ, List.set_cons_zero]
    refine wpQuiet_val (by rfl) _ (fun w' e => by subst e; exact get_node s1.out hlt rfl rfl) ?_
    simp only [Act.put, List.setIfInBounds_toArray, List.set_cons_succ, List.set_cons_zero]
    refine wpQuiet_val (by rfl) _ (fun w' _ => run_eql_node b hb rfl rfl rfl w') ?_
    simp only [Act.put, List.setIfInBounds_toArray, List.set_cons_succ, List.set_cons_zero]
    refine wpQuiet_nil ?_
    replace hb := Lib.hid hb
    clear r1 s1
    cases b
    · have hne : k ≠ j := fun e => by
        have h3 := hb.out
        rw [e, h1.out] at h3
        cases h3
      go_wp2
      go_roundw
      case rel => exact ⟨k + 1, by omega, by go_num, q + 1, rfl⟩
      case measure => simp [intOf]; omega
    · have ek : k = j := by
        by_cases e : k < j
        · have h3 := hb.out
          rw [h2.out k e] at h3
          cases h3
        · omega
      subst ek
      go_wp2
      go_ret
      exact ⟨rfl, b1⟩

end Go.Proofs.YtlfgiggeeoegjaaDoor
