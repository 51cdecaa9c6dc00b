/-
  The builtins max and min, of two ints.
-/
import Derived.Test.YtopajipagacmkaaWant
namespace Go.Proofs.Ytopajipagacmkaa
open Go.RowKit

theorem run_max2 (a b y : Int) (h : (a < b ∧ y = b) ∨ (b ≤ a ∧ y = a)) (w : World) : (Builtin.max_ #[3, 3] 3 #[.int .i64 a, .int .i64 b]).run Try.prog w = .ok (.int .i64 y) w := by
  rcases h with ⟨h, rfl⟩ | ⟨h, rfl⟩
  · go_simp
    try (intros; omega)
  · go_simp
    try (intros; omega)
theorem run_min2 (a b y : Int) (h : (a < b ∧ y = a) ∨ (b ≤ a ∧ y = b)) (w : World) : (Builtin.min_ #[3, 3] 3 #[.int .i64 a, .int .i64 b]).run Try.prog w = .ok (.int .i64 y) w := by
  rcases h with ⟨h, rfl⟩ | ⟨h, rfl⟩
  · go_simp
    try (intros; omega)
  · go_simp
    try (intros; omega)

theorem wpList_max2 {ops : Array Oper} {rest : List Oper} {o : Oper} {a : Act} {w : World} {Q : Exit → Act → World → Prop} (hg : o.guard = none) (x z : Operand) (ho : o.op = .call { callee := .builtin .max, args := #[x, z], argTypes := #[3, 3] }) (ht : o.type = 3)
    (n m y : Int) (hx : a.eval x = .int .i64 n) (hz : a.eval z = .int .i64 m) (hy : (n < m ∧ y = m) ∨ (m ≤ n ∧ y = n)) (h : wpList Try.prog ops Q rest (a.put o.dst (.int .i64 y)) w) : wpList Try.prog ops Q (o :: rest) a w := by
  refine wpList_val (.int .i64 y) (by unfold Region.wanted; rw [hg]) ?_ h
  simp [execOp, ho, ht, resolve, invoke, builtin, hx, hz, run_max2 n m y hy, Result.andThen]
theorem wpList_min2 {ops : Array Oper} {rest : List Oper} {o : Oper} {a : Act} {w : World} {Q : Exit → Act → World → Prop} (hg : o.guard = none) (x z : Operand) (ho : o.op = .call { callee := .builtin .min, args := #[x, z], argTypes := #[3, 3] }) (ht : o.type = 3)
    (n m y : Int) (hx : a.eval x = .int .i64 n) (hz : a.eval z = .int .i64 m) (hy : (n < m ∧ y = n) ∨ (m ≤ n ∧ y = m)) (h : wpList Try.prog ops Q rest (a.put o.dst (.int .i64 y)) w) : wpList Try.prog ops Q (o :: rest) a w := by
  refine wpList_val (.int .i64 y) (by unfold Region.wanted; rw [hg]) ?_ h
  simp [execOp, ho, ht, resolve, invoke, builtin, hx, hz, run_min2 n m y hy, Result.andThen]

end Go.Proofs.Ytopajipagacmkaa
