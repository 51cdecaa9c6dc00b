/-
  What the walks of layer 5's laws share.
-/
import Derived.Test.YtmbkjbkbnigcfaaCtrShown
import Derived.Test.YtmbkjbkbnigcfaaCtrXor
import Derived.Test.YtmbkjbkbnigcfaaCtrRef
import Derived.Test.YtmbkjbkbnigcfaaRelyFlat
import Derived.Test.YtmbkjbkbnigcfaaOpen
namespace Go.Proofs.Ytmbkjbkbnigcfaa
open Go.RowKit

theorem wf5_i64 {n : Int} (h : (Lit.int .i64 n).wf = true) : -9223372036854775808 ≤ n ∧ n < 9223372036854775808 := by
  simp [Lit.wf, IntKind.min, IntKind.max, IntKind.signed, IntKind.bits] at h
  omega
theorem wf5_u64 {n : Int} (h : (Lit.int .u64 n).wf = true) : 0 ≤ n ∧ n < 18446744073709551616 := by
  simp [Lit.wf, IntKind.min, IntKind.max, IntKind.signed, IntKind.bits] at h
  omega

theorem run_max2 (a b y : Int) (h : (a < b ∧ y = b) ∨ (b ≤ a ∧ y = a)) (w : World) : (Builtin.max_ #[3, 3] 3 #[.int .i64 a, .int .i64 b]).run Try.prog w = .ok (.int .i64 y) w := by
  rcases h with ⟨h, rfl⟩ | ⟨h, rfl⟩
  · go_simp
    try (intros; omega)
  · go_simp
    try (intros; omega)
theorem run_min2 (a b y : Int) (h : (a < b ∧ y = a) ∨ (b ≤ a ∧ y = b)) (w : World) : (Builtin.min_ #[3, 3] 3 #[.int .i64 a, .int .i64 b]).run Try.prog w = .ok (.int .i64 y) w := by
  rcases h with ⟨h, rfl⟩ | ⟨h, rfl⟩
  · go_simp
    try (intros; omega)
  · go_simp
    try (intros; omega)

theorem wpList_max2 {ops : Array Oper} {rest : List Oper} {o : Oper} {a : Act} {w : World} {Q : Exit → Act → World → Prop} (hg : o.guard = none) (x z : Operand) (ho : o.op = .call { callee := .builtin .max, args := #[x, z], argTypes := #[3, 3] }) (ht : o.type = 3)
    (n m y : Int) (hx : a.eval x = .int .i64 n) (hz : a.eval z = .int .i64 m) (hy : (n < m ∧ y = m) ∨ (m ≤ n ∧ y = n)) (h : wpList Try.prog ops Q rest (a.put o.dst (.int .i64 y)) w) : wpList Try.prog ops Q (o :: rest) a w := by
  refine wpList_val (.int .i64 y) (by unfold Region.wanted; rw [hg]) ?_ h
  simp [execOp, ho, ht, resolve, invoke, builtin, hx, hz, run_max2 n m y hy, Result.andThen]
theorem wpList_min2 {ops : Array Oper} {rest : List Oper} {o : Oper} {a : Act} {w : World} {Q : Exit → Act → World → Prop} (hg : o.guard = none) (x z : Operand) (ho : o.op = .call { callee := .builtin .min, args := #[x, z], argTypes := #[3, 3] }) (ht : o.type = 3)
    (n m y : Int) (hx : a.eval x = .int .i64 n) (hz : a.eval z = .int .i64 m) (hy : (n < m ∧ y = n) ∨ (m ≤ n ∧ y = m)) (h : wpList Try.prog ops Q rest (a.put o.dst (.int .i64 y)) w) : wpList Try.prog ops Q (o :: rest) a w := by
  refine wpList_val (.int .i64 y) (by unfold Region.wanted; rw [hg]) ?_ h
  simp [execOp, ho, ht, resolve, invoke, builtin, hx, hz, run_min2 n m y hy, Result.andThen]

/-- Stream, of a length that is given out. -/
theorem ctrStream_nat (key : Nat → Nat) (hk : Hid (Byt key)) (nonce : Nat) (hn : Hid (nonce < 18446744073709551616)) (m : Nat) (hm : m ≤ 4096) (w : World) :
    Calls Try.prog 11 #[.agg (rowOf 16 (w8 key)), .int .u64 (nonce : Int), .int .i64 (m : Int)] w fun e w' => e = .returned (.string (bs (listB m (streamN key nonce)))) ∧ Below w.heap.size w w' :=
  ctrStream_in key hk nonce hn m m m hm (.inr ⟨by omega, rfl⟩) (by unfold Hid; by_cases h : (m : Int) < 4096; exact .inl ⟨h, rfl⟩; exact .inr ⟨h, by omega⟩) w

theorem bs_drop (n m : Nat) (f : Nat → Nat) (h : m ≤ n) : (bs (listB n f)).extract m n = bs (listB (n - m) (fun j => f (m + j))) := by
  have e := ba_drop (bs (listB n f)) m
  rw [bs_listB_size] at e
  apply ba_ext
  rw [e, listB_bs, listB_bs, listB_drop _ _ _ h]

end Go.Proofs.Ytmbkjbkbnigcfaa
