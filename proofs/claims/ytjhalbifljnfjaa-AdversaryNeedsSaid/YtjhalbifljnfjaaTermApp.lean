/-
  One thing appended to a row of the call's own: a number, a node, a byte.
-/
import Derived.Test.YtjhalbifljnfjaaTermNodes
import Derived.Test.YtjhalbifljnfjaaMinMax
namespace Go.Proofs.Ytjhalbifljnfjaa
open Go.RowKit
set_option linter.unusedVariables false

theorem new_cells (w : World) (cs : List Value) (t : TypeId) : ∀ j u, cs[j]? = some u → (w.alloc (.cells cs.toArray t)).cell? ((⟨w.heap.size, 0, none⟩ : Addr).add j) = some u := by
  intro j u hu
  rw [addr_add, Nat.zero_add]
  have := World.cell?_alloc_mark w cs.toArray t (0, 0) j
  rw [this]
  simpa using hu

section
variable {P : Program} {S T : TypeId} {ops : Array Oper} {rest : List Oper} {o : Oper} {a : Act} {w : World} {Q : Exit → Act → World → Prop}
theorem wpList_append_cs (hu : P.underlying S = some (.slice T)) {z : Value} {size bytes : Nat} (hi : (P.info? T).map (fun i => (i.zero, i.size, i.bytes)) = some (some z, size, bytes)) (hzs : z.cells.size = size) (hsz : 0 < size) (hby : bytes ≤ 24)
    (hgd : o.guard = none) (s x : Operand) (ho : o.op = .call { callee := .builtin .append, args := #[s, x], argTypes := #[S, S] }) (base : Nat) (v : Value) (n : Nat) (xs cs : List Value) (hs : a.eval s = v) (w0 : World) (hown : w0.ownsRow base T size v n xs)
    (hw : w = w0.alloc (.cells cs.toArray T)) {g : Nat} (hx : a.eval x = .slice (some ⟨g, 0, none⟩) 1 1) (hgs : g = w0.heap.size) (hl : cs.length = size) (h1 : ∀ u ∈ cs, u.oneCell' = true) (hn : n ≤ 1000000) (hbase : base ≤ w0.heap.size)
    (h : ∀ v' w', Hid (w'.ownsRow base T size v' (n + 1) (xs ++ cs)) → Hid (w0.grownBy w' v.ownBlock) → Hid (Below base w0 w') → wpList P ops Q rest (a.put o.dst v') w') : wpList P ops Q (o :: rest) a w := by
  obtain ⟨i0, hi0, hz0, hz1, hz2⟩ := info_parts hi
  subst hw
  subst hgs
  refine wpList_append_own _ hgd s x S ho base T i0 z size bytes hu hi0 hz0 hz1 hz2 hzs hsz v n xs hs (hown.alloc _) ⟨w0.heap.size, 0, none⟩ 1 1 cs hx (by rw [hl, Nat.one_mul]) (new_cells w0 cs T) h1 (by unfold maxLen; omega) ?_ (by simp; omega) ?_
  · have : (n + 1) * bytes ≤ 1000001 * 24 := Nat.mul_le_mul (by omega) hby
    omega
  · intro v' w' h2 h3 _
    have g := (World.grownBy_alloc w0 (.cells cs.toArray T) v.ownBlock).trans h3
    exact h v' w' h2 g ((Below.refl base w0).grown g hbase (fun g hg => (hown.lt g hg).1))
end

/-- A number. -/
theorem wpList_append_num {ops : Array Oper} {rest : List Oper} {o : Oper} {a : Act} {w : World} {Q : Exit → Act → World → Prop} (hgd : o.guard = none) (s x : Operand)
    (ho : o.op = .call { callee := .builtin .append, args := #[s, x], argTypes := #[23, 23] }) (base : Nat) (v : Value) (n : Nat) (f : Nat → Nat) (z : Int) (hz : z = ((f n : Nat) : Int)) (hs : a.eval s = v) (w0 : World) (hown : w0.ownsRow base 3 1 v n (cellL n (numV f)))
    (hw : w = w0.alloc (.cells #[.int .i64 z] 3)) {g : Nat} (hx : a.eval x = .slice (some ⟨g, 0, none⟩) 1 1) (hgs : g = w0.heap.size) (hn : n ≤ 1000000) (hbase : base ≤ w0.heap.size)
    (h : ∀ v' w', Hid (w'.ownsRow base 3 1 v' (n + 1) (cellL (n + 1) (numV f))) → Hid (w0.grownBy w' v.ownBlock) → Hid (Below base w0 w') → wpList Try.prog ops Q rest (a.put o.dst v') w') : wpList Try.prog ops Q (o :: rest) a w := by
  subst hz
  refine wpList_append_cs Try.underlying23 Try.infoInt rfl (by decide) (by decide) hgd s x ho base v n _ [.int .i64 ((f n : Nat) : Int)] hs w0 hown hw hx hgs rfl (fun u hu => by simp at hu; subst hu; rfl) hn hbase ?_
  intro v' w' h1
  have e : cellL n (numV f) ++ [.int .i64 ((f n : Nat) : Int)] = cellL (n + 1) (numV f) := cellL_succ n (numV f)
  rw [e] at h1
  exact h v' w' h1
/-- A node of the program's. -/
theorem wpList_append_node {ops : Array Oper} {rest : List Oper} {o : Oper} {a : Act} {w : World} {Q : Exit → Act → World → Prop} (hgd : o.guard = none) (s x : Operand)
    (ho : o.op = .call { callee := .builtin .append, args := #[s, x], argTypes := #[22, 22] }) (base : Nat) (v : Value) (n : Nat) (K : Nds) (z0 z1 z2 : Int) (h0 : z0 = K n 0) (h1 : z1 = K n 1) (h2 : z2 = K n 2) (hs : a.eval s = v) (w0 : World) (hown : w0.ownsRow base 42 3 v n (cellL (n * 3) (flatN K)))
    (hw : w = w0.alloc (.cells #[.int .i64 z0, .int .i64 z1, .int .i64 z2] 42)) {g : Nat} (hx : a.eval x = .slice (some ⟨g, 0, none⟩) 1 1) (hgs : g = w0.heap.size) (hn : n ≤ 1000000) (hbase : base ≤ w0.heap.size)
    (h : ∀ v' w', Hid (w'.ownsRow base 42 3 v' (n + 1) (cellL ((n + 1) * 3) (flatN K))) → Hid (w0.grownBy w' v.ownBlock) → Hid (Below base w0 w') → wpList Try.prog ops Q rest (a.put o.dst v') w') : wpList Try.prog ops Q (o :: rest) a w := by
  subst h0 h1 h2
  refine wpList_append_cs Try.underlying22 Try.infoNode rfl (by decide) (by decide) hgd s x ho base v n _ [.int .i64 (K n 0), .int .i64 (K n 1), .int .i64 (K n 2)] hs w0 hown hw hx hgs rfl (fun u hu => by simp at hu; rcases hu with rfl | rfl | rfl <;> rfl) hn hbase ?_
  intro v' w' h1
  have e := cellL_three n (flatN K)
  rw [flatN_0, flatN_1, flatN_2] at e
  rw [e] at h1
  exact h v' w' h1
/-- A node of the document's. -/
theorem wpList_append_refNode {ops : Array Oper} {rest : List Oper} {o : Oper} {a : Act} {w : World} {Q : Exit → Act → World → Prop} (hgd : o.guard = none) (s x : Operand)
    (ho : o.op = .call { callee := .builtin .append, args := #[s, x], argTypes := #[25, 25] }) (base : Nat) (v : Value) (n : Nat) (K : Nds) (z0 z1 z2 : Int) (h0 : z0 = K n 0) (h1 : z1 = K n 1) (h2 : z2 = K n 2) (hs : a.eval s = v) (w0 : World) (hown : w0.ownsRow base 50 3 v n (cellL (n * 3) (flatN K)))
    (hw : w = w0.alloc (.cells #[.int .i64 z0, .int .i64 z1, .int .i64 z2] 50)) {g : Nat} (hx : a.eval x = .slice (some ⟨g, 0, none⟩) 1 1) (hgs : g = w0.heap.size) (hn : n ≤ 1000000) (hbase : base ≤ w0.heap.size)
    (h : ∀ v' w', Hid (w'.ownsRow base 50 3 v' (n + 1) (cellL ((n + 1) * 3) (flatN K))) → Hid (w0.grownBy w' v.ownBlock) → Hid (Below base w0 w') → wpList Try.prog ops Q rest (a.put o.dst v') w') : wpList Try.prog ops Q (o :: rest) a w := by
  subst h0 h1 h2
  refine wpList_append_cs Try.underlying25 Try.infoRefNode rfl (by decide) (by decide) hgd s x ho base v n _ [.int .i64 (K n 0), .int .i64 (K n 1), .int .i64 (K n 2)] hs w0 hown hw hx hgs rfl (fun u hu => by simp at hu; rcases hu with rfl | rfl | rfl <;> rfl) hn hbase ?_
  intro v' w' h1
  have e := cellL_three n (flatN K)
  rw [flatN_0, flatN_1, flatN_2] at e
  rw [e] at h1
  exact h v' w' h1
/-- Numbers that the call owns are seen. -/
theorem own_ints {w : World} {base n : Nat} {v : Value} {f : Nat → Nat} (h : w.ownsRow base 3 1 v n (cellL n (numV f))) : ∃ a c, v = .slice a n c ∧ SeesI w a n f ∧ n ≤ c ∧ c ≤ maxLen ∧ ∀ ad, a = some ad → base ≤ ad.block ∧ v.ownBlock = some ad.block ∧ ad = ⟨ad.block, 0, none⟩ := by
  have := own_seesV (F := numV f) h (fun m hm => cellL_get n _ m (by omega))
  rwa [Nat.mul_one] at this
theorem own_nodes {w : World} {T : TypeId} {base n : Nat} {v : Value} {K : Nds} (h : w.ownsRow base T 3 v n (cellL (n * 3) (flatN K))) : ∃ a c, v = .slice a n c ∧ SeesN w a n K ∧ n ≤ c ∧ c ≤ maxLen ∧ ∀ ad, a = some ad → base ≤ ad.block ∧ v.ownBlock = some ad.block ∧ ad = ⟨ad.block, 0, none⟩ :=
  own_seesV h (fun m hm => cellL_get _ _ m hm)

end Go.Proofs.Ytjhalbifljnfjaa
