/-
  Contract: the document's Needs; numbers appended to a copy.
-/
import Derived.Test.YtjhalbifljnfjaaAdvRefCan
import Derived.Test.YtjhalbifljnfjaaAdvNeeds
namespace Go.Proofs.Ytjhalbifljnfjaa
open Go.RowKit
set_option linter.unusedVariables false

/-- An operation behind a guard that is met, as one without. -/
theorem wpList_unguard {P : Program} {ops : Array Oper} {rest : List Oper} {o : Oper} {a : Act} {w : World} {Q : Exit → Act → World → Prop} (hw : Region.wanted o (yielded ops a.tmps) = true) (h : wpList P ops Q ({ o with guard := none } :: rest) a w) : wpList P ops Q (o :: rest) a w := by
  unfold wpList at h ⊢
  rw [if_pos hw]
  rw [if_pos (show Region.wanted { o with guard := none } (yielded ops a.tmps) = true from rfl)] at h
  exact h

/-- One more number behind k. -/
def snocF (f : Nat → Int) (k : Nat) (z : Int) : Nat → Int := fun j => if j < k then f j else z
theorem inZ_snoc (f : Nat → Int) (k : Nat) (z q : Nat) : inZ (snocF f k (z : Int)) (k + 1) q ↔ inZ f k q ∨ q = z := by
  unfold inZ snocF
  constructor
  · rintro ⟨j, hj, e⟩
    by_cases h : j < k
    · rw [if_pos h] at e
      exact .inl ⟨j, h, e⟩
    · rw [if_neg h] at e
      exact .inr (by omega)
  · rintro (⟨j, hj, e⟩ | rfl)
    · exact ⟨j, by omega, by rw [if_pos hj]; exact e⟩
    · exact ⟨k, by omega, by rw [if_neg (Nat.lt_irrefl k)]⟩
theorem cellZ_snoc (f : Nat → Int) (k : Nat) (z : Int) : cellL k (intV f) ++ [.int .i64 z] = cellL (k + 1) (intV (snocF f k z)) := by
  rw [← cellL_succ]
  congr 1
  · exact cellL_congr fun j hj => by unfold intV snocF; rw [if_pos hj]
  · unfold intV snocF
    rw [if_neg (Nat.lt_irrefl k)]
/-- One number appended to numbers that the call owns. -/
theorem wpList_append_F {ops : Array Oper} {rest : List Oper} {o : Oper} {a : Act} {w : World} {Q : Exit → Act → World → Prop} (hgd : o.guard = none) (s x : Operand)
    (ho : o.op = .call { callee := .builtin .append, args := #[s, x], argTypes := #[23, 23] }) (base : Nat) (v : Value) (k : Nat) (f : Nat → Int) (z : Int) (hs : a.eval s = v) (w0 : World) (hown : w0.ownsRow base 3 1 v k (cellL k (intV f)))
    (hw : w = w0.alloc (.cells #[.int .i64 z] 3)) {g : Nat} (hx : a.eval x = .slice (some ⟨g, 0, none⟩) 1 1) (hgs : g = w0.heap.size) (hn : k ≤ 1000000) (hbase : base ≤ w0.heap.size)
    (h : ∀ v' w', Hid (w'.ownsRow base 3 1 v' (k + 1) (cellL (k + 1) (intV (snocF f k z)))) → Hid (w0.grownBy w' v.ownBlock) → Hid (Below base w0 w') → wpList Try.prog ops Q rest (a.put o.dst v') w') : wpList Try.prog ops Q (o :: rest) a w := by
  refine wpList_append_cs Try.underlying23 Try.infoInt rfl (by decide) (by decide) hgd s x ho base v k _ [.int .i64 z] hs w0 hown hw hx hgs rfl (fun u hu => by simp at hu; subst hu; rfl) hn hbase ?_
  intro v' w' h1
  rw [cellZ_snoc] at h1
  exact h v' w' h1
theorem own_F_see {w : World} {base k : Nat} {v : Value} {f : Nat → Int} (h : w.ownsRow base 3 1 v k (cellL k (intV f))) : ∃ a c, v = .slice a k c ∧ SeesZ w a k f ∧ (a = none → c = 0) := by
  have h2 := h.2
  obtain ⟨a, c, e, hs, _⟩ := own_seesV (F := intV f) h (fun m hm => cellL_get k _ m (by omega))
  rw [Nat.mul_one] at hs
  refine ⟨a, c, e, hs, fun ea => ?_⟩
  subst e
  subst ea
  rcases h2 with ⟨e, _⟩ | ⟨g, cap, cur, e, _⟩
  · cases e; rfl
  · cases e

end Go.Proofs.Ytjhalbifljnfjaa
