/-
  Contract: learns of a mind.
-/
import Derived.Test.YtjhalbifljnfjaaAdvSmall
namespace Go.Proofs.Ytjhalbifljnfjaa
open Go.RowKit
set_option linter.unusedVariables false

theorem get_nodeE {w : World} {ad : Option Addr} {n i : Nat} {K : Nds} (h : SeesN w ad n K) (hi : i < n) {z0 z1 z2 : Int} (e0 : K i 0 = z0) (e1 : K i 1 = z1) (e2 : K i 2 = z2) {o : Oper} {a : Act} {x : Operand} (ho : o.op = .load 42 x) (hx : a.eval x = .pointer (some (elV ad (i * 3)))) :
    (execOp a.eval o).run Try.prog w = .ok (.value (.agg #[.int .i64 z0, .int .i64 z1, .int .i64 z2])) w := by
  subst e0 e1 e2
  exact get_node h hi ho hx

/-- What learns came to: r whether anything was new. -/
def LearnOk (T : Nds) (m : Nat) (X : Nat → Bool) (d : Nat) (r : Bool) (X' : Nat → Bool) : Prop :=
  (r = false → (∀ j, j < m → X' j = X j) ∧ SatT T X d) ∧ (r = true → ∃ q, q < m ∧ X q = false ∧ (∀ j, j < m → X' j = setT X q j) ∧ FollowT T m X q)
def LearnEnd (T : Nds) (m : Nat) (X : Nat → Bool) (d p : Nat) (w : World) (e : Ending) (w' : World) : Prop :=
  ∃ r X', e = .returned (.bool r) ∧ Hid (BRow w' p m X') ∧ Hid (LearnOk T m X d r X') ∧ Hid (Apart p w w')

theorem set_known {X : Nat → Bool} {q : Nat} (h : X q = true) (j : Nat) : setT X q j = X j := by
  by_cases e : j = q
  · subst e; rw [setT_same, h]
  · rw [setT_other X e]

section
variable {T : Nds} {m : Nat} {X : Nat → Bool} {d x y : Nat}
theorem learn_left (hd : d < m) (hx : x < m) (e0 : T d 0 = 2) (e1 : T d 1 = x) (hXd : X d = true) (hXx : X x = false) : LearnOk T m X d true (setT X x) :=
  ⟨fun h => (by cases h), fun _ => ⟨x, hx, hXx, fun _ _ => rfl, fun Y hY hS => by have := hY.left d hd e0 (hS d hd hXd); rwa [e1, Int.toNat_natCast] at this⟩⟩
theorem learn_right (hd : d < m) (hx : x < m) (hy : y < m) (e0 : T d 0 = 2) (e1 : T d 1 = x) (e2 : T d 2 = y) (hXd : X d = true) (hXx : X x = true) : LearnOk T m X d (!setT X x y) (setT (setT X x) y) := by
  rw [set_known hXx]
  cases hXy : X y
  · refine ⟨fun h => (by cases h), fun _ => ⟨y, hy, hXy, fun j _ => ?_, fun Y hY hS => by have := hY.right d hd e0 (hS d hd hXd); rwa [e2, Int.toNat_natCast] at this⟩⟩
    by_cases e : j = y
    · subst e; rw [setT_same, setT_same]
    · rw [setT_other _ e, setT_other _ e, set_known hXx]
  · refine ⟨fun _ => ⟨fun j _ => ?_, ?_⟩, fun h => by cases h⟩
    · rw [set_known (by rw [set_known hXx]; exact hXy), set_known hXx]
    · refine ⟨fun _ _ => ?_, fun h => (by omega), fun _ _ _ => hXd⟩
      rw [e1, e2, Int.toNat_natCast, Int.toNat_natCast]
      exact ⟨hXx, hXy⟩
theorem learn_undo (hd : d < m) (hx : x < m) (hy : y < m) (e0 : T d 0 = 3) (e1 : T d 1 = x) (e2 : T d 2 = y) (hXd : X d = true) (hXx : X x = true) : LearnOk T m X d (!X y) (setT X y) := by
  cases hXy : X y
  · exact ⟨fun h => (by cases h), fun _ => ⟨y, hy, hXy, fun _ _ => rfl, fun Y hY hS => by have := hY.undo d hd e0 (hS d hd hXd) (by rw [e1, Int.toNat_natCast]; exact hS x hx hXx); rwa [e2, Int.toNat_natCast] at this⟩⟩
  · refine ⟨fun _ => ⟨fun j _ => set_known hXy j, fun h => (by omega), fun _ _ _ => ?_, fun _ _ _ => hXd⟩, fun h => by cases h⟩
    rw [e2, Int.toNat_natCast]
    exact hXy
theorem learn_make (hd : d < m) (hx : x < m) (hy : y < m) (e0 : T d 0 = 2 ∨ T d 0 = 3) (e1 : T d 1 = x) (e2 : T d 2 = y) (hXd : X d = false) (hXx : X x = true) (hXy : X y = true) : LearnOk T m X d (!X d) (setT X d) := by
  rw [hXd]
  exact ⟨fun h => (by cases h), fun _ => ⟨d, hd, hXd, fun _ _ => rfl, fun Y hY hS => hY.make d hd e0 (by rw [e1, Int.toNat_natCast]; exact hS x hx hXx) (by rw [e2, Int.toNat_natCast]; exact hS y hy hXy)⟩⟩
theorem learn_none (e1 : T d 1 = x) (e2 : T d 2 = y) (h1 : T d 0 = 2 → X d = false) (h2 : T d 0 = 3 → X d = true → X x = false) (h3 : X x = false ∨ X y = false) : LearnOk T m X d false X := by
  refine ⟨fun _ => ⟨fun _ _ => rfl, fun e h => ?_, fun e h hk => ?_, fun e hx hy => ?_⟩, fun h => by cases h⟩
  · rw [h1 e] at h; cases h
  · rw [e1, Int.toNat_natCast, h2 e h] at hk; cases hk
  · rw [e1, Int.toNat_natCast] at hx
    rw [e2, Int.toNat_natCast] at hy
    rcases h3 with h3 | h3
    · rw [h3] at hx; cases hx
    · rw [h3] at hy; cases hy
theorem learn_leaf (h2 : (T d 0 == 2) = false) (h3 : (T d 0 == 3) = false) : LearnOk T m X d false X := by
  rw [beq_eq_false_iff_ne] at h2 h3
  exact ⟨fun _ => ⟨fun _ _ => rfl, fun e => absurd e h2, fun e => absurd e h3, fun e => by rcases e with e | e; exact absurd e h2; exact absurd e h3⟩, fun h => by cases h⟩
end

end Go.Proofs.Ytjhalbifljnfjaa
