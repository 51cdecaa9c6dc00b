/-
  Values of one cell each, appended; the slice may be nil.
-/
import Derived.Test.YtogeccmeaacgnaaSeesV
namespace Go.Proofs.Ytogeccmeaacgnaa
open Go.RowKit
set_option linter.unusedVariables false

theorem cellL_one {n : Nat} {F : Nat → Value} (h : ∀ j, (F j).oneCell' = true) : ∀ u ∈ cellL n F, u.oneCell' = true := by
  intro u hu
  unfold cellL at hu
  simp only [List.mem_map] at hu
  obtain ⟨j, _, rfl⟩ := hu
  exact h j

/-- append(own, s...): elements of one cell; s may be nil. -/
theorem wpList_append_V {S T : TypeId} {ops : Array Oper} {rest : List Oper} {o : Oper} {a : Act} {w : World} {Q : Exit → Act → World → Prop} (hu : Try.prog.underlying S = some (.slice T)) {z : Value} {bytes : Nat} (hi : (Try.prog.info? T).map (fun i => (i.zero, i.size, i.bytes)) = some (some z, 1, bytes)) (hzs : z.cells.size = 1) (hby : bytes ≤ 24)
    (hgd : o.guard = none) (s x : Operand) (ho : o.op = .call { callee := .builtin .append, args := #[s, x], argTypes := #[S, S] }) (base : Nat) (v : Value) (n0 : Nat) (xs : List Value) (hs : a.eval s = v) (hown : w.ownsRow base T 1 v n0 xs) (hbase : base ≤ w.heap.size)
    (al : Option Addr) (n c : Nat) (hx : a.eval x = .slice al n c) (F : Nat → Value) (hF : SeesV w al n F) (h1 : ∀ j, (F j).oneCell' = true) (hn0 : n0 ≤ 1000000) (hn : n ≤ 1000000) (hnil : al = none → c = 0)
    (h : ∀ v' w', Hid (w'.ownsRow base T 1 v' (n0 + n) (xs ++ cellL n F)) → Hid (w.grownBy w' v.ownBlock) → Hid (Below base w w') → Hid (v' = .slice none 0 0 → v = .slice none 0 0) → wpList Try.prog ops Q rest (a.put o.dst v') w') : wpList Try.prog ops Q (o :: rest) a w := by
  obtain ⟨i0, hi, hz0, hz1, hz2⟩ := info_parts hi
  cases al with
  | none =>
    have h0 : n = 0 := by
      rcases Nat.eq_zero_or_pos n with h | h
      · exact h
      · obtain ⟨ad, e, _⟩ := hF.some h
        cases e
    subst h0
    have hc := hnil rfl
    subst hc
    have e : xs ++ cellL 0 F = xs := by simp [cellL]
    exact wpList_append_own_none hgd s x S ho base T i0 1 hu hi v n0 xs hs hown hx (h v w (by rw [e]; exact hown) (World.grownBy.refl w _) (Below.refl _ _) (fun e => e))
  | some ad =>
    refine wpList_append_own_at w hgd s x S ho base T i0 z 1 bytes hu hi hz0 hz1 hz2 hzs (by decide) v n0 xs hs hown ad n c (cellL n F) hx (by rw [cellL_length, Nat.mul_one]) ?_ (cellL_one h1) (by unfold maxLen; omega) ?_ hbase ?_
    · intro j u hj
      have hl : j < n := by
        have := (List.getElem?_eq_some_iff.1 hj).1
        rwa [cellL_length] at this
      obtain ⟨ad', e, _, hc⟩ := hF j hl
      cases e
      rw [cellL_get n F j hl] at hj
      rw [hc]
      exact hj
    · have : (n0 + n) * bytes ≤ 2000000 * 24 := Nat.mul_le_mul (by omega) hby
      omega
    · intro v' w' h2 h3 h4 h5
      exact h v' w' h2 h3 ((Below.refl base w).grown h3 hbase (fun g hg => (hown.lt g hg).1)) (fun e => (h4.1 e).1)

end Go.Proofs.Ytogeccmeaacgnaa
