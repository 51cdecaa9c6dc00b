/-
  The law SlotSwaps: the slot's state, key by key.
-/
import Derived.Test.YtopajipagacmkaaSlotPow
import Derived.Test.YtopajipagacmkaaDrawOpen
namespace Go.Proofs.Ytopajipagacmkaa
open Go.RowKit
set_option linter.unusedVariables false

/-- Ahead of key i: the cell that it goes to is blank, the other one has the key ahead of it. -/
structure SwI (K : Nat → Nat → Nat) (i : Nat) (S : SS) : Prop where
  up : S.p.up = true
  here : S.c (i % 2) = blankC
  there0 : i = 0 → S.c (1 - i % 2) = blankC
  there : ∀ j, i = j + 1 → S.c (1 - i % 2) = ⟨true, K j, i⟩
  low : LowS S (2 * i)

theorem heldL_two (c : Nat → Cel) : heldL c 2 = (if (c 0).h = true then [(c 0).k] else []) ++ (if (c 1).h = true then [(c 1).k] else []) := by
  unfold heldL heldL heldL
  by_cases h0 : (c 0).h = true
  · by_cases h1 : (c 1).h = true
    · simp [h0, h1]
    · simp [h0, h1]
  · by_cases h1 : (c 1).h = true
    · simp [h0, h1]
    · simp [h0, h1]
/-- A key that is held is the first one, or the last one. -/
theorem held_has (c : Nat → Cel) (b : Nat) (hb : b < 2) (k : Nat → Nat) (e : Nat) (h : c b = ⟨true, k, e⟩) : ∃ m, (heldL c 2).length = m + 1 ∧ (listK (heldL c 2) 0 = k ∨ listK (heldL c 2) m = k) := by
  rw [heldL_two]
  match b, hb with
  | 0, _ =>
    rw [h]
    by_cases h1 : (c 1).h = true
    · rw [if_pos h1]
      exact ⟨1, rfl, .inl rfl⟩
    · rw [if_neg h1]
      exact ⟨0, rfl, .inl rfl⟩
  | 1, _ =>
    rw [h]
    by_cases h1 : (c 0).h = true
    · rw [if_pos h1]
      exact ⟨1, rfl, .inr rfl⟩
    · rw [if_neg h1]
      exact ⟨0, rfl, .inr rfl⟩
theorem held_one (c : Nat → Cel) (a b : Nat) (ha : a < 2) (hb : b = 1 - a) (k : Nat → Nat) (e : Nat) (h : c a = ⟨true, k, e⟩) (h2 : c b = blankC) : heldL c 2 = [k] := by
  rw [heldL_two]
  subst hb
  match a, ha with
  | 0, _ =>
    change c 1 = blankC at h2
    rw [h, h2]
    rfl
  | 1, _ =>
    change c 0 = blankC at h2
    rw [h, h2]
    rfl

theorem turn_other (S : SS) (i j : Nat) (x : Cel) (h : j ≠ i) : (turnS S i x).c j = S.c j := by
  unfold turnS
  show (if doneB S.p = true then updC S.c i x else S.c) j = _
  split
  · exact updC_other _ _ _ _ h
  · rfl
theorem sw_writeE {S : SS} {a : Nat} (ha : a < 2) (hu : S.p.up = true) (hc : S.c a = blankC) : writeE S (a : Nat) = turnE S.p := by
  unfold writeE
  rw [if_neg (by rw [hu]; decide), if_neg (by rw [inB_nat a 2 ha]; decide), show ((a : Nat) : Int).toNat = a from rfl, if_neg (by rw [hc]; decide)]
theorem sw_writeS {S : SS} {a : Nat} (ha : a < 2) (hu : S.p.up = true) (hc : S.c a = blankC) (k : Nat → Nat) (e : Nat) : writeS S (a : Nat) k e = turnS S a ⟨true, k, e⟩ := by
  unfold writeS
  rw [if_neg (by rw [hu]; decide), if_neg (by rw [inB_nat a 2 ha]; decide), show ((a : Nat) : Int).toNat = a from rfl, if_neg (by rw [hc]; decide)]
theorem sw_eraseE {S : SS} {a : Nat} (ha : a < 2) (hu : S.p.up = true) : slEraseE S (a : Nat) = turnE S.p := by
  unfold slEraseE
  rw [if_neg (by rw [hu]; decide), if_neg (by rw [inB_nat a 2 ha]; decide)]
theorem sw_eraseS {S : SS} {a : Nat} (ha : a < 2) (hu : S.p.up = true) : slEraseS S (a : Nat) = turnS S a blankC := by
  unfold slEraseS
  rw [if_neg (by rw [hu]; decide), if_neg (by rw [inB_nat a 2 ha]; decide)]
  rfl
theorem turnE_whole {p : St} (h : (p.left - 1 != 0) = true) : turnE p = 0 := if_pos h
theorem turnE_part {p : St} (h : (p.left - 1 != 0) = false) : turnE p = 4 := if_neg (by rw [h]; decide)

/-- Behind a whole write the newest cell is the one just written. -/
theorem sw_newest {S : SS} {a : Nat} {k : Nat → Nat} {e : Nat} (ha : a < 2) (hu : S.p.up = true) (h : S.c a = ⟨true, k, e + 1⟩) (h2 : (S.c (1 - a)).e ≤ e) : newestI S = a ∧ newestE S = 0 := by
  unfold newestI newestE
  match a, ha with
  | 0, _ =>
    change (S.c 1).e ≤ e at h2
    have hn : ¬ ((S.c 0).h = false ∧ (S.c 1).h = false) := by rw [h]; simp
    rw [if_neg (by rw [hu]; decide), if_neg hn, if_neg (show ¬ ((S.c 0).h = false ∨ (S.c 0).e < (S.c 1).e) by rw [h]; show ¬ (true = false ∨ e + 1 < (S.c 1).e); simp; omega), if_neg (by rw [hu]; decide), if_neg hn]
    exact ⟨rfl, rfl⟩
  | 1, _ =>
    change (S.c 0).e ≤ e at h2
    have hn : ¬ ((S.c 0).h = false ∧ (S.c 1).h = false) := by rw [h]; simp
    rw [if_neg (by rw [hu]; decide), if_neg hn, if_pos (show (S.c 0).h = false ∨ (S.c 0).e < (S.c 1).e from .inr (by rw [h]; show (S.c 0).e < e + 1; omega)), if_neg (by rw [hu]; decide), if_neg hn]
    exact ⟨rfl, rfl⟩

section
variable {K : Nat → Nat → Nat} {i : Nat} {S : SS}
theorem SwI.there_e (h : SwI K i S) : (S.c (1 - i % 2)).e ≤ i := by
  rcases Nat.eq_zero_or_pos i with h0 | h0
  · rw [h.there0 h0]
    exact Nat.zero_le _
  · rw [h.there (i - 1) (by omega)]
    exact Nat.le_refl _
/-- Written whole. -/
def swW (S : SS) (i : Nat) (k : Nat → Nat) : SS := ⟨actS S.p true (S.p.left - 1), updC S.c (i % 2) ⟨true, k, i + 1⟩⟩
/-- And the other one erased whole. -/
def swX (S : SS) (i : Nat) (k : Nat → Nat) : SS := ⟨actS (swW S i k).p true ((swW S i k).p.left - 1), updC (swW S i k).c (1 - i % 2) blankC⟩
theorem swW_low (h : SwI K i S) (k : Nat → Nat) : LowS (swW S i k) (2 * i + 1) := ⟨by
  have := h.low.lo
  show -((2 * i + 1 : Nat) : Int) ≤ S.p.left - 1
  omega, by
  have := h.low.hi
  show S.p.left - 1 < _
  omega⟩
theorem swW_here (S : SS) (i : Nat) (k : Nat → Nat) : (swW S i k).c (i % 2) = ⟨true, k, i + 1⟩ := updC_here _ _ _
theorem swW_there (S : SS) (i : Nat) (k : Nat → Nat) : (swW S i k).c (1 - i % 2) = S.c (1 - i % 2) := updC_other _ _ _ _ (by omega)
theorem swW_newest (h : SwI K i S) (k : Nat → Nat) : newestI (swW S i k) = i % 2 ∧ newestE (swW S i k) = 0 :=
  sw_newest (by omega) rfl (swW_here S i k) (by rw [swW_there]; exact h.there_e)
theorem swW_next {k : Nat → Nat} (h : SwI K i S) (h0 : i = 0) (hk : k = K i) : SwI K (i + 1) (swW S i k) := by
  have e1 : (i + 1) % 2 = 1 - i % 2 := by omega
  have e2 : 1 - (i + 1) % 2 = i % 2 := by omega
  refine ⟨rfl, ?_, fun h => by omega, fun j hj => ?_, (swW_low h k).mono (by omega)⟩
  · rw [e1, swW_there]; exact h.there0 h0
  · rw [e2, swW_here, hk, show j = i by omega]
theorem swX_next {k : Nat → Nat} (h : SwI K i S) (hk : k = K i) : SwI K (i + 1) (swX S i k) := by
  have e1 : (i + 1) % 2 = 1 - i % 2 := by omega
  have e2 : 1 - (i + 1) % 2 = i % 2 := by omega
  refine ⟨rfl, ?_, fun h => by omega, fun j hj => ?_, ⟨?_, ?_⟩⟩
  · rw [e1]; exact updC_here _ _ _
  · rw [e2]
    show updC (swW S i k).c (1 - i % 2) blankC (i % 2) = _
    rw [updC_other _ _ _ _ (by omega), swW_here, hk, show j = i by omega]
  · have := (swW_low h k).lo
    show -((2 * (i + 1) : Nat) : Int) ≤ (swW S i k).p.left - 1
    omega
  · have := (swW_low h k).hi
    show (swW S i k).p.left - 1 < _
    omega
theorem swW_held (h : SwI K i S) (h0 : i = 0) (k : Nat → Nat) : heldL (swW S i k).c 2 = [k] :=
  held_one _ (i % 2) (1 - i % 2) (by omega) rfl k (i + 1) (swW_here S i k) (by rw [swW_there]; exact h.there0 h0)
theorem swX_held (S : SS) (i : Nat) (k : Nat → Nat) : heldL (swX S i k).c 2 = [k] :=
  held_one _ (i % 2) (1 - i % 2) (by omega) rfl k (i + 1) (by
    show updC (swW S i k).c (1 - i % 2) blankC (i % 2) = _
    rw [updC_other _ _ _ _ (by omega), swW_here]) (updC_here _ _ _)
end

theorem run_sub_any {x y z : Int} (h : IntKind.i64.wrap (x - y) = z) {o : Oper} {a : Act} {s c : Operand} (ho : o.op = .binOp .sub 3 s c 3) (hs : a.eval s = .int .i64 x) (hc : a.eval c = .int .i64 y) (w : World) : (execOp a.eval o).run Try.prog w = .ok (.value (.int .i64 z)) w := by
  unfold execOp
  simp only [ho, hs, hc]
  simp [go_sem, h]
theorem wrap_nat2 (x y : Nat) (h : y ≤ x) (hx : x ≤ 1000000) : IntKind.i64.wrap ((x : Int) - (y : Int)) = ((x - y : Nat) : Int) := by
  simp [IntKind.wrap, IntKind.bits, IntKind.signed]
  omega

end Go.Proofs.Ytopajipagacmkaa
