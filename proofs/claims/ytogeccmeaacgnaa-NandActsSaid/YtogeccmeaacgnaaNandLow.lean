/-
  States of a chip: what counts its acts is small; what is no act turns nothing; what a whole act does.
-/
import Derived.Test.YtogeccmeaacgnaaNandProgAny
namespace Go.Proofs.Ytogeccmeaacgnaa
open Go.RowKit
set_option linter.unusedVariables false

/-- No more than t acts so far. -/
structure LowT (S : St) (t : Nat) : Prop where
  progs : S.progs ≤ t
  erases : S.erases ≤ t
  wear : ∀ i, S.wear i ≤ t
  hist : S.hist.length ≤ t
  lo : -(t : Int) ≤ S.left
  hi : S.left < 9223372036854775808

theorem LowT.low {S : St} {t : Nat} (h : LowT S t) (ht : t < 1000000) : Low S :=
  ⟨by have := h.progs; omega, by have := h.erases; omega, fun i => by have := h.wear i; omega, by have := h.hist; omega, by have := h.lo; omega, h.hi⟩
theorem LowT.mono {S : St} {t u : Nat} (h : LowT S t) (ht : t ≤ u) : LowT S u :=
  ⟨by have := h.progs; omega, by have := h.erases; omega, fun i => by have := h.wear i; omega, by have := h.hist; omega, by have := h.lo; omega, h.hi⟩
theorem LowT.act {S : St} {t : Nat} (h : LowT S t) (b : Bool) : LowT (actS S b (S.left - 1)) (t + 1) :=
  ⟨Nat.le_succ_of_le h.progs, Nat.le_succ_of_le h.erases, fun i => Nat.le_succ_of_le (h.wear i), Nat.le_succ_of_le h.hist, by
    have := h.lo
    show -((t + 1 : Nat) : Int) ≤ S.left - 1
    omega, by
    have := h.hi
    show S.left - 1 < _
    omega⟩
theorem LowT.prog1 {S : St} {t : Nat} (h : LowT S t) (b : Bool) (i j : Nat) (s : ByteArray) : LowT (prS (cntP (actS S b (S.left - 1))) i j s) (t + 1) :=
  ⟨Nat.succ_le_succ h.progs, Nat.le_succ_of_le h.erases, fun i => Nat.le_succ_of_le (h.wear i), by
    show (S.hist ++ [s]).length ≤ t + 1
    rw [List.length_append]
    exact Nat.succ_le_succ h.hist, (h.act b).lo, (h.act b).hi⟩
theorem LowT.erase1 {S : St} {t : Nat} (h : LowT S t) (b : Bool) (i k : Nat) : LowT (erS (cntE (actS S b (S.left - 1))) i k) (t + 1) :=
  ⟨Nat.le_succ_of_le h.progs, Nat.succ_le_succ h.erases, fun j => by
    show updW S.wear i j ≤ t + 1
    unfold updW
    have := h.wear i
    have := h.wear j
    split <;> omega, Nat.le_succ_of_le h.hist, (h.act b).lo, (h.act b).hi⟩
theorem LowT.prog {S : St} {t : Nat} (h : LowT S t) (n m : Nat) (z y : Int) (s : ByteArray) : LowT (progS n m S z y s) (t + 1) := by
  have h1 := h.mono (Nat.le_succ t)
  unfold progS
  split
  · exact h1
  split
  · exact h1
  split
  · exact h1
  split
  · exact h1
  split
  · exact h.prog1 _ _ _ _
  · exact h.prog1 _ _ _ _
theorem LowT.erase {S : St} {t : Nat} (h : LowT S t) (n : Nat) (z : Int) : LowT (eraseS n S z) (t + 1) := by
  have h1 := h.mono (Nat.le_succ t)
  unfold eraseS
  split
  · exact h1
  split
  · exact h1
  split
  · exact h1
  split
  · exact h.erase1 _ _ _
  · exact h.erase1 _ _ _

theorem isB_page (s : ByteArray) (k j : Nat) : isB (pageT s k j) = true := by
  have h := pageT_size s k j
  unfold isB
  cases hl : (pageT s k j).toList with
  | nil =>
    exfalso
    have : (pageT s k j).data.toList.length = 256 := by rw [Array.length_toList]; exact h
    rw [← ByteArray.toList_eq, hl] at this
    cases this
  | cons b l => rfl

theorem progS_same {n m : Nat} {S : St} {z y : Int} {s : ByteArray} (h : S.up = false ∨ progE n m S z y s = 1 ∨ progE n m S z y s = 100) : progS n m S z y s = S := by
  unfold progE at h
  unfold progS
  by_cases h1 : S.up = false
  · rw [if_pos h1]
  rw [if_neg h1] at h ⊢
  by_cases h2 : (inB z n && inB y m) = false
  · rw [if_pos h2]
  rw [if_neg h2] at h ⊢
  by_cases h3 : 256 < s.size
  · rw [if_pos h3]
  rw [if_neg h3] at h ⊢
  by_cases h4 : isB (S.page z.toNat y.toNat) = true
  · rw [if_pos h4]
  rw [if_neg h4] at h
  by_cases h5 : (S.left - 1 != 0) = true
  · rw [if_pos h5] at h
    rcases h with h | h | h
    · exact absurd h h1
    · cases h
    · cases h
  · rw [if_neg h5] at h
    rcases h with h | h | h
    · exact absurd h h1
    · cases h
    · cases h
theorem eraseS_same {n : Nat} {S : St} {z : Int} (h : S.up = false ∨ eraseE n S z = 1 ∨ eraseE n S z = 101) : eraseS n S z = S := by
  unfold eraseE at h
  unfold eraseS
  by_cases h1 : S.up = false
  · rw [if_pos h1]
  rw [if_neg h1] at h ⊢
  by_cases h2 : inB z n = false
  · rw [if_pos h2]
  rw [if_neg h2] at h ⊢
  by_cases h4 : wornB S z.toNat = true
  · rw [if_pos h4]
  rw [if_neg h4] at h
  by_cases h5 : (S.left - 1 != 0) = true
  · rw [if_pos h5] at h
    rcases h with h | h | h
    · exact absurd h h1
    · cases h
    · cases h
  · rw [if_neg h5] at h
    rcases h with h | h | h
    · exact absurd h h1
    · cases h
    · cases h

theorem prog_ok {n m i j : Nat} {S : St} {s : ByteArray} (h1 : S.up = true) (hi : i < n) (hj : j < m) (hs : s.size ≤ 256) (hp : isB (S.page i j) = false) (hl : S.left ≠ 1) :
    progE n m S i j s = 0 ∧ progS n m S i j s = prS (cntP (actS S true (S.left - 1))) i j (pageT s 9223372036854775807 0) := by
  have e1 : ¬ S.up = false := by rw [h1]; decide
  have e2 : ¬ (inB (i : Int) n && inB (j : Int) m) = false := by rw [inB_nat i n hi, inB_nat j m hj]; decide
  have e3 : ¬ 256 < s.size := by omega
  have e4 : ¬ isB (S.page ((i : Int)).toNat ((j : Int)).toNat) = true := by
    show ¬ isB (S.page i j) = true
    rw [hp]
    decide
  have e5 : (S.left - 1 != 0) = true := by rw [bne_iff_ne]; omega
  unfold progE progS
  rw [if_neg e1, if_neg e2, if_neg e3, if_neg e4, if_pos e5, if_neg e1, if_neg e2, if_neg e3, if_neg e4, if_pos e5]
  exact ⟨rfl, rfl⟩
theorem prog_torn {n m i j : Nat} {S : St} {s : ByteArray} (h1 : S.up = true) (hi : i < n) (hj : j < m) (hs : s.size ≤ 256) (hp : isB (S.page i j) = false) (hl : S.left = 1) :
    progE n m S i j s = 4 ∧ progS n m S i j s = prS (cntP (actS S false (S.left - 1))) i j (pageT s S.keep S.junk) := by
  have e1 : ¬ S.up = false := by rw [h1]; decide
  have e2 : ¬ (inB (i : Int) n && inB (j : Int) m) = false := by rw [inB_nat i n hi, inB_nat j m hj]; decide
  have e3 : ¬ 256 < s.size := by omega
  have e4 : ¬ isB (S.page ((i : Int)).toNat ((j : Int)).toNat) = true := by
    show ¬ isB (S.page i j) = true
    rw [hp]
    decide
  have e5 : ¬ (S.left - 1 != 0) = true := by rw [hl]; decide
  unfold progE progS
  rw [if_neg e1, if_neg e2, if_neg e3, if_neg e4, if_neg e5, if_neg e1, if_neg e2, if_neg e3, if_neg e4, if_neg e5]
  exact ⟨rfl, rfl⟩
theorem erase_ok {n i : Nat} {S : St} (h1 : S.up = true) (hi : i < n) (hw : wornB S i = false) (hl : S.left ≠ 1) :
    eraseE n S i = 0 ∧ eraseS n S i = erS (cntE (actS S true (S.left - 1))) i 9223372036854775807 := by
  have e1 : ¬ S.up = false := by rw [h1]; decide
  have e2 : ¬ inB (i : Int) n = false := by rw [inB_nat i n hi]; decide
  have e4 : ¬ wornB S ((i : Int)).toNat = true := by
    show ¬ wornB S i = true
    rw [hw]
    decide
  have e5 : (S.left - 1 != 0) = true := by rw [bne_iff_ne]; omega
  unfold eraseE eraseS
  rw [if_neg e1, if_neg e2, if_neg e4, if_pos e5, if_neg e1, if_neg e2, if_neg e4, if_pos e5]
  exact ⟨rfl, rfl⟩
theorem erase_no {n i : Nat} {S : St} (h1 : S.up = true) (hi : i < n) (hw : wornB S i = true) : eraseE n S i = 101 ∧ eraseS n S i = S := by
  have e1 : ¬ S.up = false := by rw [h1]; decide
  have e2 : ¬ inB (i : Int) n = false := by rw [inB_nat i n hi]; decide
  have e4 : wornB S ((i : Int)).toNat = true := hw
  unfold eraseE eraseS
  rw [if_neg e1, if_neg e2, if_pos e4, if_neg e1, if_neg e2, if_pos e4]
  exact ⟨rfl, rfl⟩

end Go.Proofs.Ytogeccmeaacgnaa
