/-
  Plain mathematics of AES: blocks, round keys, Lock and what undoes it. No program, no world.
-/
import Derived.Test.YtmbkjbkbnigcfaaAesMath
namespace Go.Proofs.Ytmbkjbkbnigcfaa
set_option linter.unusedSimpArgs false
set_option linter.unusedVariables false

/-- All are bytes; the same at 16 places. -/
def Byt (f : Nat → Nat) : Prop := ∀ j, f j < 256
def Same16 (f g : Nat → Nat) : Prop := ∀ j, j < 16 → f j = g j

theorem Same16.rfl' (f : Nat → Nat) : Same16 f f := fun _ _ => rfl
theorem Same16.symm {f g : Nat → Nat} (h : Same16 f g) : Same16 g f := fun j hj => (h j hj).symm
theorem Same16.trans {f g h : Nat → Nat} (a : Same16 f g) (b : Same16 g h) : Same16 f h := fun j hj => (a j hj).trans (b j hj)

def aAdd (s k : Nat → Nat) : Nat → Nat := fun j => s j ^^^ k j
def aSub (s : Nat → Nat) : Nat → Nat := fun j => boxN (s j)
def aUnsub (s : Nat → Nat) : Nat → Nat := fun j => unboxN (s j)
/-- The byte at column c and row r comes from column c + r and row r. -/
def aShift (s : Nat → Nat) : Nat → Nat := fun j => s (4 * ((j / 4 + j % 4) % 4) + j % 4)
def aUnshift (s : Nat → Nat) : Nat → Nat := fun j => s (4 * ((j / 4 + 4 - j % 4) % 4) + j % 4)
/-- The place in the same column, i rows further. -/
def colN (j i : Nat) : Nat := 4 * (j / 4) + (j % 4 + i) % 4
def aMix (t : Nat → Nat) : Nat → Nat := fun j => timesN (t j) 2 ^^^ timesN (t (colN j 1)) 3 ^^^ t (colN j 2) ^^^ t (colN j 3)
def aUnmix (t : Nat → Nat) : Nat → Nat := fun j => timesN (t j) 14 ^^^ timesN (t (colN j 1)) 11 ^^^ timesN (t (colN j 2)) 13 ^^^ timesN (t (colN j 3)) 9

theorem box_len : boxL.length = 256 := by kernel_rfl
theorem unbox_len : unboxL.length = 256 := by kernel_rfl
theorem box_lt_any (a : Nat) : boxN a < 256 := by
  by_cases h : a < 256
  · exact (box_facts h).2.1
  · unfold boxN
    rw [List.getD_eq_getElem?_getD, List.getElem?_eq_none (by rw [box_len]; omega)]
    decide
theorem unbox_lt_any (a : Nat) : unboxN a < 256 := by
  by_cases h : a < 256
  · exact (box_facts h).2.2.1
  · unfold unboxN
    rw [List.getD_eq_getElem?_getD, List.getElem?_eq_none (by rw [unbox_len]; omega)]
    decide

theorem aAdd_byt {s k : Nat → Nat} (hs : Byt s) (hk : Byt k) : Byt (aAdd s k) := fun j => xor8 (hs j) (hk j)
theorem aSub_byt (s : Nat → Nat) : Byt (aSub s) := fun _ => box_lt_any _
theorem aUnsub_byt (s : Nat → Nat) : Byt (aUnsub s) := fun _ => unbox_lt_any _
theorem aShift_byt {s : Nat → Nat} (hs : Byt s) : Byt (aShift s) := fun _ => hs _
theorem aUnshift_byt {s : Nat → Nat} (hs : Byt s) : Byt (aUnshift s) := fun _ => hs _
theorem aMix_byt {s : Nat → Nat} (hs : Byt s) : Byt (aMix s) := fun _ => xor8 (xor8 (xor8 (times_lt (hs _) _) (times_lt (hs _) _)) (hs _)) (hs _)
theorem aUnmix_byt {s : Nat → Nat} (hs : Byt s) : Byt (aUnmix s) := fun _ => xor8 (xor8 (xor8 (times_lt (hs _) _) (times_lt (hs _) _)) (times_lt (hs _) _)) (times_lt (hs _) _)

theorem col_lt {j : Nat} (h : j < 16) (i : Nat) : colN j i < 16 := by unfold colN; omega
theorem col_col (j a b : Nat) : colN (colN j a) b = colN j (a + b) := by unfold colN; omega
theorem col_4 (j a : Nat) : colN j (a + 4) = colN j a := by unfold colN; omega
theorem col_0 (j : Nat) : colN j 0 = j := by unfold colN; omega

theorem aAdd_congr {s t : Nat → Nat} (k : Nat → Nat) (h : Same16 s t) : Same16 (aAdd s k) (aAdd t k) := fun j hj => by unfold aAdd; rw [h j hj]
theorem aSub_congr {s t : Nat → Nat} (h : Same16 s t) : Same16 (aSub s) (aSub t) := fun j hj => by unfold aSub; rw [h j hj]
theorem aUnsub_congr {s t : Nat → Nat} (h : Same16 s t) : Same16 (aUnsub s) (aUnsub t) := fun j hj => by unfold aUnsub; rw [h j hj]
theorem aShift_congr {s t : Nat → Nat} (h : Same16 s t) : Same16 (aShift s) (aShift t) := fun j hj => h _ (by omega)
theorem aUnshift_congr {s t : Nat → Nat} (h : Same16 s t) : Same16 (aUnshift s) (aUnshift t) := fun j hj => h _ (by omega)
theorem aMix_congr {s t : Nat → Nat} (h : Same16 s t) : Same16 (aMix s) (aMix t) := fun j hj => by
  unfold aMix
  rw [h j hj, h _ (col_lt hj 1), h _ (col_lt hj 2), h _ (col_lt hj 3)]
theorem aUnmix_congr {s t : Nat → Nat} (h : Same16 s t) : Same16 (aUnmix s) (aUnmix t) := fun j hj => by
  unfold aUnmix
  rw [h j hj, h _ (col_lt hj 1), h _ (col_lt hj 2), h _ (col_lt hj 3)]

/-! What undoes what. -/
theorem xor_back (a b : Nat) : a ^^^ b ^^^ b = a := by rw [Nat.xor_assoc, Nat.xor_self, Nat.xor_zero]
theorem add_add (s k : Nat → Nat) : aAdd (aAdd s k) k = s := funext fun _ => xor_back _ _
theorem unsub_sub {s : Nat → Nat} (hs : Byt s) : aUnsub (aSub s) = s := funext fun j => (box_facts (hs j)).2.2.2.1
theorem sub_unsub {s : Nat → Nat} (hs : Byt s) : aSub (aUnsub s) = s := funext fun j => (box_facts (hs j)).2.2.2.2.1
theorem unshift_shift (s : Nat → Nat) : Same16 (aUnshift (aShift s)) s := fun j hj => by
  show s (4 * (((4 * ((j / 4 + 4 - j % 4) % 4) + j % 4) / 4 + (4 * ((j / 4 + 4 - j % 4) % 4) + j % 4) % 4) % 4) + (4 * ((j / 4 + 4 - j % 4) % 4) + j % 4) % 4) = s j
  congr 1
  omega
theorem shift_unshift (s : Nat → Nat) : Same16 (aShift (aUnshift s)) s := fun j hj => by
  show s (4 * (((4 * ((j / 4 + j % 4) % 4) + j % 4) / 4 + 4 - (4 * ((j / 4 + j % 4) % 4) + j % 4) % 4) % 4) + (4 * ((j / 4 + j % 4) % 4) + j % 4) % 4) = s j
  congr 1
  omega

/-- The sums by which the mixtures undo each other. -/
theorem mix_all : all1 (fun a =>
    (timesN (timesN a 2) 14 ^^^ timesN a 11 ^^^ timesN a 13 ^^^ timesN (timesN a 3) 9 == a) &&
    (timesN (timesN a 3) 14 ^^^ timesN (timesN a 2) 11 ^^^ timesN a 13 ^^^ timesN a 9 == 0) &&
    (timesN a 14 ^^^ timesN (timesN a 3) 11 ^^^ timesN (timesN a 2) 13 ^^^ timesN a 9 == 0) &&
    (timesN a 14 ^^^ timesN a 11 ^^^ timesN (timesN a 3) 13 ^^^ timesN (timesN a 2) 9 == 0) &&
    (timesN (timesN a 14) 2 ^^^ timesN (timesN a 9) 3 ^^^ timesN a 13 ^^^ timesN a 11 == a) &&
    (timesN (timesN a 11) 2 ^^^ timesN (timesN a 14) 3 ^^^ timesN a 9 ^^^ timesN a 13 == 0) &&
    (timesN (timesN a 13) 2 ^^^ timesN (timesN a 11) 3 ^^^ timesN a 14 ^^^ timesN a 9 == 0) &&
    (timesN (timesN a 9) 2 ^^^ timesN (timesN a 13) 3 ^^^ timesN a 11 ^^^ timesN a 14 == 0)) = true := by kernel_rfl

theorem mix_facts {a : Nat} (h : a < 256) :
    (timesN (timesN a 2) 14 ^^^ timesN a 11 ^^^ timesN a 13 ^^^ timesN (timesN a 3) 9 = a) ∧
    (timesN (timesN a 3) 14 ^^^ timesN (timesN a 2) 11 ^^^ timesN a 13 ^^^ timesN a 9 = 0) ∧
    (timesN a 14 ^^^ timesN (timesN a 3) 11 ^^^ timesN (timesN a 2) 13 ^^^ timesN a 9 = 0) ∧
    (timesN a 14 ^^^ timesN a 11 ^^^ timesN (timesN a 3) 13 ^^^ timesN (timesN a 2) 9 = 0) ∧
    (timesN (timesN a 14) 2 ^^^ timesN (timesN a 9) 3 ^^^ timesN a 13 ^^^ timesN a 11 = a) ∧
    (timesN (timesN a 11) 2 ^^^ timesN (timesN a 14) 3 ^^^ timesN a 9 ^^^ timesN a 13 = 0) ∧
    (timesN (timesN a 13) 2 ^^^ timesN (timesN a 11) 3 ^^^ timesN a 14 ^^^ timesN a 9 = 0) ∧
    (timesN (timesN a 9) 2 ^^^ timesN (timesN a 13) 3 ^^^ timesN a 11 ^^^ timesN a 14 = 0) := by
  have := of_all1 mix_all h
  simp only [Bool.and_eq_true, beq_iff_eq] at this
  obtain ⟨⟨⟨⟨⟨⟨⟨h1, h2⟩, h3⟩, h4⟩, h5⟩, h6⟩, h7⟩, h8⟩ := this
  exact ⟨h1, h2, h3, h4, h5, h6, h7, h8⟩

theorem times_add4 {a b c d : Nat} (ha : a < 256) (hb : b < 256) (hc : c < 256) (hd : d < 256) (m : Nat) : timesN (a ^^^ b ^^^ c ^^^ d) m = timesN a m ^^^ timesN b m ^^^ timesN c m ^^^ timesN d m := by
  rw [times_addL (xor8 (xor8 ha hb) hc) hd, times_addL (xor8 ha hb) hc, times_addL ha hb]

theorem mix_at (t : Nat → Nat) (j i : Nat) : aMix t (colN j i) = timesN (t (colN j i)) 2 ^^^ timesN (t (colN j (i + 1))) 3 ^^^ t (colN j (i + 2)) ^^^ t (colN j (i + 3)) := by
  unfold aMix
  rw [col_col, col_col, col_col]
theorem unmix_at (t : Nat → Nat) (j i : Nat) : aUnmix t (colN j i) = timesN (t (colN j i)) 14 ^^^ timesN (t (colN j (i + 1))) 11 ^^^ timesN (t (colN j (i + 2))) 13 ^^^ timesN (t (colN j (i + 3))) 9 := by
  unfold aUnmix
  rw [col_col, col_col, col_col]

theorem unmix_mix {s : Nat → Nat} (hs : Byt s) : aUnmix (aMix s) = s := by
  funext j
  have e := unmix_at (aMix s) j 0
  rw [col_0] at e
  rw [e, mix_at s j 1, mix_at s j 2, mix_at s j 3]
  have e0 := mix_at s j 0
  rw [col_0] at e0
  rw [e0]
  simp only [Nat.zero_add, show (1 + 1 : Nat) = 2 from rfl, show (1 + 2 : Nat) = 3 from rfl, show (1 + 3 : Nat) = 0 + 4 from rfl, show (2 + 1 : Nat) = 3 from rfl, show (2 + 2 : Nat) = 0 + 4 from rfl, show (2 + 3 : Nat) = 1 + 4 from rfl, show (3 + 1 : Nat) = 0 + 4 from rfl, show (3 + 2 : Nat) = 1 + 4 from rfl, show (3 + 3 : Nat) = 2 + 4 from rfl, col_4, col_0]
  have h0 := hs j
  have h1 := hs (colN j 1)
  have h2 := hs (colN j 2)
  have h3 := hs (colN j 3)
  generalize s j = a at *
  generalize s (colN j 1) = b at *
  generalize s (colN j 2) = c at *
  generalize s (colN j 3) = d at *
  rw [times_add4 (times_lt h0 _) (times_lt h1 _) h2 h3, times_add4 (times_lt h1 _) (times_lt h2 _) h3 h0, times_add4 (times_lt h2 _) (times_lt h3 _) h0 h1, times_add4 (times_lt h3 _) (times_lt h0 _) h1 h2]
  have f0 := (mix_facts h0).1
  have f1 := (mix_facts h1).2.1
  have f2 := (mix_facts h2).2.2.1
  have f3 := (mix_facts h3).2.2.2.1
  calc _ = (timesN (timesN a 2) 14 ^^^ timesN a 11 ^^^ timesN a 13 ^^^ timesN (timesN a 3) 9) ^^^ (timesN (timesN b 3) 14 ^^^ timesN (timesN b 2) 11 ^^^ timesN b 13 ^^^ timesN b 9) ^^^ (timesN c 14 ^^^ timesN (timesN c 3) 11 ^^^ timesN (timesN c 2) 13 ^^^ timesN c 9) ^^^ (timesN d 14 ^^^ timesN d 11 ^^^ timesN (timesN d 3) 13 ^^^ timesN (timesN d 2) 9) := by ac_rfl
    _ = a := by rw [f0, f1, f2, f3]; simp

theorem mix_unmix {s : Nat → Nat} (hs : Byt s) : aMix (aUnmix s) = s := by
  funext j
  have e := mix_at (aUnmix s) j 0
  rw [col_0] at e
  rw [e]
  simp only [Nat.zero_add]
  rw [unmix_at s j 1, unmix_at s j 2, unmix_at s j 3]
  have e0 := unmix_at s j 0
  rw [col_0] at e0
  rw [e0]
  simp only [Nat.zero_add, show (1 + 1 : Nat) = 2 from rfl, show (1 + 2 : Nat) = 3 from rfl, show (1 + 3 : Nat) = 0 + 4 from rfl, show (2 + 1 : Nat) = 3 from rfl, show (2 + 2 : Nat) = 0 + 4 from rfl, show (2 + 3 : Nat) = 1 + 4 from rfl, show (3 + 1 : Nat) = 0 + 4 from rfl, show (3 + 2 : Nat) = 1 + 4 from rfl, show (3 + 3 : Nat) = 2 + 4 from rfl, col_4, col_0]
  have h0 := hs j
  have h1 := hs (colN j 1)
  have h2 := hs (colN j 2)
  have h3 := hs (colN j 3)
  generalize s j = a at *
  generalize s (colN j 1) = b at *
  generalize s (colN j 2) = c at *
  generalize s (colN j 3) = d at *
  rw [times_add4 (times_lt h0 _) (times_lt h1 _) (times_lt h2 _) (times_lt h3 _), times_add4 (times_lt h1 _) (times_lt h2 _) (times_lt h3 _) (times_lt h0 _)]
  have f0 := (mix_facts h0).2.2.2.2.1
  have f1 := (mix_facts h1).2.2.2.2.2.1
  have f2 := (mix_facts h2).2.2.2.2.2.2.1
  have f3 := (mix_facts h3).2.2.2.2.2.2.2
  calc _ = (timesN (timesN a 14) 2 ^^^ timesN (timesN a 9) 3 ^^^ timesN a 13 ^^^ timesN a 11) ^^^ (timesN (timesN b 11) 2 ^^^ timesN (timesN b 14) 3 ^^^ timesN b 9 ^^^ timesN b 13) ^^^ (timesN (timesN c 13) 2 ^^^ timesN (timesN c 11) 3 ^^^ timesN c 14 ^^^ timesN c 9) ^^^ (timesN (timesN d 9) 2 ^^^ timesN (timesN d 13) 3 ^^^ timesN d 11 ^^^ timesN d 14) := by ac_rfl
    _ = a := by rw [f0, f1, f2, f3]; simp

/-! Round keys. -/
theorem two_all : all1 (fun a => timesN a 2 == xtN a) = true := by kernel_rfl
theorem times_two {a : Nat} (h : a < 256) : timesN a 2 = xtN a := by simpa using of_all1 two_all h

/-- Column c, row r, of the next round key. -/
def rkCol (p : Nat → Nat) (x : Nat) : Nat → Nat → Nat
  | 0, r => p r ^^^ (if r = 0 then boxN (p (12 + (r + 1) % 4)) ^^^ x else boxN (p (12 + (r + 1) % 4)))
  | c + 1, r => p (4 * (c + 1) + r) ^^^ rkCol p x c r
def rkNext (p : Nat → Nat) (x : Nat) : Nat → Nat := fun j => rkCol p x (j / 4) (j % 4)
def rkN (key : Nat → Nat) : Nat → Nat → Nat
  | 0 => key
  | i + 1 => rkNext (rkN key i) (xtsN 1 i)

theorem rkCol_lt {p : Nat → Nat} (hp : Byt p) {x : Nat} (hx : x < 256) : ∀ c r, rkCol p x c r < 256
  | 0, r => by
    unfold rkCol
    split
    · exact xor8 (hp _) (xor8 (box_lt_any _) hx)
    · exact xor8 (hp _) (box_lt_any _)
  | c + 1, r => by
    unfold rkCol
    exact xor8 (hp _) (rkCol_lt hp hx c r)
theorem rk_byt {key : Nat → Nat} (h : Byt key) : ∀ i, Byt (rkN key i)
  | 0 => h
  | i + 1 => fun _ => rkCol_lt (rk_byt h i) (xts_lt (by decide) i) _ _

theorem rkCol_congr {p q : Nat → Nat} (h : Same16 p q) (x : Nat) : ∀ c r, c < 4 → r < 4 → rkCol p x c r = rkCol q x c r
  | 0, r, _, hr => by
    unfold rkCol
    rw [h r (by omega), h (12 + (r + 1) % 4) (by omega)]
  | c + 1, r, hc, hr => by
    unfold rkCol
    rw [h _ (by omega), rkCol_congr h x c r (by omega) hr]
theorem rk_congr {p q : Nat → Nat} (h : Same16 p q) : ∀ i, Same16 (rkN p i) (rkN q i)
  | 0 => h
  | i + 1 => fun j hj => rkCol_congr (rk_congr h i) _ _ _ (by omega) (by omega)

/-! Lock, and what undoes it. -/
def roundS (s k : Nat → Nat) (last : Bool) : Nat → Nat := aAdd (if last then aShift (aSub s) else aMix (aShift (aSub s))) k
def unroundS (s k : Nat → Nat) (last : Bool) : Nat → Nat := aUnsub (aUnshift (if last then aAdd s k else aUnmix (aAdd s k)))

theorem roundS_byt {s k : Nat → Nat} (hk : Byt k) (last : Bool) : Byt (roundS s k last) := by
  unfold roundS
  refine aAdd_byt ?_ hk
  split
  · exact aShift_byt (aSub_byt s)
  · exact aMix_byt (aShift_byt (aSub_byt s))
theorem unroundS_byt (s k : Nat → Nat) (last : Bool) : Byt (unroundS s k last) := aUnsub_byt _

theorem roundS_congr {s t : Nat → Nat} (h : Same16 s t) (k : Nat → Nat) (last : Bool) : Same16 (roundS s k last) (roundS t k last) := by
  unfold roundS
  refine aAdd_congr k ?_
  cases last
  · exact aMix_congr (aShift_congr (aSub_congr h))
  · exact aShift_congr (aSub_congr h)
theorem unroundS_congr {s t : Nat → Nat} (h : Same16 s t) (k : Nat → Nat) (last : Bool) : Same16 (unroundS s k last) (unroundS t k last) := by
  unfold unroundS
  refine aUnsub_congr (aUnshift_congr ?_)
  cases last
  · exact aUnmix_congr (aAdd_congr k h)
  · exact aAdd_congr k h

theorem unround_round {s k : Nat → Nat} (hs : Byt s) (last : Bool) : Same16 (unroundS (roundS s k last) k last) s := by
  unfold unroundS roundS
  cases last
  · simp only [Bool.false_eq_true, if_false, add_add]
    rw [unmix_mix (aShift_byt (aSub_byt s))]
    refine (aUnsub_congr (unshift_shift (aSub s))).trans ?_
    rw [unsub_sub hs]
    exact .rfl' _
  · simp only [if_true, add_add]
    refine (aUnsub_congr (unshift_shift (aSub s))).trans ?_
    rw [unsub_sub hs]
    exact .rfl' _
theorem round_unround {s k : Nat → Nat} (hs : Byt s) (hk : Byt k) (last : Bool) : Same16 (roundS (unroundS s k last) k last) s := by
  unfold unroundS roundS
  cases last
  · simp only [Bool.false_eq_true, if_false]
    have hu : Byt (aUnshift (aUnmix (aAdd s k))) := aUnshift_byt (aUnmix_byt (aAdd_byt hs hk))
    rw [sub_unsub hu]
    refine (aAdd_congr k (aMix_congr (shift_unshift _))).trans ?_
    rw [mix_unmix (aAdd_byt hs hk), add_add]
    exact .rfl' _
  · simp only [if_true]
    have hu : Byt (aUnshift (aAdd s k)) := aUnshift_byt (aAdd_byt hs hk)
    rw [sub_unsub hu]
    refine (aAdd_congr k (shift_unshift _)).trans ?_
    rw [add_add]
    exact .rfl' _

/-- The block behind round i. -/
def lockTo (key b : Nat → Nat) : Nat → Nat → Nat
  | 0 => aAdd b (rkN key 0)
  | i + 1 => roundS (lockTo key b i) (rkN key (i + 1)) (decide (i + 1 = 10))
def lockN (key b : Nat → Nat) : Nat → Nat := lockTo key b 10
/-- The block when i rounds are undone. -/
def unTo (key c : Nat → Nat) : Nat → Nat → Nat
  | 0 => c
  | i + 1 => unroundS (unTo key c i) (rkN key (10 - i)) (decide (10 - i = 10))
def openN (key c : Nat → Nat) : Nat → Nat := aAdd (unTo key c 10) (rkN key 0)

theorem lockTo_byt {key b : Nat → Nat} (hk : Byt key) (hb : Byt b) : ∀ i, Byt (lockTo key b i)
  | 0 => aAdd_byt hb (rk_byt hk 0)
  | i + 1 => roundS_byt (rk_byt hk _) _
theorem unTo_byt {key c : Nat → Nat} (hc : Byt c) : ∀ i, Byt (unTo key c i)
  | 0 => hc
  | i + 1 => unroundS_byt _ _ _
theorem lock_byt {key b : Nat → Nat} (hk : Byt key) (hb : Byt b) : Byt (lockN key b) := lockTo_byt hk hb 10
theorem open_byt {key c : Nat → Nat} (hk : Byt key) (hc : Byt c) : Byt (openN key c) := aAdd_byt (unTo_byt hc 10) (rk_byt hk 0)

theorem unTo_lock {key b : Nat → Nat} (hk : Byt key) (hb : Byt b) : ∀ i, i ≤ 10 → Same16 (unTo key (lockN key b) i) (lockTo key b (10 - i))
  | 0, _ => .rfl' _
  | i + 1, h => by
    have ih := unTo_lock hk hb i (by omega)
    have e : 10 - i = (10 - (i + 1)) + 1 := by omega
    unfold unTo
    refine (unroundS_congr ih _ _).trans ?_
    rw [e]
    exact unround_round (lockTo_byt hk hb _) _
theorem open_lock {key b : Nat → Nat} (hk : Byt key) (hb : Byt b) : Same16 (openN key (lockN key b)) b := by
  unfold openN
  refine (aAdd_congr _ (unTo_lock hk hb 10 (Nat.le_refl _))).trans ?_
  show Same16 (aAdd (aAdd b (rkN key 0)) (rkN key 0)) b
  rw [add_add]
  exact .rfl' _

theorem lockTo_open {key c : Nat → Nat} (hk : Byt key) (hc : Byt c) : ∀ i, i ≤ 10 → Same16 (lockTo key (openN key c) i) (unTo key c (10 - i))
  | 0, _ => by
    show Same16 (aAdd (aAdd (unTo key c 10) (rkN key 0)) (rkN key 0)) _
    rw [add_add]
    exact .rfl' _
  | i + 1, h => by
    have ih := lockTo_open hk hc i (by omega)
    have e : 10 - i = (10 - (i + 1)) + 1 := by omega
    unfold lockTo
    refine (roundS_congr ih _ _).trans ?_
    rw [e]
    have e2 : 10 - (10 - (i + 1)) = i + 1 := by omega
    rw [show unTo key c (10 - (i + 1) + 1) = unroundS (unTo key c (10 - (i + 1))) (rkN key (10 - (10 - (i + 1)))) (decide (10 - (10 - (i + 1)) = 10)) from rfl, e2]
    exact round_unround (unTo_byt hc _) (rk_byt hk _) _
theorem lock_open {key c : Nat → Nat} (hk : Byt key) (hc : Byt c) : Same16 (lockN key (openN key c)) c := lockTo_open hk hc 10 (Nat.le_refl _)

theorem lockTo_congr {key a b : Nat → Nat} (h : Same16 a b) : ∀ i, Same16 (lockTo key a i) (lockTo key b i)
  | 0 => aAdd_congr _ h
  | i + 1 => roundS_congr (lockTo_congr h i) _ _
theorem unTo_congr {key a b : Nat → Nat} (h : Same16 a b) : ∀ i, Same16 (unTo key a i) (unTo key b i)
  | 0 => h
  | i + 1 => unroundS_congr (unTo_congr h i) _ _
theorem open_congr {key a b : Nat → Nat} (h : Same16 a b) : Same16 (openN key a) (openN key b) := aAdd_congr _ (unTo_congr h 10)

theorem lock_inj {key a b : Nat → Nat} (hk : Byt key) (ha : Byt a) (hb : Byt b) : Same16 (lockN key a) (lockN key b) ↔ Same16 a b :=
  ⟨fun h => (open_lock hk ha).symm.trans ((open_congr h).trans (open_lock hk hb)), fun h => lockTo_congr h 10⟩
theorem open_inj {key a b : Nat → Nat} (hk : Byt key) (ha : Byt a) (hb : Byt b) : Same16 (openN key a) (openN key b) ↔ Same16 a b :=
  ⟨fun h => (lock_open hk ha).symm.trans ((lockTo_congr h 10).trans (lock_open hk hb)), open_congr⟩

end Go.Proofs.Ytmbkjbkbnigcfaa
