/-
  Plain mathematics of a page: what is ahead of its sum, the parts that it is read by, which pages have a frame.
-/
import Derived.Test.YtcglbbkphgdnmaaDoorListB
import Derived.Test.YtcglbbkphgdnmaaDoorSumBytes
import Derived.Lib.TrimByte
import Derived.Lib.Repeat
namespace Go.Proofs.YtcglbbkphgdnmaaDoor

/-- All that is ahead of the sum: the kind, the number, the length, the text, bytes 0. -/
def aheadL (k n : Nat) (T : List UInt8) : List UInt8 := numB 1 k ++ (numB 8 n ++ (numB 2 T.length ++ (T ++ List.replicate (229 - T.length) 0)))
/-- The first half of a sum. -/
def sumL (A : List UInt8) : List UInt8 := listB 16 (sumN A)
/-- A page. -/
def pageL (k n : Nat) (T : List UInt8) : List UInt8 := aheadL k n T ++ sumL (aheadL k n T)

theorem sumL_length (A : List UInt8) : (sumL A).length = 16 := listB_length _ _
theorem aheadL_length {k n : Nat} {T : List UInt8} (h : T.length ≤ 229) : (aheadL k n T).length = 240 := by
  unfold aheadL
  simp only [List.length_append, numB_length, List.length_replicate]
  omega
theorem pageL_length {k n : Nat} {T : List UInt8} (h : T.length ≤ 229) : (pageL k n T).length = 256 := by
  unfold pageL
  rw [List.length_append, aheadL_length h, sumL_length]

/-- What a page is read by. -/
def kindL (P : List UInt8) : Nat := numV (P.take 1)
def seqL (P : List UInt8) : Nat := numV ((P.drop 1).take 8)
def lenL (P : List UInt8) : Nat := numV ((P.drop 9).take 2)
def textL (P : List UInt8) : List UInt8 := (P.drop 11).take (lenL P)

theorem take_app {α : Type} {a b : List α} {n : Nat} (h : a.length = n) : (a ++ b).take n = a := by
  rw [List.take_append_of_le_length (by omega), List.take_of_length_le (by omega)]
theorem drop_app {α : Type} {a b : List α} {n m : Nat} (h : a.length = n) : (a ++ b).drop (n + m) = b.drop m := by
  rw [List.drop_append, List.drop_of_length_le (by omega), List.nil_append]
  congr 1
  omega

theorem page_app (k n : Nat) (T : List UInt8) : pageL k n T = numB 1 k ++ (numB 8 n ++ (numB 2 T.length ++ (T ++ (List.replicate (229 - T.length) 0 ++ sumL (aheadL k n T))))) := by
  unfold pageL
  generalize sumL (aheadL k n T) = S
  unfold aheadL
  simp only [List.append_assoc]

theorem kindL_page (k n : Nat) (T : List UInt8) (hk : k < 256) : kindL (pageL k n T) = k := by
  unfold kindL
  rw [page_app, take_app (numB_length 1 k)]
  exact numV_numB 1 k (by simpa using hk)
theorem seqL_page (k n : Nat) (T : List UInt8) (hn : n < 18446744073709551616) : seqL (pageL k n T) = n := by
  unfold seqL
  rw [page_app, show (1 : Nat) = 1 + 0 from rfl, drop_app (numB_length (1 + 0) k), List.drop_zero, take_app (numB_length 8 n)]
  exact numV_numB 8 n (by simpa using hn)
theorem lenL_page (k n : Nat) (T : List UInt8) (h : T.length ≤ 229) : lenL (pageL k n T) = T.length := by
  unfold lenL
  rw [page_app, show (9 : Nat) = 1 + 8 from rfl, drop_app (numB_length 1 k), show (8 : Nat) = 8 + 0 from rfl, drop_app (numB_length (8 + 0) n), List.drop_zero, take_app (numB_length 2 T.length)]
  exact numV_numB 2 _ (by simp; omega)
theorem textL_page (k n : Nat) (T : List UInt8) (h : T.length ≤ 229) : textL (pageL k n T) = T := by
  unfold textL
  rw [lenL_page k n T h, page_app, show (11 : Nat) = 1 + 10 from rfl, drop_app (numB_length 1 k), show (10 : Nat) = 8 + 2 from rfl, drop_app (numB_length 8 n), show (2 : Nat) = 2 + 0 from rfl, drop_app (numB_length (2 + 0) T.length), List.drop_zero, take_app rfl]

/-- Has a page a frame? -/
def okB (P : List UInt8) : Bool := decide (P.length = 256) && (!decide (kindL P = 0) && (decide (lenL P ≤ 229) && decide (pageL (kindL P) (seqL P) (textL P) = P)))

theorem okB_page (k n : Nat) (T : List UInt8) (h0 : k ≠ 0) (hk : k < 256) (hn : n < 18446744073709551616) (h : T.length ≤ 229) : okB (pageL k n T) = true := by
  unfold okB
  rw [kindL_page k n T hk, seqL_page k n T hn, lenL_page k n T h, textL_page k n T h, pageL_length h]
  simp [h0, h]

theorem numV_two (l : List UInt8) (h : l.length ≤ 2) : numV l < 65536 := by
  have := numV_lt l
  have h2 : 256 ^ l.length ≤ 256 ^ 2 := Nat.pow_le_pow_right (by decide) h
  omega
theorem lenL_lt (P : List UInt8) : lenL P < 65536 := numV_two _ (by simp; omega)
theorem numV_le (l : List UInt8) (n : Nat) (h : l.length ≤ n) : numV l < 256 ^ n := Nat.lt_of_lt_of_le (numV_lt l) (Nat.pow_le_pow_right (by decide) h)
theorem kindL_lt (P : List UInt8) : kindL P < 256 := numV_le _ 1 (by simp; omega)
theorem seqL_lt (P : List UInt8) : seqL P < 18446744073709551616 := numV_le _ 8 (by simp; omega)

theorem numB_take {l : List UInt8} {n : Nat} (h : l.length = n) : numB n (numV l) = l := by subst h; exact numB_numV l

theorem ahead_of {P : List UInt8} (hl : P.length = 256) (hm : lenL P ≤ 229) : aheadL (kindL P) (seqL P) (textL P) = P.take (11 + lenL P) ++ List.replicate (229 - lenL P) 0 := by
  have ht : (textL P).length = lenL P := by unfold textL; rw [List.length_take, List.length_drop]; omega
  unfold aheadL
  rw [ht]
  have e1 : numB 1 (kindL P) = P.take 1 := numB_take (by rw [List.length_take]; omega)
  have e2 : numB 8 (seqL P) = (P.drop 1).take 8 := numB_take (by rw [List.length_take, List.length_drop]; omega)
  have e3 : numB 2 (lenL P) = (P.drop 9).take 2 := numB_take (by rw [List.length_take, List.length_drop]; omega)
  have e4 : P.take (11 + lenL P) = P.take 1 ++ ((P.drop 1).take 8 ++ ((P.drop 9).take 2 ++ textL P)) := by
    unfold textL
    rw [show 11 + lenL P = 1 + (8 + (2 + lenL P)) by omega, List.take_add, List.take_add, List.take_add, List.drop_drop, List.drop_drop]
  rw [e1, e2, e3, e4]
  simp only [List.append_assoc]

/-- Which pages are as their parts would be written. -/
theorem page_iff {P : List UInt8} (hl : P.length = 256) (hm : lenL P ≤ 229) :
    pageL (kindL P) (seqL P) (textL P) = P ↔ P.drop 240 = sumL (P.take 240) ∧ (P.take 240).drop (11 + lenL P) = List.replicate (229 - lenL P) 0 := by
  unfold pageL
  have hA := ahead_of hl hm
  have hAl : (aheadL (kindL P) (seqL P) (textL P)).length = 240 := aheadL_length (by unfold textL; rw [List.length_take, List.length_drop]; omega)
  generalize aheadL (kindL P) (seqL P) (textL P) = A at *
  have e5 : P.take 240 = P.take (11 + lenL P) ++ (P.take 240).drop (11 + lenL P) := by
    conv => lhs; rw [← List.take_append_drop (11 + lenL P) (P.take 240)]
    rw [List.take_take, Nat.min_eq_left (by omega)]
  have e6 : P = P.take 240 ++ P.drop 240 := (List.take_append_drop 240 P).symm
  have hT : (P.take 240).length = 240 := by rw [List.length_take]; omega
  constructor
  · intro h
    have h2 : A ++ sumL A = P.take 240 ++ P.drop 240 := h.trans e6
    obtain ⟨h3, h4⟩ := List.append_inj h2 (hAl.trans hT.symm)
    refine ⟨by rw [← h4, ← h3], ?_⟩
    rw [hA, e5] at h3
    exact (List.append_inj h3 rfl).2.symm
  · rintro ⟨h1, h2⟩
    have h3 : A = P.take 240 := by rw [hA, e5, h2]
    rw [h3, ← h1]
    exact e6.symm

/-- Nothing but c. -/
theorem trimB_nil (l : List UInt8) (c : UInt8) : Lib.trimB l c = [] ↔ l = List.replicate l.length c := by
  unfold Lib.trimB Lib.trimLeftB Lib.trimRightB
  have key : ∀ m : List UInt8, m.dropWhile (· == c) = [] ↔ ∀ x ∈ m, x = c := fun m => by
    induction m with
    | nil => simp
    | cons a r ih =>
      by_cases ha : a = c
      · subst ha
        simp only [List.dropWhile_cons, beq_self_eq_true, if_true, ih, List.mem_cons, forall_eq_or_imp, true_and]
      · simp [ha]
  rw [key, List.eq_replicate_iff]
  constructor
  · intro h
    refine ⟨rfl, ?_⟩
    by_cases hn : l.reverse.dropWhile (· == c) = []
    · intro x hx
      exact (key _).1 hn x (by simpa using hx)
    · exfalso
      have hh := List.head_dropWhile_not (· == c) hn
      have := h ((l.reverse.dropWhile (· == c)).head hn) (by simp)
      simp [this] at hh
  · rintro ⟨_, h⟩ x hx
    have : x ∈ l.reverse.dropWhile (· == c) := by simpa using hx
    exact h x (by simpa using (List.dropWhile_suffix _).subset this)

theorem repeatL_byte (c : UInt8) (n : Nat) : Lib.repeatL [c] n = List.replicate n c := by
  have := Lib.repeatL_replicate c 1 n
  rwa [Nat.mul_one] at this

end Go.Proofs.YtcglbbkphgdnmaaDoor
