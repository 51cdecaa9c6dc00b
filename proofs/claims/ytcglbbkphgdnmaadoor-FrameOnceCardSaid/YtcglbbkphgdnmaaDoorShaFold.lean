/-
  Plain mathematics of sums: a text's blocks, one behind the other; what a text that comes in parts has left.
-/
import Derived.Test.YtcglbbkphgdnmaaDoorShaCopy
namespace Go.Proofs.YtcglbbkphgdnmaaDoor

/-- What the first k blocks of a text come to. -/
def foldN (T : List UInt8) : Nat → Nat → Nat
  | 0 => firstN
  | k + 1 => stepN (foldN T k) (fun j => byteL T (64 * k + j))

theorem foldN_words (T : List UInt8) (k : Nat) : Words (foldN T k) := by
  cases k with
  | zero => exact firstN_words
  | succ k => exact stepN_words _ _

theorem byteL_append (T X : List UInt8) (j : Nat) (h : j < T.length) : byteL (T ++ X) j = byteL T j := by
  unfold byteL
  rw [List.getD_eq_getElem?_getD, List.getD_eq_getElem?_getD, List.getElem?_append_left h]

theorem byteL_append_right (T X : List UInt8) (j : Nat) (h : T.length ≤ j) : byteL (T ++ X) j = byteL X (j - T.length) := by
  unfold byteL
  rw [List.getD_eq_getElem?_getD, List.getD_eq_getElem?_getD, List.getElem?_append_right h]

theorem byteL_take (X : List UInt8) (n j : Nat) (h : j < n) : byteL (X.take n) j = byteL X j := by
  unfold byteL
  simp [List.getD_eq_getElem?_getD, h]

theorem byteL_drop (X : List UInt8) (n j : Nat) : byteL (X.drop n) j = byteL X (n + j) := by
  unfold byteL
  simp [List.getD_eq_getElem?_getD, List.getElem?_drop]

theorem foldN_append (T X : List UInt8) (k : Nat) (h : 64 * k ≤ T.length) : foldN (T ++ X) k = foldN T k := by
  induction k with
  | zero => rfl
  | succ k ih =>
    unfold foldN
    rw [ih (by omega)]
    exact stepN_congr _ fun j hj => byteL_append T X _ (by omega)

/-- The block holds what has come of it. -/
def Fed (T : List UInt8) (blk : Nat → Nat) : Prop := ∀ j, j < T.length % 64 → blk j = byteL T (64 * (T.length / 64) + j)

theorem laid_bytes {f g : Nat → Nat} (hf : Bytes f) (hg : Bytes g) (o n : Nat) : Bytes (laid f g o n) := by
  intro j
  unfold laid
  split
  · exact hg _
  · exact hf _

theorem fed_laid (T R : List UInt8) (blk : Nat → Nat) (n : Nat) (h : Fed T blk) : ∀ j, j < T.length % 64 + n → laid blk (byteL R) (T.length % 64) n j = byteL (T ++ R.take n) (64 * (T.length / 64) + j) := by
  intro j hj
  unfold laid
  by_cases c : T.length % 64 ≤ j
  · rw [if_pos (by omega), byteL_append_right _ _ _ (by omega), byteL_take _ _ _ (by omega)]
    congr 1
    omega
  · rw [if_neg (by omega), byteL_append _ _ _ (by omega)]
    exact h j (by omega)

theorem fed_more (T R : List UInt8) (blk : Nat → Nat) (n : Nat) (hn : n ≤ R.length) (h : Fed T blk) (hlt : T.length % 64 + n < 64) :
    Fed (T ++ R.take n) (laid blk (byteL R) (T.length % 64) n) ∧ (T ++ R.take n).length % 64 = T.length % 64 + n ∧ foldN (T ++ R.take n) ((T ++ R.take n).length / 64) = foldN T (T.length / 64) := by
  have hl : (T ++ R.take n).length = T.length + n := by simp; omega
  have h1 : (T.length + n) % 64 = T.length % 64 + n := by omega
  have h2 : (T.length + n) / 64 = T.length / 64 := by omega
  refine ⟨?_, by rw [hl, h1], by rw [hl, h2]; exact foldN_append _ _ _ (by omega)⟩
  intro j hj
  rw [hl, h1] at hj
  rw [hl, h2]
  exact fed_laid T R blk n h j hj

theorem fed_full (T R : List UInt8) (blk : Nat → Nat) (n : Nat) (hn : n ≤ R.length) (h : Fed T blk) (he : T.length % 64 + n = 64) (blk' : Nat → Nat) :
    Fed (T ++ R.take n) blk' ∧ (T ++ R.take n).length % 64 = 0 ∧ foldN (T ++ R.take n) ((T ++ R.take n).length / 64) = stepN (foldN T (T.length / 64)) (laid blk (byteL R) (T.length % 64) n) := by
  have hl : (T ++ R.take n).length = T.length + n := by simp; omega
  have h1 : (T.length + n) % 64 = 0 := by omega
  have h2 : (T.length + n) / 64 = T.length / 64 + 1 := by omega
  refine ⟨?_, by rw [hl, h1], ?_⟩
  · intro j hj
    rw [hl, h1] at hj
    omega
  · rw [hl, h2]
    show stepN (foldN (T ++ R.take n) (T.length / 64)) _ = _
    rw [foldN_append _ _ _ (by omega)]
    exact stepN_congr _ fun j hj => (fed_laid T R blk n h j (by omega)).symm

/-- The bytes of the sum of a text. -/
def sumN (T : List UInt8) : Nat → Nat := hashN (foldN (T ++ fillL T.length) ((T ++ fillL T.length).length / 64))

theorem full_length (T : List UInt8) : (T ++ fillL T.length).length % 64 = 0 := by
  rw [List.length_append, fillL_length]
  unfold fillZ
  omega

end Go.Proofs.YtcglbbkphgdnmaaDoor
