/-
  Plain mathematics of SHA-256 over natural numbers: turns, words, spreads, rounds, steps. No program, no world.
-/
namespace Go.Proofs.Ytapebaoajknepaa

/-- x, a word of 32 bits, turned to the right by n bits. -/
def rotr (x n : Nat) : Nat := x / 2 ^ n + x % 2 ^ n * 2 ^ (32 - n)

theorem rotr_zero (x : Nat) : rotr x 0 = x := by
  unfold rotr
  simp
  omega

theorem rotr_succ (x n : Nat) (hn : n < 32) : rotr x (n + 1) = rotr x n / 2 + rotr x n % 2 * 2147483648 := by
  unfold rotr
  obtain ⟨P, hP⟩ : ∃ P, 2 ^ (31 - n) = P := ⟨_, rfl⟩
  have e1 : 32 - (n + 1) = 31 - n := by omega
  have e2 : 2 ^ (32 - n) = P * 2 := by rw [← hP, ← Nat.pow_succ]; congr 1; omega
  have e3 : 2 ^ n * P = 2147483648 := by rw [← hP, ← Nat.pow_add, show n + (31 - n) = 31 by omega]
  have e4 : x / 2 ^ (n + 1) = x / 2 ^ n / 2 := by rw [Nat.pow_succ, Nat.div_div_eq_div_mul]
  have e5 : x % 2 ^ (n + 1) = x % 2 ^ n + 2 ^ n * (x / 2 ^ n % 2) := Nat.mod_pow_succ
  rw [e1, hP, e2, e4, e5]
  generalize x / 2 ^ n = A
  generalize x % 2 ^ n = B
  rw [← Nat.mul_assoc, Nat.add_mul, Nat.mul_right_comm (2 ^ n), e3]
  generalize B * P = C
  omega

theorem rotr_lt (x n : Nat) (hx : x < 4294967296) (hn : n ≤ 32) : rotr x n < 4294967296 := by
  unfold rotr
  have h1 : x % 2 ^ n < 2 ^ n := Nat.mod_lt _ (Nat.two_pow_pos n)
  have h2 : x / 2 ^ n < 2 ^ (32 - n) := by
    rw [Nat.div_lt_iff_lt_mul (Nat.two_pow_pos n), ← Nat.pow_add, show 32 - n + n = 32 by omega]
    exact hx
  have h3 : 2 ^ n * 2 ^ (32 - n) = 4294967296 := by rw [← Nat.pow_add, show n + (32 - n) = 32 by omega]
  have h4 : (x % 2 ^ n + 1) * 2 ^ (32 - n) ≤ 2 ^ n * 2 ^ (32 - n) := Nat.mul_le_mul_right _ h1
  rw [Nat.add_mul, h3] at h4
  omega

/-- The turn as shifts to both sides, laid over each other. -/
theorem rotr_or (x n : Nat) (hx : x < 4294967296) (h1 : 1 ≤ n) (h2 : n ≤ 31) : (x * 2 ^ (32 - n) % 4294967296) ||| (x / 2 ^ n) = rotr x n := by
  have h3 : 4294967296 = 2 ^ n * 2 ^ (32 - n) := by rw [← Nat.pow_add, show n + (32 - n) = 32 by omega]
  have h4 : x / 2 ^ n < 2 ^ (32 - n) := by
    rw [Nat.div_lt_iff_lt_mul (Nat.two_pow_pos n), ← Nat.pow_add, show 32 - n + n = 32 by omega]
    exact hx
  rw [h3, Nat.mul_mod_mul_right, Nat.mul_comm (x % 2 ^ n), ← Nat.two_pow_add_eq_or_of_lt h4]
  unfold rotr
  rw [Nat.mul_comm (2 ^ (32 - n))]
  omega

/-- x, turned by each of ns, all laid over each other. -/
def turnsN (x : Nat) : List Nat → Nat
  | [] => 0
  | n :: r => rotr x n ^^^ turnsN x r

theorem xor_lt (a b : Nat) (ha : a < 4294967296) (hb : b < 4294967296) : a ^^^ b < 4294967296 := Nat.xor_lt_two_pow (n := 32) ha hb
theorem and_lt (a b : Nat) (hb : b < 4294967296) : a &&& b < 4294967296 := Nat.and_lt_two_pow (n := 32) a hb

theorem turnsN_lt (x : Nat) (ns : List Nat) (hx : x < 4294967296) (h : ∀ n ∈ ns, n ≤ 32) : turnsN x ns < 4294967296 := by
  induction ns with
  | nil => simp [turnsN]
  | cons n r ih => exact xor_lt _ _ (rotr_lt x n hx (h n (by simp))) (ih fun k hk => h k (by simp [hk]))

theorem turnsN_snoc (x : Nat) (l : List Nat) (n : Nat) : turnsN x (l ++ [n]) = turnsN x l ^^^ rotr x n := by
  induction l with
  | nil => simp [turnsN]
  | cons m r ih => simp [turnsN, ih, Nat.xor_assoc]

/-- Put v at place i. -/
def upd (f : Nat → Nat) (i v : Nat) : Nat → Nat := fun j => if j = i then v else f j

/-- The word at place j of a block of 64 bytes. -/
def wordN (B : Nat → Nat) (j : Nat) : Nat := ((B (4 * j) * 256 + B (4 * j + 1)) * 256 + B (4 * j + 2)) * 256 + B (4 * j + 3)

/-- The block's words; 0 behind them. -/
def wordsN (B : Nat → Nat) : Nat → Nat := fun j => if j < 16 then wordN B j else 0

/-- The word that comes to place i. -/
def nextN (w : Nat → Nat) (i : Nat) : Nat :=
  (w (i - 16) + (rotr (w (i - 15)) 7 ^^^ rotr (w (i - 15)) 18 ^^^ w (i - 15) / 8) + w (i - 7) + (rotr (w (i - 2)) 17 ^^^ rotr (w (i - 2)) 19 ^^^ w (i - 2) / 1024)) % 4294967296

/-- The words with n more. -/
def spreadN (B : Nat → Nat) : Nat → Nat → Nat
  | 0 => wordsN B
  | n + 1 => upd (spreadN B n) (16 + n) (nextN (spreadN B n) (16 + n))

/-- The numbers K. -/
def kList : List Nat := [0x428a2f98, 0x71374491, 0xb5c0fbcf, 0xe9b5dba5, 0x3956c25b, 0x59f111f1, 0x923f82a4, 0xab1c5ed5, 0xd807aa98, 0x12835b01, 0x243185be, 0x550c7dc3, 0x72be5d74, 0x80deb1fe, 0x9bdc06a7, 0xc19bf174, 0xe49b69c1, 0xefbe4786, 0x0fc19dc6, 0x240ca1cc, 0x2de92c6f, 0x4a7484aa, 0x5cb0a9dc, 0x76f988da, 0x983e5152, 0xa831c66d, 0xb00327c8, 0xbf597fc7, 0xc6e00bf3, 0xd5a79147, 0x06ca6351, 0x14292967, 0x27b70a85, 0x2e1b2138, 0x4d2c6dfc, 0x53380d13, 0x650a7354, 0x766a0abb, 0x81c2c92e, 0x92722c85, 0xa2bfe8a1, 0xa81a664b, 0xc24b8b70, 0xc76c51a3, 0xd192e819, 0xd6990624, 0xf40e3585, 0x106aa070, 0x19a4c116, 0x1e376c08, 0x2748774c, 0x34b0bcb5, 0x391c0cb3, 0x4ed8aa4a, 0x5b9cca4f, 0x682e6ff3, 0x748f82ee, 0x78a5636f, 0x84c87814, 0x8cc70208, 0x90befffa, 0xa4506ceb, 0xbef9a3f7, 0xc67178f2]
def kN (i : Nat) : Nat := kList.getD i 0

theorem kN_lt (i : Nat) : kN i < 4294967296 := by
  unfold kN
  rw [List.getD_eq_getElem?_getD]
  cases h : kList[i]? with
  | none => decide
  | some v =>
    have hv := List.mem_of_getElem? h
    have : ∀ x ∈ kList, x < 4294967296 := by decide
    exact this v hv

def tN (s : Nat → Nat) (k w : Nat) : Nat :=
  (s 7 + (rotr (s 4) 6 ^^^ rotr (s 4) 11 ^^^ rotr (s 4) 25) + ((s 4 &&& s 5) ^^^ ((4294967295 - s 4) &&& s 6)) + k + w) % 4294967296
def uN (s : Nat → Nat) : Nat :=
  ((rotr (s 0) 2 ^^^ rotr (s 0) 13 ^^^ rotr (s 0) 22) + ((s 0 &&& s 1) ^^^ (s 0 &&& s 2) ^^^ (s 1 &&& s 2))) % 4294967296

/-- One round: the eight words, t and u given. -/
def mixN (s : Nat → Nat) (t u : Nat) : Nat → Nat
  | 0 => (t + u) % 4294967296
  | 1 => s 0
  | 2 => s 1
  | 3 => s 2
  | 4 => (s 3 + t) % 4294967296
  | 5 => s 4
  | 6 => s 5
  | 7 => s 6
  | _ => 0

def roundN (s : Nat → Nat) (k w : Nat) : Nat → Nat := mixN s (tN s k w) (uN s)

/-- n rounds. -/
def roundsN (W h : Nat → Nat) : Nat → Nat → Nat
  | 0 => h
  | n + 1 => roundN (roundsN W h n) (kN n) (W n)

/-- What words and a block come to. -/
def stepN (h B : Nat → Nat) : Nat → Nat := fun j => (roundsN (spreadN B 48) h 64 j + h j) % 4294967296

/-- f's places below n, g's from n on. -/
def part (f g : Nat → Nat) (n : Nat) : Nat → Nat := fun k => if k < n then f k else g k

theorem part_zero (f g : Nat → Nat) : part f g 0 = g := by
  funext k
  simp [part]

theorem part_upd (f g : Nat → Nat) (n : Nat) : upd (part f g n) n (f n) = part f g (n + 1) := by
  funext k
  unfold upd part
  by_cases h : k = n
  · subst h; simp
  · rw [if_neg h]
    by_cases h2 : k < n
    · rw [if_pos h2, if_pos (by omega)]
    · rw [if_neg h2, if_neg (by omega)]

theorem part_below (f g : Nat → Nat) (n k : Nat) (h : k < n) : part f g n k = f k := by simp [part, h]
theorem part_above (f g : Nat → Nat) (n k : Nat) (h : n ≤ k) : part f g n k = g k := by
  unfold part
  rw [if_neg (by omega)]

/-- The bytes of eight words. -/
def hashN (s : Nat → Nat) : Nat → Nat := fun j => s (j / 4) / 2 ^ (24 - 8 * (j % 4)) % 256

theorem hashN_bytes (s : Nat → Nat) : ∀ j, hashN s j < 256 := fun _ => Nat.mod_lt _ (by decide)

/-- The words at first. -/
def firstN : Nat → Nat
  | 0 => 0x6a09e667 | 1 => 0xbb67ae85 | 2 => 0x3c6ef372 | 3 => 0xa54ff53a | 4 => 0x510e527f | 5 => 0x9b05688c | 6 => 0x1f83d9ab | 7 => 0x5be0cd19 | _ => 0

/-- All are words. -/
def Words (f : Nat → Nat) : Prop := ∀ j, f j < 4294967296
/-- All are bytes. -/
def Bytes (f : Nat → Nat) : Prop := ∀ j, f j < 256

theorem upd_words {f : Nat → Nat} (h : Words f) (i v : Nat) (hv : v < 4294967296) : Words (upd f i v) := by
  intro j
  unfold upd
  split
  · exact hv
  · exact h j

theorem wordN_lt {B : Nat → Nat} (h : Bytes B) (j : Nat) : wordN B j < 4294967296 := by
  have h0 := h (4 * j)
  have h1 := h (4 * j + 1)
  have h2 := h (4 * j + 2)
  have h3 := h (4 * j + 3)
  unfold wordN
  omega

theorem wordsN_words {B : Nat → Nat} (h : Bytes B) : Words (wordsN B) := by
  intro j
  unfold wordsN
  split
  · exact wordN_lt h j
  · decide

theorem nextN_lt (w : Nat → Nat) (i : Nat) : nextN w i < 4294967296 := Nat.mod_lt _ (by decide)

theorem spreadN_words {B : Nat → Nat} (h : Bytes B) (n : Nat) : Words (spreadN B n) := by
  induction n with
  | zero => exact wordsN_words h
  | succ n ih => exact upd_words ih _ _ (nextN_lt _ _)

theorem tN_lt (s : Nat → Nat) (k w : Nat) : tN s k w < 4294967296 := Nat.mod_lt _ (by decide)
theorem uN_lt (s : Nat → Nat) : uN s < 4294967296 := Nat.mod_lt _ (by decide)

theorem mixN_words {s : Nat → Nat} (h : Words s) (t u : Nat) : Words (mixN s t u) := by
  intro j
  unfold mixN
  split <;> first | exact h _ | exact Nat.mod_lt _ (by decide) | decide

theorem roundN_words {s : Nat → Nat} (h : Words s) (k w : Nat) : Words (roundN s k w) := mixN_words h _ _

theorem roundsN_words {W h : Nat → Nat} (hh : Words h) (n : Nat) : Words (roundsN W h n) := by
  induction n with
  | zero => exact hh
  | succ n ih => exact roundN_words ih _ _

theorem stepN_words (h B : Nat → Nat) : Words (stepN h B) := fun _ => Nat.mod_lt _ (by decide)

/-- A step looks at the block's 64 bytes alone. -/
theorem wordsN_congr {B C : Nat → Nat} (e : ∀ j, j < 64 → B j = C j) : wordsN B = wordsN C := by
  funext j
  unfold wordsN wordN
  split
  · rw [e _ (by omega), e _ (by omega), e _ (by omega), e _ (by omega)]
  · rfl

theorem spreadN_congr {B C : Nat → Nat} (e : ∀ j, j < 64 → B j = C j) (n : Nat) : spreadN B n = spreadN C n := by
  induction n with
  | zero => exact wordsN_congr e
  | succ n ih => simp only [spreadN, ih]

theorem stepN_congr (h : Nat → Nat) {B C : Nat → Nat} (e : ∀ j, j < 64 → B j = C j) : stepN h B = stepN h C := by
  unfold stepN
  rw [spreadN_congr e]

theorem firstN_words : Words firstN := by
  intro j
  unfold firstN
  split <;> decide

end Go.Proofs.Ytapebaoajknepaa
