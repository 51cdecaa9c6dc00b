/-
  Plain mathematics of the bytes of numbers: no program, no world.
-/
namespace Go.Proofs.Ytapebaoajknepaa

/-- The 'k' lowest bytes of 'n', the lowest one first. -/
def numB : Nat → Nat → List UInt8
  | 0, _ => []
  | k + 1, n => UInt8.ofNat n :: numB k (n / 256)

theorem numB_length (k n : Nat) : (numB k n).length = k := by
  induction k generalizing n with
  | zero => rfl
  | succ k ih => simp [numB, ih]

theorem numB_snoc (k n : Nat) : numB (k + 1) n = numB k n ++ [UInt8.ofNat (n / 256 ^ k)] := by
  induction k generalizing n with
  | zero => simp [numB]
  | succ k ih =>
    rw [numB, ih (n / 256)]
    simp only [numB, List.cons_append, Nat.div_div_eq_div_mul]
    rw [Nat.pow_succ, Nat.mul_comm 256]

/-- The number of bytes, the lowest one first. -/
def numV : List UInt8 → Nat
  | [] => 0
  | b :: r => b.toNat + 256 * numV r

theorem numV_lt (l : List UInt8) : numV l < 256 ^ l.length := by
  induction l with
  | nil => simp [numV]
  | cons b r ih =>
    have hb : b.toNat < 256 := b.toNat_lt
    simp only [numV, List.length_cons, Nat.pow_succ]
    omega

theorem numV_snoc (l : List UInt8) (b : UInt8) : numV (l ++ [b]) = numV l + 256 ^ l.length * b.toNat := by
  induction l with
  | nil => simp [numV]
  | cons c r ih =>
    simp only [List.cons_append, numV, ih, List.length_cons, Nat.pow_succ, Nat.mul_add]
    rw [Nat.mul_comm (256 ^ r.length) 256, Nat.mul_assoc]
    omega

theorem numV_numB (k n : Nat) (h : n < 256 ^ k) : numV (numB k n) = n := by
  induction k generalizing n with
  | zero => simp at h; simp [numB, numV, h]
  | succ k ih =>
    have h1 : n / 256 < 256 ^ k := by rw [Nat.pow_succ] at h; omega
    simp only [numB, numV, ih _ h1, UInt8.toNat_ofNat']
    omega

theorem numB_numV (l : List UInt8) : numB l.length (numV l) = l := by
  induction l with
  | nil => rfl
  | cons b r ih =>
    have hb : b.toNat < 256 := b.toNat_lt
    have h1 : (b.toNat + 256 * numV r) / 256 = numV r := by omega
    simp only [List.length_cons, numB, numV, h1, ih]
    congr 1
    apply UInt8.toNat_inj.1
    simp only [UInt8.toNat_ofNat']
    omega

end Go.Proofs.Ytapebaoajknepaa
