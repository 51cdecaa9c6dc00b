/-
  The nodes of AdversaryLock: what is known of them.
-/
import Derived.Test.YtjhalbifljnfjaaAdvTerms
import Derived.Test.YtjhalbifljnfjaaAdvMore
namespace Go.Proofs.Ytjhalbifljnfjaa
set_option linter.unusedVariables false

/-- A key, an atom, the atom locked; then other keys, other atoms, and the locked one locked once more. -/
structure LockP (k a : Nat) (K : Nds) (t : Nat) : Prop where
  k0 : K 0 0 = 1 ∧ K 0 1 = (k : Int) ∧ K 0 2 = 0
  k1 : K 1 0 = 0 ∧ K 1 1 = (a : Int) ∧ K 1 2 = 0
  k2 : K 2 0 = 3 ∧ K 2 1 = ((0 : Nat) : Int) ∧ K 2 2 = ((1 : Nat) : Int)
  ks : ∀ s, s < t → ∃ n : Nat, n < 65536 ∧ n ≠ k ∧ n ≠ a ∧ (K (3 + 3 * s) 0 = 1 ∧ K (3 + 3 * s) 1 = (n : Int) ∧ K (3 + 3 * s) 2 = 0) ∧ (K (4 + 3 * s) 0 = 0 ∧ K (4 + 3 * s) 1 = (n : Int) ∧ K (4 + 3 * s) 2 = 0) ∧ (K (5 + 3 * s) 0 = 3 ∧ K (5 + 3 * s) 1 = ((3 + 3 * s : Nat) : Int) ∧ K (5 + 3 * s) 2 = ((2 : Nat) : Int))

/-- Three more nodes. -/
def lockN (K : Nds) (t n : Nat) : Nds := fun i j => if i < 3 + 3 * t then K i j else if i = 3 + 3 * t then (if j = 0 then 1 else if j = 1 then (n : Int) else 0) else if i = 4 + 3 * t then (if j = 1 then (n : Int) else 0) else (if j = 0 then 3 else if j = 1 then ((3 + 3 * t : Nat) : Int) else 2)
def lock0 (k a : Nat) : Nds := ndL [[1, (k : Int), 0], [0, (a : Int), 0], [3, 0, 1]]
theorem lock_none (k a : Nat) : LockP k a (lock0 k a) 0 where
  k0 := ⟨rfl, rfl, rfl⟩
  k1 := ⟨rfl, rfl, rfl⟩
  k2 := ⟨rfl, rfl, rfl⟩
  ks s h := absurd h (Nat.not_lt_zero _)
theorem lockN_lt {K : Nds} {t n i j : Nat} (h : i < 3 + 3 * t) : lockN K t n i j = K i j := by unfold lockN; rw [if_pos h]
theorem lockN_a (K : Nds) (t n j : Nat) : lockN K t n (3 + 3 * t) j = if j = 0 then 1 else if j = 1 then (n : Int) else 0 := by
  unfold lockN; rw [if_neg (by omega), if_pos rfl]
theorem lockN_b (K : Nds) (t n j : Nat) : lockN K t n (4 + 3 * t) j = if j = 1 then (n : Int) else 0 := by
  unfold lockN; rw [if_neg (by omega), if_neg (by omega), if_pos rfl]
theorem lockN_c (K : Nds) (t n j : Nat) : lockN K t n (5 + 3 * t) j = if j = 0 then 3 else if j = 1 then ((3 + 3 * t : Nat) : Int) else 2 := by
  unfold lockN; rw [if_neg (by omega), if_neg (by omega), if_neg (by omega)]
theorem lock_more {k a : Nat} {K : Nds} {t n : Nat} (h : LockP k a K t) (h1 : n < 65536) (h2 : n ≠ k) (h3 : n ≠ a) : LockP k a (lockN K t n) (t + 1) where
  k0 := by simp only [lockN_lt (show 0 < 3 + 3 * t by omega)]; exact h.k0
  k1 := by simp only [lockN_lt (show 1 < 3 + 3 * t by omega)]; exact h.k1
  k2 := by simp only [lockN_lt (show 2 < 3 + 3 * t by omega)]; exact h.k2
  ks s hs := by
    by_cases e : s < t
    · simp only [lockN_lt (show 3 + 3 * s < 3 + 3 * t by omega), lockN_lt (show 4 + 3 * s < 3 + 3 * t by omega), lockN_lt (show 5 + 3 * s < 3 + 3 * t by omega)]
      exact h.ks s e
    · obtain rfl : s = t := by omega
      refine ⟨n, h1, h2, h3, ?_, ?_, ?_⟩
      · simp only [lockN_a]; exact ⟨rfl, rfl, rfl⟩
      · simp only [lockN_b]; exact ⟨rfl, rfl, rfl⟩
      · simp only [lockN_c]; exact ⟨rfl, rfl, rfl⟩
theorem lock_cells (K : Nds) (t n : Nat) : cellL ((3 + 3 * t) * 3) (flatN K) ++ [.int .i64 1, .int .i64 (n : Int), .int .i64 0, .int .i64 0, .int .i64 (n : Int), .int .i64 0, .int .i64 3, .int .i64 ((3 + 3 * t : Nat) : Int), .int .i64 2] = cellL ((3 + 3 * (t + 1)) * 3) (flatN (lockN K t n)) := by
  have e0 : cellL ((3 + 3 * t) * 3) (flatN K) = cellL ((3 + 3 * t) * 3) (flatN (lockN K t n)) := cellL_congr fun j hj => by
    unfold flatN
    rw [lockN_lt (by omega)]
  have e1 := cellL_three (3 + 3 * t) (flatN (lockN K t n))
  have e2 := cellL_three (4 + 3 * t) (flatN (lockN K t n))
  have e3 := cellL_three (5 + 3 * t) (flatN (lockN K t n))
  rw [flatN_0, flatN_1, flatN_2, lockN_a, lockN_a, lockN_a, if_pos rfl, if_neg (by decide), if_pos rfl, if_neg (by decide), if_neg (by decide)] at e1
  rw [flatN_0, flatN_1, flatN_2, lockN_b, lockN_b, lockN_b, if_neg (by decide), if_pos rfl, if_neg (by decide)] at e2
  rw [flatN_0, flatN_1, flatN_2, lockN_c, lockN_c, lockN_c, if_pos rfl, if_neg (by decide), if_pos rfl, if_neg (by decide), if_neg (by decide)] at e3
  rw [show (3 + 3 * (t + 1)) * 3 = (5 + 3 * t + 1) * 3 by omega, ← e3, show (5 + 3 * t) * 3 = (4 + 3 * t + 1) * 3 by omega, ← e2, show (4 + 3 * t) * 3 = (3 + 3 * t + 1) * 3 by omega, ← e1, e0]
  simp

section
variable {k a t : Nat} {K : Nds} (h : LockP k a K t)
theorem lock_cases {i : Nat} (hi : i < 3 + 3 * t) : i = 0 ∨ i = 1 ∨ i = 2 ∨ ∃ s, s < t ∧ (i = 3 + 3 * s ∨ i = 4 + 3 * s ∨ i = 5 + 3 * s) := by
  by_cases h3 : i < 3
  · omega
  · exact .inr (.inr (.inr ⟨(i - 3) / 3, by omega, by omega⟩))
include h
theorem lock_wf (hk : k < 65536) (ha : a < 65536) : Wf K (3 + 3 * t) := by
  intro i hi
  unfold okN
  rcases lock_cases hi with rfl | rfl | rfl | ⟨s, hs, e⟩
  · obtain ⟨e0, e1, e2⟩ := h.k0
    rw [e0, e1, e2]; unfold okX; simp; omega
  · obtain ⟨e0, e1, e2⟩ := h.k1
    rw [e0, e1, e2]; unfold okX; simp; omega
  · obtain ⟨e0, e1, e2⟩ := h.k2
    rw [e0, e1, e2]; unfold okX; simp
    exact h.k0.1
  · obtain ⟨n, hn, _, _, ⟨p0, p1, p2⟩, ⟨q0, q1, q2⟩, r0, r1, r2⟩ := h.ks s hs
    rcases e with rfl | rfl | rfl
    · rw [p0, p1, p2]; unfold okX; simp; omega
    · rw [q0, q1, q2]; unfold okX; simp; omega
    · rw [r0, r1, r2]; unfold okX; simp
      refine ⟨by omega, ?_⟩
      have : ((3 : Int) + 3 * (s : Int)).toNat = 3 + 3 * s := by omega
      rw [this]
      exact p0
theorem lock_may (hk : k < 65536) (ha : a < 65536) (ht : t ≤ 40) : mayB K (3 + 3 * t) = true := (mayB_iff _ _).2 ⟨by omega, lock_wf h hk ha⟩
end

section
variable {k a t : Nat} {K : Nds} (h : LockP k a K t) (hk : k < 65536) (ha : a < 65536)
include h hk ha
theorem lock_t0 : tm K 0 = .key k := tm_key (lock_wf h hk ha) (by omega) h.k0.1 h.k0.2.1
theorem lock_t1 : tm K 1 = .atom a := tm_atom (lock_wf h hk ha) (by omega) h.k1.1 h.k1.2.1
theorem lock_t2 : tm K 2 = .lock (.key k) (.atom a) := by
  rw [tm_lock (lock_wf h hk ha) (i := 2) (x := 0) (y := 1) (by omega) h.k2.1 (by decide) (by decide) h.k2.2.1 h.k2.2.2, lock_t0 h hk ha, lock_t1 h hk ha]
/-- What is known: neither the key nor the atom. -/
theorem lock_told {i : Nat} (h2 : 2 ≤ i) (hi : i < 3 + 3 * t) : tm K i ≠ .key k ∧ tm K i ≠ .atom a := by
  rcases lock_cases hi with rfl | rfl | rfl | ⟨s, hs, e⟩
  · omega
  · omega
  · rw [lock_t2 h hk ha]; exact ⟨fun e => (by cases e), fun e => (by cases e)⟩
  · obtain ⟨n, hn, nk, na, ⟨p0, p1, p2⟩, ⟨q0, q1, q2⟩, r0, r1, r2⟩ := h.ks s hs
    rcases e with rfl | rfl | rfl
    · rw [tm_key (lock_wf h hk ha) hi p0 p1]; exact ⟨fun e => (by cases e; exact nk rfl), fun e => (by cases e)⟩
    · rw [tm_atom (lock_wf h hk ha) hi q0 q1]; exact ⟨fun e => (by cases e), fun e => (by cases e; exact na rfl)⟩
    · rw [tm_lock (lock_wf h hk ha) hi r0 (x := 3 + 3 * s) (y := 2) (by omega) (by omega) r1 r2]; exact ⟨fun e => (by cases e), fun e => (by cases e)⟩
omit hk ha in
theorem lock_op {i : Nat} (hi : i < 3 + 3 * t) : K i 0 ≠ 2 ∧ (K i 0 = 3 → i = 2 ∨ ∃ s, s < t ∧ i = 5 + 3 * s) := by
  rcases lock_cases hi with rfl | rfl | rfl | ⟨s, hs, e⟩
  · rw [h.k0.1]; exact ⟨by decide, fun e => absurd e (by decide)⟩
  · rw [h.k1.1]; exact ⟨by decide, fun e => absurd e (by decide)⟩
  · rw [h.k2.1]; exact ⟨by decide, fun _ => .inl rfl⟩
  · obtain ⟨n, hn, nk, na, ⟨p0, p1, p2⟩, ⟨q0, q1, q2⟩, r0, r1, r2⟩ := h.ks s hs
    rcases e with rfl | rfl | rfl
    · rw [p0]; exact ⟨by decide, fun e => absurd e (by decide)⟩
    · rw [q0]; exact ⟨by decide, fun e => absurd e (by decide)⟩
    · rw [r0]; exact ⟨by decide, fun _ => .inr ⟨s, hs, rfl⟩⟩
theorem lock_clo : Clo K (3 + 3 * t) (fun q => tm K q ≠ .key k ∧ tm K q ≠ .atom a) := by
  refine clo_terms (lock_wf h hk ha) (fun x => x ≠ .key k ∧ x ≠ .atom a) ?_ ?_ ?_
  · intro i hi h0
    exact absurd h0 (lock_op h hi).1
  · intro i hi h0 _ yk
    rcases (lock_op h hi).2 h0 with rfl | ⟨s, hs, rfl⟩
    · rw [h.k2.2.1, Int.toNat_natCast, lock_t0 h hk ha] at yk
      exact absurd rfl yk.1
    · obtain ⟨n, hn, nk, na, _, _, r0, r1, r2⟩ := h.ks s hs
      rw [r2, Int.toNat_natCast]
      exact lock_told h hk ha (Nat.le_refl _) (by omega)
  · intro i hi h0 _ _
    rcases h0 with h0 | h0
    · exact absurd h0 (lock_op h hi).1
    · rcases (lock_op h hi).2 h0 with rfl | ⟨s, hs, rfl⟩
      · exact lock_told h hk ha (Nat.le_refl _) hi
      · exact lock_told h hk ha (by omega) hi
theorem lock_can {S : Nat → Prop} (hS : ∀ q, q < 3 + 3 * t → S q → 2 ≤ q) : knB K (3 + 3 * t) S 0 = false ∧ knB K (3 + 3 * t) S 1 = false :=
  ⟨knB_no (lock_clo h hk ha) (fun j hj hz => lock_told h hk ha (hS j hj hz) hj) (fun e => e.1 (lock_t0 h hk ha)), knB_no (lock_clo h hk ha) (fun j hj hz => lock_told h hk ha (hS j hj hz) hj) (fun e => e.2 (lock_t1 h hk ha))⟩
omit hk ha in
theorem lock_open {S : Nat → Prop} (h0 : S 0) (h2 : S 2) : knB K (3 + 3 * t) S 1 = true := by
  refine knB_yes (by omega) ?_
  have := (Kn.clo K (3 + 3 * t) S).undo 2 (by omega) h.k2.1 (Kn.base (by omega) h2) (by rw [h.k2.2.1, Int.toNat_natCast]; exact Kn.base (by omega) h0)
  rwa [h.k2.2.2, Int.toNat_natCast] at this
theorem lock_needs (ht : t ≤ 40) {S : Nat → Prop} (hS : ∀ q, q < 3 + 3 * t → (S q ↔ 2 ≤ q)) : needsL K (3 + 3 * t) S 1 = [(k : Int)] := by
  unfold needsL
  rw [if_pos ⟨lock_may h hk ha ht, by unfold inB; simp; omega, (lock_can h hk ha fun q hq hs => (hS q hq).1 hs).2⟩]
  refine rise_same _ _ (riseL_rise _) (by simp) fun x => ?_
  rw [riseL_mem]
  unfold needL
  rw [selL_mem]
  constructor
  · rintro ⟨i, hi, hp, e⟩
    rw [Bool.and_eq_true, beq_iff_eq] at hp
    by_cases h0 : i = 0
    · subst h0
      rw [h.k0.2.1] at e
      simp [← e]
    · by_cases h1 : i = 1
      · subst h1
        exact absurd (h.k1.1.symm.trans hp.1) (by decide)
      · refine absurd (Eq.trans hp.2.symm (lock_can h hk ha (S := fun j => S j ∨ j = i) ?_).2) (by decide)
        rintro q hq (hs | rfl)
        · exact (hS q hq).1 hs
        · omega
  · intro e
    simp at e
    refine ⟨0, by omega, ?_, by rw [h.k0.2.1, e]⟩
    rw [h.k0.1, Bool.and_eq_true]
    exact ⟨rfl, lock_open h (.inr rfl) (.inl ((hS 2 (by omega)).2 (Nat.le_refl _)))⟩
end

/-- What is told: all from the third on. -/
def lockF : Nat → Int := fun j => ((j + 2 : Nat) : Int)
theorem lock_in (t q : Nat) : inZ lockF (1 + 3 * t) q ↔ 2 ≤ q ∧ q < 3 + 3 * t := by
  unfold inZ lockF
  constructor
  · rintro ⟨j, hj, e⟩
    have e : ((j + 2 : Nat) : Int) = (q : Int) := e
    omega
  · rintro ⟨h1, h2⟩
    refine ⟨q - 2, by omega, ?_⟩
    show ((q - 2 + 2 : Nat) : Int) = (q : Int)
    omega

end Go.Proofs.Ytjhalbifljnfjaa
