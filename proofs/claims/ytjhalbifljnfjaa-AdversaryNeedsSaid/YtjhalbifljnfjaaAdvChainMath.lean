/-
  The nodes of AdversaryChain: what is known of them.
-/
import Derived.Test.YtjhalbifljnfjaaAdvTerms
import Derived.Test.YtjhalbifljnfjaaAdvMore
namespace Go.Proofs.Ytjhalbifljnfjaa
set_option linter.unusedVariables false

/-- An atom, keys 0 to m, locks: key i locks key i + 1, the last one the atom. -/
def chainK (m : Nat) : Nds := fun i j => if i = 0 then (if j = 1 then 7 else 0) else if i ≤ m + 1 then (if j = 0 then 1 else if j = 1 then (i : Int) - 1 else 0) else if j = 0 then 3 else if j = 1 then (i : Int) - (m : Int) - 1 else if i = 2 * m + 2 then 0 else (i : Int) - (m : Int)

section
variable {m : Nat}
theorem chain_a (j : Nat) : chainK m 0 j = if j = 1 then 7 else 0 := rfl
theorem chain_k {i : Nat} (h : i ≤ m) : chainK m (1 + i) 0 = 1 ∧ chainK m (1 + i) 1 = (i : Int) ∧ chainK m (1 + i) 2 = 0 := by
  have h0 : ¬ 1 + i = 0 := by omega
  have h1 : 1 + i ≤ m + 1 := by omega
  unfold chainK
  simp only [if_neg h0, if_pos h1]
  refine ⟨by simp, ?_, by simp⟩
  simp
  omega
theorem chain_l {i : Nat} (h : i < m) : chainK m (m + 2 + i) 0 = 3 ∧ chainK m (m + 2 + i) 1 = ((1 + i : Nat) : Int) ∧ chainK m (m + 2 + i) 2 = ((2 + i : Nat) : Int) := by
  have h0 : ¬ m + 2 + i = 0 := by omega
  have h1 : ¬ m + 2 + i ≤ m + 1 := by omega
  have h2 : ¬ m + 2 + i = 2 * m + 2 := by omega
  unfold chainK
  simp only [if_neg h0, if_neg h1, if_neg h2]
  refine ⟨by simp, ?_, ?_⟩
  · simp
    omega
  · simp
    omega
theorem chain_e : chainK m (2 * m + 2) 0 = 3 ∧ chainK m (2 * m + 2) 1 = ((1 + m : Nat) : Int) ∧ chainK m (2 * m + 2) 2 = ((0 : Nat) : Int) := by
  have h0 : ¬ 2 * m + 2 = 0 := by omega
  have h1 : ¬ 2 * m + 2 ≤ m + 1 := by omega
  unfold chainK
  simp only [if_neg h0, if_neg h1]
  refine ⟨by simp, ?_, by simp⟩
  simp
  omega
theorem chain_cases {i : Nat} (h : i < 2 * m + 3) : i = 0 ∨ (∃ t, t ≤ m ∧ i = 1 + t) ∨ (∃ t, t < m ∧ i = m + 2 + t) ∨ i = 2 * m + 2 := by
  by_cases h0 : i = 0
  · exact .inl h0
  · by_cases h1 : i ≤ m + 1
    · exact .inr (.inl ⟨i - 1, by omega, by omega⟩)
    · by_cases h2 : i = 2 * m + 2
      · exact .inr (.inr (.inr h2))
      · exact .inr (.inr (.inl ⟨i - m - 2, by omega, by omega⟩))
theorem chain_wf (hm : m ≤ 50) : Wf (chainK m) (2 * m + 3) := by
  intro i hi
  unfold okN
  rcases chain_cases hi with rfl | ⟨t, ht, rfl⟩ | ⟨t, ht, rfl⟩ | rfl
  · show okX (chainK m) 0 0 7 0 = true
    unfold okX; simp
  · obtain ⟨e0, e1, e2⟩ := chain_k ht
    rw [e0, e1, e2]
    unfold okX; simp; omega
  · obtain ⟨e0, e1, e2⟩ := chain_l ht
    rw [e0, e1, e2]
    have hk := (chain_k (m := m) (i := t) (by omega)).1
    unfold okX
    simp
    refine ⟨⟨by omega, by omega⟩, ?_⟩
    have : ((1 : Int) + (t : Int)).toNat = 1 + t := by omega
    rw [this]
    exact hk
  · obtain ⟨e0, e1, e2⟩ := chain_e (m := m)
    rw [e0, e1, e2]
    have hk := (chain_k (m := m) (i := m) (by omega)).1
    unfold okX
    simp
    refine ⟨by omega, ?_⟩
    have : ((1 : Int) + (m : Int)).toNat = 1 + m := by omega
    rw [this]
    exact hk
theorem chain_may (hm : m ≤ 50) : mayB (chainK m) (2 * m + 3) = true := (mayB_iff _ _).2 ⟨by omega, chain_wf hm⟩
theorem chain_t0 (hm : m ≤ 50) : tm (chainK m) 0 = .atom 7 := tm_atom (chain_wf hm) (by omega) rfl rfl
theorem chain_tk (hm : m ≤ 50) {i : Nat} (h : i ≤ m) : tm (chainK m) (1 + i) = .key i := tm_key (chain_wf hm) (by omega) (chain_k h).1 (chain_k h).2.1
theorem chain_tl (hm : m ≤ 50) {i : Nat} (h : i < m) : tm (chainK m) (m + 2 + i) = .lock (.key i) (.key (i + 1)) := by
  obtain ⟨e0, e1, e2⟩ := chain_l h
  rw [tm_lock (chain_wf hm) (by omega) e0 (by omega) (by omega) e1 e2, chain_tk hm (by omega), show 2 + i = 1 + (i + 1) by omega, chain_tk hm (by omega)]
theorem chain_te (hm : m ≤ 50) : tm (chainK m) (2 * m + 2) = .lock (.key m) (.atom 7) := by
  obtain ⟨e0, e1, e2⟩ := chain_e (m := m)
  rw [tm_lock (chain_wf hm) (by omega) e0 (by omega) (by omega) e1 e2, chain_tk hm (Nat.le_refl _), chain_t0 hm]
/-- No pairs; the locks. -/
theorem chain_op {i : Nat} (h : i < 2 * m + 3) : chainK m i 0 ≠ 2 ∧ (chainK m i 0 = 3 → (∃ t, t < m ∧ i = m + 2 + t) ∨ i = 2 * m + 2) := by
  rcases chain_cases h with rfl | ⟨t, ht, rfl⟩ | ⟨t, ht, rfl⟩ | rfl
  · exact ⟨fun h => absurd (show (0 : Int) = 2 from h) (by decide), fun h => absurd (show (0 : Int) = 3 from h) (by decide)⟩
  · rw [(chain_k ht).1]; exact ⟨by decide, fun h => absurd h (by decide)⟩
  · rw [(chain_l ht).1]; exact ⟨by decide, fun _ => .inl ⟨t, ht, rfl⟩⟩
  · rw [(chain_e (m := m)).1]; exact ⟨by decide, fun _ => .inr rfl⟩

/-- What is told: the locks. -/
def chainF (m : Nat) : Nat → Nat := fun j => m + 2 + j
theorem chain_told (q : Nat) : inZ (fun j => ((chainF m j : Nat) : Int)) (m + 1) q ↔ m + 2 ≤ q ∧ q < 2 * m + 3 := by
  unfold inZ chainF
  constructor
  · rintro ⟨j, hj, e⟩
    have e : ((m + 2 + j : Nat) : Int) = (q : Int) := e
    omega
  · rintro ⟨h1, h2⟩
    refine ⟨q - m - 2, by omega, ?_⟩
    show ((m + 2 + (q - m - 2) : Nat) : Int) = (q : Int)
    omega

section
variable (hm : m ≤ 50) {S : Nat → Prop} (hS : ∀ q, m + 2 ≤ q → q < 2 * m + 3 → S q)
include hm hS
omit hm in
/-- From a key on all that come behind it. -/
theorem chain_on {k : Nat} (hk : k ≤ m) (kk : Kn (chainK m) (2 * m + 3) S (1 + k)) : ∀ d, k + d ≤ m → Kn (chainK m) (2 * m + 3) S (1 + (k + d))
  | 0, _ => kk
  | d + 1, h => by
    have ih := chain_on hk kk d (by omega)
    obtain ⟨e0, e1, e2⟩ := chain_l (m := m) (i := k + d) (by omega)
    have kl : Kn (chainK m) (2 * m + 3) S (m + 2 + (k + d)) := Kn.base (by omega) (hS _ (by omega) (by omega))
    have := (Kn.clo _ _ S).undo (m + 2 + (k + d)) (by omega) e0 kl (by rw [e1, Int.toNat_natCast]; exact ih)
    rw [e2, Int.toNat_natCast] at this
    rwa [show 1 + (k + (d + 1)) = 2 + (k + d) by omega]
theorem chain_end {k : Nat} (hk : k ≤ m) (kk : Kn (chainK m) (2 * m + 3) S (1 + k)) : Kn (chainK m) (2 * m + 3) S 0 := by
  have := chain_on hS hk kk (m - k) (by omega)
  rw [show k + (m - k) = m by omega] at this
  obtain ⟨e0, e1, e2⟩ := chain_e (m := m)
  have kl : Kn (chainK m) (2 * m + 3) S (2 * m + 2) := Kn.base (by omega) (hS _ (by omega) (by omega))
  have := (Kn.clo _ _ S).undo (2 * m + 2) (by omega) e0 kl (by rw [e1, Int.toNat_natCast]; exact this)
  rwa [e2, Int.toNat_natCast] at this
end

/-- The keys ahead of k are not known. -/
theorem chain_clo (hm : m ≤ 50) (k : Nat) : Clo (chainK m) (2 * m + 3) (fun q => ∀ i, i < k → tm (chainK m) q ≠ .key i) := by
  refine clo_terms (chain_wf hm) (fun t => ∀ i, i < k → t ≠ .key i) ?_ ?_ ?_
  · intro i hi h0
    exact absurd h0 (chain_op hi).1
  · intro i hi h0 y yk
    rcases (chain_op hi).2 h0 with ⟨t, ht, rfl⟩ | rfl
    · obtain ⟨e0, e1, e2⟩ := chain_l ht
      rw [e1, Int.toNat_natCast, chain_tk hm (by omega)] at yk
      rw [e2, Int.toNat_natCast, show 2 + t = 1 + (t + 1) by omega, chain_tk hm (by omega)]
      intro j hj e
      cases e
      exact yk t (by omega) rfl
    · rw [(chain_e (m := m)).2.2, Int.toNat_natCast, chain_t0 hm]
      intro j _ e
      cases e
  · intro i hi h0 _ _
    rcases h0 with h0 | h0
    · exact absurd h0 (chain_op hi).1
    · rcases (chain_op hi).2 h0 with ⟨t, ht, rfl⟩ | rfl
      · rw [chain_tl hm ht]; intro j _ e; cases e
      · rw [chain_te hm]; intro j _ e; cases e
theorem chain_lock (hm : m ≤ 50) {q : Nat} (h1 : m + 2 ≤ q) (h2 : q < 2 * m + 3) : ∃ x y, tm (chainK m) q = .lock x y := by
  rcases chain_cases h2 with rfl | ⟨t, ht, rfl⟩ | ⟨t, ht, rfl⟩ | rfl
  · omega
  · omega
  · exact ⟨_, _, chain_tl hm ht⟩
  · exact ⟨_, _, chain_te hm⟩

/-- The keys that are known, and the atom. -/
theorem chain_x (hm : m ≤ 50) {k : Nat} (hk : k ≤ m) {S : Nat → Prop} (hS : ∀ q, q < 2 * m + 3 → (S q ↔ (m + 2 ≤ q ∨ q = 1 + k))) : (∀ i, i ≤ m → knB (chainK m) (2 * m + 3) S (1 + i) = decide ((k : Int) ≤ (i : Int))) ∧ knB (chainK m) (2 * m + 3) S 0 = true := by
  have hS1 : ∀ q, m + 2 ≤ q → q < 2 * m + 3 → S q := fun q h1 h2 => (hS q h2).2 (.inl h1)
  have kk : Kn (chainK m) (2 * m + 3) S (1 + k) := Kn.base (by omega) ((hS _ (by omega)).2 (.inr rfl))
  refine ⟨fun i hi => ?_, knB_yes (by omega) (chain_end hm hS1 hk kk)⟩
  by_cases h : k ≤ i
  · rw [decide_eq_true (by omega)]
    have := chain_on hS1 hk kk (i - k) (by omega)
    rw [show k + (i - k) = i by omega] at this
    exact knB_yes (by omega) this
  · rw [decide_eq_false (by omega)]
    refine knB_no (chain_clo hm k) (fun j hj hz => ?_) (fun hn => hn i (by omega) (chain_tk hm hi))
    intro t ht e
    rcases (hS j hj).1 hz with h1 | rfl
    · obtain ⟨x, y, e2⟩ := chain_lock hm h1 hj
      rw [e2] at e
      cases e
    · rw [chain_tk hm hk] at e
      cases e
      omega
theorem chain_can (hm : m ≤ 50) : knB (chainK m) (2 * m + 3) (inZ (fun j => ((chainF m j : Nat) : Int)) (m + 1)) 0 = false := by
  have hc : Clo (chainK m) (2 * m + 3) (fun q => ∃ x y, tm (chainK m) q = .lock x y) := by
    refine clo_terms (chain_wf hm) (fun t => ∃ x y, t = .lock x y) ?_ ?_ ?_
    · intro i hi h0
      exact absurd h0 (chain_op hi).1
    · intro i hi h0 _ yk
      rcases (chain_op hi).2 h0 with ⟨t, ht, rfl⟩ | rfl
      · obtain ⟨e0, e1, e2⟩ := chain_l ht
        rw [e1, Int.toNat_natCast, chain_tk hm (by omega)] at yk
        obtain ⟨x, y, e⟩ := yk
        cases e
      · rw [(chain_e (m := m)).2.1, Int.toNat_natCast, chain_tk hm (Nat.le_refl _)] at yk
        obtain ⟨x, y, e⟩ := yk
        cases e
    · intro i hi h0 _ _
      rcases h0 with h0 | h0
      · exact absurd h0 (chain_op hi).1
      · rcases (chain_op hi).2 h0 with ⟨t, ht, rfl⟩ | rfl
        · exact ⟨_, _, chain_tl hm ht⟩
        · exact ⟨_, _, chain_te hm⟩
  refine knB_no hc (fun j hj hz => ?_) ?_
  · obtain ⟨h1, h2⟩ := (chain_told j).1 hz
    exact chain_lock hm h1 h2
  · rintro ⟨x, y, e⟩
    rw [chain_t0 hm] at e
    cases e
theorem chain_needs (hm : m ≤ 50) : (needsL (chainK m) (2 * m + 3) (inZ (fun j => ((chainF m j : Nat) : Int)) (m + 1)) 0).length = m + 1 := by
  unfold needsL
  rw [if_pos ⟨chain_may hm, by unfold inB; simp; omega, chain_can hm⟩]
  have e : riseL (needL (chainK m) (2 * m + 3) (inZ (fun j => ((chainF m j : Nat) : Int)) (m + 1)) (0 : Int).toNat (2 * m + 3)) = (List.range (m + 1)).map (fun i : Nat => (i : Int)) := by
    refine rise_same _ _ (riseL_rise _) ?_ fun x => ?_
    · rw [List.pairwise_map]
      exact List.Pairwise.imp (fun h => by omega) List.pairwise_lt_range
    · rw [riseL_mem]
      unfold needL
      rw [selL_mem, List.mem_map]
      constructor
      · rintro ⟨i, hi, hp, e⟩
        rw [Bool.and_eq_true, beq_iff_eq] at hp
        rcases chain_cases hi with rfl | ⟨t, ht, rfl⟩ | ⟨t, ht, rfl⟩ | rfl
        · exact absurd (show (0 : Int) = 1 from hp.1) (by decide)
        · rw [(chain_k ht).2.1] at e
          exact ⟨t, List.mem_range.2 (by omega), e⟩
        · rw [(chain_l ht).1] at hp; exact absurd hp.1 (by decide)
        · rw [(chain_e (m := m)).1] at hp; exact absurd hp.1 (by decide)
      · rintro ⟨t, ht, e⟩
        have ht := List.mem_range.1 ht
        refine ⟨1 + t, by omega, ?_, by rw [(chain_k (m := m) (i := t) (by omega)).2.1]; exact e⟩
        rw [(chain_k (m := m) (i := t) (by omega)).1, Bool.and_eq_true]
        refine ⟨rfl, ?_⟩
        exact (chain_x hm (k := t) (by omega) (fun q hq => by
          rw [chain_told]
          constructor
          · rintro (h | h)
            · exact .inl h.1
            · exact .inr h
          · rintro (h | h)
            · exact .inl ⟨h, hq⟩
            · exact .inr h)).2
  rw [e]
  simp
end

end Go.Proofs.Ytjhalbifljnfjaa
