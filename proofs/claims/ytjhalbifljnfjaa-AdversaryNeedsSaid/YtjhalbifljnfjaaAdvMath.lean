/-
  What somebody can tell who has some terms, apart from any program: closed sets of places, what is known, terms each once, what is known of those.
-/
import Derived.Test.YtjhalbifljnfjaaTermMath
namespace Go.Proofs.Ytjhalbifljnfjaa
set_option linter.unusedVariables false

/-- Sets of places that the rules do not lead out of. -/
structure Clo (K : Nds) (n : Nat) (Y : Nat → Prop) : Prop where
  same : ∀ i j, i < n → j < n → tm K i = tm K j → Y i → Y j
  left : ∀ i, i < n → K i 0 = 2 → Y i → Y (K i 1).toNat
  right : ∀ i, i < n → K i 0 = 2 → Y i → Y (K i 2).toNat
  undo : ∀ i, i < n → K i 0 = 3 → Y i → Y (K i 1).toNat → Y (K i 2).toNat
  make : ∀ i, i < n → (K i 0 = 2 ∨ K i 0 = 3) → Y (K i 1).toNat → Y (K i 2).toNat → Y i

/-- What is known to who has S. -/
def Kn (K : Nds) (n : Nat) (S : Nat → Prop) (i : Nat) : Prop := ∀ Y, Clo K n Y → (∀ j, j < n → S j → Y j) → Y i

theorem Kn.base {K : Nds} {n : Nat} {S : Nat → Prop} {i : Nat} (hi : i < n) (h : S i) : Kn K n S i := fun _ _ hS => hS i hi h
theorem Kn.clo (K : Nds) (n : Nat) (S : Nat → Prop) : Clo K n (Kn K n S) where
  same i j hi hj e h := fun Y hY hS => hY.same i j hi hj e (h Y hY hS)
  left i hi e h := fun Y hY hS => hY.left i hi e (h Y hY hS)
  right i hi e h := fun Y hY hS => hY.right i hi e (h Y hY hS)
  undo i hi e h h2 := fun Y hY hS => hY.undo i hi e (h Y hY hS) (h2 Y hY hS)
  make i hi e h h2 := fun Y hY hS => hY.make i hi e (h Y hY hS) (h2 Y hY hS)
theorem Kn.least {K : Nds} {n : Nat} {S Y : Nat → Prop} (hY : Clo K n Y) (hS : ∀ j, j < n → S j → Y j) {i : Nat} (h : Kn K n S i) : Y i := h Y hY hS
theorem Kn.mono {K : Nds} {n : Nat} {S R : Nat → Prop} (h : ∀ j, j < n → S j → R j) {i : Nat} (hk : Kn K n S i) : Kn K n R i := fun Y hY hR => hk Y hY fun j hj hs => hR j hj (h j hj hs)
/-- Who is told what is known knows no more. -/
theorem Kn.again {K : Nds} {n : Nat} {S R : Nat → Prop} (h : ∀ j, j < n → R j → Kn K n S j) {i : Nat} (hk : Kn K n R i) : Kn K n S i := fun Y hY hS => hk Y hY fun j hj hr => h j hj hr Y hY hS

/-- The places that are told. -/
def inZ (f : Nat → Int) (k : Nat) (i : Nat) : Prop := ∃ j, j < k ∧ f j = (i : Int)
open Classical in
noncomputable def knB (K : Nds) (n : Nat) (S : Nat → Prop) (i : Nat) : Bool := decide (i < n ∧ Kn K n S i)
theorem knB_iff (K : Nds) (n : Nat) (S : Nat → Prop) (i : Nat) : knB K n S i = true ↔ i < n ∧ Kn K n S i := by unfold knB; simp
theorem knB_congr {K : Nds} {n : Nat} {S R : Nat → Prop} (h : ∀ j, j < n → (S j ↔ R j)) (i : Nat) : knB K n S i = knB K n R i := by
  rw [Bool.eq_iff_iff, knB_iff, knB_iff]
  constructor <;> rintro ⟨h1, h2⟩
  · exact ⟨h1, h2.mono fun j hj => (h j hj).1⟩
  · exact ⟨h1, h2.mono fun j hj => (h j hj).2⟩
theorem bool_eq_of {a b : Bool} (h : a = true ↔ b = true) : a = b := by rw [Bool.eq_iff_iff]; exact h

/- Terms each once. -/
theorem fst_fst (K : Nds) (i : Nat) : fst K (fst K i) = fst K i := (fst_same K _ _).2 (fst_tm K i)
open Classical in
noncomputable def cnt (K : Nds) : Nat → Nat
  | 0 => 0
  | i + 1 => cnt K i + (if fst K i = i then 1 else 0)
theorem cnt_new {K : Nds} {i : Nat} (h : fst K i = i) : cnt K (i + 1) = cnt K i + 1 := by
  show cnt K i + _ = cnt K i + 1
  rw [if_pos h]
theorem cnt_old {K : Nds} {i : Nat} (h : fst K i ≠ i) : cnt K (i + 1) = cnt K i := by
  show cnt K i + _ = cnt K i
  rw [if_neg h]
  rfl
theorem cnt_step (K : Nds) (i : Nat) : cnt K i ≤ cnt K (i + 1) := by
  by_cases h : fst K i = i
  · rw [cnt_new h]; omega
  · rw [cnt_old h]; exact Nat.le_refl _
theorem cnt_mono (K : Nds) : ∀ d i, cnt K i ≤ cnt K (i + d)
  | 0, i => Nat.le_refl _
  | d + 1, i => Nat.le_trans (cnt_mono K d i) (cnt_step K (i + d))
theorem cnt_le_of (K : Nds) {i j : Nat} (h : i ≤ j) : cnt K i ≤ cnt K j := by
  have := cnt_mono K (j - i) i
  rwa [show i + (j - i) = j by omega] at this
theorem cnt_le (K : Nds) : ∀ i, cnt K i ≤ i
  | 0 => Nat.le_refl _
  | i + 1 => by
    have := cnt_le K i
    by_cases h : fst K i = i
    · rw [cnt_new h]; omega
    · rw [cnt_old h]; omega
/-- Where the term of a place is among those. -/
noncomputable def atN (K : Nds) (i : Nat) : Nat := cnt K (fst K i)
theorem atN_new {K : Nds} {i : Nat} (h : fst K i = i) : atN K i = cnt K i := by unfold atN; rw [h]
theorem atN_lt {K : Nds} {i n : Nat} (h : i < n) : atN K i < cnt K n := by
  have h1 := cnt_new (fst_fst K i)
  have h2 := fst_le K i
  have h3 := cnt_le_of K (i := fst K i + 1) (j := n) (by omega)
  unfold atN
  omega
theorem cnt_inj {K : Nds} {i j : Nat} (hi : fst K i = i) (hj : fst K j = j) (h : cnt K i = cnt K j) : i = j := by
  rcases Nat.lt_trichotomy i j with l | l | l
  · have h1 := cnt_new hi
    have h2 := cnt_le_of K (i := i + 1) (j := j) (by omega)
    omega
  · exact l
  · have h1 := cnt_new hj
    have h2 := cnt_le_of K (i := j + 1) (j := i) (by omega)
    omega
theorem atN_same (K : Nds) (i j : Nat) : atN K i = atN K j ↔ tm K i = tm K j := by
  rw [← fst_same]
  constructor
  · intro h
    exact cnt_inj (fst_fst K i) (fst_fst K j) h
  · intro h
    unfold atN
    rw [h]
theorem rep_exists (K : Nds) : ∀ n d, d < cnt K n → ∃ i, i < n ∧ fst K i = i ∧ cnt K i = d
  | 0, d, h => by exact absurd h (Nat.not_lt_zero _)
  | n + 1, d, h => by
    by_cases hf : fst K n = n
    · rw [cnt_new hf] at h
      by_cases e : d = cnt K n
      · exact ⟨n, by omega, hf, e.symm⟩
      · obtain ⟨i, h1, h2⟩ := rep_exists K n d (by omega)
        exact ⟨i, by omega, h2⟩
    · rw [cnt_old hf] at h
      obtain ⟨i, h1, h2⟩ := rep_exists K n d h
      exact ⟨i, by omega, h2⟩
open Classical in
noncomputable def repN (K : Nds) (d : Nat) : Nat := if h : ∃ i, fst K i = i ∧ cnt K i = d then Classical.choose h else 0
theorem repN_new {K : Nds} {i : Nat} (h : fst K i = i) : repN K (cnt K i) = i := by
  have hx : ∃ j, fst K j = j ∧ cnt K j = cnt K i := ⟨i, h, rfl⟩
  unfold repN
  rw [dif_pos hx]
  have := Classical.choose_spec hx
  exact cnt_inj this.1 h this.2
theorem repN_at (K : Nds) (i : Nat) : repN K (atN K i) = fst K i := repN_new (fst_fst K i)
theorem repN_spec {K : Nds} {n d : Nat} (h : d < cnt K n) : repN K d < n ∧ fst K (repN K d) = repN K d ∧ atN K (repN K d) = d := by
  obtain ⟨i, h1, h2, h3⟩ := rep_exists K n d h
  subst h3
  rw [repN_new h2]
  exact ⟨h1, h2, atN_new h2⟩

/-- A node whose parts are named by where they are among those. -/
noncomputable def aliasN (K : Nds) : Nds := fun i j => if madeB (K i 0) = true ∧ j ≠ 0 then ((atN K (K i j).toNat : Nat) : Int) else K i j
/-- The terms, each once. -/
noncomputable def onceN (K : Nds) : Nds := fun d j => aliasN K (repN K d) j
theorem alias_op (K : Nds) (i : Nat) : aliasN K i 0 = K i 0 := by unfold aliasN; rw [if_neg (by simp)]
theorem alias_leaf (K : Nds) (i j : Nat) (h : madeB (K i 0) = false) : aliasN K i j = K i j := by unfold aliasN; rw [if_neg (by rw [h]; simp)]
theorem alias_made (K : Nds) (i j : Nat) (h : madeB (K i 0) = true) (hj : j ≠ 0) : aliasN K i j = ((atN K (K i j).toNat : Nat) : Int) := by unfold aliasN; rw [if_pos ⟨h, hj⟩]
theorem made_leaf {o : Int} (h : o = 0 ∨ o = 1) : madeB o = false := by rcases h with rfl | rfl <;> rfl
theorem made_yes {o : Int} (h : o = 2 ∨ o = 3) : madeB o = true := by rcases h with rfl | rfl <;> rfl

/-- The nodes are the same just if the terms are. -/
theorem alias_same {K : Nds} {n : Nat} (h : Wf K n) {i j : Nat} (hi : i < n) (hj : j < n) : (aliasN K i 0 = aliasN K j 0 ∧ aliasN K i 1 = aliasN K j 1 ∧ aliasN K i 2 = aliasN K j 2) ↔ tm K i = tm K j := by
  rw [tm_same h hi hj]
  simp only [alias_op]
  rcases h.kinds hi with ⟨a0, ⟨x, _, a1⟩, a2⟩ | ⟨a0, x, y, hx, hy, a1, a2⟩
  · rw [alias_leaf K i 1 (made_leaf a0), alias_leaf K i 2 (made_leaf a0)]
    rcases h.kinds hj with ⟨b0, ⟨u, _, b1⟩, b2⟩ | ⟨b0, u, v, hu, hv, b1, b2⟩
    · rw [alias_leaf K j 1 (made_leaf b0), alias_leaf K j 2 (made_leaf b0), a2, b2]
      constructor
      · rintro ⟨h1, h2, _⟩
        exact ⟨h1, .inl ⟨by omega, h2⟩⟩
      · rintro ⟨h1, h2 | h2⟩
        · exact ⟨h1, h2.2, rfl⟩
        · omega
    · constructor
      · rintro ⟨h1, _⟩
        omega
      · rintro ⟨h1, _⟩
        omega
  · rw [alias_made K i 1 (made_yes a0) (by decide), alias_made K i 2 (made_yes a0) (by decide)]
    rcases h.kinds hj with ⟨b0, ⟨u, _, b1⟩, b2⟩ | ⟨b0, u, v, hu, hv, b1, b2⟩
    · constructor
      · rintro ⟨h1, _⟩
        omega
      · rintro ⟨h1, _⟩
        omega
    · rw [alias_made K j 1 (made_yes b0) (by decide), alias_made K j 2 (made_yes b0) (by decide)]
      constructor
      · rintro ⟨h1, h2, h3⟩
        exact ⟨h1, .inr ⟨by omega, (atN_same K _ _).1 (by omega), (atN_same K _ _).1 (by omega)⟩⟩
      · rintro ⟨h1, h2 | ⟨_, h2, h3⟩⟩
        · omega
        · exact ⟨h1, by rw [(atN_same K _ _).2 h2], by rw [(atN_same K _ _).2 h3]⟩

/-- The node at a place, among those. -/
theorem once_at {K : Nds} {n : Nat} (h : Wf K n) {i : Nat} (hi : i < n) : onceN K (atN K i) 0 = aliasN K i 0 ∧ onceN K (atN K i) 1 = aliasN K i 1 ∧ onceN K (atN K i) 2 = aliasN K i 2 := by
  unfold onceN
  rw [repN_at]
  have := fst_le K i
  exact (alias_same h (by omega) hi).2 (fst_tm K i)
theorem once_new {K : Nds} {i : Nat} (h : fst K i = i) (j : Nat) : onceN K (cnt K i) j = aliasN K i j := by unfold onceN; rw [repN_new h]

/-- Nodes whose parts are among the first m. -/
def PlT (T : Nds) (m : Nat) : Prop := ∀ d, d < m → (T d 0 = 2 ∨ T d 0 = 3) → ∃ x y : Nat, x < m ∧ y < m ∧ T d 1 = x ∧ T d 2 = y
theorem once_parts {K : Nds} {n : Nat} (h : Wf K n) : PlT (onceN K) (cnt K n) := by
  intro d hd h0
  obtain ⟨h1, h2, h3⟩ := repN_spec hd
  have e0 : onceN K d 0 = K (repN K d) 0 := by unfold onceN; exact alias_op K _
  rw [e0] at h0
  rcases h.kinds h1 with ⟨b0, _⟩ | ⟨_, x, y, hx, hy, e1, e2⟩
  · omega
  · refine ⟨atN K x, atN K y, atN_lt (by omega), atN_lt (by omega), ?_, ?_⟩
    · unfold onceN
      rw [alias_made K _ 1 (made_yes h0) (by decide), e1, Int.toNat_natCast]
    · unfold onceN
      rw [alias_made K _ 2 (made_yes h0) (by decide), e2, Int.toNat_natCast]

/-- Closed, of terms each once. -/
structure CloT (T : Nds) (m : Nat) (Y : Nat → Prop) : Prop where
  left : ∀ d, d < m → T d 0 = 2 → Y d → Y (T d 1).toNat
  right : ∀ d, d < m → T d 0 = 2 → Y d → Y (T d 2).toNat
  undo : ∀ d, d < m → T d 0 = 3 → Y d → Y (T d 1).toNat → Y (T d 2).toNat
  make : ∀ d, d < m → (T d 0 = 2 ∨ T d 0 = 3) → Y (T d 1).toNat → Y (T d 2).toNat → Y d
def KnT (T : Nds) (m : Nat) (X : Nat → Bool) (d : Nat) : Prop := ∀ Y, CloT T m Y → (∀ e, e < m → X e = true → Y e) → Y d
open Classical in
noncomputable def clB (T : Nds) (m : Nat) (X : Nat → Bool) (d : Nat) : Bool := decide (d < m ∧ KnT T m X d)
theorem clB_iff (T : Nds) (m : Nat) (X : Nat → Bool) (d : Nat) : clB T m X d = true ↔ d < m ∧ KnT T m X d := by unfold clB; simp

/-- What is known of places, by what is known of terms each once. -/
theorem kn_once {K : Nds} {n : Nat} (h : Wf K n) (X : Nat → Bool) {i : Nat} (hi : i < n) : KnT (onceN K) (cnt K n) X (atN K i) ↔ Kn K n (fun j => X (atN K j) = true) i := by
  constructor
  · intro hk Y hY hS
    have hrep : ∀ x, x < n → (Y (repN K (atN K x)) ↔ Y x) := by
      intro x hx
      rw [repN_at]
      have := fst_le K x
      exact ⟨fun y => hY.same _ _ (by omega) hx (fst_tm K x) y, fun y => hY.same _ _ hx (by omega) (fst_tm K x).symm y⟩
    have part : ∀ d, d < cnt K n → (onceN K d 0 = 2 ∨ onceN K d 0 = 3) → repN K d < n ∧ onceN K d 0 = K (repN K d) 0 ∧ ∃ x y : Nat, x < n ∧ y < n ∧ K (repN K d) 1 = x ∧ K (repN K d) 2 = y ∧ (onceN K d 1).toNat = atN K x ∧ (onceN K d 2).toNat = atN K y := by
      intro d hd h0
      obtain ⟨h1, h2, h3⟩ := repN_spec hd
      have e0 : onceN K d 0 = K (repN K d) 0 := by unfold onceN; exact alias_op K _
      rw [e0] at h0
      rcases h.kinds h1 with ⟨b0, _⟩ | ⟨_, x, y, hx, hy, e1, e2⟩
      · omega
      · refine ⟨h1, e0, x, y, by omega, by omega, e1, e2, ?_, ?_⟩
        · unfold onceN
          rw [alias_made K _ 1 (made_yes h0) (by decide), e1, Int.toNat_natCast, Int.toNat_natCast]
        · unfold onceN
          rw [alias_made K _ 2 (made_yes h0) (by decide), e2, Int.toNat_natCast, Int.toNat_natCast]
    have hc : CloT (onceN K) (cnt K n) (fun d => Y (repN K d)) := by
      constructor
      · intro d hd h0 y
        obtain ⟨h1, e0, x, z, hx, hz, e1, e2, t1, t2⟩ := part d hd (.inl h0)
        show Y (repN K _)
        rw [t1, hrep x hx]
        have := hY.left _ h1 (by rw [← e0]; exact h0) y
        rwa [e1, Int.toNat_natCast] at this
      · intro d hd h0 y
        obtain ⟨h1, e0, x, z, hx, hz, e1, e2, t1, t2⟩ := part d hd (.inl h0)
        show Y (repN K _)
        rw [t2, hrep z hz]
        have := hY.right _ h1 (by rw [← e0]; exact h0) y
        rwa [e2, Int.toNat_natCast] at this
      · intro d hd h0 y yk
        obtain ⟨h1, e0, x, z, hx, hz, e1, e2, t1, t2⟩ := part d hd (.inr h0)
        have yk : Y (repN K _) := yk
        show Y (repN K _)
        rw [t1, hrep x hx] at yk
        rw [t2, hrep z hz]
        have := hY.undo _ h1 (by rw [← e0]; exact h0) y (by rw [e1, Int.toNat_natCast]; exact yk)
        rwa [e2, Int.toNat_natCast] at this
      · intro d hd h0 ya yb
        obtain ⟨h1, e0, x, z, hx, hz, e1, e2, t1, t2⟩ := part d hd h0
        have ya : Y (repN K _) := ya
        have yb : Y (repN K _) := yb
        rw [t1, hrep x hx] at ya
        rw [t2, hrep z hz] at yb
        exact hY.make _ h1 (by rw [← e0]; exact h0) (by rw [e1, Int.toNat_natCast]; exact ya) (by rw [e2, Int.toNat_natCast]; exact yb)
    have := hk (fun d => Y (repN K d)) hc fun e he hx => by
      obtain ⟨h1, h2, h3⟩ := repN_spec he
      exact hS _ h1 (by show X (atN K _) = true; rw [h3]; exact hx)
    exact (hrep i hi).1 this
  · intro hk Y hY hS
    have part : ∀ j, j < n → (K j 0 = 2 ∨ K j 0 = 3) → onceN K (atN K j) 0 = K j 0 ∧ ∃ x y : Nat, x < n ∧ y < n ∧ (K j 1).toNat = x ∧ (K j 2).toNat = y ∧ (onceN K (atN K j) 1).toNat = atN K x ∧ (onceN K (atN K j) 2).toNat = atN K y := by
      intro j hj h0
      obtain ⟨o0, o1, o2⟩ := once_at h hj
      rcases h.kinds hj with ⟨b0, _⟩ | ⟨_, x, y, hx, hy, e1, e2⟩
      · omega
      · refine ⟨by rw [o0, alias_op], x, y, by omega, by omega, by rw [e1, Int.toNat_natCast], by rw [e2, Int.toNat_natCast], ?_, ?_⟩
        · rw [o1, alias_made K _ 1 (made_yes h0) (by decide), e1, Int.toNat_natCast, Int.toNat_natCast]
        · rw [o2, alias_made K _ 2 (made_yes h0) (by decide), e2, Int.toNat_natCast, Int.toNat_natCast]
    refine hk (fun j => Y (atN K j)) ?_ fun j hj hx => hS _ (atN_lt hj) hx
    constructor
    · intro a b ha hb e y
      show Y (atN K b)
      rw [← (atN_same K a b).2 e]
      exact y
    · intro j hj h0 y
      obtain ⟨o0, x, z, hx, hz, e1, e2, t1, t2⟩ := part j hj (.inl h0)
      have := hY.left _ (atN_lt hj) (by rw [o0]; exact h0) y
      rwa [t1, ← e1] at this
    · intro j hj h0 y
      obtain ⟨o0, x, z, hx, hz, e1, e2, t1, t2⟩ := part j hj (.inl h0)
      have := hY.right _ (atN_lt hj) (by rw [o0]; exact h0) y
      rwa [t2, ← e2] at this
    · intro j hj h0 y yk
      obtain ⟨o0, x, z, hx, hz, e1, e2, t1, t2⟩ := part j hj (.inr h0)
      have := hY.undo _ (atN_lt hj) (by rw [o0]; exact h0) y (by rw [t1, ← e1]; exact yk)
      rwa [t2, ← e2] at this
    · intro j hj h0 ya yb
      obtain ⟨o0, x, z, hx, hz, e1, e2, t1, t2⟩ := part j hj h0
      exact hY.make _ (atN_lt hj) (by rw [o0]; exact h0) (by rw [t1, ← e1]; exact ya) (by rw [t2, ← e2]; exact yb)

/-- Of terms each once: known is known. -/
theorem clB_once {K : Nds} {n : Nat} (h : Wf K n) (X : Nat → Bool) {i : Nat} (hi : i < n) : clB (onceN K) (cnt K n) X (atN K i) = knB K n (fun j => X (atN K j) = true) i := by
  apply bool_eq_of
  rw [clB_iff, knB_iff, kn_once h X hi]
  exact ⟨fun q => ⟨hi, q.2⟩, fun q => ⟨atN_lt hi, q.2⟩⟩

/-- The rules at one place. -/
def SatT (T : Nds) (X : Nat → Bool) (d : Nat) : Prop :=
  (T d 0 = 2 → X d = true → X (T d 1).toNat = true ∧ X (T d 2).toNat = true) ∧ (T d 0 = 3 → X d = true → X (T d 1).toNat = true → X (T d 2).toNat = true) ∧
  ((T d 0 = 2 ∨ T d 0 = 3) → X (T d 1).toNat = true → X (T d 2).toNat = true → X d = true)
theorem clo_of_sat {T : Nds} {m : Nat} {X : Nat → Bool} (h : ∀ d, d < m → SatT T X d) : CloT T m (fun d => X d = true) where
  left d hd h0 y := ((h d hd).1 h0 y).1
  right d hd h0 y := ((h d hd).1 h0 y).2
  undo d hd h0 y yk := (h d hd).2.1 h0 y yk
  make d hd h0 ya yb := (h d hd).2.2 h0 ya yb

/-- Sound so far: what is marked follows. -/
def SoundT (T : Nds) (m : Nat) (X X' : Nat → Bool) : Prop := (∀ d, d < m → X d = true → X' d = true) ∧ ∀ d, d < m → X' d = true → KnT T m X d
theorem SoundT.refl (T : Nds) (m : Nat) (X : Nat → Bool) : SoundT T m X X := ⟨fun _ _ h => h, fun d hd h => fun Y hY hS => hS d hd h⟩
theorem sound_done {T : Nds} {m : Nat} {X X' : Nat → Bool} (hs : SoundT T m X X') (hc : ∀ d, d < m → SatT T X' d) : ∀ d, d < m → X' d = clB T m X d := by
  intro d hd
  apply bool_eq_of
  rw [clB_iff]
  exact ⟨fun h => ⟨hd, hs.2 d hd h⟩, fun h => h.2 _ (clo_of_sat hc) fun e he hx => hs.1 e he hx⟩
/-- A place that follows of what is marked. -/
def FollowT (T : Nds) (m : Nat) (X : Nat → Bool) (p : Nat) : Prop := ∀ Y, CloT T m Y → (∀ e, e < m → X e = true → Y e) → Y p
theorem sound_step {T : Nds} {m : Nat} {X X' : Nat → Bool} {p : Nat} (hs : SoundT T m X X') (hf : FollowT T m X' p) : SoundT T m X (setT X' p) := by
  refine ⟨fun d hd h => set_le _ _ _ (hs.1 d hd h), fun d hd h => ?_⟩
  unfold setT at h
  split at h
  · rename_i e
    subst e
    exact fun Y hY hS => hf Y hY fun e he hx => hs.2 e he hx Y hY hS
  · exact hs.2 d hd h

/-- How many are not marked. -/
def gap (X : Nat → Bool) : Nat → Nat
  | 0 => 0
  | m + 1 => gap X m + (if X m = true then 0 else 1)
theorem setT_same (X : Nat → Bool) (p : Nat) : setT X p p = true := by unfold setT; rw [if_pos rfl]
theorem setT_other (X : Nat → Bool) {p q : Nat} (h : q ≠ p) : setT X p q = X q := by unfold setT; rw [if_neg h]
theorem gap_le (X : Nat → Bool) (p : Nat) : ∀ k, gap (setT X p) k ≤ gap X k
  | 0 => Nat.le_refl _
  | k + 1 => by
    have ih := gap_le X p k
    show gap _ k + _ ≤ gap _ k + _
    by_cases e : k = p
    · subst e
      rw [setT_same, if_pos rfl]
      omega
    · rw [setT_other X e]
      omega
theorem gap_set {X : Nat → Bool} {p : Nat} (hx : X p = false) : ∀ m, p < m → gap (setT X p) m < gap X m
  | 0, h => absurd h (Nat.not_lt_zero _)
  | m + 1, h => by
    show gap _ m + _ < gap _ m + _
    by_cases e : m = p
    · subst e
      have := gap_le X m m
      rw [hx, setT_same, if_pos rfl, if_neg (by simp)]
      omega
    · have ih := gap_set hx m (by omega)
      rw [setT_other X e]
      omega

end Go.Proofs.Ytjhalbifljnfjaa
