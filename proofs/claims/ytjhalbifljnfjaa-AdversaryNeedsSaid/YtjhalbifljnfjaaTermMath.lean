/-
  Terms, apart from any program: nodes, which lists may be, the term at a place, its text, its size, the first place of a term, the parts.
-/
import Derived.Lib.ItoaNum
namespace Go.Proofs.Ytjhalbifljnfjaa
set_option linter.unusedVariables false

/-- Nodes: K i 0, K i 1, K i 2 are Op, A and B of the node at i. -/
abbrev Nds := Nat → Nat → Int

/-- May a node stand behind the first n? -/
def okX (K : Nds) (n : Nat) (o a b : Int) : Bool :=
  if o = 0 ∨ o = 1 then decide (0 ≤ a) && decide (a ≤ 999999) && decide (b = 0)
  else if o = 2 then decide (0 ≤ a ∧ a < n) && decide (0 ≤ b ∧ b < n)
  else if o = 3 then decide (0 ≤ a ∧ a < n) && decide (0 ≤ b ∧ b < n) && decide (K a.toNat 0 = 1)
  else false
def okN (K : Nds) (i : Nat) : Bool := okX K i (K i 0) (K i 1) (K i 2)
def mayB (K : Nds) (n : Nat) : Bool := decide (n ≤ 200) && (List.range n).all (okN K)
def placeB (K : Nds) (n : Nat) (i : Int) : Bool := (decide (0 ≤ i) && decide (i < n)) && mayB K n

/-- The first n nodes may be. -/
def Wf (K : Nds) (n : Nat) : Prop := ∀ i, i < n → okN K i = true

theorem mayB_iff (K : Nds) (n : Nat) : mayB K n = true ↔ n ≤ 200 ∧ Wf K n := by
  unfold mayB Wf
  simp [List.all_eq_true]
theorem mayB_no {K : Nds} {n i : Nat} (hi : i < n) (h : okN K i = false) : mayB K n = false := by
  cases hm : mayB K n
  · rfl
  · have := ((mayB_iff K n).1 hm).2 i hi
    rw [h] at this
    cases this
theorem mayB_big {K : Nds} {n : Nat} (h : 200 < n) : mayB K n = false := by
  cases hm : mayB K n
  · rfl
  · have := ((mayB_iff K n).1 hm).1
    omega
theorem Wf.take {K : Nds} {n m : Nat} (h : Wf K n) (hm : m ≤ n) : Wf K m := fun i hi => h i (by omega)

/-- What a node that may be is. -/
theorem okX_kinds {K : Nds} {n : Nat} {o a b : Int} (h : okX K n o a b = true) :
    (o = 0 ∨ o = 1) ∧ 0 ≤ a ∧ a ≤ 999999 ∧ b = 0 ∨ o = 2 ∧ 0 ≤ a ∧ a < n ∧ 0 ≤ b ∧ b < n ∨ o = 3 ∧ 0 ≤ a ∧ a < n ∧ 0 ≤ b ∧ b < n ∧ K a.toNat 0 = 1 := by
  unfold okX at h
  split at h
  · rename_i h0
    simp at h
    exact .inl ⟨h0, h.1.1, h.1.2, h.2⟩
  · split at h
    · rename_i h0
      simp at h
      exact .inr (.inl ⟨h0, h.1.1, h.1.2, h.2.1, h.2.2⟩)
    · split at h
      · rename_i h0
        simp at h
        exact .inr (.inr ⟨h0, h.1.1.1, h.1.1.2, h.1.2.1, h.1.2.2, h.2⟩)
      · cases h

/-- A node of two others, or not. -/
theorem Wf.kinds {K : Nds} {n : Nat} (h : Wf K n) {i : Nat} (hi : i < n) :
    ((K i 0 = 0 ∨ K i 0 = 1) ∧ (∃ x : Nat, x ≤ 999999 ∧ K i 1 = x) ∧ K i 2 = 0) ∨ ((K i 0 = 2 ∨ K i 0 = 3) ∧ ∃ x y : Nat, x < i ∧ y < i ∧ K i 1 = x ∧ K i 2 = y) := by
  rcases okX_kinds (h i hi) with ⟨h0, h1, h2, h3⟩ | ⟨h0, h1, h2, h3, h4⟩ | ⟨h0, h1, h2, h3, h4, _⟩
  · exact .inl ⟨h0, ⟨(K i 1).toNat, by omega, by omega⟩, h3⟩
  · exact .inr ⟨.inl h0, (K i 1).toNat, (K i 2).toNat, by omega, by omega, by omega, by omega⟩
  · exact .inr ⟨.inr h0, (K i 1).toNat, (K i 2).toNat, by omega, by omega, by omega, by omega⟩

/-- Terms. -/
inductive Tm where
  | atom (a : Nat)
  | key (a : Nat)
  | pair (x y : Tm)
  | lock (x y : Tm)

def leafT (K : Nds) (i : Nat) : Tm := if K i 0 = 1 then .key (K i 1).toNat else .atom (K i 1).toNat
def tmF (K : Nds) : Nat → Nat → Tm
  | 0, i => leafT K i
  | f + 1, i => if K i 0 = 2 then .pair (tmF K f (K i 1).toNat) (tmF K f (K i 2).toNat) else if K i 0 = 3 then .lock (tmF K f (K i 1).toNat) (tmF K f (K i 2).toNat) else leafT K i
/-- The term at a place. -/
def tm (K : Nds) (i : Nat) : Tm := tmF K i i

theorem tmF_eq {K : Nds} {n : Nat} (h : Wf K n) : ∀ i f, i ≤ f → i < n → tmF K f i = tmF K i i := by
  intro i
  induction i using Nat.strongRecOn with
  | _ i ih =>
    intro f hf hi
    rcases h.kinds hi with ⟨h0, _, _⟩ | ⟨h0, x, y, hx, hy, e1, e2⟩
    · have n2 : ¬ K i 0 = 2 := by omega
      have n3 : ¬ K i 0 = 3 := by omega
      cases f <;> cases i <;> simp [tmF, n2, n3]
    · obtain ⟨f, rfl⟩ : ∃ f', f = f' + 1 := ⟨f - 1, by omega⟩
      obtain ⟨j, rfl⟩ : ∃ j, i = j + 1 := ⟨i - 1, by omega⟩
      simp only [tmF, e1, e2, Int.toNat_natCast]
      rw [ih x hx f (by omega) (by omega), ih x hx j (by omega) (by omega), ih y hy f (by omega) (by omega), ih y hy j (by omega) (by omega)]

theorem tm_leaf {K : Nds} {i : Nat} (h0 : K i 0 = 0 ∨ K i 0 = 1) : tm K i = leafT K i := by
  have n2 : ¬ K i 0 = 2 := by omega
  have n3 : ¬ K i 0 = 3 := by omega
  unfold tm
  cases i <;> simp [tmF, n2, n3]
theorem tm_atom {K : Nds} {n : Nat} (h : Wf K n) {i : Nat} (hi : i < n) (h0 : K i 0 = 0) {x : Nat} (hx : K i 1 = x) : tm K i = .atom x := by
  rw [tm_leaf (.inl h0)]
  simp [leafT, h0, hx]
theorem tm_key {K : Nds} {n : Nat} (h : Wf K n) {i : Nat} (hi : i < n) (h0 : K i 0 = 1) {x : Nat} (hx : K i 1 = x) : tm K i = .key x := by
  rw [tm_leaf (.inr h0)]
  simp [leafT, h0, hx]
theorem tm_pair {K : Nds} {n : Nat} (h : Wf K n) {i : Nat} (hi : i < n) (h0 : K i 0 = 2) {x y : Nat} (hx : x < i) (hy : y < i) (e1 : K i 1 = x) (e2 : K i 2 = y) : tm K i = .pair (tm K x) (tm K y) := by
  obtain ⟨j, rfl⟩ : ∃ j, i = j + 1 := ⟨i - 1, by omega⟩
  unfold tm
  simp only [tmF, e1, e2, Int.toNat_natCast, h0, if_true]
  rw [tmF_eq h x j (by omega) (by omega), tmF_eq h y j (by omega) (by omega)]
theorem tm_lock {K : Nds} {n : Nat} (h : Wf K n) {i : Nat} (hi : i < n) (h0 : K i 0 = 3) {x y : Nat} (hx : x < i) (hy : y < i) (e1 : K i 1 = x) (e2 : K i 2 = y) : tm K i = .lock (tm K x) (tm K y) := by
  obtain ⟨j, rfl⟩ : ∃ j, i = j + 1 := ⟨i - 1, by omega⟩
  unfold tm
  simp only [tmF, e1, e2, Int.toNat_natCast, h0, if_true]
  rw [tmF_eq h x j (by omega) (by omega), tmF_eq h y j (by omega) (by omega)]
  rfl

/-- The text of a term. -/
def txT : Tm → List UInt8
  | .atom a => 97 :: Lib.decDigits a
  | .key a => 107 :: Lib.decDigits a
  | .pair x y => 40 :: (txT x ++ 44 :: (txT y ++ [41]))
  | .lock x y => 123 :: (txT y ++ 125 :: txT x)
def lnT (t : Tm) : Nat := (txT t).length

theorem lnT_atom (a : Nat) : lnT (.atom a) = 1 + (Lib.decDigits a).length := by simp [lnT, txT]; omega
theorem lnT_key (a : Nat) : lnT (.key a) = 1 + (Lib.decDigits a).length := by simp [lnT, txT]; omega
theorem lnT_pair (x y : Tm) : lnT (.pair x y) = 3 + lnT x + lnT y := by simp [lnT, txT]; omega
theorem lnT_lock (x y : Tm) : lnT (.lock x y) = 2 + lnT x + lnT y := by simp [lnT, txT]; omega
theorem digits_pos (a : Nat) : 0 < (Lib.decDigits a).length := by
  rw [Lib.decDigits]
  split <;> simp
theorem digits_len : ∀ (k x : Nat), x < 10 ^ (k + 1) → (Lib.decDigits x).length ≤ k + 1
  | 0, x, h => by rw [Lib.decDigits_one (by simpa using h)]; simp
  | k + 1, x, h => by
    by_cases hx : x < 10
    · rw [Lib.decDigits_one hx]; simp
    · have ih := digits_len k (x / 10) (by rw [Nat.pow_succ] at h; omega)
      rw [Lib.decDigits, dif_neg hx, List.length_append, List.length_singleton]
      omega
theorem digits_six {x : Nat} (h : x ≤ 999999) : (Lib.decDigits x).length ≤ 6 := digits_len 5 x (by omega)
theorem lnT_pos (t : Tm) : 0 < lnT t := by cases t <;> simp [lnT, txT]

/-- The size that is told. -/
def szT (t : Tm) : Nat := min (lnT t) 1000000000
theorem szT_pair (x y : Tm) : szT (.pair x y) = min (3 + szT x + szT y) 1000000000 := by unfold szT; rw [lnT_pair]; omega
theorem szT_lock (x y : Tm) : szT (.lock x y) = min (2 + szT x + szT y) 1000000000 := by unfold szT; rw [lnT_lock]; omega
theorem szT_pos (t : Tm) : 0 < szT t := by unfold szT; have := lnT_pos t; omega
theorem szT_le (t : Tm) : szT t ≤ 1000000000 := by unfold szT; omega

/- A numeral's digits; where it ends. -/
def isDig (c : UInt8) : Bool := decide (48 ≤ c.toNat) && decide (c.toNat ≤ 57)
/-- What may follow a numeral. -/
def NoDig : List UInt8 → Prop
  | [] => True
  | c :: _ => isDig c = false

theorem dig_is {d : Nat} (h : d < 10) : isDig (UInt8.ofNat (48 + d)) = true := by
  have : (UInt8.ofNat (48 + d)).toNat = 48 + d := by rw [UInt8.toNat_ofNat']; omega
  unfold isDig
  rw [this]
  simp
  omega
theorem dig_inj {d e : Nat} (hd : d < 10) (he : e < 10) (h : UInt8.ofNat (48 + d) = UInt8.ofNat (48 + e)) : d = e := by
  have h1 : (UInt8.ofNat (48 + d)).toNat = 48 + d := by rw [UInt8.toNat_ofNat']; omega
  have h2 : (UInt8.ofNat (48 + e)).toNat = 48 + e := by rw [UInt8.toNat_ofNat']; omega
  rw [h, h2] at h1
  omega
theorem digits_all (a : Nat) : ∀ c ∈ Lib.decDigits a, isDig c = true := by
  induction a using Nat.strongRecOn with
  | _ a ih =>
    intro c hc
    rw [Lib.decDigits] at hc
    split at hc
    · rename_i h
      have := List.mem_singleton.1 hc
      subst this
      exact dig_is h
    · rcases List.mem_append.1 hc with h | h
      · exact ih (a / 10) (by omega) c h
      · have := List.mem_singleton.1 h
        subst this
        exact dig_is (Nat.mod_lt _ (by decide))

theorem app_cut : ∀ (l m r s : List UInt8), (∀ c ∈ l, isDig c = true) → (∀ c ∈ m, isDig c = true) → NoDig r → NoDig s → l ++ r = m ++ s → l = m ∧ r = s
  | [], [], r, s, _, _, _, _, h => ⟨rfl, by simpa using h⟩
  | [], c :: m, r, s, _, h2, hr, _, h => by
    rw [List.nil_append, List.cons_append] at h
    rw [h] at hr
    have h3 : isDig c = false := hr
    rw [h2 c (List.mem_cons_self ..)] at h3
    cases h3
  | c :: l, [], r, s, h1, _, _, hs, h => by
    rw [List.nil_append, List.cons_append] at h
    rw [← h] at hs
    have h3 : isDig c = false := hs
    rw [h1 c (List.mem_cons_self ..)] at h3
    cases h3
  | c :: l, d :: m, r, s, h1, h2, hr, hs, h => by
    rw [List.cons_append, List.cons_append] at h
    obtain ⟨e1, e2⟩ := List.cons.inj h
    obtain ⟨e3, e4⟩ := app_cut l m r s (fun c hc => h1 c (List.mem_cons_of_mem _ hc)) (fun c hc => h2 c (List.mem_cons_of_mem _ hc)) hr hs e2
    exact ⟨by rw [e1, e3], e4⟩

theorem digits_big {u : Nat} (h : ¬ u < 10) : Lib.decDigits u = Lib.decDigits (u / 10) ++ [UInt8.ofNat (48 + u % 10)] := by rw [Lib.decDigits, dif_neg h]
theorem digits_inj : ∀ (a b : Nat), Lib.decDigits a = Lib.decDigits b → a = b := by
  intro a
  induction a using Nat.strongRecOn with
  | _ a ih =>
    intro b h
    by_cases ha : a < 10
    · by_cases hb : b < 10
      · rw [Lib.decDigits_one ha, Lib.decDigits_one hb] at h
        exact dig_inj ha hb (List.singleton_inj.1 h)
      · rw [Lib.decDigits_one ha, digits_big hb] at h
        have := congrArg List.length h
        have hp := digits_pos (b / 10)
        rw [List.length_append, List.length_singleton, List.length_singleton] at this
        omega
    · by_cases hb : b < 10
      · rw [Lib.decDigits_one hb, digits_big ha] at h
        have := congrArg List.length h
        have hp := digits_pos (a / 10)
        rw [List.length_append, List.length_singleton, List.length_singleton] at this
        omega
      · rw [digits_big ha, digits_big hb] at h
        obtain ⟨e1, e2⟩ := List.append_inj' h rfl
        have e3 := ih (a / 10) (by omega) (b / 10) e1
        have e4 := dig_inj (Nat.mod_lt a (by decide)) (Nat.mod_lt b (by decide)) (List.singleton_inj.1 e2)
        omega
theorem noDig_cons {c : UInt8} {l : List UInt8} (h : isDig c = false) : NoDig (c :: l) := h

theorem text_cut : ∀ (t u : Tm) (r s : List UInt8), NoDig r → NoDig s → txT t ++ r = txT u ++ s → t = u ∧ r = s
  | .atom a, u, r, s, hr, hs, h => by
    cases u with
    | atom b =>
      simp only [txT, List.cons_append, List.cons.injEq, true_and] at h
      obtain ⟨e1, e2⟩ := app_cut _ _ _ _ (digits_all a) (digits_all b) hr hs h
      exact ⟨by rw [digits_inj a b e1], e2⟩
    | key b => simp [txT] at h
    | pair x y => simp [txT] at h
    | lock x y => simp [txT] at h
  | .key a, u, r, s, hr, hs, h => by
    cases u with
    | key b =>
      simp only [txT, List.cons_append, List.cons.injEq, true_and] at h
      obtain ⟨e1, e2⟩ := app_cut _ _ _ _ (digits_all a) (digits_all b) hr hs h
      exact ⟨by rw [digits_inj a b e1], e2⟩
    | atom b => simp [txT] at h
    | pair x y => simp [txT] at h
    | lock x y => simp [txT] at h
  | .pair x y, u, r, s, hr, hs, h => by
    cases u with
    | pair x' y' =>
      simp only [txT, List.cons_append, List.append_assoc, List.cons.injEq, true_and] at h
      obtain ⟨e1, e2⟩ := text_cut x x' _ _ (noDig_cons (by decide)) (noDig_cons (by decide)) h
      obtain ⟨_, e2⟩ := List.cons.inj e2
      obtain ⟨e3, e4⟩ := text_cut y y' _ _ (noDig_cons (by decide)) (noDig_cons (by decide)) e2
      exact ⟨by rw [e1, e3], by simpa using e4⟩
    | atom b => simp [txT] at h
    | key b => simp [txT] at h
    | lock x y => simp [txT] at h
  | .lock x y, u, r, s, hr, hs, h => by
    cases u with
    | lock x' y' =>
      simp only [txT, List.cons_append, List.append_assoc, List.cons.injEq, true_and] at h
      obtain ⟨e1, e2⟩ := text_cut y y' _ _ (noDig_cons (by decide)) (noDig_cons (by decide)) h
      obtain ⟨_, e2⟩ := List.cons.inj e2
      obtain ⟨e3, e4⟩ := text_cut x x' _ _ hr hs e2
      exact ⟨by rw [e1, e3], e4⟩
    | atom b => simp [txT] at h
    | key b => simp [txT] at h
    | pair x y => simp [txT] at h

/-- Terms are the same just if their texts are. -/
theorem text_inj {t u : Tm} (h : txT t = txT u) : t = u := (text_cut t u [] [] trivial trivial (by rw [h])).1

/- The first place of a term. -/
theorem fst_exists (K : Nds) (i : Nat) : ∃ j, tm K j = tm K i ∧ ∀ k, k < j → tm K k ≠ tm K i := by
  have key : ∀ m, (∃ j, j < m ∧ tm K j = tm K i ∧ ∀ k, k < j → tm K k ≠ tm K i) ∨ ∀ k, k < m → tm K k ≠ tm K i := by
    intro m
    induction m with
    | zero => exact .inr fun k hk => absurd hk (Nat.not_lt_zero _)
    | succ m ih =>
      rcases ih with ⟨j, h1, h2⟩ | ih
      · exact .inl ⟨j, by omega, h2⟩
      · by_cases e : tm K m = tm K i
        · exact .inl ⟨m, by omega, e, ih⟩
        · refine .inr fun k hk => ?_
          by_cases e2 : k = m
          · rw [e2]; exact e
          · exact ih k (by omega)
  rcases key (i + 1) with ⟨j, _, h⟩ | h
  · exact ⟨j, h⟩
  · exact absurd rfl (h i (by omega))
noncomputable def fst (K : Nds) (i : Nat) : Nat := Classical.choose (fst_exists K i)
theorem fst_tm (K : Nds) (i : Nat) : tm K (fst K i) = tm K i := (Classical.choose_spec (fst_exists K i)).1
theorem fst_least (K : Nds) (i : Nat) : ∀ k, k < fst K i → tm K k ≠ tm K i := (Classical.choose_spec (fst_exists K i)).2
theorem fst_le (K : Nds) (i : Nat) : fst K i ≤ i := by
  rcases Nat.lt_or_ge i (fst K i) with h | h
  · exact absurd rfl (fst_least K i i h)
  · exact h
theorem fst_unique {K : Nds} {i j : Nat} (h1 : tm K j = tm K i) (h2 : ∀ k, k < j → tm K k ≠ tm K i) : j = fst K i := by
  have a := fst_least K i j
  have b := h2 (fst K i)
  rcases Nat.lt_trichotomy j (fst K i) with h | h | h
  · exact absurd h1 (a h)
  · exact h
  · exact absurd (fst_tm K i) (b h)
theorem fst_same (K : Nds) (i j : Nat) : fst K i = fst K j ↔ tm K i = tm K j := by
  constructor
  · intro h
    rw [← fst_tm K i, ← fst_tm K j, h]
  · intro h
    exact fst_unique ((fst_tm K i).trans h) fun k hk => by rw [← h]; exact fst_least K i k hk

/-- When two places have the same term. -/
theorem tm_same {K : Nds} {n : Nat} (h : Wf K n) {i j : Nat} (hi : i < n) (hj : j < n) :
    tm K i = tm K j ↔ K i 0 = K j 0 ∧ ((K i 0 < 2 ∧ K i 1 = K j 1) ∨ (2 ≤ K i 0 ∧ tm K (K i 1).toNat = tm K (K j 1).toNat ∧ tm K (K i 2).toNat = tm K (K j 2).toNat)) := by
  rcases h.kinds hi with ⟨a0, ⟨x, _, a1⟩, _⟩ | ⟨a0, x, y, hx, hy, a1, a2⟩
  · rcases h.kinds hj with ⟨b0, ⟨u, _, b1⟩, _⟩ | ⟨b0, u, v, hu, hv, b1, b2⟩
    · rcases a0 with a0 | a0 <;> rcases b0 with b0 | b0
      · rw [tm_atom h hi a0 a1, tm_atom h hj b0 b1, a0, b0, a1, b1]; simp; omega
      · rw [tm_atom h hi a0 a1, tm_key h hj b0 b1, a0, b0]; simp
      · rw [tm_key h hi a0 a1, tm_atom h hj b0 b1, a0, b0]; simp
      · rw [tm_key h hi a0 a1, tm_key h hj b0 b1, a0, b0, a1, b1]; simp; omega
    · rcases a0 with a0 | a0 <;> rcases b0 with b0 | b0
      · rw [tm_atom h hi a0 a1, tm_pair h hj b0 hu hv b1 b2, a0, b0]; simp
      · rw [tm_atom h hi a0 a1, tm_lock h hj b0 hu hv b1 b2, a0, b0]; simp
      · rw [tm_key h hi a0 a1, tm_pair h hj b0 hu hv b1 b2, a0, b0]; simp
      · rw [tm_key h hi a0 a1, tm_lock h hj b0 hu hv b1 b2, a0, b0]; simp
  · rcases h.kinds hj with ⟨b0, ⟨u, _, b1⟩, _⟩ | ⟨b0, u, v, hu, hv, b1, b2⟩
    · rcases a0 with a0 | a0 <;> rcases b0 with b0 | b0
      · rw [tm_pair h hi a0 hx hy a1 a2, tm_atom h hj b0 b1, a0, b0]; simp
      · rw [tm_pair h hi a0 hx hy a1 a2, tm_key h hj b0 b1, a0, b0]; simp
      · rw [tm_lock h hi a0 hx hy a1 a2, tm_atom h hj b0 b1, a0, b0]; simp
      · rw [tm_lock h hi a0 hx hy a1 a2, tm_key h hj b0 b1, a0, b0]; simp
    · rw [a1, a2, b1, b2, Int.toNat_natCast, Int.toNat_natCast, Int.toNat_natCast, Int.toNat_natCast]
      rcases a0 with a0 | a0 <;> rcases b0 with b0 | b0
      · rw [tm_pair h hi a0 hx hy a1 a2, tm_pair h hj b0 hu hv b1 b2, a0, b0]; simp
      · rw [tm_pair h hi a0 hx hy a1 a2, tm_lock h hj b0 hu hv b1 b2, a0, b0]; simp
      · rw [tm_lock h hi a0 hx hy a1 a2, tm_pair h hj b0 hu hv b1 b2, a0, b0]; simp
      · rw [tm_lock h hi a0 hx hy a1 a2, tm_lock h hj b0 hu hv b1 b2, a0, b0]; simp

/- Parts, marked from behind. -/
def madeB (o : Int) : Bool := (o == 2) || (o == 3)
def setT (f : Nat → Bool) (p : Nat) : Nat → Bool := fun q => if q = p then true else f q
def stepM (K : Nds) (f : Nat → Bool) (k : Nat) : Nat → Bool := if f k = true ∧ madeB (K k 0) = true then setT (setT f (K k 1).toNat) (K k 2).toNat else f
/-- The marks behind t steps, from i down. -/
def marks (K : Nds) (i : Nat) : Nat → Nat → Bool
  | 0 => setT (fun _ => false) i
  | t + 1 => stepM K (marks K i t) (i - t)
/-- The places that i is made of. -/
def partB (K : Nds) (i : Nat) : Nat → Bool := marks K i (i + 1)
def partL (K : Nds) (i : Nat) : List Nat := (List.range (i + 1)).filter (partB K i)
/-- The first t of them, from behind. -/
def downL (K : Nds) (i : Nat) : Nat → List Nat
  | 0 => []
  | t + 1 => downL K i t ++ (if partB K i (i - t) = true then [i - t] else [])

theorem step_keep {K : Nds} {n : Nat} (h : Wf K n) {k p : Nat} (hk : k < n) (hp : k ≤ p) (f : Nat → Bool) : stepM K f k p = f p := by
  unfold stepM
  split
  · rename_i hm
    rcases h.kinds hk with ⟨h0, _⟩ | ⟨_, x, y, hx, hy, e1, e2⟩
    · exfalso
      have := hm.2
      unfold madeB at this
      rcases h0 with h0 | h0 <;> rw [h0] at this <;> cases this
    · unfold setT
      rw [e1, e2, Int.toNat_natCast, Int.toNat_natCast, if_neg (by omega), if_neg (by omega)]
  · rfl
theorem marks_keep {K : Nds} {n : Nat} (h : Wf K n) {i : Nat} (hi : i < n) : ∀ d t p, t + d ≤ i + 1 → i - t ≤ p → marks K i (t + d) p = marks K i t p
  | 0, t, p, _, _ => rfl
  | d + 1, t, p, h1, h2 => by
    show stepM K (marks K i (t + d)) (i - (t + d)) p = _
    rw [step_keep h (by omega) (by omega)]
    exact marks_keep h hi d t p (by omega) h2
/-- Whether a place is a part is known once those behind it are gone through. -/
theorem part_at {K : Nds} {n : Nat} (h : Wf K n) {i : Nat} (hi : i < n) {t : Nat} (ht : t ≤ i) : partB K i (i - t) = marks K i t (i - t) := by
  have := marks_keep h hi (i + 1 - t) t (i - t) (by omega) (Nat.le_refl _)
  rwa [show t + (i + 1 - t) = i + 1 by omega] at this
theorem set_le (f : Nat → Bool) (p q : Nat) (h : f q = true) : setT f p q = true := by unfold setT; split <;> simp [h]
theorem step_le (K : Nds) (f : Nat → Bool) (k q : Nat) (h : f q = true) : stepM K f k q = true := by
  unfold stepM
  split
  · exact set_le _ _ _ (set_le _ _ _ h)
  · exact h
theorem marks_le (K : Nds) (i : Nat) : ∀ d t q, marks K i t q = true → marks K i (t + d) q = true
  | 0, t, q, h => h
  | d + 1, t, q, h => step_le K _ _ q (marks_le K i d t q h)
theorem part_self (K : Nds) (i : Nat) : partB K i i = true := by
  have := marks_le K i (i + 1) 0 i (by simp [marks, setT])
  rwa [Nat.zero_add] at this
/-- The parts of a part are parts. -/
theorem part_made {K : Nds} {n : Nat} (h : Wf K n) {i p : Nat} (hi : i < n) (hp : p ≤ i) (hb : partB K i p = true) (hm : madeB (K p 0) = true) : partB K i (K p 1).toNat = true ∧ partB K i (K p 2).toNat = true := by
  have e := part_at h hi (t := i - p) (by omega)
  rw [show i - (i - p) = p by omega, hb] at e
  have hs : marks K i (i - p + 1) = setT (setT (marks K i (i - p)) (K p 1).toNat) (K p 2).toNat := by
    show stepM K (marks K i (i - p)) (i - (i - p)) = _
    rw [show i - (i - p) = p by omega]
    unfold stepM
    rw [if_pos ⟨e.symm, hm⟩]
  have e2 : i - p + 1 + p = i + 1 := by omega
  constructor
  · have := marks_le K i p (i - p + 1) (K p 1).toNat (by rw [hs]; exact set_le _ _ _ (by simp [setT]))
    rwa [e2] at this
  · have := marks_le K i p (i - p + 1) (K p 2).toNat (by rw [hs]; simp [setT])
    rwa [e2] at this

theorem downL_rev (K : Nds) (i : Nat) : ∀ t, t ≤ i + 1 → (downL K i t).reverse = (List.range' (i + 1 - t) t).filter (partB K i)
  | 0, _ => rfl
  | t + 1, ht => by
    have ih := downL_rev K i t (by omega)
    unfold downL
    rw [List.reverse_append, ih, List.range'_succ, show i + 1 - (t + 1) = i - t by omega, show i - t + 1 = i + 1 - t by omega, List.filter_cons]
    split <;> simp
theorem partL_eq (K : Nds) (i : Nat) : (downL K i (i + 1)).reverse = partL K i := by
  rw [downL_rev K i (i + 1) (Nat.le_refl _), Nat.sub_self]
  unfold partL
  rw [List.range_eq_range']
theorem downL_length (K : Nds) (i : Nat) : ∀ t, (downL K i t).length ≤ t
  | 0 => Nat.le_refl _
  | t + 1 => by
    have := downL_length K i t
    unfold downL
    rw [List.length_append]
    split <;> simp <;> omega
theorem partL_length (K : Nds) (i : Nat) : (partL K i).length ≤ i + 1 := by
  rw [← partL_eq, List.length_reverse]
  exact downL_length K i (i + 1)
theorem partL_mem (K : Nds) (i p : Nat) : p ∈ partL K i ↔ p ≤ i ∧ partB K i p = true := by
  unfold partL
  rw [List.mem_filter, List.mem_range]
  constructor <;> intro h <;> exact ⟨by omega, h.2⟩
theorem partL_nodup (K : Nds) (i : Nat) : (partL K i).Nodup := List.Nodup.sublist List.filter_sublist List.nodup_range
theorem partL_last (K : Nds) (i : Nat) : ∃ l, partL K i = l ++ [i] := by
  unfold partL
  rw [List.range_succ, List.filter_append]
  exact ⟨_, by rw [List.filter_cons, if_pos (part_self K i)]; rfl⟩

end Go.Proofs.Ytjhalbifljnfjaa
