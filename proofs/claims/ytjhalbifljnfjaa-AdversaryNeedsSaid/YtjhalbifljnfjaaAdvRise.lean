/-
  Numbers that rise, each once: put one by one, or sorted and made compact.
-/
import Derived.Lib.SlicesCompact
namespace Go.Proofs.Ytjhalbifljnfjaa
set_option linter.unusedVariables false

/-- A number put into a list that rises, once. -/
def putZ (z : Int) : List Int → List Int
  | [] => [z]
  | y :: l => if y = z then y :: l else if z < y then z :: y :: l else y :: putZ z l
def riseL (l : List Int) : List Int := l.foldl (fun acc z => putZ z acc) []

theorem putZ_mem (z : Int) : ∀ (l : List Int) (x : Int), x ∈ putZ z l ↔ x = z ∨ x ∈ l
  | [], x => by simp [putZ]
  | y :: l, x => by
    unfold putZ
    split
    · rename_i e
      subst e
      simp
    · split
      · simp
      · rw [List.mem_cons, putZ_mem z l x, List.mem_cons]
        constructor
        · rintro (h | h | h)
          · exact .inr (.inl h)
          · exact .inl h
          · exact .inr (.inr h)
        · rintro (h | h | h)
          · exact .inr (.inl h)
          · exact .inl h
          · exact .inr (.inr h)
theorem putZ_rise (z : Int) : ∀ (l : List Int), l.Pairwise (· < ·) → (putZ z l).Pairwise (· < ·)
  | [], _ => by simp [putZ]
  | y :: l, h => by
    obtain ⟨h1, h2⟩ := List.pairwise_cons.1 h
    unfold putZ
    split
    · exact h
    · split
      · rename_i e hlt
        refine List.pairwise_cons.2 ⟨fun x hx => ?_, h⟩
        rcases List.mem_cons.1 hx with rfl | hx
        · exact hlt
        · have := h1 x hx
          omega
      · rename_i e hlt
        refine List.pairwise_cons.2 ⟨fun x hx => ?_, putZ_rise z l h2⟩
        rcases (putZ_mem z l x).1 hx with rfl | hx
        · omega
        · exact h1 x hx
theorem riseL_all : ∀ (l acc : List Int), acc.Pairwise (· < ·) → (l.foldl (fun acc z => putZ z acc) acc).Pairwise (· < ·) ∧ ∀ x, x ∈ l.foldl (fun acc z => putZ z acc) acc ↔ x ∈ acc ∨ x ∈ l
  | [], acc, h => ⟨h, by simp⟩
  | z :: l, acc, h => by
    obtain ⟨h1, h2⟩ := riseL_all l (putZ z acc) (putZ_rise z acc h)
    refine ⟨h1, fun x => ?_⟩
    rw [List.foldl_cons, h2 x, putZ_mem, List.mem_cons]
    constructor
    · rintro ((h | h) | h)
      · exact .inr (.inl h)
      · exact .inl h
      · exact .inr (.inr h)
    · rintro (h | h | h)
      · exact .inl (.inr h)
      · exact .inl (.inl h)
      · exact .inr h
theorem riseL_rise (l : List Int) : (riseL l).Pairwise (· < ·) := (riseL_all l [] List.Pairwise.nil).1
theorem riseL_mem (l : List Int) (x : Int) : x ∈ riseL l ↔ x ∈ l := by
  have := (riseL_all l [] List.Pairwise.nil).2 x
  unfold riseL
  simpa using this
theorem riseL_snoc (l : List Int) (z : Int) : riseL (l ++ [z]) = putZ z (riseL l) := by unfold riseL; rw [List.foldl_append]; rfl

/-- Lists that rise are the same if they have the same numbers. -/
theorem rise_same : ∀ (l m : List Int), l.Pairwise (· < ·) → m.Pairwise (· < ·) → (∀ x, x ∈ l ↔ x ∈ m) → l = m
  | [], [], _, _, _ => rfl
  | [], y :: m, _, _, h => by have := (h y).2 (List.mem_cons_self ..); cases this
  | y :: l, [], _, _, h => by have := (h y).1 (List.mem_cons_self ..); cases this
  | x :: l, y :: m, hl, hm, h => by
    obtain ⟨l1, l2⟩ := List.pairwise_cons.1 hl
    obtain ⟨m1, m2⟩ := List.pairwise_cons.1 hm
    have e : x = y := by
      rcases List.mem_cons.1 ((h x).1 (List.mem_cons_self ..)) with e | e
      · exact e
      · rcases List.mem_cons.1 ((h y).2 (List.mem_cons_self ..)) with e' | e'
        · exact e'.symm
        · have a := l1 y e'
          have b := m1 x e
          omega
    subst e
    congr 1
    refine rise_same l m l2 m2 fun z => ?_
    constructor
    · intro hz
      rcases List.mem_cons.1 ((h z).1 (List.mem_cons_of_mem _ hz)) with e | e
      · subst e
        have := l1 z hz
        omega
      · exact e
    · intro hz
      rcases List.mem_cons.1 ((h z).2 (List.mem_cons_of_mem _ hz)) with e | e
      · subst e
        have := m1 z hz
        omega
      · exact e

/-- Compact, of numbers in order. -/
theorem compact_upto (d : Array Int) (hd : ∀ i j, i ≤ j → j < d.size → d[i]! ≤ d[j]!) : ∀ m, m ≤ d.size → (Lib.compactUpTo d m).Pairwise (· < ·) ∧ ∀ x, x ∈ Lib.compactUpTo d m ↔ ∃ j, j < m ∧ d[j]! = x
  | 0, _ => ⟨by simp [Lib.compactUpTo], fun x => by simp [Lib.compactUpTo]⟩
  | m + 1, hm => by
    obtain ⟨h1, h2⟩ := compact_upto d hd m (by omega)
    rw [Lib.compactUpTo_succ]
    cases hk : Lib.keeps d m
    · have hk' : m ≠ 0 ∧ d[m]! = d[m - 1]! := by
        unfold Lib.keeps at hk
        simpa using hk
      simp only [Bool.false_eq_true, if_false, List.append_nil]
      refine ⟨h1, fun x => (h2 x).trans ?_⟩
      constructor
      · rintro ⟨j, hj, e⟩
        exact ⟨j, by omega, e⟩
      · rintro ⟨j, hj, e⟩
        by_cases e2 : j = m
        · exact ⟨m - 1, by omega, by rw [← hk'.2, ← e2]; exact e⟩
        · exact ⟨j, by omega, e⟩
    · have hk' : m = 0 ∨ d[m]! ≠ d[m - 1]! := by
        unfold Lib.keeps at hk
        exact of_decide_eq_true hk
      simp only [if_true]
      refine ⟨?_, fun x => ?_⟩
      · refine List.pairwise_append.2 ⟨h1, by simp, fun x hx y hy => ?_⟩
        have ey : y = d[m]! := by simpa using hy
        obtain ⟨j, hj, ej⟩ := (h2 x).1 hx
        rcases hk' with h0 | h0
        · omega
        · have a := hd j (m - 1) (by omega) (by omega)
          have b := hd (m - 1) m (by omega) (by omega)
          omega
      · rw [List.mem_append, h2 x]
        constructor
        · rintro (⟨j, hj, e⟩ | e)
          · exact ⟨j, by omega, e⟩
          · have e : x = d[m]! := by simpa using e
            exact ⟨m, by omega, e.symm⟩
        · rintro ⟨j, hj, e⟩
          by_cases e2 : j = m
          · exact .inr (by subst e2; simp [e])
          · exact .inl ⟨j, by omega, e⟩

/-- Sorted and made compact: as if put one by one. -/
theorem compact_sorted (l : List Int) : Lib.compact (l.mergeSort fun x y => decide (x ≤ y)) = riseL l := by
  have hp : (l.mergeSort fun x y => decide (x ≤ y)).Pairwise (fun x y => decide (x ≤ y) = true) := List.pairwise_mergeSort (fun a b c h1 h2 => by simp at *; omega) (fun a b => by simp; omega) l
  generalize hs : (l.mergeSort fun x y => decide (x ≤ y)) = s at *
  have hm : ∀ x, x ∈ s ↔ x ∈ l := fun x => by rw [← hs]; exact (List.mergeSort_perm l _).mem_iff
  have hd : ∀ i j, i ≤ j → j < s.toArray.size → s.toArray[i]! ≤ s.toArray[j]! := by
    intro i j hij hj
    have hj' : j < s.length := by simpa using hj
    by_cases e : i = j
    · subst e; exact Int.le_refl _
    · have := List.pairwise_iff_getElem.1 hp i j (by omega) hj' (by omega)
      simp [hj', show i < s.length by omega] at this ⊢
      exact this
  obtain ⟨h1, h2⟩ := compact_upto s.toArray hd s.length (by simp)
  refine rise_same _ _ h1 (riseL_rise l) fun x => ?_
  show x ∈ Lib.compactUpTo s.toArray s.length ↔ _
  rw [h2 x, riseL_mem, ← hm x]
  constructor
  · rintro ⟨j, hj, e⟩
    rw [← e]
    simp [hj]
  · intro hx
    obtain ⟨j, hj, e⟩ := List.getElem_of_mem hx
    exact ⟨j, hj, by simp [hj, e]⟩

/-- Half way through putting: what is ahead of place i, the number in it or not. -/
theorem putZ_less (z : Int) : ∀ (a b : List Int), (∀ x ∈ a, x < z) → putZ z (a ++ b) = a ++ putZ z b
  | [], b, _ => rfl
  | y :: a, b, h => by
    have hy := h y (List.mem_cons_self ..)
    rw [List.cons_append]
    show (if y = z then _ else if z < y then _ else _) = _
    rw [if_neg (by omega), if_neg (by omega), putZ_less z a b fun x hx => h x (List.mem_cons_of_mem _ hx), List.cons_append]
theorem putZ_eq {z y : Int} (h : y = z) (b : List Int) : putZ z (y :: b) = y :: b := by
  show (if y = z then _ else _) = _
  rw [if_pos h]
theorem putZ_gt {z y : Int} (h : z < y) (b : List Int) : putZ z (y :: b) = z :: y :: b := by
  show (if y = z then _ else if z < y then _ else _) = _
  rw [if_neg (by omega), if_pos h]
theorem putZ_length (z : Int) : ∀ l : List Int, (putZ z l).length ≤ l.length + 1
  | [] => by simp [putZ]
  | y :: l => by
    have := putZ_length z l
    unfold putZ
    split
    · simp
    · split <;> simp <;> omega
theorem riseL_length (l : List Int) : (riseL l).length ≤ l.length := by
  have h : ∀ (l acc : List Int), (l.foldl (fun acc z => putZ z acc) acc).length ≤ acc.length + l.length := by
    intro l
    induction l with
    | nil => intro acc; simp
    | cons z l ih =>
      intro acc
      have a := ih (putZ z acc)
      have b := putZ_length z acc
      rw [List.foldl_cons, List.length_cons]
      omega
  have := h l []
  simpa [riseL] using this

end Go.Proofs.Ytjhalbifljnfjaa
