/-
  The nodes of AdversaryPairs: what is known of them.
-/
import Derived.Test.YtjhalbifljnfjaaAdvTerms
import Derived.Test.YtjhalbifljnfjaaAdvMore
namespace Go.Proofs.Ytjhalbifljnfjaa
set_option linter.unusedVariables false

def pairsK (a b : Nat) : Nds := ndL [[0, (a : Int), 0], [0, 70000 + (b : Int), 0], [2, 0, 1], [1, 1, 0], [1, 2, 0], [3, 3, 2], [3, 4, 5]]
theorem lt7 {i : Nat} (h : i < 7) : i = 0 ∨ i = 1 ∨ i = 2 ∨ i = 3 ∨ i = 4 ∨ i = 5 ∨ i = 6 := by omega

section
variable {a b : Nat} (ha : a < 65536) (hb : b < 65536)
include ha hb
theorem pairs_wf : Wf (pairsK a b) 7 := by
  intro i hi
  rcases lt7 hi with rfl | rfl | rfl | rfl | rfl | rfl | rfl
  · show okX (pairsK a b) 0 0 (a : Int) 0 = true
    unfold okX; simp; omega
  · show okX (pairsK a b) 1 0 (70000 + (b : Int)) 0 = true
    unfold okX; simp; omega
  · show okX (pairsK a b) 2 2 0 1 = true
    unfold okX; simp
  · show okX (pairsK a b) 3 1 1 0 = true
    unfold okX; simp
  · show okX (pairsK a b) 4 1 2 0 = true
    unfold okX; simp
  · show okX (pairsK a b) 5 3 3 2 = true
    unfold okX; simp; rfl
  · show okX (pairsK a b) 6 3 4 5 = true
    unfold okX; simp; rfl
theorem pairs_may : mayB (pairsK a b) 7 = true := (mayB_iff _ _).2 ⟨by decide, pairs_wf ha hb⟩
theorem pairs_0 : tm (pairsK a b) 0 = .atom a := tm_atom (pairs_wf ha hb) (by decide) rfl rfl
theorem pairs_1 : tm (pairsK a b) 1 = .atom (70000 + b) := tm_atom (pairs_wf ha hb) (by decide) rfl (show (70000 + (b : Int)) = ((70000 + b : Nat) : Int) by omega)
theorem pairs_2 : tm (pairsK a b) 2 = .pair (.atom a) (.atom (70000 + b)) := by
  rw [tm_pair (pairs_wf ha hb) (i := 2) (x := 0) (y := 1) (by decide) rfl (by decide) (by decide) rfl rfl, pairs_0 ha hb, pairs_1 ha hb]
theorem pairs_3 : tm (pairsK a b) 3 = .key 1 := tm_key (pairs_wf ha hb) (by decide) rfl rfl
theorem pairs_4 : tm (pairsK a b) 4 = .key 2 := tm_key (pairs_wf ha hb) (by decide) rfl rfl
theorem pairs_5 : tm (pairsK a b) 5 = .lock (.key 1) (.pair (.atom a) (.atom (70000 + b))) := by
  rw [tm_lock (pairs_wf ha hb) (i := 5) (x := 3) (y := 2) (by decide) rfl (by decide) (by decide) rfl rfl, pairs_3 ha hb, pairs_2 ha hb]
theorem pairs_6 : tm (pairsK a b) 6 = .lock (.key 2) (.lock (.key 1) (.pair (.atom a) (.atom (70000 + b)))) := by
  rw [tm_lock (pairs_wf ha hb) (i := 6) (x := 4) (y := 5) (by decide) rfl (by decide) (by decide) rfl rfl, pairs_4 ha hb, pairs_5 ha hb]

/-- What is told. -/
def pairsL (one two : Bool) : List Int := (if two = true then (if one = true then [6, 3] else [6]) ++ [4] else (if one = true then [6, 3] else [6]))

omit ha hb in
theorem pairs_op {i : Nat} (hi : i < 7) : (pairsK a b i 0 = 2 → i = 2) ∧ (pairsK a b i 0 = 3 → i = 5 ∨ i = 6) := by
  rcases lt7 hi with rfl | rfl | rfl | rfl | rfl | rfl | rfl
  · exact ⟨fun h => absurd (show (0 : Int) = 2 from h) (by decide), fun h => absurd (show (0 : Int) = 3 from h) (by decide)⟩
  · exact ⟨fun h => absurd (show (0 : Int) = 2 from h) (by decide), fun h => absurd (show (0 : Int) = 3 from h) (by decide)⟩
  · exact ⟨fun _ => rfl, fun h => absurd (show (2 : Int) = 3 from h) (by decide)⟩
  · exact ⟨fun h => absurd (show (1 : Int) = 2 from h) (by decide), fun h => absurd (show (1 : Int) = 3 from h) (by decide)⟩
  · exact ⟨fun h => absurd (show (1 : Int) = 2 from h) (by decide), fun h => absurd (show (1 : Int) = 3 from h) (by decide)⟩
  · exact ⟨fun h => absurd (show (3 : Int) = 2 from h) (by decide), fun _ => .inl rfl⟩
  · exact ⟨fun h => absurd (show (3 : Int) = 2 from h) (by decide), fun _ => .inr rfl⟩
omit ha hb in
/-- What is known when not both keys are told. -/
def pairsY (a b : Nat) (one two : Bool) (t : Tm) : Prop := t = .lock (.key 2) (.lock (.key 1) (.pair (.atom a) (.atom (70000 + b)))) ∨ (one = true ∧ t = .key 1) ∨ (two = true ∧ (t = .key 2 ∨ t = .lock (.key 1) (.pair (.atom a) (.atom (70000 + b)))))
theorem pairs_no (one two : Bool) (h12 : (one && two) = false) : Clo (pairsK a b) 7 (fun q => pairsY a b one two (tm (pairsK a b) q)) := by
  refine clo_terms (pairs_wf ha hb) (pairsY a b one two) ?_ ?_ ?_
  · intro i hi h0 y
    obtain rfl := (pairs_op hi).1 h0
    rw [pairs_2 ha hb] at y
    simp [pairsY] at y
  · intro i hi h0 y yk
    rcases (pairs_op hi).2 h0 with rfl | rfl
    · have yk : pairsY a b one two (tm (pairsK a b) 3) := yk
      rw [pairs_5 ha hb] at y
      rw [pairs_3 ha hb] at yk
      simp [pairsY] at y yk
      rw [y, yk] at h12
      cases h12
    · have yk : pairsY a b one two (tm (pairsK a b) 4) := yk
      show pairsY a b one two (tm (pairsK a b) 5)
      rw [pairs_4 ha hb] at yk
      rw [pairs_5 ha hb]
      simp [pairsY] at yk ⊢
      exact yk
  · intro i hi h0 ya yb
    rcases h0 with h0 | h0
    · obtain rfl := (pairs_op hi).1 h0
      have ya : pairsY a b one two (tm (pairsK a b) 0) := ya
      rw [pairs_0 ha hb] at ya
      simp [pairsY] at ya
    · rcases (pairs_op hi).2 h0 with rfl | rfl
      · have yb : pairsY a b one two (tm (pairsK a b) 2) := yb
        rw [pairs_2 ha hb] at yb
        simp [pairsY] at yb
      · exact .inl (pairs_6 ha hb)
theorem pairs_told (one two : Bool) : ∀ j : Nat, j < 7 → (j : Int) ∈ pairsL one two → pairsY a b one two (tm (pairsK a b) j) := by
  intro j hj h
  have h6 := pairs_6 ha hb
  have h3 := pairs_3 ha hb
  have h4 := pairs_4 ha hb
  rcases lt7 hj with rfl | rfl | rfl | rfl | rfl | rfl | rfl <;> cases one <;> cases two <;> simp [pairsL] at h <;> simp [pairsY, h6, h3, h4]

theorem pairs_x (one two : Bool) : knB (pairsK a b) 7 (inZ (fun j => (pairsL one two).getD j 0) (pairsL one two).length) 0 = (one && two) ∧ knB (pairsK a b) 7 (inZ (fun j => (pairsL one two).getD j 0) (pairsL one two).length) 1 = (one && two) ∧ knB (pairsK a b) 7 (inZ (fun j => (pairsL one two).getD j 0) (pairsL one two).length) 2 = (one && two) ∧ knB (pairsK a b) 7 (inZ (fun j => (pairsL one two).getD j 0) (pairsL one two).length) 5 = two := by
  have hS : ∀ j, j < 7 → inZ (fun j => (pairsL one two).getD j 0) (pairsL one two).length j → _ := fun j hj hz => pairs_told ha hb one two j hj ((inZ_list _ j).1 hz)
  have bse : ∀ q : Nat, q < 7 → (q : Int) ∈ pairsL one two → Kn (pairsK a b) 7 (inZ (fun j => (pairsL one two).getD j 0) (pairsL one two).length) q := fun q hq hm => Kn.base hq ((inZ_list _ q).2 hm)
  generalize inZ (fun j => (pairsL one two).getD j 0) (pairsL one two).length = S at *
  have k6 : Kn (pairsK a b) 7 S 6 := bse 6 (by decide) (by cases one <;> cases two <;> simp [pairsL])
  have h5 : knB (pairsK a b) 7 S 5 = two := by
    cases two
    · exact knB_no (pairs_no ha hb one false (by simp)) hS (by rw [pairs_5 ha hb]; simp [pairsY])
    · have k4 : Kn (pairsK a b) 7 S 4 := bse 4 (by decide) (by cases one <;> simp [pairsL])
      exact knB_yes (by decide) ((Kn.clo _ _ _).undo 6 (by decide) rfl k6 k4)
  cases h12 : (one && two)
  · have hc := pairs_no ha hb one two h12
    exact ⟨knB_no hc hS (by rw [pairs_0 ha hb]; simp [pairsY]), knB_no hc hS (by rw [pairs_1 ha hb]; simp [pairsY]), knB_no hc hS (by rw [pairs_2 ha hb]; simp [pairsY]), h5⟩
  · have h1 : one = true := by cases one <;> simp_all
    have h2 : two = true := by cases two <;> simp_all
    subst h1 h2
    have k4 : Kn (pairsK a b) 7 S 4 := bse 4 (by decide) (by simp [pairsL])
    have k3 : Kn (pairsK a b) 7 S 3 := bse 3 (by decide) (by simp [pairsL])
    have k5 : Kn (pairsK a b) 7 S 5 := (Kn.clo _ _ _).undo 6 (by decide) rfl k6 k4
    have k2 : Kn (pairsK a b) 7 S 2 := (Kn.clo _ _ _).undo 5 (by decide) rfl k5 k3
    exact ⟨knB_yes (by decide) ((Kn.clo _ _ _).left 2 (by decide) rfl k2), knB_yes (by decide) ((Kn.clo _ _ _).right 2 (by decide) rfl k2), knB_yes (by decide) k2, h5⟩

theorem pairs_y : knB (pairsK a b) 7 (inZ (fun j => ([0, 1] : List Int).getD j 0) 2) 2 = true ∧ knB (pairsK a b) 7 (inZ (fun j => ([0, 1] : List Int).getD j 0) 2) 5 = false := by
  constructor
  · have k0 : Kn (pairsK a b) 7 (inZ (fun j => ([0, 1] : List Int).getD j 0) 2) 0 := Kn.base (by decide) ⟨0, by decide, rfl⟩
    have k1 : Kn (pairsK a b) 7 (inZ (fun j => ([0, 1] : List Int).getD j 0) 2) 1 := Kn.base (by decide) ⟨1, by decide, rfl⟩
    exact knB_yes (by decide) ((Kn.clo _ _ _).make 2 (by decide) (.inl rfl) k0 k1)
  · have hc : Clo (pairsK a b) 7 (fun q => tm (pairsK a b) q = .atom a ∨ tm (pairsK a b) q = .atom (70000 + b) ∨ tm (pairsK a b) q = .pair (.atom a) (.atom (70000 + b))) := by
      refine clo_terms (pairs_wf ha hb) (fun t => t = .atom a ∨ t = .atom (70000 + b) ∨ t = .pair (.atom a) (.atom (70000 + b))) ?_ ?_ ?_
      · intro i hi h0 y
        obtain rfl := (pairs_op hi).1 h0
        exact ⟨.inl (pairs_0 ha hb), .inr (.inl (pairs_1 ha hb))⟩
      · intro i hi h0 y yk
        rcases (pairs_op hi).2 h0 with rfl | rfl
        · rw [pairs_5 ha hb] at y; simp at y
        · rw [pairs_6 ha hb] at y; simp at y
      · intro i hi h0 ya yb
        rcases h0 with h0 | h0
        · obtain rfl := (pairs_op hi).1 h0
          exact .inr (.inr (pairs_2 ha hb))
        · rcases (pairs_op hi).2 h0 with rfl | rfl
          · have ya : (fun t => t = Tm.atom a ∨ t = .atom (70000 + b) ∨ t = .pair (.atom a) (.atom (70000 + b))) (tm (pairsK a b) 3) := ya
            rw [pairs_3 ha hb] at ya
            simp at ya
          · have ya : (fun t => t = Tm.atom a ∨ t = .atom (70000 + b) ∨ t = .pair (.atom a) (.atom (70000 + b))) (tm (pairsK a b) 4) := ya
            rw [pairs_4 ha hb] at ya
            simp at ya
    refine knB_no hc (fun j hj hz => ?_) (by rw [pairs_5 ha hb]; simp)
    obtain ⟨q, hq, e⟩ := hz
    have : q = 0 ∨ q = 1 := by omega
    rcases this with rfl | rfl
    · have e : (0 : Int) = (j : Int) := e
      have : j = 0 := by omega
      subst this
      exact .inl (pairs_0 ha hb)
    · have e : (1 : Int) = (j : Int) := e
      have : j = 1 := by omega
      subst this
      exact .inr (.inl (pairs_1 ha hb))

theorem pairs_atoms (one two : Bool) : (riseL (atomL (pairsK a b) 7 (inZ (fun j => (pairsL one two).getD j 0) (pairsL one two).length) 7)).length = 2 * (if (one && two) = true then 1 else 0) := by
  obtain ⟨h0, h1, _, _⟩ := pairs_x ha hb one two
  generalize inZ (fun j => (pairsL one two).getD j 0) (pairsL one two).length = S at *
  have e : atomL (pairsK a b) 7 S 7 = if (one && two) = true then [(a : Int), 70000 + (b : Int)] else [] := by
    have n2 : (knB (pairsK a b) 7 S 2 && (pairsK a b 2 0 == 0)) = false := by rw [show (pairsK a b 2 0 == 0) = false from rfl, Bool.and_false]
    have n3 : (knB (pairsK a b) 7 S 3 && (pairsK a b 3 0 == 0)) = false := by rw [show (pairsK a b 3 0 == 0) = false from rfl, Bool.and_false]
    have n4 : (knB (pairsK a b) 7 S 4 && (pairsK a b 4 0 == 0)) = false := by rw [show (pairsK a b 4 0 == 0) = false from rfl, Bool.and_false]
    have n5 : (knB (pairsK a b) 7 S 5 && (pairsK a b 5 0 == 0)) = false := by rw [show (pairsK a b 5 0 == 0) = false from rfl, Bool.and_false]
    have n6 : (knB (pairsK a b) 7 S 6 && (pairsK a b 6 0 == 0)) = false := by rw [show (pairsK a b 6 0 == 0) = false from rfl, Bool.and_false]
    have n0 : (knB (pairsK a b) 7 S 0 && (pairsK a b 0 0 == 0)) = (one && two) := by rw [h0, show (pairsK a b 0 0 == 0) = true from rfl, Bool.and_true]
    have n1 : (knB (pairsK a b) 7 S 1 && (pairsK a b 1 0 == 0)) = (one && two) := by rw [h1, show (pairsK a b 1 0 == 0) = true from rfl, Bool.and_true]
    unfold atomL
    rw [selL_no n6, selL_no n5, selL_no n4, selL_no n3, selL_no n2]
    cases h12 : (one && two)
    · rw [h12] at n0 n1
      rw [selL_no n1, selL_no n0]
      rfl
    · rw [h12] at n0 n1
      rw [selL_yes n1, selL_yes n0]
      rfl
  rw [e]
  cases h12 : (one && two)
  · rfl
  · rw [if_pos rfl, if_pos rfl]
    unfold riseL
    rw [List.foldl_cons, List.foldl_cons, List.foldl_nil]
    show (putZ (70000 + (b : Int)) [(a : Int)]).length = 2
    unfold putZ
    rw [if_neg (by omega), if_neg (by omega)]
    rfl
end

end Go.Proofs.Ytjhalbifljnfjaa
