/-
  The document's rounds over first places, apart from any program.
-/
import Derived.Test.YtjhalbifljnfjaaAdvMath
namespace Go.Proofs.Ytjhalbifljnfjaa
set_option linter.unusedVariables false

/-- The rules at one place, by first places. -/
def SatR (K : Nds) (X : Nat → Bool) (i : Nat) : Prop :=
  (K i 0 = 2 → X (fst K i) = true → X (fst K (K i 1).toNat) = true ∧ X (fst K (K i 2).toNat) = true) ∧
  (K i 0 = 3 → X (fst K i) = true → X (fst K (K i 1).toNat) = true → X (fst K (K i 2).toNat) = true) ∧
  ((K i 0 = 2 ∨ K i 0 = 3) → X (fst K (K i 1).toNat) = true → X (fst K (K i 2).toNat) = true → X (fst K i) = true)
def SoundR (K : Nds) (n : Nat) (S : Nat → Prop) (X : Nat → Bool) : Prop := ∀ q, q < n → X q = true → Kn K n S q
def BaseR (K : Nds) (n : Nat) (S : Nat → Prop) (X : Nat → Bool) : Prop := ∀ i, i < n → S i → X (fst K i) = true

theorem refDone {K : Nds} {n : Nat} {S : Nat → Prop} {X : Nat → Bool} (hs : SoundR K n S X) (hb : BaseR K n S X) (hc : ∀ i, i < n → SatR K X i) {i : Nat} (hi : i < n) : X (fst K i) = knB K n S i := by
  apply bool_eq_of
  rw [knB_iff]
  have hle := fst_le K i
  constructor
  · intro h
    exact ⟨hi, (Kn.clo K n S).same (fst K i) i (by omega) hi (fst_tm K i) (hs _ (by omega) h)⟩
  · rintro ⟨_, h⟩
    refine h (fun j => X (fst K j) = true) ?_ hb
    constructor
    · intro a b ha hb e h
      show X (fst K b) = true
      rw [← (fst_same K a b).2 e]
      exact h
    · intro j hj h0 h; exact ((hc j hj).1 h0 h).1
    · intro j hj h0 h; exact ((hc j hj).1 h0 h).2
    · intro j hj h0 h h2; exact (hc j hj).2.1 h0 h h2
    · intro j hj h0 h h2; exact (hc j hj).2.2 h0 h h2

/-- What is told, marked at first places. -/
theorem baseR_mark {K : Nds} {n : Nat} {f : Nat → Int} {k : Nat} {X : Nat → Bool} (hm : ∀ d, X d = true ↔ ∃ i, i < n ∧ inZ f k i ∧ fst K i = d) : BaseR K n (inZ f k) X ∧ SoundR K n (inZ f k) X := by
  refine ⟨fun i hi hz => (hm _).2 ⟨i, hi, hz, rfl⟩, fun q hq hx => ?_⟩
  obtain ⟨i, hi, hz, e⟩ := (hm q).1 hx
  subst e
  exact (Kn.clo K n _).same i _ hi hq (fst_tm K i).symm (Kn.base hi hz)

/-- How far a round has come: G the number of those not marked when it began. -/
def RI (K : Nds) (n : Nat) (S : Nat → Prop) (G : Nat) (A : (Nat → Bool) → Prop) (X : Nat → Bool) (ch : Bool) : Prop :=
  SoundR K n S X ∧ BaseR K n S X ∧ gap X n ≤ G ∧ (ch = true → gap X n < G) ∧ (ch = false → A X)
section
variable {K : Nds} {n : Nat} {S : Nat → Prop} {G : Nat} {A B : (Nat → Bool) → Prop} {X : Nat → Bool} {ch : Bool}
theorem RI.set (h : RI K n S G A X ch) {d : Nat} (hd : d < n) (hx : X d = false) (hk : Kn K n S d) : RI K n S G B (setT X d) true := by
  obtain ⟨h1, h2, h3, _, _⟩ := h
  have hg := gap_set hx n hd
  refine ⟨fun q hq hX => ?_, fun i hi hs => set_le _ _ _ (h2 i hi hs), by omega, fun _ => by omega, fun e => by cases e⟩
  by_cases e : q = d
  · subst e; exact hk
  · rw [setT_other X e] at hX
    exact h1 q hq hX
theorem RI.skip (h : RI K n S G A X ch) (hB : A X → B X) : RI K n S G B X ch := ⟨h.1, h.2.1, h.2.2.1, h.2.2.2.1, fun e => hB (h.2.2.2.2 e)⟩
theorem RI.known (h : RI K n S G A X ch) {q i : Nat} (hi : i < n) (e : fst K i = q) (hx : X q = true) : Kn K n S i := by
  have hle := fst_le K i
  subst e
  exact (Kn.clo K n S).same _ i (by omega) hi (fst_tm K i) (h.1 _ (by omega) hx)
end

/- The three tests of a round, at place i, of parts x and y. -/
theorem ref_make {K : Nds} {n : Nat} {S : Nat → Prop} {G : Nat} {A : (Nat → Bool) → Prop} {X : Nat → Bool} {ch : Bool} (h : RI K n S G A X ch) {i x y : Nat} (hi : i < n) (hx : x < i) (hy : y < i) (e0 : K i 0 = 2 ∨ K i 0 = 3) (e1 : K i 1 = x) (e2 : K i 2 = y) (ha : X (fst K x) = true) (hb : X (fst K y) = true) : Kn K n S (fst K i) := by
  have hle := fst_le K i
  have kx := h.known (i := x) (by omega) rfl ha
  have ky := h.known (i := y) (by omega) rfl hb
  exact (Kn.clo K n S).same i _ hi (by omega) (fst_tm K i).symm ((Kn.clo K n S).make i hi e0 (by rw [e1, Int.toNat_natCast]; exact kx) (by rw [e2, Int.toNat_natCast]; exact ky))
theorem ref_left {K : Nds} {n : Nat} {S : Nat → Prop} {G : Nat} {A : (Nat → Bool) → Prop} {X : Nat → Bool} {ch : Bool} (h : RI K n S G A X ch) {i x : Nat} (hi : i < n) (hx : x < i) (e0 : K i 0 = 2) (e1 : K i 1 = x) (hm : X (fst K i) = true) : Kn K n S (fst K x) := by
  have hle := fst_le K x
  have ki := h.known hi rfl hm
  have kx := (Kn.clo K n S).left i hi e0 ki
  rw [e1, Int.toNat_natCast] at kx
  exact (Kn.clo K n S).same x _ (by omega) (by omega) (fst_tm K x).symm kx
theorem ref_right {K : Nds} {n : Nat} {S : Nat → Prop} {G : Nat} {A : (Nat → Bool) → Prop} {X : Nat → Bool} {ch : Bool} (h : RI K n S G A X ch) {i x y : Nat} (hi : i < n) (hx : x < i) (hy : y < i) (e0 : K i 0 = 2 ∨ K i 0 = 3) (e1 : K i 1 = x) (e2 : K i 2 = y) (hm : X (fst K i) = true) (ha : ((K i 0 == 2) || X (fst K x)) = true) : Kn K n S (fst K y) := by
  have hle := fst_le K y
  have ki := h.known hi rfl hm
  have ky : Kn K n S y := by
    by_cases h2 : K i 0 = 2
    · have := (Kn.clo K n S).right i hi h2 ki
      rwa [e2, Int.toNat_natCast] at this
    · have h3 : K i 0 = 3 := by omega
      have hx' : X (fst K x) = true := by
        rw [h3] at ha
        simpa using ha
      have kx := h.known (i := x) (by omega) rfl hx'
      have := (Kn.clo K n S).undo i hi h3 ki (by rw [e1, Int.toNat_natCast]; exact kx)
      rwa [e2, Int.toNat_natCast] at this
  exact (Kn.clo K n S).same y _ (by omega) (by omega) (fst_tm K y).symm ky
/-- None of the three: the rules hold here. -/
theorem ref_sat {K : Nds} {X : Nat → Bool} {i x y : Nat} (e1 : K i 1 = x) (e2 : K i 2 = y) (t1 : (X (fst K x) && X (fst K y) && !X (fst K i)) = false) (t2 : (X (fst K i) && (K i 0 == 2) && !X (fst K x)) = false) (t3 : (X (fst K i) && ((K i 0 == 2) || X (fst K x)) && !X (fst K y)) = false) : SatR K X i := by
  unfold SatR
  rw [e1, e2, Int.toNat_natCast, Int.toNat_natCast]
  refine ⟨fun h0 hm => ?_, fun h0 hm ha => ?_, fun h0 ha hb => ?_⟩
  · rw [h0, hm] at t2 t3
    have a1 : X (fst K x) = true := by simpa using t2
    have a2 : X (fst K y) = true := by simpa using t3
    exact ⟨a1, a2⟩
  · rw [hm, ha] at t3
    simpa using t3
  · rw [ha, hb] at t1
    simpa using t1
theorem sat_leaf {K : Nds} {X : Nat → Bool} {i : Nat} (h : K i 0 < 2) : SatR K X i := ⟨fun e => by omega, fun e => by omega, fun e => by omega⟩

end Go.Proofs.Ytjhalbifljnfjaa
