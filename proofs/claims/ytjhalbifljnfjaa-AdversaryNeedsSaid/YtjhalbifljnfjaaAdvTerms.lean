/-
  Closed sets told by terms; what is known, or is not.
-/
import Derived.Test.YtjhalbifljnfjaaAdvRows
namespace Go.Proofs.Ytjhalbifljnfjaa
set_option linter.unusedVariables false

theorem clo_terms {K : Nds} {n : Nat} (h : Wf K n) (Y : Tm → Prop)
    (hl : ∀ i, i < n → K i 0 = 2 → Y (tm K i) → Y (tm K (K i 1).toNat) ∧ Y (tm K (K i 2).toNat))
    (hu : ∀ i, i < n → K i 0 = 3 → Y (tm K i) → Y (tm K (K i 1).toNat) → Y (tm K (K i 2).toNat))
    (hm : ∀ i, i < n → (K i 0 = 2 ∨ K i 0 = 3) → Y (tm K (K i 1).toNat) → Y (tm K (K i 2).toNat) → Y (tm K i)) : Clo K n (fun q => Y (tm K q)) where
  same i j hi hj e y := by rw [← e]; exact y
  left i hi h0 y := (hl i hi h0 y).1
  right i hi h0 y := (hl i hi h0 y).2
  undo i hi h0 y yk := hu i hi h0 y yk
  make i hi h0 ya yb := hm i hi h0 ya yb
theorem knB_no {K : Nds} {n : Nat} {S Y : Nat → Prop} (hY : Clo K n Y) (hS : ∀ j, j < n → S j → Y j) {i : Nat} (h : ¬ Y i) : knB K n S i = false := by
  cases e : knB K n S i
  · rfl
  · exact absurd (((knB_iff K n S i).1 e).2 Y hY hS) h
theorem knB_yes {K : Nds} {n : Nat} {S : Nat → Prop} {i : Nat} (hi : i < n) (h : Kn K n S i) : knB K n S i = true := (knB_iff K n S i).2 ⟨hi, h⟩

/-- A list of nodes that is written out. -/
def ndL (l : List (List Int)) : Nds := fun i j => (l.getD i []).getD j 0

end Go.Proofs.Ytjhalbifljnfjaa
