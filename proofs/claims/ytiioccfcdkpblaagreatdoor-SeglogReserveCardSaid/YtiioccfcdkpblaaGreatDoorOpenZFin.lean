/-
  Slices of numbers that came in, laid open: any numbers, numbers of 64 bits.
-/
import Derived.Test.YtiioccfcdkpblaaGreatDoorAll8
import Derived.Test.YtiioccfcdkpblaaGreatDoorIntOfFin
import Derived.ProofKit
import Derived.OpenShut
namespace Go.Proofs.YtiioccfcdkpblaaGreatDoor
open Go.ChangeShapes Go.WideShapes Go.ChangeAt Go.RowKit
set_option linter.unusedVariables false

/-- What is told of a slice of numbers that came in. -/
def CameZ (w : World) (a : Option Addr) (n c : Nat) (f : Nat → Int) : Prop := SeesZ w a n f ∧ (a = none → c = 0)

theorem open_numbers {k : IntKind} {S T : TypeId} (hu : Tryz.prog.underlying S = some (.slice T)) (he : Tryz.prog.underlying T = some (.int k)) (hcl : Tryz.prog.cellsOf T = 1) {H : Type} {enc : TypeId × Value → H} {W : World} {base : Nat} {sp : Nat → Bool} {held : Bool} {a : Option Addr} {n c : Nat} {d : DataW H} {ps : List MemPlace}
    (h : DataW.Trod enc Tryz.prog W base sp held S (.slice a n c) d ps) : ∃ f : Nat → Int, SeesV W a n (fun j => .int k (f j)) ∧ (a = none → c = 0) ∧ ∀ j, j < n → (Lit.int k (f j)).wf = true := by
  obtain ⟨fuel, hf⟩ := h
  rcases Deep.open_slice hu hf with ⟨hcs, _⟩ | ⟨x, l, cap, m, k', D, Pl, hcs, hb, hl, _, hm, _, hel⟩
  · simp [Value.cells] at hcs
    obtain ⟨rfl, rfl, rfl⟩ := hcs
    exact ⟨fun _ => 0, .nil _ _ _, fun _ => rfl, fun j hj => absurd hj (Nat.not_lt_zero _)⟩
  · simp [Value.cells] at hcs
    obtain ⟨rfl, rfl, rfl⟩ := hcs
    have hnm : n ≤ m := by rw [hm]; split <;> omega
    have key : ∀ i, i < n → ∃ y : Int, x.block < W.heap.size ∧ W.cell? (x.add i) = some (.int k y) ∧ (Lit.int k y).wf = true := by
      intro i hi
      obtain ⟨cs', e1, e2⟩ := hel i (by omega)
      rw [hcl, Nat.mul_one] at e1
      obtain ⟨_, hlen, hcell⟩ := World.cells?_some e1
      obtain ⟨y, e3, _, hw⟩ := DataW.trod_int he e2
      have e5 := hcell 0 (by omega)
      rw [e3, Deep.add_add, Nat.add_zero] at e5
      refine ⟨y, ?_, by simpa using e5, hw⟩
      have := World.block_lt_of_cell? W _ e5
      rwa [block_add] at this
    refine ⟨fun i => intOfV (W.cell? (x.add i)), fun q hq => ?_, fun e => (by cases e), fun j hj => ?_⟩
    · obtain ⟨y, hbl, hc, _⟩ := key q hq
      refine ⟨x, rfl, hbl, ?_⟩
      show W.cell? (x.add q) = some (.int k (intOfV (W.cell? (x.add q))))
      rw [hc]
      rfl
    · obtain ⟨y, _, hc, hw⟩ := key j hj
      show (Lit.int k (intOfV (W.cell? (x.add j)))).wf = true
      rw [hc]
      exact hw

theorem open_zs {H : Type} {enc : TypeId × Value → H} {W : World} {base : Nat} {sp : Nat → Bool} {held : Bool} {a : Option Addr} {n c : Nat} {d : DataW H} {ps : List MemPlace}
    (h : DataW.Trod enc Tryz.prog W base sp held 46 (.slice a n c) d ps) : ∃ f, CameZ W a n c f := by
  obtain ⟨f, h1, h2, _⟩ := open_numbers Tryz.underlying46 Tryz.underlying3 (by kernel_rfl) h
  exact ⟨f, h1, h2⟩

end Go.Proofs.YtiioccfcdkpblaaGreatDoor
