/-
  A slice of keys that came in, laid open.
-/
import Derived.Test.YtopajipagacmkaaDrawKeys
import Derived.Test.YtopajipagacmkaaOpen
namespace Go.Proofs.Ytopajipagacmkaa
open Go.ChangeShapes Go.WideShapes Go.ChangeAt Go.RowKit

/-- What is told of a slice of keys that came in. -/
def CameKeys (w : World) (a : Option Addr) (n c : Nat) (K : Nat → Nat → Nat) : Prop := SeesK w a n K ∧ n ≤ c ∧ (∀ i j, K i j < 256) ∧ (a = none → c = 0)

theorem open_keys {H : Type} {enc : TypeId × Value → H} {W : World} {base : Nat} {sp : Nat → Bool} {held : Bool} {a : Option Addr} {n c : Nat} {d : DataW H} {ps : List MemPlace}
    (h : DataW.Trod enc Try.prog W base sp held 52 (.slice a n c) d ps) : ∃ K, CameKeys W a n c K := by
  obtain ⟨fuel, hf⟩ := h
  rcases Deep.open_slice Try.underlying52 hf with ⟨hcs, _⟩ | ⟨x, l, cap, m, k, D, Pl, hcs, hb, hl, _, hm, _, hel⟩
  · simp [Value.cells] at hcs
    obtain ⟨rfl, rfl, rfl⟩ := hcs
    exact ⟨fun _ _ => 0, .nil _ _ _, Nat.le_refl _, fun _ _ => Nat.zero_lt_succ 255, fun _ => rfl⟩
  · simp [Value.cells] at hcs
    obtain ⟨rfl, rfl, rfl⟩ := hcs
    have h16 : Try.prog.cellsOf 31 = 16 := by kernel_rfl
    have h1 : Try.prog.cellsOf 5 = 1 := by kernel_rfl
    have hnm : n ≤ m := by rw [hm]; split <;> omega
    have key : ∀ i, i < n → ∀ j, j < 16 → ∃ y : Nat, y < 256 ∧ x.block < W.heap.size ∧ W.cell? (x.add (i * 16 + j)) = some (.int .u8 (y : Int)) := by
      intro i hi j hj
      obtain ⟨cs', e1, e2⟩ := hel i (by omega)
      rw [h16] at e1
      obtain ⟨_, hlen, hcell⟩ := World.cells?_some e1
      obtain ⟨xs, m1, _, _, _, hx, hel2⟩ := DataW.trod_array Try.underlying31 e2
      have h0 := hel2 j hj
      rw [List.getElem?_eq_getElem (by omega), h1, Nat.mul_one] at h0
      obtain ⟨y, e3, _, hw⟩ := DataW.trod_int Try.underlying5 h0
      have hy := wf_u8 hw
      have e4 : cs'[j]? = some (.int .u8 y) := by
        have : ((cs'.drop j).take 1)[0]? = some (.int .u8 y) := by rw [e3]; rfl
        simpa using this
      have e5 := hcell j hj
      rw [e4, Deep.add_add] at e5
      refine ⟨y.toNat, by omega, ?_, ?_⟩
      · have := World.block_lt_of_cell? W _ e5
        rwa [block_add] at this
      · rw [e5, show ((y.toNat : Nat) : Int) = y by omega]
    refine ⟨fun i j => if i < n ∧ j < 16 then natOf (W.cell? (x.add (i * 16 + j))) else 0, fun q hq => ?_, hl, fun i j => ?_, fun h => by cases h⟩
    · obtain ⟨y, _, hbl, hc⟩ := key (q / 16) (by omega) (q % 16) (by omega)
      have eq : q / 16 * 16 + q % 16 = q := by omega
      refine ⟨x, rfl, hbl, ?_⟩
      unfold flatK
      simp only [show q / 16 < n ∧ q % 16 < 16 from ⟨by omega, by omega⟩, and_self, if_true]
      rw [eq] at hc ⊢
      rw [hc]
      rfl
    · by_cases hij : i < n ∧ j < 16
      · obtain ⟨y, hy, _, hc⟩ := key i hij.1 j hij.2
        simp only [hij, and_self, if_true, hc, natOf]
        omega
      · simp only [hij, if_false]
        decide

end Go.Proofs.Ytopajipagacmkaa
