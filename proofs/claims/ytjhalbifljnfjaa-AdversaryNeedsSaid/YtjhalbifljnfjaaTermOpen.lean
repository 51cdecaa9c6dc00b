/-
  A slice of nodes that came in, laid open.
-/
import Derived.Test.YtjhalbifljnfjaaTermNodes
import Derived.Test.YtjhalbifljnfjaaOpen
import Derived.ProofKit
import Derived.OpenShut
namespace Go.Proofs.Ytjhalbifljnfjaa
open Go.ChangeShapes Go.WideShapes Go.ChangeAt Go.RowKit

/-- What is told of a slice of nodes that came in. -/
def CameN (w : World) (a : Option Addr) (n c : Nat) (K : Nds) : Prop := SeesN w a n K ∧ n ≤ c

def intOfV : Option Value → Int
  | some (.int _ z) => z
  | _ => 0

theorem open_nodes {H : Type} {enc : TypeId × Value → H} {W : World} {base : Nat} {sp : Nat → Bool} {held : Bool} {a : Option Addr} {n c : Nat} {d : DataW H} {ps : List MemPlace}
    (h : DataW.Trod enc Try.prog W base sp held 22 (.slice a n c) d ps) : ∃ K, CameN W a n c K := by
  obtain ⟨fuel, hf⟩ := h
  rcases Deep.open_slice Try.underlying22 hf with ⟨hcs, _⟩ | ⟨x, l, cap, m, k, D, Pl, hcs, hb, hl, _, hm, _, hel⟩
  · simp [Value.cells] at hcs
    obtain ⟨rfl, rfl, rfl⟩ := hcs
    exact ⟨fun _ _ => 0, .nil _ _ _, Nat.le_refl _⟩
  · simp [Value.cells] at hcs
    obtain ⟨rfl, rfl, rfl⟩ := hcs
    have h3 : Try.prog.cellsOf 42 = 3 := by kernel_rfl
    have h1 : Try.prog.cellsOf 3 = 1 := by kernel_rfl
    have hnm : n ≤ m := by rw [hm]; split <;> omega
    have key : ∀ i, i < n → ∀ j, j < 3 → ∃ y : Int, x.block < W.heap.size ∧ W.cell? (x.add (i * 3 + j)) = some (.int .i64 y) := by
      intro i hi j hj
      obtain ⟨cs', e1, e2⟩ := hel i (by omega)
      rw [h3] at e1
      obtain ⟨_, hlen, hcell⟩ := World.cells?_some e1
      obtain ⟨xs, m1, _, _, _, hx, hel2⟩ := DataW.trod_struct Try.underlying42 e2
      have hx3 : xs.length = 3 := hx
      have e4 : ∃ y, cs'[j]? = some (.int .i64 y) := by
        match j, hj with
        | 0, _ =>
          have h0 : DataW.trod enc Try.prog W base sp held m1 3 ((cs'.drop 0).take (Try.prog.cellsOf 3)) = xs[0]? := hel2 0 _ rfl
          rw [List.getElem?_eq_getElem (by omega), h1] at h0
          obtain ⟨y, e3, _, _⟩ := DataW.trod_int Try.underlying3 h0
          exact ⟨y, by have : ((cs'.drop 0).take 1)[0]? = some (.int .i64 y) := by rw [e3]; rfl
                       simpa using this⟩
        | 1, _ =>
          have h0 : DataW.trod enc Try.prog W base sp held m1 3 ((cs'.drop 1).take (Try.prog.cellsOf 3)) = xs[1]? := hel2 1 _ rfl
          rw [List.getElem?_eq_getElem (by omega), h1] at h0
          obtain ⟨y, e3, _, _⟩ := DataW.trod_int Try.underlying3 h0
          exact ⟨y, by have : ((cs'.drop 1).take 1)[0]? = some (.int .i64 y) := by rw [e3]; rfl
                       simpa using this⟩
        | 2, _ =>
          have h0 : DataW.trod enc Try.prog W base sp held m1 3 ((cs'.drop 2).take (Try.prog.cellsOf 3)) = xs[2]? := hel2 2 _ rfl
          rw [List.getElem?_eq_getElem (by omega), h1] at h0
          obtain ⟨y, e3, _, _⟩ := DataW.trod_int Try.underlying3 h0
          exact ⟨y, by have : ((cs'.drop 2).take 1)[0]? = some (.int .i64 y) := by rw [e3]; rfl
                       simpa using this⟩
      obtain ⟨y, e4⟩ := e4
      have e5 := hcell j hj
      rw [e4, Deep.add_add] at e5
      refine ⟨y, ?_, e5⟩
      have := World.block_lt_of_cell? W _ e5
      rwa [block_add] at this
    refine ⟨fun i j => intOfV (W.cell? (x.add (i * 3 + j))), fun q hq => ?_, hl⟩
    obtain ⟨y, hbl, hc⟩ := key (q / 3) (by omega) (q % 3) (by omega)
    have eq : q / 3 * 3 + q % 3 = q := by omega
    refine ⟨x, rfl, hbl, ?_⟩
    show W.cell? (x.add q) = some (.int .i64 (intOfV (W.cell? (x.add (q / 3 * 3 + q % 3)))))
    rw [eq] at hc ⊢
    rw [hc]
    rfl

end Go.Proofs.Ytjhalbifljnfjaa
