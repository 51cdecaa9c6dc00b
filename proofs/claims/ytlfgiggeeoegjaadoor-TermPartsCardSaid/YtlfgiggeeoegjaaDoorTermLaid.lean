/-
  What the listed variables give: the powers of ten lie in theirs; the door's own heap meets the condition. A slice of nodes that came in, laid open.
-/
import Derived.Test.YtlfgiggeeoegjaaDoorRows
import Derived.Test.YtlfgiggeeoegjaaDoorTermShelf
import Derived.Test.YtlfgiggeeoegjaaDoorTermNodes
import Derived.Test.YtlfgiggeeoegjaaDoorOpen
import Derived.ProofKit
import Derived.LaidMore
import Derived.OpenShut
import Derived.Stop.Joined
import Derived.Stop.LaidErr
import Derived.Lib.LaidTab
import Derived.KernelRfl
namespace Go.Proofs.YtlfgiggeeoegjaaDoor
open Go.ChangeShapes Go.WideShapes Go.ChangeAt Go.RowKit

/-- The list of the rows. -/
def listed {H : Type} : List (String × DataW H) := [("math/bits.deBruijn32tab", Rows.laid_math_bits_deBruijn32tab), ("math/bits.deBruijn64tab", Rows.laid_math_bits_deBruijn64tab), ("internal/strconv.uint64pow10", Rows.laid_internal_strconv_uint64pow10)]

set_option maxRecDepth 100000 in
theorem door_met (os : Os) (args : Array Value) : laidMetH Tryd.prog listed ((World.doorLaid Tryd.prog 24 os).forCall (fun _ _ => 0) ⟨#[], args, []⟩).memory :=
  laidMetH_of_parts3 (fuel := 8) (laidMet_of_run' 8 (by kernel_rfl) (by kernel_rfl)) (by kernel_rfl) (by kernel_rfl)

theorem of_laid {W : World} (h : laidMetH Tryd.prog listed W) : PTab W.heap.size W := by
  rw [MakeChecks.laidMetH_plain _ _ _ (by kernel_rfl)] at h
  have h3 : laidMet Tryd.prog (("internal/strconv.uint64pow10", Lib.tabData .u64 Lib.pow10Tab) :: []) W := h.tail.tail
  exact Lib.tabBelow_of_tabIs (Lib.tabIs_of_head (g := 0) (t := 72) (e := 62) (n := 20) (by kernel_rfl) (by kernel_rfl) Tryd.underlying72 Tryd.underlying62 (by kernel_rfl) (by kernel_rfl) h3)

/-- What is told of a slice of nodes that came in. -/
def CameN (w : World) (a : Option Addr) (n c : Nat) (K : Nds) : Prop := SeesN w a n K ∧ n ≤ c

def intOfV : Option Value → Int
  | some (.int _ z) => z
  | _ => 0

theorem open_nodes {H : Type} {enc : TypeId × Value → H} {W : World} {base : Nat} {sp : Nat → Bool} {held : Bool} {a : Option Addr} {n c : Nat} {d : DataW H} {ps : List MemPlace}
    (h : DataW.Trod enc Tryd.prog W base sp held 22 (.slice a n c) d ps) : ∃ K, CameN W a n c K := by
  obtain ⟨fuel, hf⟩ := h
  rcases Deep.open_slice Tryd.underlying22 hf with ⟨hcs, _⟩ | ⟨x, l, cap, m, k, D, Pl, hcs, hb, hl, _, hm, _, hel⟩
  · simp [Value.cells] at hcs
    obtain ⟨rfl, rfl, rfl⟩ := hcs
    exact ⟨fun _ _ => 0, .nil _ _ _, Nat.le_refl _⟩
  · simp [Value.cells] at hcs
    obtain ⟨rfl, rfl, rfl⟩ := hcs
    have h3 : Tryd.prog.cellsOf 41 = 3 := by kernel_rfl
    have h1 : Tryd.prog.cellsOf 3 = 1 := by kernel_rfl
    have hnm : n ≤ m := by rw [hm]; split <;> omega
    have key : ∀ i, i < n → ∀ j, j < 3 → ∃ y : Int, x.block < W.heap.size ∧ W.cell? (x.add (i * 3 + j)) = some (.int .i64 y) := by
      intro i hi j hj
      obtain ⟨cs', e1, e2⟩ := hel i (by omega)
      rw [h3] at e1
      obtain ⟨_, hlen, hcell⟩ := World.cells?_some e1
      obtain ⟨xs, m1, _, _, _, hx, hel2⟩ := DataW.trod_struct Tryd.underlying41 e2
      have hx3 : xs.length = 3 := hx
      have e4 : ∃ y, cs'[j]? = some (.int .i64 y) := by
        match j, hj with
        | 0, _ =>
          have h0 : DataW.trod enc Tryd.prog W base sp held m1 3 ((cs'.drop 0).take (Tryd.prog.cellsOf 3)) = xs[0]? := hel2 0 _ rfl
          rw [List.getElem?_eq_getElem (by omega), h1] at h0
          obtain ⟨y, e3, _, _⟩ := DataW.trod_int Tryd.underlying3 h0
          exact ⟨y, by have : ((cs'.drop 0).take 1)[0]? = some (.int .i64 y) := by rw [e3]; rfl
                       simpa using this⟩
        | 1, _ =>
          have h0 : DataW.trod enc Tryd.prog W base sp held m1 3 ((cs'.drop 1).take (Tryd.prog.cellsOf 3)) = xs[1]? := hel2 1 _ rfl
          rw [List.getElem?_eq_getElem (by omega), h1] at h0
          obtain ⟨y, e3, _, _⟩ := DataW.trod_int Tryd.underlying3 h0
          exact ⟨y, by have : ((cs'.drop 1).take 1)[0]? = some (.int .i64 y) := by rw [e3]; rfl
                       simpa using this⟩
        | 2, _ =>
          have h0 : DataW.trod enc Tryd.prog W base sp held m1 3 ((cs'.drop 2).take (Tryd.prog.cellsOf 3)) = xs[2]? := hel2 2 _ rfl
          rw [List.getElem?_eq_getElem (by omega), h1] at h0
          obtain ⟨y, e3, _, _⟩ := DataW.trod_int Tryd.underlying3 h0
          exact ⟨y, by have : ((cs'.drop 2).take 1)[0]? = some (.int .i64 y) := by rw [e3]; rfl
                       simpa using this⟩
      obtain ⟨y, e4⟩ := e4
      have e5 := hcell j hj
      rw [e4, Deep.add_add] at e5
      refine ⟨y, ?_, e5⟩
      have := World.block_lt_of_cell? W _ e5
      rwa [block_add] at this
    refine ⟨fun i j => intOfV (W.cell? (x.add (i * 3 + j))), fun q hq => ?_, hl⟩
    obtain ⟨y, hbl, hc⟩ := key (q / 3) (by omega) (q % 3) (by omega)
    have eq : q / 3 * 3 + q % 3 = q := by omega
    refine ⟨x, rfl, hbl, ?_⟩
    show W.cell? (x.add q) = some (.int .i64 (intOfV (W.cell? (x.add (q / 3 * 3 + q % 3)))))
    rw [eq] at hc ⊢
    rw [hc]
    rfl

end Go.Proofs.YtlfgiggeeoegjaaDoor
