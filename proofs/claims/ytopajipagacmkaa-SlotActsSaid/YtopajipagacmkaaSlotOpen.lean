/-
  A slice of a slot's acts that came in, laid open.
-/
import Derived.Test.YtopajipagacmkaaSeesV
import Derived.Test.YtopajipagacmkaaIntOf
import Derived.Test.YtopajipagacmkaaOpen
import Derived.ProofKit
import Derived.OpenShut
namespace Go.Proofs.Ytopajipagacmkaa
open Go.ChangeShapes Go.WideShapes Go.ChangeAt Go.RowKit
set_option linter.unusedVariables false

structure SActs where
  z : Nat → Nat → Int
  k : Nat → Nat → Nat
  e : Nat → Nat
def actW (X : SActs) : Nat → Value := fun j => if j % 21 < 4 then .int .i64 (X.z (j / 21) (j % 21)) else if j % 21 < 20 then .int .u8 (X.k (j / 21) (j % 21 - 4) : Nat) else .int .u64 (X.e (j / 21) : Nat)
/-- What is told of a slice of acts that came in. -/
def CameS (w : World) (a : Option Addr) (n c : Nat) (X : SActs) : Prop := SeesV w a (n * 21) (actW X) ∧ ∀ i j, i < n → j < 4 → (Lit.int .i64 (X.z i j)).wf = true
theorem wf_u64s {n : Int} (h : (Lit.int .u64 n).wf = true) : 0 ≤ n := by
  simp [Lit.wf, IntKind.min, IntKind.max, IntKind.signed, IntKind.bits] at h
  omega

theorem open_acts11 {H : Type} {enc : TypeId × Value → H} {W : World} {base : Nat} {sp : Nat → Bool} {held : Bool} {a : Option Addr} {n c : Nat} {d : DataW H} {ps : List MemPlace}
    (h : DataW.Trod enc Try.prog W base sp held 22 (.slice a n c) d ps) : ∃ X, CameS W a n c X := by
  obtain ⟨fuel, hf⟩ := h
  rcases Deep.open_slice Try.underlying22 hf with ⟨hcs, _⟩ | ⟨x, l, cap, m, k, D, Pl, hcs, hb, hl, _, hm, _, hel⟩
  · simp [Value.cells] at hcs
    obtain ⟨rfl, rfl, rfl⟩ := hcs
    exact ⟨⟨fun _ _ => 0, fun _ _ => 0, fun _ => 0⟩, .nil _ _ _, fun i j hi => absurd hi (Nat.not_lt_zero _)⟩
  · simp [Value.cells] at hcs
    obtain ⟨rfl, rfl, rfl⟩ := hcs
    have hA : Try.prog.cellsOf 39 = 21 := by kernel_rfl
    have h1 : Try.prog.cellsOf 3 = 1 := by kernel_rfl
    have h8 : Try.prog.cellsOf 5 = 1 := by kernel_rfl
    have h16 : Try.prog.cellsOf 31 = 16 := by kernel_rfl
    have h9 : Try.prog.cellsOf 32 = 1 := by kernel_rfl
    have hnm : n ≤ m := by rw [hm]; split <;> omega
    have key : ∀ i, i < n → (∀ j, j < 4 → ∃ y : Int, W.cell? (x.add (i * 21 + j)) = some (.int .i64 y) ∧ (Lit.int .i64 y).wf = true) ∧ (∀ j, j < 16 → ∃ y : Int, W.cell? (x.add (i * 21 + (4 + j))) = some (.int .u8 y) ∧ (Lit.int .u8 y).wf = true) ∧ ∃ y : Int, W.cell? (x.add (i * 21 + 20)) = some (.int .u64 y) ∧ (Lit.int .u64 y).wf = true := by
      intro i hi
      obtain ⟨cs', e1, e2⟩ := hel i (by omega)
      rw [hA] at e1
      obtain ⟨_, hlen, hcell⟩ := World.cells?_some e1
      obtain ⟨xs, m1, _, _, _, hx, hel2⟩ := DataW.trod_struct Try.underlying39 e2
      have hx6 : xs.length = 6 := hx
      refine ⟨fun j hj => ?_, fun j hj => ?_, ?_⟩
      · match j, hj with
        | 0, _ =>
          have h0 : DataW.trod enc Try.prog W base sp held m1 3 ((cs'.drop 0).take (Try.prog.cellsOf 3)) = xs[0]? := hel2 0 _ rfl
          rw [List.getElem?_eq_getElem (by omega), h1] at h0
          obtain ⟨y, e3, _, hw⟩ := DataW.trod_int Try.underlying3 h0
          have e4 : cs'[0]? = some (.int .i64 y) := by
            have : ((cs'.drop 0).take 1)[0]? = some (.int .i64 y) := by rw [e3]; rfl
            simpa using this
          have e5 := hcell 0 (by omega)
          rw [e4, Deep.add_add] at e5
          exact ⟨y, e5, hw⟩
        | 1, _ =>
          have h0 : DataW.trod enc Try.prog W base sp held m1 3 ((cs'.drop 1).take (Try.prog.cellsOf 3)) = xs[1]? := hel2 1 _ rfl
          rw [List.getElem?_eq_getElem (by omega), h1] at h0
          obtain ⟨y, e3, _, hw⟩ := DataW.trod_int Try.underlying3 h0
          have e4 : cs'[1]? = some (.int .i64 y) := by
            have : ((cs'.drop 1).take 1)[0]? = some (.int .i64 y) := by rw [e3]; rfl
            simpa using this
          have e5 := hcell 1 (by omega)
          rw [e4, Deep.add_add] at e5
          exact ⟨y, e5, hw⟩
        | 2, _ =>
          have h0 : DataW.trod enc Try.prog W base sp held m1 3 ((cs'.drop 2).take (Try.prog.cellsOf 3)) = xs[2]? := hel2 2 _ rfl
          rw [List.getElem?_eq_getElem (by omega), h1] at h0
          obtain ⟨y, e3, _, hw⟩ := DataW.trod_int Try.underlying3 h0
          have e4 : cs'[2]? = some (.int .i64 y) := by
            have : ((cs'.drop 2).take 1)[0]? = some (.int .i64 y) := by rw [e3]; rfl
            simpa using this
          have e5 := hcell 2 (by omega)
          rw [e4, Deep.add_add] at e5
          exact ⟨y, e5, hw⟩
        | 3, _ =>
          have h0 : DataW.trod enc Try.prog W base sp held m1 3 ((cs'.drop 3).take (Try.prog.cellsOf 3)) = xs[3]? := hel2 3 _ rfl
          rw [List.getElem?_eq_getElem (by omega), h1] at h0
          obtain ⟨y, e3, _, hw⟩ := DataW.trod_int Try.underlying3 h0
          have e4 : cs'[3]? = some (.int .i64 y) := by
            have : ((cs'.drop 3).take 1)[0]? = some (.int .i64 y) := by rw [e3]; rfl
            simpa using this
          have e5 := hcell 3 (by omega)
          rw [e4, Deep.add_add] at e5
          exact ⟨y, e5, hw⟩
      · have h0 : DataW.trod enc Try.prog W base sp held m1 31 ((cs'.drop 4).take (Try.prog.cellsOf 31)) = xs[4]? := hel2 4 _ rfl
        rw [List.getElem?_eq_getElem (by omega), h16] at h0
        obtain ⟨ys, m2, _, _, _, hy, hel3⟩ := DataW.trod_array Try.underlying31 h0
        have g0 := hel3 j hj
        rw [List.getElem?_eq_getElem (by omega), h8, Nat.mul_one] at g0
        obtain ⟨y, e3, _, hw⟩ := DataW.trod_int Try.underlying5 g0
        have e4 : cs'[4 + j]? = some (.int .u8 y) := by
          have h3 : ((((cs'.drop 4).take 16).drop j).take 1)[0]? = some (.int .u8 y) := by rw [e3]; rfl
          rw [List.getElem?_take_of_lt (by decide), List.getElem?_drop, Nat.add_zero, List.getElem?_take_of_lt hj, List.getElem?_drop] at h3
          exact h3
        have e5 := hcell (4 + j) (by omega)
        rw [e4, Deep.add_add] at e5
        exact ⟨y, e5, hw⟩
      · have h0 : DataW.trod enc Try.prog W base sp held m1 32 ((cs'.drop 20).take (Try.prog.cellsOf 32)) = xs[5]? := hel2 5 _ rfl
        rw [List.getElem?_eq_getElem (by omega), h9] at h0
        obtain ⟨y, e3, _, hw⟩ := DataW.trod_int Try.underlying32 h0
        have e4 : cs'[20]? = some (.int .u64 y) := by
          have : ((cs'.drop 20).take 1)[0]? = some (.int .u64 y) := by rw [e3]; rfl
          simpa using this
        have e5 := hcell 20 (by omega)
        rw [e4, Deep.add_add] at e5
        exact ⟨y, e5, hw⟩
    refine ⟨⟨fun i j => intOfV (W.cell? (x.add (i * 21 + j))), fun i j => (intOfV (W.cell? (x.add (i * 21 + (4 + j))))).toNat, fun i => (intOfV (W.cell? (x.add (i * 21 + 20)))).toNat⟩, fun q hq => ?_, fun i j hi hj => ?_⟩
    · obtain ⟨k1, k2, y5, k3, w5⟩ := key (q / 21) (by omega)
      have blk : ∀ {r : Nat} {v : Value}, W.cell? (x.add r) = some v → x.block < W.heap.size := fun hc => by
        have := World.block_lt_of_cell? W _ hc
        rwa [block_add] at this
      have eq : q / 21 * 21 + q % 21 = q := by omega
      unfold actW
      by_cases c : q % 21 < 4
      · obtain ⟨y, hc, _⟩ := k1 (q % 21) c
        refine ⟨x, rfl, blk hc, ?_⟩
        rw [if_pos c]
        show W.cell? (x.add q) = some (.int .i64 (intOfV (W.cell? (x.add (q / 21 * 21 + q % 21)))))
        rw [eq] at hc ⊢
        rw [hc]
        rfl
      · rw [if_neg c]
        by_cases d : q % 21 < 20
        · obtain ⟨y, hc, hw⟩ := k2 (q % 21 - 4) (by omega)
          refine ⟨x, rfl, blk hc, ?_⟩
          rw [if_pos d]
          show W.cell? (x.add q) = some (.int .u8 (((intOfV (W.cell? (x.add (q / 21 * 21 + (4 + (q % 21 - 4)))))).toNat : Nat) : Int))
          rw [show q / 21 * 21 + (4 + (q % 21 - 4)) = q by omega] at hc ⊢
          rw [hc]
          have := wf_u8 hw
          show some (Value.int .u8 y) = some (Value.int .u8 ((y.toNat : Nat) : Int))
          rw [Int.toNat_of_nonneg this.1]
        · have e6 : q % 21 = 20 := by omega
          rw [e6] at eq
          refine ⟨x, rfl, blk k3, ?_⟩
          rw [if_neg d]
          show W.cell? (x.add q) = some (.int .u64 (((intOfV (W.cell? (x.add (q / 21 * 21 + 20)))).toNat : Nat) : Int))
          rw [eq] at k3 ⊢
          rw [k3]
          have := wf_u64s w5
          show some (Value.int .u64 y5) = some (Value.int .u64 ((y5.toNat : Nat) : Int))
          rw [Int.toNat_of_nonneg this]
    · obtain ⟨y, hc, hw⟩ := (key i hi).1 j hj
      show (Lit.int .i64 (intOfV (W.cell? (x.add (i * 21 + j))))).wf = true
      rw [hc]
      exact hw

end Go.Proofs.Ytopajipagacmkaa
