/-
  A slice of acts that came in, laid open.
-/
import Derived.Test.YtogeccmeaacgnaaSeesZ
import Derived.Test.YtogeccmeaacgnaaIntOf
import Derived.Test.YtogeccmeaacgnaaNandRefA
import Derived.ProofKit
import Derived.OpenShut
namespace Go.Proofs.Ytogeccmeaacgnaa
open Go.ChangeShapes Go.WideShapes Go.ChangeAt Go.RowKit
set_option linter.unusedVariables false

structure Acts where
  z : Nat → Nat → Int
  b : Nat → Nat
  s : Nat → ByteArray
def actV (X : Acts) : Nat → Value := fun j => if j % 7 < 5 then .int .i64 (X.z (j / 7) (j % 7)) else if j % 7 = 5 then .int .u8 (X.b (j / 7) : Nat) else .string (X.s (j / 7))
/-- What is told of a slice of acts that came in. -/
def CameA (w : World) (a : Option Addr) (n c : Nat) (X : Acts) : Prop := SeesV w a (n * 7) (actV X) ∧ (∀ i j, i < n → j < 5 → (Lit.int .i64 (X.z i j)).wf = true) ∧ ∀ i, i < n → X.b i < 256
def strOfV : Option Value → ByteArray
  | some (.string s) => s
  | _ => ⟨#[]⟩
theorem wf_byte8 {n : Int} (h : (Lit.int .u8 n).wf = true) : 0 ≤ n ∧ n < 256 := by
  simp [Lit.wf, IntKind.min, IntKind.max, IntKind.signed, IntKind.bits] at h
  omega

theorem open_acts {H : Type} {enc : TypeId × Value → H} {W : World} {base : Nat} {sp : Nat → Bool} {held : Bool} {a : Option Addr} {n c : Nat} {d : DataW H} {ps : List MemPlace}
    (h : DataW.Trod enc Try.prog W base sp held 23 (.slice a n c) d ps) : ∃ X, CameA W a n c X := by
  obtain ⟨fuel, hf⟩ := h
  rcases Deep.open_slice Try.underlying23 hf with ⟨hcs, _⟩ | ⟨x, l, cap, m, k, D, Pl, hcs, hb, hl, _, hm, _, hel⟩
  · simp [Value.cells] at hcs
    obtain ⟨rfl, rfl, rfl⟩ := hcs
    exact ⟨⟨fun _ _ => 0, fun _ => 0, fun _ => ⟨#[]⟩⟩, .nil _ _ _, fun i j hi => absurd hi (Nat.not_lt_zero _), fun i hi => absurd hi (Nat.not_lt_zero _)⟩
  · simp [Value.cells] at hcs
    obtain ⟨rfl, rfl, rfl⟩ := hcs
    have h7 : Try.prog.cellsOf 40 = 7 := by kernel_rfl
    have h1 : Try.prog.cellsOf 3 = 1 := by kernel_rfl
    have h8 : Try.prog.cellsOf 5 = 1 := by kernel_rfl
    have h9 : Try.prog.cellsOf 9 = 1 := by kernel_rfl
    have hnm : n ≤ m := by rw [hm]; split <;> omega
    have key : ∀ i, i < n → (∀ j, j < 5 → ∃ y : Int, W.cell? (x.add (i * 7 + j)) = some (.int .i64 y) ∧ (Lit.int .i64 y).wf = true) ∧ (∃ y : Int, W.cell? (x.add (i * 7 + 5)) = some (.int .u8 y) ∧ (Lit.int .u8 y).wf = true) ∧ ∃ s, W.cell? (x.add (i * 7 + 6)) = some (.string s) := by
      intro i hi
      obtain ⟨cs', e1, e2⟩ := hel i (by omega)
      rw [h7] at e1
      obtain ⟨_, hlen, hcell⟩ := World.cells?_some e1
      obtain ⟨xs, m1, _, _, _, hx, hel2⟩ := DataW.trod_struct Try.underlying40 e2
      have hx7 : xs.length = 7 := hx
      refine ⟨fun j hj => ?_, ?_, ?_⟩
      · match j, hj with
        | 0, _ =>
          have h0 : DataW.trod enc Try.prog W base sp held m1 3 ((cs'.drop 0).take (Try.prog.cellsOf 3)) = xs[0]? := hel2 0 _ rfl
          rw [List.getElem?_eq_getElem (by omega), h1] at h0
          obtain ⟨y, e3, _, hw⟩ := DataW.trod_int Try.underlying3 h0
          have e4 : cs'[0]? = some (.int .i64 y) := by
            have : ((cs'.drop 0).take 1)[0]? = some (.int .i64 y) := by rw [e3]; rfl
            simpa using this
          have e5 := hcell 0 (by omega)
          rw [e4, Deep.add_add] at e5
          exact ⟨y, e5, hw⟩
        | 1, _ =>
          have h0 : DataW.trod enc Try.prog W base sp held m1 3 ((cs'.drop 1).take (Try.prog.cellsOf 3)) = xs[1]? := hel2 1 _ rfl
          rw [List.getElem?_eq_getElem (by omega), h1] at h0
          obtain ⟨y, e3, _, hw⟩ := DataW.trod_int Try.underlying3 h0
          have e4 : cs'[1]? = some (.int .i64 y) := by
            have : ((cs'.drop 1).take 1)[0]? = some (.int .i64 y) := by rw [e3]; rfl
            simpa using this
          have e5 := hcell 1 (by omega)
          rw [e4, Deep.add_add] at e5
          exact ⟨y, e5, hw⟩
        | 2, _ =>
          have h0 : DataW.trod enc Try.prog W base sp held m1 3 ((cs'.drop 2).take (Try.prog.cellsOf 3)) = xs[2]? := hel2 2 _ rfl
          rw [List.getElem?_eq_getElem (by omega), h1] at h0
          obtain ⟨y, e3, _, hw⟩ := DataW.trod_int Try.underlying3 h0
          have e4 : cs'[2]? = some (.int .i64 y) := by
            have : ((cs'.drop 2).take 1)[0]? = some (.int .i64 y) := by rw [e3]; rfl
            simpa using this
          have e5 := hcell 2 (by omega)
          rw [e4, Deep.add_add] at e5
          exact ⟨y, e5, hw⟩
        | 3, _ =>
          have h0 : DataW.trod enc Try.prog W base sp held m1 3 ((cs'.drop 3).take (Try.prog.cellsOf 3)) = xs[3]? := hel2 3 _ rfl
          rw [List.getElem?_eq_getElem (by omega), h1] at h0
          obtain ⟨y, e3, _, hw⟩ := DataW.trod_int Try.underlying3 h0
          have e4 : cs'[3]? = some (.int .i64 y) := by
            have : ((cs'.drop 3).take 1)[0]? = some (.int .i64 y) := by rw [e3]; rfl
            simpa using this
          have e5 := hcell 3 (by omega)
          rw [e4, Deep.add_add] at e5
          exact ⟨y, e5, hw⟩
        | 4, _ =>
          have h0 : DataW.trod enc Try.prog W base sp held m1 3 ((cs'.drop 4).take (Try.prog.cellsOf 3)) = xs[4]? := hel2 4 _ rfl
          rw [List.getElem?_eq_getElem (by omega), h1] at h0
          obtain ⟨y, e3, _, hw⟩ := DataW.trod_int Try.underlying3 h0
          have e4 : cs'[4]? = some (.int .i64 y) := by
            have : ((cs'.drop 4).take 1)[0]? = some (.int .i64 y) := by rw [e3]; rfl
            simpa using this
          have e5 := hcell 4 (by omega)
          rw [e4, Deep.add_add] at e5
          exact ⟨y, e5, hw⟩
      · have h0 : DataW.trod enc Try.prog W base sp held m1 5 ((cs'.drop 5).take (Try.prog.cellsOf 5)) = xs[5]? := hel2 5 _ rfl
        rw [List.getElem?_eq_getElem (by omega), h8] at h0
        obtain ⟨y, e3, _, hw⟩ := DataW.trod_int Try.underlying5 h0
        have e4 : cs'[5]? = some (.int .u8 y) := by
          have : ((cs'.drop 5).take 1)[0]? = some (.int .u8 y) := by rw [e3]; rfl
          simpa using this
        have e5 := hcell 5 (by omega)
        rw [e4, Deep.add_add] at e5
        exact ⟨y, e5, hw⟩
      · have h0 : DataW.trod enc Try.prog W base sp held m1 9 ((cs'.drop 6).take (Try.prog.cellsOf 9)) = xs[6]? := hel2 6 _ rfl
        rw [List.getElem?_eq_getElem (by omega), h9] at h0
        obtain ⟨s, e3, _, _⟩ := DataW.trod_string Try.underlying9 h0
        have e4 : cs'[6]? = some (.string s) := by
          have : ((cs'.drop 6).take 1)[0]? = some (.string s) := by rw [e3]; rfl
          simpa using this
        have e5 := hcell 6 (by omega)
        rw [e4, Deep.add_add] at e5
        exact ⟨s, e5⟩
    refine ⟨⟨fun i j => intOfV (W.cell? (x.add (i * 7 + j))), fun i => (intOfV (W.cell? (x.add (i * 7 + 5)))).toNat, fun i => strOfV (W.cell? (x.add (i * 7 + 6)))⟩, fun q hq => ?_, fun i j hi hj => ?_, fun i hi => ?_⟩
    · obtain ⟨k1, ⟨y5, k2, w5⟩, s6, k3⟩ := key (q / 7) (by omega)
      have blk : ∀ {r : Nat} {v : Value}, W.cell? (x.add r) = some v → x.block < W.heap.size := fun hc => by
        have := World.block_lt_of_cell? W _ hc
        rwa [block_add] at this
      have eq : q / 7 * 7 + q % 7 = q := by omega
      unfold actV
      by_cases c : q % 7 < 5
      · obtain ⟨y, hc, _⟩ := k1 (q % 7) c
        refine ⟨x, rfl, blk hc, ?_⟩
        rw [if_pos c]
        show W.cell? (x.add q) = some (.int .i64 (intOfV (W.cell? (x.add (q / 7 * 7 + q % 7)))))
        rw [eq] at hc ⊢
        rw [hc]
        rfl
      · rw [if_neg c]
        by_cases d : q % 7 = 5
        · rw [d] at eq
          refine ⟨x, rfl, blk k2, ?_⟩
          rw [if_pos d]
          show W.cell? (x.add q) = some (.int .u8 (((intOfV (W.cell? (x.add (q / 7 * 7 + 5)))).toNat : Nat) : Int))
          rw [eq] at k2 ⊢
          rw [k2]
          have := wf_byte8 w5
          show some (Value.int .u8 y5) = some (Value.int .u8 ((y5.toNat : Nat) : Int))
          rw [Int.toNat_of_nonneg this.1]
        · have e6 : q % 7 = 6 := by omega
          rw [e6] at eq
          refine ⟨x, rfl, blk k3, ?_⟩
          rw [if_neg d]
          show W.cell? (x.add q) = some (.string (strOfV (W.cell? (x.add (q / 7 * 7 + 6)))))
          rw [eq] at k3 ⊢
          rw [k3]
          rfl
    · obtain ⟨y, hc, hw⟩ := (key i hi).1 j hj
      show (Lit.int .i64 (intOfV (W.cell? (x.add (i * 7 + j))))).wf = true
      rw [hc]
      exact hw
    · obtain ⟨y, hc, hw⟩ := (key i hi).2.1
      show (intOfV (W.cell? (x.add (i * 7 + 5)))).toNat < 256
      rw [hc]
      have := wf_byte8 hw
      show y.toNat < 256
      omega

end Go.Proofs.Ytogeccmeaacgnaa
