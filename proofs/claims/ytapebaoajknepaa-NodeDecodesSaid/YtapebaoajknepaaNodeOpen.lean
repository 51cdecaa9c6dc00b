/-
  A node, a child that came in, laid open.
-/
import Derived.Test.YtapebaoajknepaaNodeEq
import Derived.Test.YtapebaoajknepaaOpen
import Derived.ProofKit
import Derived.OpenShut
import Derived.WideShapes
namespace Go.Proofs.Ytapebaoajknepaa
open Go.ChangeShapes Go.WideShapes Go.ChangeAt Go.RowKit
set_option linter.unusedVariables false

theorem cut_get {α : Type} (l : List α) (a n r : Nat) (h : r < n) : ((l.drop a).take n)[r]? = l[a + r]? := by
  rw [List.getElem?_take, if_pos h, List.getElem?_drop]
theorem one_cut {α : Type} {l : List α} {a : Nat} {v : α} (h : (l.drop a).take 1 = [v]) : l[a]? = some v := by
  have := cut_get l a 1 0 (by decide)
  rw [h] at this
  simpa using this.symm

section
variable {H : Type} {enc : TypeId × Value → H} {W : World} {base : Nat} {sp : Nat → Bool} {held : Bool}
theorem trod_key {m : Nat} {l : List Value} {y : DataW H × List MemPlace} (h : DataW.trod enc Try.prog W base sp held m 23 l = some y) : ∃ f : Nat → Nat, (∀ j, j < 16 → f j < 256) ∧ ∀ j, j < 16 → l[j]? = some (.int .u8 (f j : Nat)) := by
  obtain ⟨xs, m1, _, _, hl, hx, hel⟩ := DataW.trod_array Try.underlying23 h
  have hc : Try.prog.cellsOf 5 = 1 := by kernel_rfl
  have each : ∀ j, j < 16 → ∃ x : Nat, x < 256 ∧ l[j]? = some (.int .u8 (x : Int)) := fun j hj => by
    have h0 := hel j hj
    rw [List.getElem?_eq_getElem (by omega), hc, Nat.mul_one] at h0
    obtain ⟨x, e1, _, hw⟩ := DataW.trod_int Try.underlying5 h0
    have hb := wf_u8 hw
    refine ⟨x.toNat, by omega, ?_⟩
    rw [one_cut e1, Int.toNat_of_nonneg hb.1]
  refine ⟨fun j => natOf l[j]?, fun j hj => ?_, fun j hj => ?_⟩
  · obtain ⟨x, h1, h2⟩ := each j hj
    show natOf l[j]? < 256
    rw [h2]
    show (x : Int).toNat < 256
    omega
  · obtain ⟨x, h1, h2⟩ := each j hj
    have e : natOf l[j]? = x := by
      rw [h2]
      show (x : Int).toNat = x
      omega
    show l[j]? = some (Value.int .u8 ((natOf l[j]? : Nat) : Int))
    rw [e]
    exact h2
theorem wf_u64' {n : Int} (h : (Lit.int .u64 n).wf = true) : 0 ≤ n ∧ n < 18446744073709551616 := by
  simp [Lit.wf, IntKind.min, IntKind.max, IntKind.signed, IntKind.bits] at h
  omega
theorem trod_chd {m : Nat} {l : List Value} {y : DataW H × List MemPlace} (h : DataW.trod enc Try.prog W base sp held m 26 l = some y) : ∃ c : Chd, BndC c ∧ ∀ j, j < 21 → l[j]? = some (chF c j) := by
  have k1 : Try.prog.cellsOf 4 = 1 := by kernel_rfl
  have k2 : Try.prog.cellsOf 3 = 1 := by kernel_rfl
  have k3 : Try.prog.cellsOf 23 = 16 := by kernel_rfl
  have k4 : Try.prog.cellsOf 24 = 1 := by kernel_rfl
  obtain ⟨xs, m1, _, _, hl, hx, hel⟩ := DataW.trod_struct Try.underlying26 h
  have hx6 : xs.length = 6 := hx
  have a0 : DataW.trod enc Try.prog W base sp held m1 4 ((l.drop 0).take (Try.prog.cellsOf 4)) = xs[0]? := hel 0 _ rfl
  have a1 : DataW.trod enc Try.prog W base sp held m1 3 ((l.drop 1).take (Try.prog.cellsOf 3)) = xs[1]? := hel 1 _ rfl
  have a2 : DataW.trod enc Try.prog W base sp held m1 3 ((l.drop 2).take (Try.prog.cellsOf 3)) = xs[2]? := hel 2 _ rfl
  have a3 : DataW.trod enc Try.prog W base sp held m1 23 ((l.drop 3).take (Try.prog.cellsOf 23)) = xs[3]? := hel 3 _ rfl
  have a4 : DataW.trod enc Try.prog W base sp held m1 24 ((l.drop 19).take (Try.prog.cellsOf 24)) = xs[4]? := hel 4 _ rfl
  have a5 : DataW.trod enc Try.prog W base sp held m1 24 ((l.drop 20).take (Try.prog.cellsOf 24)) = xs[5]? := hel 5 _ rfl
  rw [List.getElem?_eq_getElem (by omega), k1] at a0
  rw [List.getElem?_eq_getElem (by omega), k2] at a1
  rw [List.getElem?_eq_getElem (by omega), k2] at a2
  rw [List.getElem?_eq_getElem (by omega), k3] at a3
  rw [List.getElem?_eq_getElem (by omega), k4] at a4
  rw [List.getElem?_eq_getElem (by omega), k4] at a5
  obtain ⟨b, e0, _⟩ := DataW.trod_bool Try.underlying4 a0
  obtain ⟨s, e1, _, _⟩ := DataW.trod_int Try.underlying3 a1
  obtain ⟨p, e2, _, _⟩ := DataW.trod_int Try.underlying3 a2
  obtain ⟨f, hf, e3⟩ := trod_key a3
  obtain ⟨x, e4, _, w4⟩ := DataW.trod_int Try.underlying24 a4
  obtain ⟨v, e5, _, w5⟩ := DataW.trod_int Try.underlying24 a5
  have hx' := wf_u64' w4
  have hv' := wf_u64' w5
  refine ⟨⟨b, s, p, f, x.toNat, v.toNat⟩, ⟨hf, by show x.toNat < _; omega, by show v.toNat < _; omega⟩, fun j hj => ?_⟩
  unfold chF
  by_cases h0 : j = 0
  · rw [if_pos h0, h0]; exact one_cut e0
  · rw [if_neg h0]
    by_cases h1 : j = 1
    · rw [if_pos h1, h1]; exact one_cut e1
    · rw [if_neg h1]
      by_cases h2 : j = 2
      · rw [if_pos h2, h2]; exact one_cut e2
      · rw [if_neg h2]
        by_cases h3 : j < 19
        · rw [if_pos h3]
          have := e3 (j - 3) (by omega)
          rw [cut_get _ _ _ _ (by omega), show 3 + (j - 3) = j by omega] at this
          exact this
        · rw [if_neg h3]
          by_cases h4 : j = 19
          · rw [if_pos h4, h4, one_cut e4]
            show some (Value.int .u64 x) = some (.int .u64 ((x.toNat : Nat) : Int))
            rw [Int.toNat_of_nonneg hx'.1]
          · rw [if_neg h4, show j = 20 by omega, one_cut e5]
            show some (Value.int .u64 v) = some (.int .u64 ((v.toNat : Nat) : Int))
            rw [Int.toNat_of_nonneg hv'.1]
theorem row_of_gets {cs : Array Value} {n : Nat} {F : Nat → Value} (hs : cs.size = n) (h : ∀ j, j < n → cs.toList[j]? = some (F j)) : cs = rowOf n F := by
  apply Array.ext
  · rw [hs, rowOf_size]
  · intro j h1 h2
    apply Option.some.inj
    rw [← Array.getElem?_eq_getElem h1, ← Array.getElem?_eq_getElem h2, ← Array.getElem?_toList, h j (by omega), rowOf_get _ _ _ (by omega)]
variable {v : Value} {d : DataW H} {ps : List MemPlace} {r : Reach} {b0 : Nat}
theorem open_chd (hv : Value.okWide Try.prog W r b0 26 v) (h : DataW.Trod enc Try.prog W base sp held 26 v d ps) : ∃ c : Chd, BndC c ∧ v = .agg (rowOf 21 (chF c)) := by
  obtain ⟨cs, rfl, hs⟩ := okWide_struct Try.underlying26 hv
  obtain ⟨fuel, hf⟩ := h
  obtain ⟨c, hb, hc⟩ := trod_chd hf
  exact ⟨c, hb, congrArg Value.agg (row_of_gets (hs.trans (by kernel_rfl)) hc)⟩
theorem open_nod (hv : Value.okWide Try.prog W r b0 29 v) (h : DataW.Trod enc Try.prog W base sp held 29 v d ps) : ∃ N : Nod, (∀ i, i < 4 → BndC (N.c i)) ∧ v = .agg (rowOf 85 (nF N)) := by
  obtain ⟨cs, rfl, hs⟩ := okWide_struct Try.underlying29 hv
  obtain ⟨fuel, hf⟩ := h
  obtain ⟨xs, m1, _, _, hl, hx, hel⟩ := DataW.trod_struct Try.underlying29 hf
  have hx2 : xs.length = 2 := hx
  have k1 : Try.prog.cellsOf 4 = 1 := by kernel_rfl
  have k2 : Try.prog.cellsOf 27 = 84 := by kernel_rfl
  have k3 : Try.prog.cellsOf 26 = 21 := by kernel_rfl
  have ec : (Value.agg cs).cells.toList = cs.toList := rfl
  rw [ec] at hel
  have a0 : DataW.trod enc Try.prog W base sp held m1 4 ((cs.toList.drop 0).take (Try.prog.cellsOf 4)) = xs[0]? := hel 0 _ rfl
  have a1 : DataW.trod enc Try.prog W base sp held m1 27 ((cs.toList.drop 1).take (Try.prog.cellsOf 27)) = xs[1]? := hel 1 _ rfl
  rw [List.getElem?_eq_getElem (by omega), k1] at a0
  rw [List.getElem?_eq_getElem (by omega), k2] at a1
  obtain ⟨b, e0, _⟩ := DataW.trod_bool Try.underlying4 a0
  obtain ⟨ys, m2, _, _, _, hy, hel2⟩ := DataW.trod_array Try.underlying27 a1
  have each : ∀ i, i < 4 → ∃ c : Chd, BndC c ∧ ∀ j, j < 21 → cs.toList[1 + i * 21 + j]? = some (chF c j) := fun i hi => by
    have h0 := hel2 i hi
    rw [List.getElem?_eq_getElem (by omega), k3] at h0
    obtain ⟨c, hb, hc⟩ := trod_chd h0
    refine ⟨c, hb, fun j hj => ?_⟩
    have := hc j hj
    rw [cut_get _ _ _ _ hj, cut_get _ _ _ _ (by omega), ← Nat.add_assoc] at this
    exact this
  obtain ⟨g, hg⟩ : ∃ g : Nat → Chd, ∀ i, i < 4 → BndC (g i) ∧ ∀ j, j < 21 → cs.toList[1 + i * 21 + j]? = some (chF (g i) j) :=
    ⟨fun i => if hi : i < 4 then Classical.choose (each i hi) else noChd, fun i hi => by
      simp only [hi, dif_pos]
      exact Classical.choose_spec (each i hi)⟩
  refine ⟨⟨b, g⟩, fun i hi => (hg i hi).1, congrArg Value.agg (row_of_gets (hs.trans (by kernel_rfl)) fun j hj => ?_)⟩
  unfold nF
  by_cases h0 : j = 0
  · rw [if_pos h0, h0]
    exact one_cut e0
  · rw [if_neg h0]
    have := (hg ((j - 1) / 21) (by omega)).2 ((j - 1) % 21) (by omega)
    rwa [show 1 + (j - 1) / 21 * 21 + (j - 1) % 21 = j by omega] at this
end

end Go.Proofs.Ytapebaoajknepaa
