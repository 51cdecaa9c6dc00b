/-
  What the listed variables give: the numbers K lie in theirs; a world that holds them meets the condition; a frame that came in, laid open.
-/
import Derived.Test.YtcglbbkphgdnmaaDoorRows
import Derived.Test.YtcglbbkphgdnmaaDoorShaStep
import Derived.Test.YtcglbbkphgdnmaaDoorOpen
import Derived.ProofKit
import Derived.LaidMore
import Derived.Lay
import Derived.LaidOnce
import Derived.OpenShut
import Derived.WideShapes
import Derived.Stop.Joined
import Derived.KernelRfl
namespace Go.Proofs.YtcglbbkphgdnmaaDoor
open Go.ChangeShapes Go.WideShapes Go.ChangeAt Go.RowKit
set_option linter.unusedVariables false

theorem gRounds : Tryd.prog.globalNamed "oblivion/sha.rounds" = some 0 := by kernel_rfl
theorem tRounds : (Tryd.prog.globals[0]?).map (·.type) = some 108 := by kernel_rfl
theorem kRounds {H : Type} : (Rows.laid_oblivion_sha_rounds : DataW H) = .agg (kList.map fun k => .lit (.int .u32 ((k : Nat) : Int))) := rfl

/-- The list of the rows. -/
def listed : List (String × DataW Unit) := [("oblivion/sha.rounds", Rows.laid_oblivion_sha_rounds), ("unicode/utf8.acceptRanges", Rows.laid_unicode_utf8_acceptRanges), ("unicode/utf8.first", Rows.laid_unicode_utf8_first)]

set_option maxRecDepth 100000 in
theorem door_met (os : Os) (args : Array Value) : laidMetH Tryd.prog listed ((World.laidAll Tryd.prog os listed).forCall (fun _ _ => 0) ⟨#[], args, []⟩).memory := by
  rw [MakeChecks.laidMetH_plain _ _ _ (by kernel_rfl)]
  exact laidMet_laidAll _ (by kernel_rfl) (by kernel_rfl)

set_option maxRecDepth 100000 in
theorem door_shaped (os : Os) : (World.laidAll Tryd.prog os listed).Shaped Tryd.prog := World.shaped_of_ZipB (by kernel_rfl) (by kernel_rfl)

theorem of_laid {W : World} (h : laidMetH Tryd.prog listed W) : KRow W := by
  rw [MakeChecks.laidMetH_plain _ _ _ (by kernel_rfl)] at h
  obtain ⟨ps, ⟨g0, t0, cs0, f0, p0, q0, hg0, ht0, hv0, hd0, _, _⟩, _, _⟩ := h
  obtain rfl := Option.some.inj (gRounds.symm.trans hg0)
  obtain rfl := Option.some.inj (tRounds.symm.trans ht0)
  obtain ⟨xs, m1, rfl, hx1, hlen, hn, hel⟩ := DataW.trod_array Tryd.underlying108 hd0
  have ce : Tryd.prog.cellsOf 80 = 1 := by kernel_rfl
  have key : ∀ i, i < 64 → W.cell? ⟨0, i, none⟩ = some (.int .u32 ((kN i : Nat) : Int)) := by
    intro i hi
    have h0 := hel i hi
    have hxi : i < xs.length := by omega
    rw [List.getElem?_eq_getElem hxi, ce, Nat.mul_one] at h0
    obtain ⟨k, e1, e2, _⟩ := DataW.trod_int Tryd.underlying80 h0
    rw [kRounds] at hx1
    simp only [Prod.mk.injEq, DataW.agg.injEq] at hx1
    have hk : (kList.map fun k => (DataW.lit (.int .u32 ((k : Nat) : Int)) : DataW Unit))[i]? = (xs.map (·.1))[i]? := by rw [hx1.1]
    have hki : i < kList.length := by have : kList.length = 64 := rfl; omega
    rw [List.getElem?_map, List.getElem?_map, List.getElem?_eq_getElem hxi, List.getElem?_eq_getElem hki, e2] at hk
    simp at hk
    rw [World.var?_cell hg0 hv0 i]
    have hc : cs0.toList[i]? = some (.int .u32 k) := by
      have : ((cs0.toList.drop i).take 1)[0]? = some (.int .u32 k) := by rw [e1]; rfl
      simpa using this
    rw [← Array.getElem?_toList, hc, ← hk]
    unfold kN
    rw [List.getD_eq_getElem?_getD, List.getElem?_eq_getElem hki]
    rfl
  exact ⟨Nat.lt_of_le_of_lt (Nat.zero_le _) (World.block_lt_of_cell? W _ (key 0 (by decide))), key⟩

set_option maxRecDepth 100000 in
/-- A frame that came in. -/
theorem open_frame {H : Type} {enc : TypeId × Value → H} {W : World} {base : Nat} {sp : Nat → Bool} {held : Bool} {v : Value} {d : DataW H} {ps : List MemPlace} {r : Reach} {b0 : Nat}
    (hv : Value.okWide Tryd.prog W r b0 24 v) (h : DataW.Trod enc Tryd.prog W base sp held 24 v d ps) :
    ∃ (k n : Nat) (t : ByteArray), k < 256 ∧ n < 18446744073709551616 ∧ v = .agg #[.int .u8 (k : Int), .int .u64 (n : Int), .string t] := by
  have h1 : Tryd.prog.cellsOf 5 = 1 := by kernel_rfl
  have h2 : Tryd.prog.cellsOf 22 = 1 := by kernel_rfl
  have h3 : Tryd.prog.cellsOf 9 = 1 := by kernel_rfl
  obtain ⟨cs, rfl, hs⟩ := okWide_struct Tryd.underlying24 hv
  have hs3 : cs.size = 3 := hs.trans (by kernel_rfl)
  obtain ⟨fuel, hf⟩ := h
  obtain ⟨xs, m1, _, _, _, hx, hel2⟩ := DataW.trod_struct Tryd.underlying24 hf
  have hx3 : xs.length = 3 := hx
  have ec : (Value.agg cs).cells.toList = cs.toList := rfl
  rw [ec] at hel2
  have a0 : DataW.trod enc Tryd.prog W base sp held m1 5 ((cs.toList.drop 0).take (Tryd.prog.cellsOf 5)) = xs[0]? := hel2 0 _ rfl
  have a1 : DataW.trod enc Tryd.prog W base sp held m1 22 ((cs.toList.drop 1).take (Tryd.prog.cellsOf 22)) = xs[1]? := hel2 1 _ rfl
  have a2 : DataW.trod enc Tryd.prog W base sp held m1 9 ((cs.toList.drop 2).take (Tryd.prog.cellsOf 9)) = xs[2]? := hel2 2 _ rfl
  rw [List.getElem?_eq_getElem (by omega), h1] at a0
  rw [List.getElem?_eq_getElem (by omega), h2] at a1
  rw [List.getElem?_eq_getElem (by omega), h3] at a2
  obtain ⟨k, e0, _, w0⟩ := DataW.trod_int Tryd.underlying5 a0
  obtain ⟨n, e1, _, w1⟩ := DataW.trod_int Tryd.underlying22 a1
  obtain ⟨s, e2, _, _⟩ := DataW.trod_string Tryd.underlying9 a2
  have c0 : cs.toList[0]? = some (.int .u8 k) := by
    have : ((cs.toList.drop 0).take 1)[0]? = some (.int .u8 k) := by rw [e0]; rfl
    simpa using this
  have c1 : cs.toList[1]? = some (.int .u64 n) := by
    have : ((cs.toList.drop 1).take 1)[0]? = some (.int .u64 n) := by rw [e1]; rfl
    simpa using this
  have c2 : cs.toList[2]? = some (.string s) := by
    have : ((cs.toList.drop 2).take 1)[0]? = some (.string s) := by rw [e2]; rfl
    simpa using this
  have hk : 0 ≤ k ∧ k < 256 := wf_u8 w0
  have hn : 0 ≤ n ∧ n < 18446744073709551616 := by
    simp [Lit.wf, IntKind.min, IntKind.max, IntKind.signed, IntKind.bits] at w1
    omega
  refine ⟨k.toNat, n.toNat, s, by omega, by omega, ?_⟩
  rw [Int.toNat_of_nonneg hk.1, Int.toNat_of_nonneg hn.1]
  congr 1
  apply Array.ext
  · rw [hs3]; rfl
  · intro i h1 h2
    have hi : i < 3 := by omega
    apply Option.some.inj
    rw [← Array.getElem?_eq_getElem h1, ← Array.getElem?_eq_getElem h2, ← Array.getElem?_toList]
    match i, hi with
    | 0, _ => rw [c0]; rfl
    | 1, _ => rw [c1]; rfl
    | 2, _ => rw [c2]; rfl

end Go.Proofs.YtcglbbkphgdnmaaDoor
