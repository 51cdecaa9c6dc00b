/-
  What the listed variable gives: the numbers K lie in it; the door's own heap meets the condition.
-/
import Derived.Test.YtedmdojmgccclaaDoorRows
import Derived.Test.YtedmdojmgccclaaDoorShaStep
import Derived.ProofKit
import Derived.LaidMore
import Derived.OpenShut
import Derived.Stop.Joined
import Derived.KernelRfl
namespace Go.Proofs.YtedmdojmgccclaaDoor
open Go.ChangeShapes Go.WideShapes Go.ChangeAt Go.RowKit

theorem gRounds : Tryd.prog.globalNamed "oblivion/sha.rounds" = some 0 := by kernel_rfl
theorem tRounds : (Tryd.prog.globals[0]?).map (·.type) = some 85 := by kernel_rfl
theorem kRounds {H : Type} : (Rows.laid_oblivion_sha_rounds : DataW H) = .agg (kList.map fun k => .lit (.int .u32 ((k : Nat) : Int))) := rfl

/-- The list of the rows. -/
def listed {H : Type} : List (String × DataW H) := [("oblivion/sha.rounds", Rows.laid_oblivion_sha_rounds)]

theorem door_met (os : Os) (args : Array Value) : laidMetH Tryd.prog listed ((World.doorLaid Tryd.prog 14 os).forCall (fun _ _ => 0) ⟨#[], args, []⟩).memory :=
  laidMetH_of_parts3 (fuel := 8) (laidMet_of_run' 8 (by kernel_rfl) (by kernel_rfl)) (by kernel_rfl) (by kernel_rfl)

theorem of_laid {W : World} (h : laidMetH Tryd.prog listed W) : KRow W := by
  rw [MakeChecks.laidMetH_plain _ _ _ (by kernel_rfl)] at h
  obtain ⟨ps, ⟨g0, t0, cs0, f0, p0, q0, hg0, ht0, hv0, hd0, _, _⟩, _, _⟩ := h
  obtain rfl := Option.some.inj (gRounds.symm.trans hg0)
  obtain rfl := Option.some.inj (tRounds.symm.trans ht0)
  obtain ⟨xs, m1, rfl, hx1, hlen, hn, hel⟩ := DataW.trod_array Tryd.underlying85 hd0
  have ce : Tryd.prog.cellsOf 75 = 1 := by kernel_rfl
  have key : ∀ i, i < 64 → W.cell? ⟨0, i, none⟩ = some (.int .u32 ((kN i : Nat) : Int)) := by
    intro i hi
    have h0 := hel i hi
    have hxi : i < xs.length := by omega
    rw [List.getElem?_eq_getElem hxi, ce, Nat.mul_one] at h0
    obtain ⟨k, e1, e2, _⟩ := DataW.trod_int Tryd.underlying75 h0
    rw [kRounds] at hx1
    simp only [Prod.mk.injEq, DataW.agg.injEq] at hx1
    have hk : (kList.map fun k => (DataW.lit (.int .u32 ((k : Nat) : Int)) : DataW Unit))[i]? = (xs.map (·.1))[i]? := by rw [hx1.1]
    have hki : i < kList.length := by have : kList.length = 64 := rfl; omega
    rw [List.getElem?_map, List.getElem?_map, List.getElem?_eq_getElem hxi, List.getElem?_eq_getElem hki, e2] at hk
    simp at hk
    rw [World.var?_cell hg0 hv0 i]
    have hc : cs0.toList[i]? = some (.int .u32 k) := by
      have : ((cs0.toList.drop i).take 1)[0]? = some (.int .u32 k) := by rw [e1]; rfl
      simpa using this
    rw [← Array.getElem?_toList, hc, ← hk]
    unfold kN
    rw [List.getD_eq_getElem?_getD, List.getElem?_eq_getElem hki]
    rfl
  exact ⟨Nat.lt_of_le_of_lt (Nat.zero_le _) (World.block_lt_of_cell? W _ (key 0 (by decide))), key⟩

end Go.Proofs.YtedmdojmgccclaaDoor
