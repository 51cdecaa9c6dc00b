/-
  Contracts: isBlank, has, New.
-/
import Derived.Test.YtopajipagacmkaaSlotWorld
import Derived.Test.YtopajipagacmkaaWant
import Derived.Great.BuildSlice
namespace Go.Proofs.Ytopajipagacmkaa
open Go.RowKit
set_option linter.unusedVariables false

set_option maxRecDepth 8000 in
theorem isBlank_any (c : Cel) (h : OkC c) (w : World) :
    Calls Try.prog 28 #[.agg (rowOf 18 (celF c))] w fun e w' => e = .returned (.bool (!c.h)) ∧ Below w.heap.size w w' := by
  have b0 : Below w.heap.size w (w.alloc (.cells (rowOf 18 (celF c)) 71)) := (Below.refl _ _).alloc (Nat.le_refl _) _
  have r0 := Lib.hid (RowAt.new w 71 (rowOf 18 (celF c)))
  go_enter Try.func28, Try.ntmps28
  go_wp2_with (first | (refine wpList_load_row rfl 71 _ rfl w.heap.size rfl 71 (rowOf 18 (celF c)) (0, 0) _ r0.out Try.underlying71 rfl (infoCell' _) ?_) | (refine wpList_buildTo rfl 71 _ rfl _ rfl (rowOf 18 (celF blankC)) (by kernel_rfl) ?_) | (refine wpList_known rfl (run_eq_blank h rfl rfl rfl _) ?_))
  go_ret
  exact ⟨rfl, b0⟩

set_option maxRecDepth 8000 in
theorem slotHas_any (v : Value) (z : Int) (w : World) :
    Calls Try.prog 27 #[v, .int .i64 z] w fun e w' => e = .returned (.bool (inB z 2)) ∧ w' = w := by
  unfold inB
  cases h1 : decide (0 ≤ z) with
  | false =>
    have h1' : decide (z ≥ 0) = false := h1
    go_enter Try.func27, Try.ntmps27
    go_wp2
    go_ret
    exact ⟨rfl, rfl⟩
  | true =>
    have h1' : decide (z ≥ 0) = true := h1
    cases h2 : decide (z < ((2 : Nat) : Int)) with
    | false =>
      have h2' : decide (z < 2) = false := h2
      clear h2
      go_enter Try.func27, Try.ntmps27
      go_wp2
      go_ret
      exact ⟨rfl, rfl⟩
    | true =>
      have h2' : decide (z < 2) = true := h2
      clear h2
      go_enter Try.func27, Try.ntmps27
      go_wp2
      go_ret
      exact ⟨rfl, rfl⟩

theorem slot_zero (p : Nat) : slF p (fun _ => blankC) 0 = .pointer (some ⟨p, 0, none⟩) := rfl

set_option maxRecDepth 8000 in
theorem slotNew_no (w : World) : Calls Try.prog 10 #[.pointer none] w fun e w' => e = .returned (.pointer none) ∧ w' = w := by
  go_enter Try.func10, Try.ntmps10
  go_wp2
  go_ret
  exact ⟨rfl, rfl⟩

def newSS (p : St) : SS := ⟨p, fun _ => blankC⟩
set_option maxRecDepth 8000 in
theorem slotNew_any (B pp : Nat) (p : St) (w : World) (hB : B ≤ pp) (hp : Hid (RowAt w pp 69 (pw p.up p.left p.keep p.junk))) (hj : p.junk < 256) (hk : (p.keep : Int) < 9223372036854775808) :
    Calls Try.prog 10 #[.pointer (some ⟨pp, 0, none⟩)] w fun e w' => e = .returned (.pointer (some ⟨w.heap.size, 0, none⟩)) ∧ Hid (Sl B w' pp w.heap.size (newSS p)) ∧ Below w.heap.size w w' := by
  have b0 : Below w.heap.size w (w.alloc (.cells (rowOf 37 (slF pp fun _ => blankC)) 74)) := (Below.refl _ _).alloc (Nat.le_refl _) _
  have r0 := Lib.hid (RowAt.new w 74 (rowOf 37 (slF pp fun _ => blankC)))
  have lp := hp.out.lt
  have s0 : Sl B (w.alloc (.cells (rowOf 37 (slF pp fun _ => blankC)) 74)) pp w.heap.size (newSS p) := ⟨hp.out.below b0 hp.out.lt, r0.out, ⟨hB, by omega⟩, fun _ => .blank, hj, hk⟩
  replace s0 := Lib.hid s0
  clear lp hj hk hB hp
  go_enter Try.func10, Try.ntmps10
  go_wp2_with (refine wpList_buildTo rfl 74 _ rfl _ rfl (rowOf 37 (slF pp fun _ => blankC)) (by kernel_rfl) ?_)
  go_ret
  exact ⟨rfl, s0, b0⟩

end Go.Proofs.Ytopajipagacmkaa
