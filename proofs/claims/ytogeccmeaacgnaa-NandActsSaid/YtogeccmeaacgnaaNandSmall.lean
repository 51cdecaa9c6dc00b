/-
  Contracts: what a chip is asked for, small things.
-/
import Derived.Test.YtogeccmeaacgnaaNandPower
namespace Go.Proofs.Ytogeccmeaacgnaa
open Go.RowKit
set_option linter.unusedVariables false

section
variable {B : Nat} {w : World} {L : Lay} {S : St} {hv : Value}
theorem Ch.c0 (h : Ch B w L S hv) : w.cell? ⟨L.cp, 0, none⟩ = some (.pointer (some ⟨L.pp, 0, none⟩)) := by rw [cell_of_row w L.cp 0 _ _ _ h.chip]; rfl
theorem Ch.c1 (h : Ch B w L S hv) : w.cell? ⟨L.cp, 1, none⟩ = some (.slice (some ⟨L.sp, 0, none⟩) L.n L.n) := by rw [cell_of_row w L.cp 1 _ _ _ h.chip]; rfl
theorem Ch.c2 (h : Ch B w L S hv) : w.cell? ⟨L.cp, 2, none⟩ = some (.int .i64 S.rated) := by rw [cell_of_row w L.cp 2 _ _ _ h.chip]; rfl
theorem Ch.c3 (h : Ch B w L S hv) : w.cell? ⟨L.cp, 3, none⟩ = some hv := by rw [cell_of_row w L.cp 3 _ _ _ h.chip]; rfl
theorem Ch.c4 (h : Ch B w L S hv) : w.cell? ⟨L.cp, 4, none⟩ = some (.int .i64 (S.progs : Nat)) := by rw [cell_of_row w L.cp 4 _ _ _ h.chip]; rfl
theorem Ch.c5 (h : Ch B w L S hv) : w.cell? ⟨L.cp, 5, none⟩ = some (.int .i64 (S.erases : Nat)) := by rw [cell_of_row w L.cp 5 _ _ _ h.chip]; rfl
theorem Ch.s0 (h : Ch B w L S hv) {i : Nat} (hi : i < L.n) : w.cell? ⟨L.sp, i * 3, none⟩ = some (.slice (some ⟨L.tp i, 0, none⟩) L.m L.m) := by rw [h.segs.cell (i * 3) (by omega), segV_0]
theorem Ch.s1 (h : Ch B w L S hv) {i : Nat} (hi : i < L.n) : w.cell? ⟨L.sp, i * 3 + 1, none⟩ = some (.int .i64 (S.wear i : Nat)) := by rw [h.segs.cell (i * 3 + 1) (by omega), segV_1]
theorem Ch.s2 (h : Ch B w L S hv) {i : Nat} (hi : i < L.n) : w.cell? ⟨L.sp, i * 3 + 2, none⟩ = some (.bool (S.bad i)) := by rw [h.segs.cell (i * 3 + 2) (by omega), segV_2]
theorem Ch.pg (h : Ch B w L S hv) {i j : Nat} (hi : i < L.n) (hj : j < L.m) : w.cell? ⟨L.tp i, j, none⟩ = some (.string (S.page i j)) := by rw [(h.pages i hi).cell j hj]; rfl
end

/-- Whether a number is one of n places. -/
def inB (z : Int) (n : Nat) : Bool := decide (0 ≤ z) && decide (z < (n : Int))
theorem inB_iff (z : Int) (n : Nat) : inB z n = true ↔ 0 ≤ z ∧ z < n := by unfold inB; simp
theorem inB_nat (i n : Nat) (h : i < n) : inB (i : Int) n = true := (inB_iff _ _).2 ⟨by omega, by omega⟩
theorem inB_get {z : Int} {n : Nat} (h : inB z n = true) : ∃ i : Nat, z = i ∧ i < n := ⟨z.toNat, by have := (inB_iff _ _).1 h; omega, by have := (inB_iff _ _).1 h; omega⟩

set_option maxRecDepth 8000 in
theorem hasSeg_any (B : Nat) (w : World) (L : Lay) (S : St) (hv : Value) (h : Hid (Ch B w L S hv)) (z : Int) :
    Calls Try.prog 34 #[.pointer (some ⟨L.cp, 0, none⟩), .int .i64 z] w fun e w' => e = .returned (.bool (inB z L.n)) ∧ w' = w := by
  have c1 := h.out.c1
  unfold inB
  cases h1 : decide (0 ≤ z) with
  | false =>
    have h1' : decide (z ≥ 0) = false := h1
    go_enter Try.func34, Try.ntmps34
    go_wp2
    go_ret
    exact ⟨rfl, rfl⟩
  | true =>
    have h1' : decide (z ≥ 0) = true := h1
    cases h2 : decide (z < (L.n : Int)) with
    | false =>
      go_enter Try.func34, Try.ntmps34
      go_wp2
      go_ret
      exact ⟨rfl, rfl⟩
    | true =>
      go_enter Try.func34, Try.ntmps34
      go_wp2
      go_ret
      exact ⟨rfl, rfl⟩

set_option maxRecDepth 8000 in
theorem rowHas_any (w : World) (a : Option Addr) (m : Nat) (z : Int) :
    Calls Try.prog 47 #[.agg #[.slice a m m], .int .i64 z] w fun e w' => e = .returned (.bool (inB z m)) ∧ Below w.heap.size w w' := by
  have b0 : Below w.heap.size w (w.alloc (.cells #[.slice a m m] 84)) := (Below.refl _ _).alloc (Nat.le_refl _) _
  unfold inB
  cases h1 : decide (0 ≤ z) with
  | false =>
    have h1' : decide (z ≥ 0) = false := h1
    go_enter Try.func47, Try.ntmps47
    go_wp2
    go_ret
    exact ⟨rfl, b0⟩
  | true =>
    have h1' : decide (z ≥ 0) = true := h1
    cases h2 : decide (z < (m : Int)) with
    | false =>
      go_enter Try.func47, Try.ntmps47
      go_wp2
      go_ret
      exact ⟨rfl, b0⟩
    | true =>
      go_enter Try.func47, Try.ntmps47
      go_wp2
      go_ret
      exact ⟨rfl, b0⟩

/-- Whether a text has a byte. -/
def isB (s : ByteArray) : Bool := !s.toList.isEmpty

set_option maxRecDepth 8000 in
theorem rowIs_any (w : World) (t m j : Nat) (hj : j < m) (s : ByteArray) (hc : w.cell? ⟨t, j, none⟩ = some (.string s)) (ht : t < w.heap.size) :
    Calls Try.prog 36 #[.agg #[.slice (some ⟨t, 0, none⟩) m m], .int .i64 (j : Nat)] w fun e w' => e = .returned (.bool (isB s)) ∧ Below w.heap.size w w' := by
  have b0 : Below w.heap.size w (w.alloc (.cells #[.slice (some ⟨t, 0, none⟩) m m] 84)) := (Below.refl _ _).alloc (Nat.le_refl _) _
  have hc' : (w.alloc (.cells #[.slice (some ⟨t, 0, none⟩) m m] 84)).cell? ⟨t, j, none⟩ = some (.string s) := (b0.cell ht).trans hc
  have j1 : (j : Int) < (m : Int) := by omega
  clear hc
  go_enter Try.func36, Try.ntmps36
  go_wp2
  go_ret
  exact ⟨rfl, b0⟩

end Go.Proofs.Ytogeccmeaacgnaa
