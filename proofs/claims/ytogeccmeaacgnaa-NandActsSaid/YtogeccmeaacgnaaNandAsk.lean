/-
  Contracts: hasPage, Segs, Pages, Wear, Counts.
-/
import Derived.Test.YtogeccmeaacgnaaNandSmall
import Derived.Test.YtogeccmeaacgnaaShaKit
namespace Go.Proofs.Ytogeccmeaacgnaa
open Go.RowKit
set_option linter.unusedVariables false

set_option maxRecDepth 8000 in
theorem segs_any (B : Nat) (w : World) (L : Lay) (S : St) (hv : Value) (h : Hid (Ch B w L S hv)) :
    Calls Try.prog 30 #[.pointer (some ⟨L.cp, 0, none⟩)] w fun e w' => e = .returned (.int .i64 (L.n : Nat)) ∧ w' = w := by
  have c1 := h.out.c1
  go_enter Try.func30, Try.ntmps30
  go_wp2
  go_ret
  exact ⟨rfl, rfl⟩

set_option maxRecDepth 8000 in
theorem pages_any (B : Nat) (w : World) (L : Lay) (S : St) (hv : Value) (h : Hid (Ch B w L S hv)) :
    Calls Try.prog 31 #[.pointer (some ⟨L.cp, 0, none⟩)] w fun e w' => e = .returned (.int .i64 (L.m : Nat)) ∧ w' = w := by
  have c1 := h.out.c1
  have c2 := h.out.s0 (i := 0) h.out.room.1
  rw [Nat.zero_mul] at c2
  have n0 := h.out.room.1
  go_enter Try.func31, Try.ntmps31
  go_wp2
  go_ret
  exact ⟨rfl, rfl⟩

set_option maxRecDepth 8000 in
theorem wear_no (B : Nat) (w : World) (L : Lay) (S : St) (hv : Value) (h : Hid (Ch B w L S hv)) (z : Int) (hz : inB z L.n = false) :
    Calls Try.prog 27 #[.pointer (some ⟨L.cp, 0, none⟩), .int .i64 z] w fun e w' => e = .returned (.int .i64 0) ∧ w' = w := by
  have H := Lib.hid (hasSeg_any B w L S hv h z)
  rw [hz] at H
  go_enter Try.func27, Try.ntmps27
  go_wp2_with fail
  refine H.out.mono ?_
  rintro e w1 ⟨rfl, rfl⟩
  go_wp2
  go_ret
  exact ⟨rfl, rfl⟩

set_option maxRecDepth 8000 in
theorem wear_yes (B : Nat) (w : World) (L : Lay) (S : St) (hv : Value) (h : Hid (Ch B w L S hv)) (i : Nat) (hi : i < L.n) :
    Calls Try.prog 27 #[.pointer (some ⟨L.cp, 0, none⟩), .int .i64 (i : Nat)] w fun e w' => e = .returned (.int .i64 (S.wear i : Nat)) ∧ w' = w := by
  have H := Lib.hid (hasSeg_any B w L S hv h i)
  rw [inB_nat i _ hi] at H
  have c1 := h.out.c1
  have c2 := h.out.s1 hi
  have i1 : (i : Int) < (L.n : Int) := by omega
  go_enter Try.func27, Try.ntmps27
  go_wp2_with fail
  refine H.out.mono ?_
  rintro e w1 ⟨rfl, rfl⟩
  go_wp2
  go_ret
  exact ⟨rfl, rfl⟩

set_option maxRecDepth 8000 in
theorem counts_any (B : Nat) (w : World) (L : Lay) (S : St) (hv : Value) (h : Hid (Ch B w L S hv)) :
    Calls Try.prog 25 #[.pointer (some ⟨L.cp, 0, none⟩)] w fun e w' => e = .returned (.tuple #[.int .i64 (S.progs : Nat), .int .i64 (S.erases : Nat)]) ∧ Below w.heap.size w w' := by
  have b0 : Below w.heap.size w w.drew := (Below.refl _ _).drew
  have D := Lib.hid (h.out.after b0)
  have K1 := Lib.hid (told_load ⟨L.cp, 4, none⟩ (S.progs : Nat) w.drew D.out.c4)
  have K2 := Lib.hid (told_load ⟨L.cp, 5, none⟩ (S.erases : Nat) w.drew D.out.c5)
  go_enter Try.func25, Try.ntmps25
  go_wp2_with fail
  refine wp_region_one (by kernel_rfl) (by kernel_rfl) ?_
  generalize w.drew = w1 at *
  repeat (first | go_big_quiet_skip | (go_big_quiet_want; go_big_quiet_op; apply Exists.intro; refine ⟨K1.out, ?_⟩; go_big_quiet_on) | (go_big_quiet_want; go_big_quiet_op; apply Exists.intro; refine ⟨K2.out, ?_⟩; go_big_quiet_on) | (go_big_quiet_want; go_big_quiet_op; go_big_quiet_on))
  refine wpQuiet_nil ?_
  go_wp2_with fail
  go_ret2
  exact ⟨rfl, b0⟩

set_option maxRecDepth 8000 in
theorem hasPage_any (B : Nat) (w : World) (L : Lay) (S : St) (hv : Value) (h : Hid (Ch B w L S hv)) (z y : Int) :
    Calls Try.prog 35 #[.pointer (some ⟨L.cp, 0, none⟩), .int .i64 z, .int .i64 y] w fun e w' => e = .returned (.bool (inB z L.n && inB y L.m)) ∧ Below w.heap.size w w' := by
  have H := Lib.hid (hasSeg_any B w L S hv h z)
  cases hz : inB z L.n with
  | false =>
    rw [hz] at H
    go_enter Try.func35, Try.ntmps35
    go_wp2_with fail
    refine H.out.mono ?_
    rintro e w1 ⟨rfl, rfl⟩
    go_wp2
    go_ret
    exact ⟨rfl, Below.refl _ _⟩
  | true =>
    rw [hz] at H
    obtain ⟨i, rfl, hi⟩ := inB_get hz
    have c1 := h.out.c1
    have i1 : (i : Int) < (L.n : Int) := by omega
    have c2 := h.out.s0 hi
    have K := Lib.hid (rowHas_any w (some ⟨L.tp i, 0, none⟩) L.m y)
    rw [Bool.true_and]
    generalize inB y L.m = b at *
    clear hz
    go_enter Try.func35, Try.ntmps35
    go_wp2_with fail
    refine H.out.mono ?_
    rintro e w1 ⟨rfl, rfl⟩
    go_wp2_with fail
    refine K.out.mono ?_
    rintro e w1 ⟨rfl, hb⟩
    clear c1 c2
    go_wp2
    go_ret
    exact ⟨rfl, hb⟩

end Go.Proofs.Ytogeccmeaacgnaa
