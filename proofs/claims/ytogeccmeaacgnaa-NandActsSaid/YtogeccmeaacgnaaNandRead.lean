/-
  Contract: Read, all ways.
-/
import Derived.Test.YtogeccmeaacgnaaNandEraseAny
import Derived.Test.YtogeccmeaacgnaaNandAsk
namespace Go.Proofs.Ytogeccmeaacgnaa
open Go.RowKit
set_option linter.unusedVariables false

set_option maxHeartbeats 1000000 in
set_option maxRecDepth 8000 in
theorem read_off (B : Nat) (w : World) (L : Lay) (S : St) (hv : Value) (h : Hid (Ch B w L S hv)) (z y : Int) (hu : S.up = false) :
    Calls Try.prog 16 #[.pointer (some ⟨L.cp, 0, none⟩), .int .i64 z, .int .i64 y] w fun e w' => e = .returned (.tuple #[.string ⟨#[]⟩, .bool false, .int .i64 4]) ∧ Below w.heap.size w w' := by
  have U := Lib.hid (powUp_any L.pp _ _ _ _ _ (Lib.hid h.out.pow))
  have c0 := h.out.c0
  rw [hu] at U
  go_enter Try.func16, Try.ntmps16
  go_wp2_with fail
  refine U.out.mono ?_
  rintro e w1 ⟨rfl, rfl⟩
  go_wp2
  go_ret3
  exact ⟨rfl, Below.refl _ _⟩

set_option maxHeartbeats 1000000 in
set_option maxRecDepth 8000 in
theorem read_arg (B : Nat) (w : World) (L : Lay) (S : St) (hv : Value) (h : Hid (Ch B w L S hv)) (z y : Int) (hu : S.up = true) (hin : (inB z L.n && inB y L.m) = false) :
    Calls Try.prog 16 #[.pointer (some ⟨L.cp, 0, none⟩), .int .i64 z, .int .i64 y] w fun e w' => e = .returned (.tuple #[.string ⟨#[]⟩, .bool false, .int .i64 1]) ∧ Below w.heap.size w w' := by
  have U := Lib.hid (powUp_any L.pp _ _ _ _ _ (Lib.hid h.out.pow))
  have c0 := h.out.c0
  have H := Lib.hid (hasPage_any B _ L S hv h z y)
  rw [hin] at H
  rw [hu] at U
  go_enter Try.func16, Try.ntmps16
  go_wp2_with fail
  refine U.out.mono ?_
  rintro e w1 ⟨rfl, rfl⟩
  go_wp2_with fail
  refine H.out.mono ?_
  rintro e w2 ⟨rfl, b2⟩
  go_wp2
  go_ret3
  exact ⟨rfl, b2⟩

set_option maxHeartbeats 1000000 in
set_option maxRecDepth 8000 in
theorem read_yes (B : Nat) (w : World) (L : Lay) (S : St) (hv : Value) (h : Hid (Ch B w L S hv)) (i j : Nat) (hi : i < L.n) (hj : j < L.m) (hu : S.up = true) :
    Calls Try.prog 16 #[.pointer (some ⟨L.cp, 0, none⟩), .int .i64 ((i : Nat) : Int), .int .i64 ((j : Nat) : Int)] w fun e w' => e = .returned (.tuple #[.string (S.page i j), .bool (isB (S.page i j)), .int .i64 0]) ∧ Below w.heap.size w w' := by
  have U := Lib.hid (powUp_any L.pp _ _ _ _ _ (Lib.hid h.out.pow))
  have c0 := h.out.c0
  have hin : (inB ((i : Nat) : Int) L.n && inB ((j : Nat) : Int) L.m) = true := by rw [inB_nat i _ hi, inB_nat j _ hj]; rfl
  have H := Lib.hid (hasPage_any B _ L S hv h ((i : Nat) : Int) ((j : Nat) : Int))
  rw [hin] at H
  rw [hu] at U
  go_enter Try.func16, Try.ntmps16
  go_wp2_with fail
  refine U.out.mono ?_
  rintro e w1 ⟨rfl, rfl⟩
  go_wp2_with fail
  refine H.out.mono ?_
  rintro e w2 ⟨rfl, b2⟩
  go_wp2_with fail
  have b3 : Below w1.heap.size w1 w2.drew := b2.drew
  have h3 := Lib.hid (h.out.after b3)
  clear H U c0 b2
  generalize hw3 : w2.drew = w3 at *
  have R := Lib.hid (fun w' (hC : Below w3.heap.size w3 w') => rowIs_any w' (L.tp i) L.m j hj (S.page i j) ((h3.out.after hC).pg hi hj) ((h3.out.after hC).pages i hi).lt)
  refine wp_region_class (fun w' => Below w3.heap.size w3 w') (by kernel_rfl) (by kernel_rfl) (by rw [hw3]; exact Below.refl _ _) ?_
  refine wpQuiet_val rfl (.pointer (some ⟨L.cp, 0, none⟩)) (fun w' hC => by
    have hc := h3.out.after hC
    have c1 := hc.c1
    have c2 := hc.s0 hi
    have c3 := hc.pg hi hj
    have i1 : (i : Int) < (L.n : Int) := by omega
    have i2 : (j : Int) < (L.m : Int) := by omega
    go_simp) ?_
  simp only [Act.put, List.setIfInBounds_toArray, List.set_cons_succ, List.set_cons_zero]
  refine wpQuiet_val rfl (.pointer (some ⟨L.cp, 0, none⟩)) (fun w' hC => by
    have hc := h3.out.after hC
    have c1 := hc.c1
    have c2 := hc.s0 hi
    have c3 := hc.pg hi hj
    have i1 : (i : Int) < (L.n : Int) := by omega
    have i2 : (j : Int) < (L.m : Int) := by omega
    go_simp) ?_
  simp only [Act.put, List.setIfInBounds_toArray, List.set_cons_succ, List.set_cons_zero]
  refine wpQuiet_val rfl (.pointer (some ⟨L.cp, 1, none⟩)) (fun w' hC => by
    have hc := h3.out.after hC
    have c1 := hc.c1
    have c2 := hc.s0 hi
    have c3 := hc.pg hi hj
    have i1 : (i : Int) < (L.n : Int) := by omega
    have i2 : (j : Int) < (L.m : Int) := by omega
    go_simp) ?_
  simp only [Act.put, List.setIfInBounds_toArray, List.set_cons_succ, List.set_cons_zero]
  refine wpQuiet_val rfl (.slice (some ⟨L.sp, 0, none⟩) L.n L.n) (fun w' hC => by
    have hc := h3.out.after hC
    have c1 := hc.c1
    have c2 := hc.s0 hi
    have c3 := hc.pg hi hj
    have i1 : (i : Int) < (L.n : Int) := by omega
    have i2 : (j : Int) < (L.m : Int) := by omega
    go_simp) ?_
  simp only [Act.put, List.setIfInBounds_toArray, List.set_cons_succ, List.set_cons_zero]
  refine wpQuiet_val rfl (.int .i64 ((i : Nat) : Int)) (fun w' hC => by
    have hc := h3.out.after hC
    have c1 := hc.c1
    have c2 := hc.s0 hi
    have c3 := hc.pg hi hj
    have i1 : (i : Int) < (L.n : Int) := by omega
    have i2 : (j : Int) < (L.m : Int) := by omega
    go_simp) ?_
  simp only [Act.put, List.setIfInBounds_toArray, List.set_cons_succ, List.set_cons_zero]
  refine wpQuiet_val rfl (.pointer (some ⟨L.sp, i * 3, none⟩)) (fun w' hC => by
    have hc := h3.out.after hC
    have c1 := hc.c1
    have c2 := hc.s0 hi
    have c3 := hc.pg hi hj
    have i1 : (i : Int) < (L.n : Int) := by omega
    have i2 : (j : Int) < (L.m : Int) := by omega
    go_simp) ?_
  simp only [Act.put, List.setIfInBounds_toArray, List.set_cons_succ, List.set_cons_zero]
  refine wpQuiet_val rfl (.pointer (some ⟨L.sp, i * 3, none⟩)) (fun w' hC => by
    have hc := h3.out.after hC
    have c1 := hc.c1
    have c2 := hc.s0 hi
    have c3 := hc.pg hi hj
    have i1 : (i : Int) < (L.n : Int) := by omega
    have i2 : (j : Int) < (L.m : Int) := by omega
    go_simp) ?_
  simp only [Act.put, List.setIfInBounds_toArray, List.set_cons_succ, List.set_cons_zero]
  refine wpQuiet_val rfl (.pointer (some ⟨L.sp, i * 3, none⟩)) (fun w' hC => by
    have hc := h3.out.after hC
    have c1 := hc.c1
    have c2 := hc.s0 hi
    have c3 := hc.pg hi hj
    have i1 : (i : Int) < (L.n : Int) := by omega
    have i2 : (j : Int) < (L.m : Int) := by omega
    go_simp) ?_
  simp only [Act.put, List.setIfInBounds_toArray, List.set_cons_succ, List.set_cons_zero]
  refine wpQuiet_val rfl (.slice (some ⟨L.tp i, 0, none⟩) L.m L.m) (fun w' hC => by
    have hc := h3.out.after hC
    have c1 := hc.c1
    have c2 := hc.s0 hi
    have c3 := hc.pg hi hj
    have i1 : (i : Int) < (L.n : Int) := by omega
    have i2 : (j : Int) < (L.m : Int) := by omega
    go_simp) ?_
  simp only [Act.put, List.setIfInBounds_toArray, List.set_cons_succ, List.set_cons_zero]
  refine wpQuiet_val rfl (.int .i64 ((j : Nat) : Int)) (fun w' hC => by
    have hc := h3.out.after hC
    have c1 := hc.c1
    have c2 := hc.s0 hi
    have c3 := hc.pg hi hj
    have i1 : (i : Int) < (L.n : Int) := by omega
    have i2 : (j : Int) < (L.m : Int) := by omega
    go_simp) ?_
  simp only [Act.put, List.setIfInBounds_toArray, List.set_cons_succ, List.set_cons_zero]
  refine wpQuiet_val rfl (.pointer (some ⟨L.tp i, j, none⟩)) (fun w' hC => by
    have hc := h3.out.after hC
    have c1 := hc.c1
    have c2 := hc.s0 hi
    have c3 := hc.pg hi hj
    have i1 : (i : Int) < (L.n : Int) := by omega
    have i2 : (j : Int) < (L.m : Int) := by omega
    go_simp) ?_
  simp only [Act.put, List.setIfInBounds_toArray, List.set_cons_succ, List.set_cons_zero]
  refine wpQuiet_val rfl (.string (S.page i j)) (fun w' hC => by
    have hc := h3.out.after hC
    have c1 := hc.c1
    have c2 := hc.s0 hi
    have c3 := hc.pg hi hj
    have i1 : (i : Int) < (L.n : Int) := by omega
    have i2 : (j : Int) < (L.m : Int) := by omega
    go_simp) ?_
  simp only [Act.put, List.setIfInBounds_toArray, List.set_cons_succ, List.set_cons_zero]
  refine wpQuiet_val rfl (.pointer (some ⟨L.cp, 0, none⟩)) (fun w' hC => by
    have hc := h3.out.after hC
    have c1 := hc.c1
    have c2 := hc.s0 hi
    have c3 := hc.pg hi hj
    have i1 : (i : Int) < (L.n : Int) := by omega
    have i2 : (j : Int) < (L.m : Int) := by omega
    go_simp) ?_
  simp only [Act.put, List.setIfInBounds_toArray, List.set_cons_succ, List.set_cons_zero]
  refine wpQuiet_val rfl (.pointer (some ⟨L.cp, 0, none⟩)) (fun w' hC => by
    have hc := h3.out.after hC
    have c1 := hc.c1
    have c2 := hc.s0 hi
    have c3 := hc.pg hi hj
    have i1 : (i : Int) < (L.n : Int) := by omega
    have i2 : (j : Int) < (L.m : Int) := by omega
    go_simp) ?_
  simp only [Act.put, List.setIfInBounds_toArray, List.set_cons_succ, List.set_cons_zero]
  refine wpQuiet_val rfl (.pointer (some ⟨L.cp, 1, none⟩)) (fun w' hC => by
    have hc := h3.out.after hC
    have c1 := hc.c1
    have c2 := hc.s0 hi
    have c3 := hc.pg hi hj
    have i1 : (i : Int) < (L.n : Int) := by omega
    have i2 : (j : Int) < (L.m : Int) := by omega
    go_simp) ?_
  simp only [Act.put, List.setIfInBounds_toArray, List.set_cons_succ, List.set_cons_zero]
  refine wpQuiet_val rfl (.slice (some ⟨L.sp, 0, none⟩) L.n L.n) (fun w' hC => by
    have hc := h3.out.after hC
    have c1 := hc.c1
    have c2 := hc.s0 hi
    have c3 := hc.pg hi hj
    have i1 : (i : Int) < (L.n : Int) := by omega
    have i2 : (j : Int) < (L.m : Int) := by omega
    go_simp) ?_
  simp only [Act.put, List.setIfInBounds_toArray, List.set_cons_succ, List.set_cons_zero]
  refine wpQuiet_val rfl (.int .i64 ((i : Nat) : Int)) (fun w' hC => by
    have hc := h3.out.after hC
    have c1 := hc.c1
    have c2 := hc.s0 hi
    have c3 := hc.pg hi hj
    have i1 : (i : Int) < (L.n : Int) := by omega
    have i2 : (j : Int) < (L.m : Int) := by omega
    go_simp) ?_
  simp only [Act.put, List.setIfInBounds_toArray, List.set_cons_succ, List.set_cons_zero]
  refine wpQuiet_val rfl (.pointer (some ⟨L.sp, i * 3, none⟩)) (fun w' hC => by
    have hc := h3.out.after hC
    have c1 := hc.c1
    have c2 := hc.s0 hi
    have c3 := hc.pg hi hj
    have i1 : (i : Int) < (L.n : Int) := by omega
    have i2 : (j : Int) < (L.m : Int) := by omega
    go_simp) ?_
  simp only [Act.put, List.setIfInBounds_toArray, List.set_cons_succ, List.set_cons_zero]
  refine wpQuiet_val rfl (.pointer (some ⟨L.sp, i * 3, none⟩)) (fun w' hC => by
    have hc := h3.out.after hC
    have c1 := hc.c1
    have c2 := hc.s0 hi
    have c3 := hc.pg hi hj
    have i1 : (i : Int) < (L.n : Int) := by omega
    have i2 : (j : Int) < (L.m : Int) := by omega
    go_simp) ?_
  simp only [Act.put, List.setIfInBounds_toArray, List.set_cons_succ, List.set_cons_zero]
  refine wpQuiet_val rfl (.agg #[.slice (some ⟨L.tp i, 0, none⟩) L.m L.m]) (fun w' hC => by
    have hc := h3.out.after hC
    have c1 := hc.c1
    have c2 := hc.s0 hi
    have c3 := hc.pg hi hj
    have i1 : (i : Int) < (L.n : Int) := by omega
    have i2 : (j : Int) < (L.m : Int) := by omega
    go_simp) ?_
  simp only [Act.put, List.setIfInBounds_toArray, List.set_cons_succ, List.set_cons_zero]
  refine wpQuiet_val rfl (.int .i64 ((j : Nat) : Int)) (fun w' hC => by
    have hc := h3.out.after hC
    have c1 := hc.c1
    have c2 := hc.s0 hi
    have c3 := hc.pg hi hj
    have i1 : (i : Int) < (L.n : Int) := by omega
    have i2 : (j : Int) < (L.m : Int) := by omega
    go_simp) ?_
  simp only [Act.put, List.setIfInBounds_toArray, List.set_cons_succ, List.set_cons_zero]
  (go_big_quiet_want; go_big_quiet_op; apply Exists.intro; refine ⟨fun w' hC => (R.out w' hC).mono fun e w'' h => ⟨h.1, hC.trans (h.2.mono hC.size)⟩, ?_⟩; go_big_quiet_on)
  refine wpQuiet_val rfl (.string (S.page i j)) (fun w' hC => by
    have hc := h3.out.after hC
    have c1 := hc.c1
    have c2 := hc.s0 hi
    have c3 := hc.pg hi hj
    have i1 : (i : Int) < (L.n : Int) := by omega
    have i2 : (j : Int) < (L.m : Int) := by omega
    go_simp) ?_
  simp only [Act.put, List.setIfInBounds_toArray, List.set_cons_succ, List.set_cons_zero]
  refine wpQuiet_val rfl (.bool (isB (S.page i j))) (fun w' hC => by
    have hc := h3.out.after hC
    have c1 := hc.c1
    have c2 := hc.s0 hi
    have c3 := hc.pg hi hj
    have i1 : (i : Int) < (L.n : Int) := by omega
    have i2 : (j : Int) < (L.m : Int) := by omega
    go_simp) ?_
  simp only [Act.put, List.setIfInBounds_toArray, List.set_cons_succ, List.set_cons_zero]
  refine wpQuiet_val rfl (.int .i64 0) (fun w' hC => by
    have hc := h3.out.after hC
    have c1 := hc.c1
    have c2 := hc.s0 hi
    have c3 := hc.pg hi hj
    have i1 : (i : Int) < (L.n : Int) := by omega
    have i2 : (j : Int) < (L.m : Int) := by omega
    go_simp) ?_
  simp only [Act.put, List.setIfInBounds_toArray, List.set_cons_succ, List.set_cons_zero]
  refine wpQuiet_nil fun w4 hC => ?_
  have b4 := b3.trans (hC.mono b3.size)
  clear R h3 hC hw3
  go_wp2
  go_ret3
  exact ⟨rfl, b4⟩


/-- What is read. -/
def readV (n m : Nat) (S : St) (z y : Int) : Array Value := if S.up = false then #[.string ⟨#[]⟩, .bool false, .int .i64 4] else if (inB z n && inB y m) = false then #[.string ⟨#[]⟩, .bool false, .int .i64 1] else #[.string (S.page z.toNat y.toNat), .bool (isB (S.page z.toNat y.toNat)), .int .i64 0]
theorem read_any (B : Nat) (w : World) (L : Lay) (S : St) (hv : Value) (h : Hid (Ch B w L S hv)) (z y : Int) :
    Calls Try.prog 16 #[.pointer (some ⟨L.cp, 0, none⟩), .int .i64 z, .int .i64 y] w fun e w' => e = .returned (.tuple (readV L.n L.m S z y)) ∧ Below w.heap.size w w' := by
  unfold readV
  by_cases hu : S.up = false
  · rw [if_pos hu]
    exact read_off B w L S hv h z y hu
  rw [if_neg hu]
  have hu' : S.up = true := by simpa using hu
  by_cases hin : (inB z L.n && inB y L.m) = false
  · rw [if_pos hin]
    exact read_arg B w L S hv h z y hu' hin
  rw [if_neg hin]
  have hin' : (inB z L.n && inB y L.m) = true := by simpa using hin
  rw [Bool.and_eq_true] at hin'
  obtain ⟨i, rfl, hi⟩ := inB_get hin'.1
  obtain ⟨j, rfl, hj⟩ := inB_get hin'.2
  exact read_yes B w L S hv h i j hi hj hu'

end Go.Proofs.Ytogeccmeaacgnaa
