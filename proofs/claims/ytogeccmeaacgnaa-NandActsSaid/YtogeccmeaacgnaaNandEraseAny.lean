/-
  Contract: Erase, all ways.
-/
import Derived.Test.YtogeccmeaacgnaaNandErase
namespace Go.Proofs.Ytogeccmeaacgnaa
open Go.RowKit
set_option linter.unusedVariables false

def wornB (S : St) (i : Nat) : Bool := S.bad i || decide (S.rated ≤ (S.wear i : Int))
def eraseE (n : Nat) (S : St) (z : Int) : Int := if S.up = false then 4 else if inB z n = false then 1 else if wornB S z.toNat = true then 101 else if (S.left - 1 != 0) = true then 0 else 4
def eraseS (n : Nat) (S : St) (z : Int) : St := if S.up = false then S else if inB z n = false then S else if wornB S z.toNat = true then S else if (S.left - 1 != 0) = true then erS (cntE (actS S true (S.left - 1))) z.toNat 9223372036854775807 else erS (cntE (actS S false (S.left - 1))) z.toNat S.keep

/-- A number that counts acts is small. -/
structure Low (S : St) : Prop where
  progs : S.progs ≤ 1000000
  erases : S.erases ≤ 1000000
  wear : ∀ i, S.wear i ≤ 1000000
  hist : S.hist.length ≤ 1000000
  lo : -1000000 < S.left
  hi : S.left < 9223372036854775808

set_option maxHeartbeats 1000000 in
set_option maxRecDepth 8000 in
theorem erase_off (B : Nat) (w : World) (L : Lay) (S : St) (hv : Value) (h : Hid (Ch B w L S hv)) (z : Int) (hu : S.up = false) :
    Calls Try.prog 14 #[.pointer (some ⟨L.cp, 0, none⟩), .int .i64 z] w fun e w' => e = .returned (.int .i64 4) ∧ Below w.heap.size w w' := by
  have b0 : Below w.heap.size w ((w.alloc (.cells #[.pointer (some ⟨L.cp, 0, none⟩)] 27)).alloc (.cells #[.int .i64 z] 3)) := allocs_below [.cells #[.pointer (some ⟨L.cp, 0, none⟩)] 27, .cells #[.int .i64 z] 3] w
  have h0 := Lib.hid (h.out.after b0)
  have x1 : Hid (Box ((w.alloc (.cells #[.pointer (some ⟨L.cp, 0, none⟩)] 27)).alloc (.cells #[.int .i64 z] 3)) (foot L hv) (w.heap.size) (.pointer (some ⟨L.cp, 0, none⟩))) := by
    have r : RowAt ((w.alloc (.cells #[.pointer (some ⟨L.cp, 0, none⟩)] 27)).alloc (.cells #[.int .i64 z] 3)) (w.heap.size) 27 #[.pointer (some ⟨L.cp, 0, none⟩)] := allocs_row [.cells #[.pointer (some ⟨L.cp, 0, none⟩)] 27, .cells #[.int .i64 z] 3] w 0 27 #[.pointer (some ⟨L.cp, 0, none⟩)] rfl
    exact ⟨by rw [cell_of_row _ _ 0 _ _ _ r]; rfl, r.lt, fun hf => by have := (h.out.base _ hf).2; omega⟩
  have z1 := x1.out.1
  have x2 : Hid (Box ((w.alloc (.cells #[.pointer (some ⟨L.cp, 0, none⟩)] 27)).alloc (.cells #[.int .i64 z] 3)) (foot L hv) (w.heap.size + 1) (.int .i64 z)) := by
    have r : RowAt ((w.alloc (.cells #[.pointer (some ⟨L.cp, 0, none⟩)] 27)).alloc (.cells #[.int .i64 z] 3)) (w.heap.size + 1) 3 #[.int .i64 z] := allocs_row [.cells #[.pointer (some ⟨L.cp, 0, none⟩)] 27, .cells #[.int .i64 z] 3] w 1 3 #[.int .i64 z] rfl
    exact ⟨by rw [cell_of_row _ _ 0 _ _ _ r]; rfl, r.lt, fun hf => by have := (h.out.base _ hf).2; omega⟩
  have z2 := x2.out.1
  have U := Lib.hid (powUp_any L.pp _ _ _ _ _ (Lib.hid h0.out.pow))
  have c0 := h0.out.c0
  rw [hu] at U
  go_enter Try.func14, Try.ntmps14
  go_wp2_with fail
  generalize (w.alloc (.cells #[.pointer (some ⟨L.cp, 0, none⟩)] 27)).alloc (.cells #[.int .i64 z] 3) = w0 at *
  refine U.out.mono ?_
  rintro e w1 ⟨rfl, rfl⟩
  go_wp2
  go_ret
  exact ⟨rfl, b0⟩

set_option maxHeartbeats 1000000 in
set_option maxRecDepth 8000 in
theorem erase_arg (B : Nat) (w : World) (L : Lay) (S : St) (hv : Value) (h : Hid (Ch B w L S hv)) (z : Int) (hu : S.up = true) (hin : inB z L.n = false) :
    Calls Try.prog 14 #[.pointer (some ⟨L.cp, 0, none⟩), .int .i64 z] w fun e w' => e = .returned (.int .i64 1) ∧ Below w.heap.size w w' := by
  have b0 : Below w.heap.size w ((w.alloc (.cells #[.pointer (some ⟨L.cp, 0, none⟩)] 27)).alloc (.cells #[.int .i64 z] 3)) := allocs_below [.cells #[.pointer (some ⟨L.cp, 0, none⟩)] 27, .cells #[.int .i64 z] 3] w
  have h0 := Lib.hid (h.out.after b0)
  have x1 : Hid (Box ((w.alloc (.cells #[.pointer (some ⟨L.cp, 0, none⟩)] 27)).alloc (.cells #[.int .i64 z] 3)) (foot L hv) (w.heap.size) (.pointer (some ⟨L.cp, 0, none⟩))) := by
    have r : RowAt ((w.alloc (.cells #[.pointer (some ⟨L.cp, 0, none⟩)] 27)).alloc (.cells #[.int .i64 z] 3)) (w.heap.size) 27 #[.pointer (some ⟨L.cp, 0, none⟩)] := allocs_row [.cells #[.pointer (some ⟨L.cp, 0, none⟩)] 27, .cells #[.int .i64 z] 3] w 0 27 #[.pointer (some ⟨L.cp, 0, none⟩)] rfl
    exact ⟨by rw [cell_of_row _ _ 0 _ _ _ r]; rfl, r.lt, fun hf => by have := (h.out.base _ hf).2; omega⟩
  have z1 := x1.out.1
  have x2 : Hid (Box ((w.alloc (.cells #[.pointer (some ⟨L.cp, 0, none⟩)] 27)).alloc (.cells #[.int .i64 z] 3)) (foot L hv) (w.heap.size + 1) (.int .i64 z)) := by
    have r : RowAt ((w.alloc (.cells #[.pointer (some ⟨L.cp, 0, none⟩)] 27)).alloc (.cells #[.int .i64 z] 3)) (w.heap.size + 1) 3 #[.int .i64 z] := allocs_row [.cells #[.pointer (some ⟨L.cp, 0, none⟩)] 27, .cells #[.int .i64 z] 3] w 1 3 #[.int .i64 z] rfl
    exact ⟨by rw [cell_of_row _ _ 0 _ _ _ r]; rfl, r.lt, fun hf => by have := (h.out.base _ hf).2; omega⟩
  have z2 := x2.out.1
  have U := Lib.hid (powUp_any L.pp _ _ _ _ _ (Lib.hid h0.out.pow))
  have c0 := h0.out.c0
  have H := Lib.hid (hasSeg_any B _ L S hv h0 z)
  rw [hin] at H
  rw [hu] at U
  go_enter Try.func14, Try.ntmps14
  go_wp2_with fail
  generalize (w.alloc (.cells #[.pointer (some ⟨L.cp, 0, none⟩)] 27)).alloc (.cells #[.int .i64 z] 3) = w0 at *
  refine U.out.mono ?_
  rintro e w1 ⟨rfl, rfl⟩
  go_wp2_with fail
  refine H.out.mono ?_
  rintro e w1 ⟨rfl, rfl⟩
  go_wp2
  go_ret
  exact ⟨rfl, b0⟩

set_option maxHeartbeats 1000000 in
set_option maxRecDepth 8000 in
theorem erase_bad (B : Nat) (w : World) (L : Lay) (S : St) (hv : Value) (h : Hid (Ch B w L S hv)) (i : Nat) (hi : i < L.n) (hu : S.up = true) (hbad : S.bad i = true) :
    Calls Try.prog 14 #[.pointer (some ⟨L.cp, 0, none⟩), .int .i64 ((i : Nat) : Int)] w fun e w' => e = .returned (.int .i64 101) ∧ Below w.heap.size w w' := by
  have b0 : Below w.heap.size w ((w.alloc (.cells #[.pointer (some ⟨L.cp, 0, none⟩)] 27)).alloc (.cells #[.int .i64 ((i : Nat) : Int)] 3)) := allocs_below [.cells #[.pointer (some ⟨L.cp, 0, none⟩)] 27, .cells #[.int .i64 ((i : Nat) : Int)] 3] w
  have h0 := Lib.hid (h.out.after b0)
  have x1 : Hid (Box ((w.alloc (.cells #[.pointer (some ⟨L.cp, 0, none⟩)] 27)).alloc (.cells #[.int .i64 ((i : Nat) : Int)] 3)) (foot L hv) (w.heap.size) (.pointer (some ⟨L.cp, 0, none⟩))) := by
    have r : RowAt ((w.alloc (.cells #[.pointer (some ⟨L.cp, 0, none⟩)] 27)).alloc (.cells #[.int .i64 ((i : Nat) : Int)] 3)) (w.heap.size) 27 #[.pointer (some ⟨L.cp, 0, none⟩)] := allocs_row [.cells #[.pointer (some ⟨L.cp, 0, none⟩)] 27, .cells #[.int .i64 ((i : Nat) : Int)] 3] w 0 27 #[.pointer (some ⟨L.cp, 0, none⟩)] rfl
    exact ⟨by rw [cell_of_row _ _ 0 _ _ _ r]; rfl, r.lt, fun hf => by have := (h.out.base _ hf).2; omega⟩
  have z1 := x1.out.1
  have x2 : Hid (Box ((w.alloc (.cells #[.pointer (some ⟨L.cp, 0, none⟩)] 27)).alloc (.cells #[.int .i64 ((i : Nat) : Int)] 3)) (foot L hv) (w.heap.size + 1) (.int .i64 ((i : Nat) : Int))) := by
    have r : RowAt ((w.alloc (.cells #[.pointer (some ⟨L.cp, 0, none⟩)] 27)).alloc (.cells #[.int .i64 ((i : Nat) : Int)] 3)) (w.heap.size + 1) 3 #[.int .i64 ((i : Nat) : Int)] := allocs_row [.cells #[.pointer (some ⟨L.cp, 0, none⟩)] 27, .cells #[.int .i64 ((i : Nat) : Int)] 3] w 1 3 #[.int .i64 ((i : Nat) : Int)] rfl
    exact ⟨by rw [cell_of_row _ _ 0 _ _ _ r]; rfl, r.lt, fun hf => by have := (h.out.base _ hf).2; omega⟩
  have z2 := x2.out.1
  have U := Lib.hid (powUp_any L.pp _ _ _ _ _ (Lib.hid h0.out.pow))
  have c0 := h0.out.c0
  have hin := inB_nat i _ hi
  have H := Lib.hid (hasSeg_any B _ L S hv h0 ((i : Nat) : Int))
  rw [hin] at H
  rw [hu] at U
  have c1 := h0.out.c1
  have c2 := h0.out.c2
  have c3 := h0.out.s1 hi
  have c4 := h0.out.s2 hi
  have i1 : (i : Int) < (L.n : Int) := by omega
  rw [hbad] at c4
  go_enter Try.func14, Try.ntmps14
  go_wp2_with fail
  generalize (w.alloc (.cells #[.pointer (some ⟨L.cp, 0, none⟩)] 27)).alloc (.cells #[.int .i64 ((i : Nat) : Int)] 3) = w0 at *
  refine U.out.mono ?_
  rintro e w1 ⟨rfl, rfl⟩
  go_wp2_with fail
  refine H.out.mono ?_
  rintro e w1 ⟨rfl, rfl⟩
  go_wp2_with fail
  go_quiet (fail)
  go_wp2_with fail
  go_ret
  exact ⟨rfl, b0.trans ⟨rfl, rfl, rfl, Nat.le_refl _, fun _ _ => rfl⟩⟩

set_option maxHeartbeats 1000000 in
set_option maxRecDepth 8000 in
theorem erase_worn (B : Nat) (w : World) (L : Lay) (S : St) (hv : Value) (h : Hid (Ch B w L S hv)) (i : Nat) (hi : i < L.n) (hu : S.up = true) (hbad : S.bad i = false) (hwo : S.rated ≤ (S.wear i : Int)) :
    Calls Try.prog 14 #[.pointer (some ⟨L.cp, 0, none⟩), .int .i64 ((i : Nat) : Int)] w fun e w' => e = .returned (.int .i64 101) ∧ Below w.heap.size w w' := by
  have b0 : Below w.heap.size w ((w.alloc (.cells #[.pointer (some ⟨L.cp, 0, none⟩)] 27)).alloc (.cells #[.int .i64 ((i : Nat) : Int)] 3)) := allocs_below [.cells #[.pointer (some ⟨L.cp, 0, none⟩)] 27, .cells #[.int .i64 ((i : Nat) : Int)] 3] w
  have h0 := Lib.hid (h.out.after b0)
  have x1 : Hid (Box ((w.alloc (.cells #[.pointer (some ⟨L.cp, 0, none⟩)] 27)).alloc (.cells #[.int .i64 ((i : Nat) : Int)] 3)) (foot L hv) (w.heap.size) (.pointer (some ⟨L.cp, 0, none⟩))) := by
    have r : RowAt ((w.alloc (.cells #[.pointer (some ⟨L.cp, 0, none⟩)] 27)).alloc (.cells #[.int .i64 ((i : Nat) : Int)] 3)) (w.heap.size) 27 #[.pointer (some ⟨L.cp, 0, none⟩)] := allocs_row [.cells #[.pointer (some ⟨L.cp, 0, none⟩)] 27, .cells #[.int .i64 ((i : Nat) : Int)] 3] w 0 27 #[.pointer (some ⟨L.cp, 0, none⟩)] rfl
    exact ⟨by rw [cell_of_row _ _ 0 _ _ _ r]; rfl, r.lt, fun hf => by have := (h.out.base _ hf).2; omega⟩
  have z1 := x1.out.1
  have x2 : Hid (Box ((w.alloc (.cells #[.pointer (some ⟨L.cp, 0, none⟩)] 27)).alloc (.cells #[.int .i64 ((i : Nat) : Int)] 3)) (foot L hv) (w.heap.size + 1) (.int .i64 ((i : Nat) : Int))) := by
    have r : RowAt ((w.alloc (.cells #[.pointer (some ⟨L.cp, 0, none⟩)] 27)).alloc (.cells #[.int .i64 ((i : Nat) : Int)] 3)) (w.heap.size + 1) 3 #[.int .i64 ((i : Nat) : Int)] := allocs_row [.cells #[.pointer (some ⟨L.cp, 0, none⟩)] 27, .cells #[.int .i64 ((i : Nat) : Int)] 3] w 1 3 #[.int .i64 ((i : Nat) : Int)] rfl
    exact ⟨by rw [cell_of_row _ _ 0 _ _ _ r]; rfl, r.lt, fun hf => by have := (h.out.base _ hf).2; omega⟩
  have z2 := x2.out.1
  have U := Lib.hid (powUp_any L.pp _ _ _ _ _ (Lib.hid h0.out.pow))
  have c0 := h0.out.c0
  have hin := inB_nat i _ hi
  have H := Lib.hid (hasSeg_any B _ L S hv h0 ((i : Nat) : Int))
  rw [hin] at H
  rw [hu] at U
  have c1 := h0.out.c1
  have c2 := h0.out.c2
  have c3 := h0.out.s1 hi
  have c4 := h0.out.s2 hi
  have i1 : (i : Int) < (L.n : Int) := by omega
  rw [hbad] at c4
  have d1 : decide (((S.wear i : Nat) : Int) ≥ S.rated) = true := decide_eq_true hwo
  clear hwo
  go_enter Try.func14, Try.ntmps14
  go_wp2_with fail
  generalize (w.alloc (.cells #[.pointer (some ⟨L.cp, 0, none⟩)] 27)).alloc (.cells #[.int .i64 ((i : Nat) : Int)] 3) = w0 at *
  refine U.out.mono ?_
  rintro e w1 ⟨rfl, rfl⟩
  go_wp2_with fail
  refine H.out.mono ?_
  rintro e w1 ⟨rfl, rfl⟩
  go_wp2_with fail
  go_quiet (fail)
  go_wp2_with fail
  go_ret
  exact ⟨rfl, b0.trans ⟨rfl, rfl, rfl, Nat.le_refl _, fun _ _ => rfl⟩⟩

set_option maxHeartbeats 1000000 in
set_option maxRecDepth 8000 in
theorem erase_whole (B : Nat) (w : World) (L : Lay) (S : St) (hv : Value) (h : Hid (Ch B w L S hv)) (i : Nat) (hi : i < L.n) (hu : S.up = true) (hbad : S.bad i = false) (hwo : ¬ S.rated ≤ (S.wear i : Int)) (lw : Low S) (hb : (S.left - 1 != 0) = true) :
    Calls Try.prog 14 #[.pointer (some ⟨L.cp, 0, none⟩), .int .i64 ((i : Nat) : Int)] w fun e w' => e = .returned (.int .i64 0) ∧ ∃ hv', Hid (Ch B w' L (erS (cntE (actS S true (S.left - 1))) i 9223372036854775807) hv') ∧ Goes L hv w hv' w' := by
  have b0 : Below w.heap.size w ((w.alloc (.cells #[.pointer (some ⟨L.cp, 0, none⟩)] 27)).alloc (.cells #[.int .i64 ((i : Nat) : Int)] 3)) := allocs_below [.cells #[.pointer (some ⟨L.cp, 0, none⟩)] 27, .cells #[.int .i64 ((i : Nat) : Int)] 3] w
  have h0 := Lib.hid (h.out.after b0)
  have x1 : Hid (Box ((w.alloc (.cells #[.pointer (some ⟨L.cp, 0, none⟩)] 27)).alloc (.cells #[.int .i64 ((i : Nat) : Int)] 3)) (foot L hv) (w.heap.size) (.pointer (some ⟨L.cp, 0, none⟩))) := by
    have r : RowAt ((w.alloc (.cells #[.pointer (some ⟨L.cp, 0, none⟩)] 27)).alloc (.cells #[.int .i64 ((i : Nat) : Int)] 3)) (w.heap.size) 27 #[.pointer (some ⟨L.cp, 0, none⟩)] := allocs_row [.cells #[.pointer (some ⟨L.cp, 0, none⟩)] 27, .cells #[.int .i64 ((i : Nat) : Int)] 3] w 0 27 #[.pointer (some ⟨L.cp, 0, none⟩)] rfl
    exact ⟨by rw [cell_of_row _ _ 0 _ _ _ r]; rfl, r.lt, fun hf => by have := (h.out.base _ hf).2; omega⟩
  have z1 := x1.out.1
  have x2 : Hid (Box ((w.alloc (.cells #[.pointer (some ⟨L.cp, 0, none⟩)] 27)).alloc (.cells #[.int .i64 ((i : Nat) : Int)] 3)) (foot L hv) (w.heap.size + 1) (.int .i64 ((i : Nat) : Int))) := by
    have r : RowAt ((w.alloc (.cells #[.pointer (some ⟨L.cp, 0, none⟩)] 27)).alloc (.cells #[.int .i64 ((i : Nat) : Int)] 3)) (w.heap.size + 1) 3 #[.int .i64 ((i : Nat) : Int)] := allocs_row [.cells #[.pointer (some ⟨L.cp, 0, none⟩)] 27, .cells #[.int .i64 ((i : Nat) : Int)] 3] w 1 3 #[.int .i64 ((i : Nat) : Int)] rfl
    exact ⟨by rw [cell_of_row _ _ 0 _ _ _ r]; rfl, r.lt, fun hf => by have := (h.out.base _ hf).2; omega⟩
  have z2 := x2.out.1
  have U := Lib.hid (powUp_any L.pp _ _ _ _ _ (Lib.hid h0.out.pow))
  have c0 := h0.out.c0
  have hin := inB_nat i _ hi
  have H := Lib.hid (hasSeg_any B _ L S hv h0 ((i : Nat) : Int))
  rw [hin] at H
  rw [hu] at U
  have c1 := h0.out.c1
  have c2 := h0.out.c2
  have c3 := h0.out.s1 hi
  have c4 := h0.out.s2 hi
  have i1 : (i : Int) < (L.n : Int) := by omega
  rw [hbad] at c4
  have d1 : decide (((S.wear i : Nat) : Int) ≥ S.rated) = false := decide_eq_false (by omega)
  clear hwo
  go_enter Try.func14, Try.ntmps14
  go_wp2_with fail
  generalize (w.alloc (.cells #[.pointer (some ⟨L.cp, 0, none⟩)] 27)).alloc (.cells #[.int .i64 ((i : Nat) : Int)] 3) = w0 at *
  refine U.out.mono ?_
  rintro e w1 ⟨rfl, rfl⟩
  go_wp2_with fail
  refine H.out.mono ?_
  rintro e w1 ⟨rfl, rfl⟩
  clear H U
  have lw' := Lib.hid lw
  have hb' := Lib.hid hb
  clear lw hb
  go_wp2_with fail
  go_quiet (fail)
  go_wp2_with fail
  have bq : Below w1.heap.size w1 (w1.drewN nq).drew := ⟨rfl, rfl, rfl, Nat.le_refl _, fun _ _ => rfl⟩
  have h2 := Lib.hid (h0.out.after bq)
  have y1 := Lib.hid (x1.out.goes (.of_below bq))
  have y2 := Lib.hid (x2.out.goes (.of_below bq))
  have g2 : Goes L hv w hv (w1.drewN nq).drew := .of_below (b0.trans (bq.mono b0.size))
  refine wp_region_still_tail 5 (by kernel_rfl) (by kernel_rfl) ?_
  change wpStill _ _ (World.drew _) (fun a' => wpList _ _ _ _ a' (World.drew _)) _ _
  clear z1 z2 c0 c1 c2 c3 c4 d1 h0 x1 x2 b0 bq
  generalize (w1.drewN nq).drew = w2 at *
  have z1 := y1.out.1
  have z2 := y2.out.1
  have A := Lib.hid (actE_whole B w2 L S hv h2 w.heap.size (w.heap.size + 1) i y1 y2 hi (lw'.out.wear i) hu (S.left - 1) rfl lw'.out.lo lw'.out.hi hb'.out lw'.out.erases)
  simp only [List.take_succ_cons, List.take_zero, List.drop_succ_cons, List.drop_zero]
  refine wpStill_of_quiet _ _ ?_
  repeat (first | go_big_quiet_skip | (go_big_quiet_want; go_big_quiet_op; go_big_quiet_on))
  refine wpQuiet_nil ?_
  go_wp2_with fail
  refine A.out.mono ?_
  rintro e w3 ⟨rfl, hv3, h3, g3⟩
  clear A h2 y1 y2 z1 z2
  go_wp2
  go_ret
  exact ⟨rfl, hv3, h3, g2.trans g3⟩

set_option maxHeartbeats 1000000 in
set_option maxRecDepth 8000 in
theorem erase_part (B : Nat) (w : World) (L : Lay) (S : St) (hv : Value) (h : Hid (Ch B w L S hv)) (i : Nat) (hi : i < L.n) (hu : S.up = true) (hbad : S.bad i = false) (hwo : ¬ S.rated ≤ (S.wear i : Int)) (lw : Low S) (hb : (S.left - 1 != 0) = false) :
    Calls Try.prog 14 #[.pointer (some ⟨L.cp, 0, none⟩), .int .i64 ((i : Nat) : Int)] w fun e w' => e = .returned (.int .i64 4) ∧ ∃ hv', Hid (Ch B w' L (erS (cntE (actS S false (S.left - 1))) i S.keep) hv') ∧ Goes L hv w hv' w' := by
  have b0 : Below w.heap.size w ((w.alloc (.cells #[.pointer (some ⟨L.cp, 0, none⟩)] 27)).alloc (.cells #[.int .i64 ((i : Nat) : Int)] 3)) := allocs_below [.cells #[.pointer (some ⟨L.cp, 0, none⟩)] 27, .cells #[.int .i64 ((i : Nat) : Int)] 3] w
  have h0 := Lib.hid (h.out.after b0)
  have x1 : Hid (Box ((w.alloc (.cells #[.pointer (some ⟨L.cp, 0, none⟩)] 27)).alloc (.cells #[.int .i64 ((i : Nat) : Int)] 3)) (foot L hv) (w.heap.size) (.pointer (some ⟨L.cp, 0, none⟩))) := by
    have r : RowAt ((w.alloc (.cells #[.pointer (some ⟨L.cp, 0, none⟩)] 27)).alloc (.cells #[.int .i64 ((i : Nat) : Int)] 3)) (w.heap.size) 27 #[.pointer (some ⟨L.cp, 0, none⟩)] := allocs_row [.cells #[.pointer (some ⟨L.cp, 0, none⟩)] 27, .cells #[.int .i64 ((i : Nat) : Int)] 3] w 0 27 #[.pointer (some ⟨L.cp, 0, none⟩)] rfl
    exact ⟨by rw [cell_of_row _ _ 0 _ _ _ r]; rfl, r.lt, fun hf => by have := (h.out.base _ hf).2; omega⟩
  have z1 := x1.out.1
  have x2 : Hid (Box ((w.alloc (.cells #[.pointer (some ⟨L.cp, 0, none⟩)] 27)).alloc (.cells #[.int .i64 ((i : Nat) : Int)] 3)) (foot L hv) (w.heap.size + 1) (.int .i64 ((i : Nat) : Int))) := by
    have r : RowAt ((w.alloc (.cells #[.pointer (some ⟨L.cp, 0, none⟩)] 27)).alloc (.cells #[.int .i64 ((i : Nat) : Int)] 3)) (w.heap.size + 1) 3 #[.int .i64 ((i : Nat) : Int)] := allocs_row [.cells #[.pointer (some ⟨L.cp, 0, none⟩)] 27, .cells #[.int .i64 ((i : Nat) : Int)] 3] w 1 3 #[.int .i64 ((i : Nat) : Int)] rfl
    exact ⟨by rw [cell_of_row _ _ 0 _ _ _ r]; rfl, r.lt, fun hf => by have := (h.out.base _ hf).2; omega⟩
  have z2 := x2.out.1
  have U := Lib.hid (powUp_any L.pp _ _ _ _ _ (Lib.hid h0.out.pow))
  have c0 := h0.out.c0
  have hin := inB_nat i _ hi
  have H := Lib.hid (hasSeg_any B _ L S hv h0 ((i : Nat) : Int))
  rw [hin] at H
  rw [hu] at U
  have c1 := h0.out.c1
  have c2 := h0.out.c2
  have c3 := h0.out.s1 hi
  have c4 := h0.out.s2 hi
  have i1 : (i : Int) < (L.n : Int) := by omega
  rw [hbad] at c4
  have d1 : decide (((S.wear i : Nat) : Int) ≥ S.rated) = false := decide_eq_false (by omega)
  clear hwo
  go_enter Try.func14, Try.ntmps14
  go_wp2_with fail
  generalize (w.alloc (.cells #[.pointer (some ⟨L.cp, 0, none⟩)] 27)).alloc (.cells #[.int .i64 ((i : Nat) : Int)] 3) = w0 at *
  refine U.out.mono ?_
  rintro e w1 ⟨rfl, rfl⟩
  go_wp2_with fail
  refine H.out.mono ?_
  rintro e w1 ⟨rfl, rfl⟩
  clear H U
  have lw' := Lib.hid lw
  have hb' := Lib.hid hb
  clear lw hb
  go_wp2_with fail
  go_quiet (fail)
  go_wp2_with fail
  have bq : Below w1.heap.size w1 (w1.drewN nq).drew := ⟨rfl, rfl, rfl, Nat.le_refl _, fun _ _ => rfl⟩
  have h2 := Lib.hid (h0.out.after bq)
  have y1 := Lib.hid (x1.out.goes (.of_below bq))
  have y2 := Lib.hid (x2.out.goes (.of_below bq))
  have g2 : Goes L hv w hv (w1.drewN nq).drew := .of_below (b0.trans (bq.mono b0.size))
  refine wp_region_still_tail 5 (by kernel_rfl) (by kernel_rfl) ?_
  change wpStill _ _ (World.drew _) (fun a' => wpList _ _ _ _ a' (World.drew _)) _ _
  clear z1 z2 c0 c1 c2 c3 c4 d1 h0 x1 x2 b0 bq
  generalize (w1.drewN nq).drew = w2 at *
  have z1 := y1.out.1
  have z2 := y2.out.1
  have A := Lib.hid (actE_part B w2 L S hv h2 w.heap.size (w.heap.size + 1) i y1 y2 hi (lw'.out.wear i) hu (S.left - 1) rfl lw'.out.lo lw'.out.hi hb'.out lw'.out.erases)
  simp only [List.take_succ_cons, List.take_zero, List.drop_succ_cons, List.drop_zero]
  refine wpStill_of_quiet _ _ ?_
  repeat (first | go_big_quiet_skip | (go_big_quiet_want; go_big_quiet_op; go_big_quiet_on))
  refine wpQuiet_nil ?_
  go_wp2_with fail
  refine A.out.mono ?_
  rintro e w3 ⟨rfl, hv3, h3, g3⟩
  clear A h2 y1 y2 z1 z2
  go_wp2
  go_ret
  exact ⟨rfl, hv3, h3, g2.trans g3⟩

set_option maxHeartbeats 1000000 in
theorem erase_any (B : Nat) (w : World) (L : Lay) (S : St) (hv : Value) (h : Hid (Ch B w L S hv)) (z : Int) (lw : Low S) :
    Calls Try.prog 14 #[.pointer (some ⟨L.cp, 0, none⟩), .int .i64 z] w fun e w' => e = .returned (.int .i64 (eraseE L.n S z)) ∧ ∃ hv', Hid (Ch B w' L (eraseS L.n S z) hv') ∧ Goes L hv w hv' w' := by
  have up : ∀ {E : Int}, (Calls Try.prog 14 #[.pointer (some ⟨L.cp, 0, none⟩), .int .i64 z] w fun e w' => e = .returned (.int .i64 E) ∧ Below w.heap.size w w') → Calls Try.prog 14 #[.pointer (some ⟨L.cp, 0, none⟩), .int .i64 z] w fun e w' => e = .returned (.int .i64 E) ∧ ∃ hv', Hid (Ch B w' L S hv') ∧ Goes L hv w hv' w' := fun c => c.mono fun e w' ⟨h1, h2⟩ => ⟨h1, hv, h.out.after h2, .of_below h2⟩
  unfold eraseE eraseS
  by_cases hu : S.up = false
  · rw [if_pos hu, if_pos hu]
    exact up (erase_off B w L S hv h z hu)
  rw [if_neg hu, if_neg hu]
  have hu' : S.up = true := by simpa using hu
  by_cases hin : inB z L.n = false
  · rw [if_pos hin, if_pos hin]
    exact up (erase_arg B w L S hv h z hu' hin)
  rw [if_neg hin, if_neg hin]
  obtain ⟨i, rfl, hi⟩ := inB_get (show inB z L.n = true by simpa using hin)
  rw [show ((i : Nat) : Int).toNat = i from rfl]
  by_cases hb : S.bad i = true
  · have e1 : wornB S i = true := by unfold wornB; rw [hb]; rfl
    rw [if_pos e1, if_pos e1]
    exact up (erase_bad B w L S hv h i hi hu' hb)
  have hb' : S.bad i = false := by simpa using hb
  by_cases hr : S.rated ≤ (S.wear i : Int)
  · have e1 : wornB S i = true := by unfold wornB; rw [decide_eq_true hr, Bool.or_true]
    rw [if_pos e1, if_pos e1]
    exact up (erase_worn B w L S hv h i hi hu' hb' hr)
  have e1 : ¬ wornB S i = true := by unfold wornB; rw [hb', decide_eq_false hr]; decide
  rw [if_neg e1, if_neg e1]
  by_cases hl : (S.left - 1 != 0) = true
  · rw [if_pos hl, if_pos hl]
    exact erase_whole B w L S hv h i hi hu' hb' hr lw hl
  · rw [if_neg hl, if_neg hl]
    exact erase_part B w L S hv h i hi hu' hb' hr lw (by simpa using hl)

end Go.Proofs.Ytogeccmeaacgnaa
