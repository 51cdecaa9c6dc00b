/-
  Texts 3 of 8, merged.
-/
import Derived.Test.YtapebaoajknepaaGreatDoorAll2
import Derived.Laws.Tables
/-
  Contract: Program, all ways.
-/
namespace Go.Proofs.YtapebaoajknepaaGreatDoor
open Go.RowKit
set_option linter.unusedVariables false

def progE (n m : Nat) (S : St) (z y : Int) (s : ByteArray) : Int := if S.up = false then 4 else if (inB z n && inB y m) = false then 1 else if 256 < s.size then 1 else if isB (S.page z.toNat y.toNat) = true then 100 else if (S.left - 1 != 0) = true then 0 else 4
def progS (n m : Nat) (S : St) (z y : Int) (s : ByteArray) : St := if S.up = false then S else if (inB z n && inB y m) = false then S else if 256 < s.size then S else if isB (S.page z.toNat y.toNat) = true then S else if (S.left - 1 != 0) = true then prS (cntP (actS S true (S.left - 1))) z.toNat y.toNat (pageT s 9223372036854775807 0) else prS (cntP (actS S false (S.left - 1))) z.toNat y.toNat (pageT s S.keep S.junk)

set_option maxHeartbeats 1000000 in
set_option maxRecDepth 8000 in
theorem prog_off (B : Nat) (w : World) (L : Lay) (S : St) (hv : Value) (h : Hid (Ch B w L S hv)) (z y : Int) (s : ByteArray) (hu : S.up = false) :
    Calls Tryz.prog 20 #[.pointer (some ⟨L.cp, 0, none⟩), .int .i64 z, .int .i64 y, .string s] w fun e w' => e = .returned (.int .i64 4) ∧ Below w.heap.size w w' := by
  have b0 : Below w.heap.size w ((((w.alloc (.cells #[.pointer (some ⟨L.cp, 0, none⟩)] 24)).alloc (.cells #[.int .i64 z] 3)).alloc (.cells #[.int .i64 y] 3)).alloc (.cells #[.string s] 9)) := allocs_below [.cells #[.pointer (some ⟨L.cp, 0, none⟩)] 24, .cells #[.int .i64 z] 3, .cells #[.int .i64 y] 3, .cells #[.string s] 9] w
  have h0 := Lib.hid (h.out.after b0)
  have x1 : Hid (Box ((((w.alloc (.cells #[.pointer (some ⟨L.cp, 0, none⟩)] 24)).alloc (.cells #[.int .i64 z] 3)).alloc (.cells #[.int .i64 y] 3)).alloc (.cells #[.string s] 9)) (foot L hv) (w.heap.size) (.pointer (some ⟨L.cp, 0, none⟩))) := by
    have r : RowAt ((((w.alloc (.cells #[.pointer (some ⟨L.cp, 0, none⟩)] 24)).alloc (.cells #[.int .i64 z] 3)).alloc (.cells #[.int .i64 y] 3)).alloc (.cells #[.string s] 9)) (w.heap.size) 24 #[.pointer (some ⟨L.cp, 0, none⟩)] := allocs_row [.cells #[.pointer (some ⟨L.cp, 0, none⟩)] 24, .cells #[.int .i64 z] 3, .cells #[.int .i64 y] 3, .cells #[.string s] 9] w 0 24 #[.pointer (some ⟨L.cp, 0, none⟩)] rfl
    exact ⟨by rw [cell_of_row _ _ 0 _ _ _ r]; rfl, r.lt, fun hf => by have := (h.out.base _ hf).2; omega⟩
  have z1 := x1.out.1
  have x2 : Hid (Box ((((w.alloc (.cells #[.pointer (some ⟨L.cp, 0, none⟩)] 24)).alloc (.cells #[.int .i64 z] 3)).alloc (.cells #[.int .i64 y] 3)).alloc (.cells #[.string s] 9)) (foot L hv) (w.heap.size + 1) (.int .i64 z)) := by
    have r : RowAt ((((w.alloc (.cells #[.pointer (some ⟨L.cp, 0, none⟩)] 24)).alloc (.cells #[.int .i64 z] 3)).alloc (.cells #[.int .i64 y] 3)).alloc (.cells #[.string s] 9)) (w.heap.size + 1) 3 #[.int .i64 z] := allocs_row [.cells #[.pointer (some ⟨L.cp, 0, none⟩)] 24, .cells #[.int .i64 z] 3, .cells #[.int .i64 y] 3, .cells #[.string s] 9] w 1 3 #[.int .i64 z] rfl
    exact ⟨by rw [cell_of_row _ _ 0 _ _ _ r]; rfl, r.lt, fun hf => by have := (h.out.base _ hf).2; omega⟩
  have z2 := x2.out.1
  have x3 : Hid (Box ((((w.alloc (.cells #[.pointer (some ⟨L.cp, 0, none⟩)] 24)).alloc (.cells #[.int .i64 z] 3)).alloc (.cells #[.int .i64 y] 3)).alloc (.cells #[.string s] 9)) (foot L hv) (w.heap.size + 2) (.int .i64 y)) := by
    have r : RowAt ((((w.alloc (.cells #[.pointer (some ⟨L.cp, 0, none⟩)] 24)).alloc (.cells #[.int .i64 z] 3)).alloc (.cells #[.int .i64 y] 3)).alloc (.cells #[.string s] 9)) (w.heap.size + 2) 3 #[.int .i64 y] := allocs_row [.cells #[.pointer (some ⟨L.cp, 0, none⟩)] 24, .cells #[.int .i64 z] 3, .cells #[.int .i64 y] 3, .cells #[.string s] 9] w 2 3 #[.int .i64 y] rfl
    exact ⟨by rw [cell_of_row _ _ 0 _ _ _ r]; rfl, r.lt, fun hf => by have := (h.out.base _ hf).2; omega⟩
  have z3 := x3.out.1
  have x4 : Hid (Box ((((w.alloc (.cells #[.pointer (some ⟨L.cp, 0, none⟩)] 24)).alloc (.cells #[.int .i64 z] 3)).alloc (.cells #[.int .i64 y] 3)).alloc (.cells #[.string s] 9)) (foot L hv) (w.heap.size + 3) (.string s)) := by
    have r : RowAt ((((w.alloc (.cells #[.pointer (some ⟨L.cp, 0, none⟩)] 24)).alloc (.cells #[.int .i64 z] 3)).alloc (.cells #[.int .i64 y] 3)).alloc (.cells #[.string s] 9)) (w.heap.size + 3) 9 #[.string s] := allocs_row [.cells #[.pointer (some ⟨L.cp, 0, none⟩)] 24, .cells #[.int .i64 z] 3, .cells #[.int .i64 y] 3, .cells #[.string s] 9] w 3 9 #[.string s] rfl
    exact ⟨by rw [cell_of_row _ _ 0 _ _ _ r]; rfl, r.lt, fun hf => by have := (h.out.base _ hf).2; omega⟩
  have z4 := x4.out.1
  have U := Lib.hid (powUp_any L.pp _ _ _ _ _ (Lib.hid h0.out.pow))
  have c0 := h0.out.c0
  rw [hu] at U
  go_enter Tryz.func20, Tryz.ntmps20
  go_wp2_with fail
  generalize (((w.alloc (.cells #[.pointer (some ⟨L.cp, 0, none⟩)] 24)).alloc (.cells #[.int .i64 z] 3)).alloc (.cells #[.int .i64 y] 3)).alloc (.cells #[.string s] 9) = w0 at *
  refine U.out.mono ?_
  rintro e w1 ⟨rfl, rfl⟩
  go_wp2
  go_ret
  exact ⟨rfl, b0⟩

set_option maxHeartbeats 1000000 in
set_option maxRecDepth 8000 in
theorem prog_arg (B : Nat) (w : World) (L : Lay) (S : St) (hv : Value) (h : Hid (Ch B w L S hv)) (z y : Int) (s : ByteArray) (hu : S.up = true) (hin : (inB z L.n && inB y L.m) = false) :
    Calls Tryz.prog 20 #[.pointer (some ⟨L.cp, 0, none⟩), .int .i64 z, .int .i64 y, .string s] w fun e w' => e = .returned (.int .i64 1) ∧ Below w.heap.size w w' := by
  have b0 : Below w.heap.size w ((((w.alloc (.cells #[.pointer (some ⟨L.cp, 0, none⟩)] 24)).alloc (.cells #[.int .i64 z] 3)).alloc (.cells #[.int .i64 y] 3)).alloc (.cells #[.string s] 9)) := allocs_below [.cells #[.pointer (some ⟨L.cp, 0, none⟩)] 24, .cells #[.int .i64 z] 3, .cells #[.int .i64 y] 3, .cells #[.string s] 9] w
  have h0 := Lib.hid (h.out.after b0)
  have x1 : Hid (Box ((((w.alloc (.cells #[.pointer (some ⟨L.cp, 0, none⟩)] 24)).alloc (.cells #[.int .i64 z] 3)).alloc (.cells #[.int .i64 y] 3)).alloc (.cells #[.string s] 9)) (foot L hv) (w.heap.size) (.pointer (some ⟨L.cp, 0, none⟩))) := by
    have r : RowAt ((((w.alloc (.cells #[.pointer (some ⟨L.cp, 0, none⟩)] 24)).alloc (.cells #[.int .i64 z] 3)).alloc (.cells #[.int .i64 y] 3)).alloc (.cells #[.string s] 9)) (w.heap.size) 24 #[.pointer (some ⟨L.cp, 0, none⟩)] := allocs_row [.cells #[.pointer (some ⟨L.cp, 0, none⟩)] 24, .cells #[.int .i64 z] 3, .cells #[.int .i64 y] 3, .cells #[.string s] 9] w 0 24 #[.pointer (some ⟨L.cp, 0, none⟩)] rfl
    exact ⟨by rw [cell_of_row _ _ 0 _ _ _ r]; rfl, r.lt, fun hf => by have := (h.out.base _ hf).2; omega⟩
  have z1 := x1.out.1
  have x2 : Hid (Box ((((w.alloc (.cells #[.pointer (some ⟨L.cp, 0, none⟩)] 24)).alloc (.cells #[.int .i64 z] 3)).alloc (.cells #[.int .i64 y] 3)).alloc (.cells #[.string s] 9)) (foot L hv) (w.heap.size + 1) (.int .i64 z)) := by
    have r : RowAt ((((w.alloc (.cells #[.pointer (some ⟨L.cp, 0, none⟩)] 24)).alloc (.cells #[.int .i64 z] 3)).alloc (.cells #[.int .i64 y] 3)).alloc (.cells #[.string s] 9)) (w.heap.size + 1) 3 #[.int .i64 z] := allocs_row [.cells #[.pointer (some ⟨L.cp, 0, none⟩)] 24, .cells #[.int .i64 z] 3, .cells #[.int .i64 y] 3, .cells #[.string s] 9] w 1 3 #[.int .i64 z] rfl
    exact ⟨by rw [cell_of_row _ _ 0 _ _ _ r]; rfl, r.lt, fun hf => by have := (h.out.base _ hf).2; omega⟩
  have z2 := x2.out.1
  have x3 : Hid (Box ((((w.alloc (.cells #[.pointer (some ⟨L.cp, 0, none⟩)] 24)).alloc (.cells #[.int .i64 z] 3)).alloc (.cells #[.int .i64 y] 3)).alloc (.cells #[.string s] 9)) (foot L hv) (w.heap.size + 2) (.int .i64 y)) := by
    have r : RowAt ((((w.alloc (.cells #[.pointer (some ⟨L.cp, 0, none⟩)] 24)).alloc (.cells #[.int .i64 z] 3)).alloc (.cells #[.int .i64 y] 3)).alloc (.cells #[.string s] 9)) (w.heap.size + 2) 3 #[.int .i64 y] := allocs_row [.cells #[.pointer (some ⟨L.cp, 0, none⟩)] 24, .cells #[.int .i64 z] 3, .cells #[.int .i64 y] 3, .cells #[.string s] 9] w 2 3 #[.int .i64 y] rfl
    exact ⟨by rw [cell_of_row _ _ 0 _ _ _ r]; rfl, r.lt, fun hf => by have := (h.out.base _ hf).2; omega⟩
  have z3 := x3.out.1
  have x4 : Hid (Box ((((w.alloc (.cells #[.pointer (some ⟨L.cp, 0, none⟩)] 24)).alloc (.cells #[.int .i64 z] 3)).alloc (.cells #[.int .i64 y] 3)).alloc (.cells #[.string s] 9)) (foot L hv) (w.heap.size + 3) (.string s)) := by
    have r : RowAt ((((w.alloc (.cells #[.pointer (some ⟨L.cp, 0, none⟩)] 24)).alloc (.cells #[.int .i64 z] 3)).alloc (.cells #[.int .i64 y] 3)).alloc (.cells #[.string s] 9)) (w.heap.size + 3) 9 #[.string s] := allocs_row [.cells #[.pointer (some ⟨L.cp, 0, none⟩)] 24, .cells #[.int .i64 z] 3, .cells #[.int .i64 y] 3, .cells #[.string s] 9] w 3 9 #[.string s] rfl
    exact ⟨by rw [cell_of_row _ _ 0 _ _ _ r]; rfl, r.lt, fun hf => by have := (h.out.base _ hf).2; omega⟩
  have z4 := x4.out.1
  have U := Lib.hid (powUp_any L.pp _ _ _ _ _ (Lib.hid h0.out.pow))
  have c0 := h0.out.c0
  have H := Lib.hid (hasPage_any B _ L S hv h0 z y)
  rw [hin] at H
  rw [hu] at U
  go_enter Tryz.func20, Tryz.ntmps20
  go_wp2_with fail
  generalize (((w.alloc (.cells #[.pointer (some ⟨L.cp, 0, none⟩)] 24)).alloc (.cells #[.int .i64 z] 3)).alloc (.cells #[.int .i64 y] 3)).alloc (.cells #[.string s] 9) = w0 at *
  refine U.out.mono ?_
  rintro e w1 ⟨rfl, rfl⟩
  go_wp2_with fail
  refine H.out.mono ?_
  rintro e w2 ⟨rfl, bh⟩
  have b2 := b0.trans (bh.mono b0.size)
  have h2 := Lib.hid (h0.out.after bh)
  replace x1 := Lib.hid (x1.out.goes (.of_below bh))
  replace z1 := x1.out.1
  replace x2 := Lib.hid (x2.out.goes (.of_below bh))
  replace z2 := x2.out.1
  replace x3 := Lib.hid (x3.out.goes (.of_below bh))
  replace z3 := x3.out.1
  replace x4 := Lib.hid (x4.out.goes (.of_below bh))
  replace z4 := x4.out.1
  clear H U h0 bh c0 b0
  go_wp2
  go_ret
  exact ⟨rfl, b2⟩

set_option maxHeartbeats 1000000 in
set_option maxRecDepth 8000 in
theorem prog_long (B : Nat) (w : World) (L : Lay) (S : St) (hv : Value) (h : Hid (Ch B w L S hv)) (z y : Int) (s : ByteArray) (hu : S.up = true) (hin : (inB z L.n && inB y L.m) = true) (hs : 256 < s.size) :
    Calls Tryz.prog 20 #[.pointer (some ⟨L.cp, 0, none⟩), .int .i64 z, .int .i64 y, .string s] w fun e w' => e = .returned (.int .i64 1) ∧ Below w.heap.size w w' := by
  have b0 : Below w.heap.size w ((((w.alloc (.cells #[.pointer (some ⟨L.cp, 0, none⟩)] 24)).alloc (.cells #[.int .i64 z] 3)).alloc (.cells #[.int .i64 y] 3)).alloc (.cells #[.string s] 9)) := allocs_below [.cells #[.pointer (some ⟨L.cp, 0, none⟩)] 24, .cells #[.int .i64 z] 3, .cells #[.int .i64 y] 3, .cells #[.string s] 9] w
  have h0 := Lib.hid (h.out.after b0)
  have x1 : Hid (Box ((((w.alloc (.cells #[.pointer (some ⟨L.cp, 0, none⟩)] 24)).alloc (.cells #[.int .i64 z] 3)).alloc (.cells #[.int .i64 y] 3)).alloc (.cells #[.string s] 9)) (foot L hv) (w.heap.size) (.pointer (some ⟨L.cp, 0, none⟩))) := by
    have r : RowAt ((((w.alloc (.cells #[.pointer (some ⟨L.cp, 0, none⟩)] 24)).alloc (.cells #[.int .i64 z] 3)).alloc (.cells #[.int .i64 y] 3)).alloc (.cells #[.string s] 9)) (w.heap.size) 24 #[.pointer (some ⟨L.cp, 0, none⟩)] := allocs_row [.cells #[.pointer (some ⟨L.cp, 0, none⟩)] 24, .cells #[.int .i64 z] 3, .cells #[.int .i64 y] 3, .cells #[.string s] 9] w 0 24 #[.pointer (some ⟨L.cp, 0, none⟩)] rfl
    exact ⟨by rw [cell_of_row _ _ 0 _ _ _ r]; rfl, r.lt, fun hf => by have := (h.out.base _ hf).2; omega⟩
  have z1 := x1.out.1
  have x2 : Hid (Box ((((w.alloc (.cells #[.pointer (some ⟨L.cp, 0, none⟩)] 24)).alloc (.cells #[.int .i64 z] 3)).alloc (.cells #[.int .i64 y] 3)).alloc (.cells #[.string s] 9)) (foot L hv) (w.heap.size + 1) (.int .i64 z)) := by
    have r : RowAt ((((w.alloc (.cells #[.pointer (some ⟨L.cp, 0, none⟩)] 24)).alloc (.cells #[.int .i64 z] 3)).alloc (.cells #[.int .i64 y] 3)).alloc (.cells #[.string s] 9)) (w.heap.size + 1) 3 #[.int .i64 z] := allocs_row [.cells #[.pointer (some ⟨L.cp, 0, none⟩)] 24, .cells #[.int .i64 z] 3, .cells #[.int .i64 y] 3, .cells #[.string s] 9] w 1 3 #[.int .i64 z] rfl
    exact ⟨by rw [cell_of_row _ _ 0 _ _ _ r]; rfl, r.lt, fun hf => by have := (h.out.base _ hf).2; omega⟩
  have z2 := x2.out.1
  have x3 : Hid (Box ((((w.alloc (.cells #[.pointer (some ⟨L.cp, 0, none⟩)] 24)).alloc (.cells #[.int .i64 z] 3)).alloc (.cells #[.int .i64 y] 3)).alloc (.cells #[.string s] 9)) (foot L hv) (w.heap.size + 2) (.int .i64 y)) := by
    have r : RowAt ((((w.alloc (.cells #[.pointer (some ⟨L.cp, 0, none⟩)] 24)).alloc (.cells #[.int .i64 z] 3)).alloc (.cells #[.int .i64 y] 3)).alloc (.cells #[.string s] 9)) (w.heap.size + 2) 3 #[.int .i64 y] := allocs_row [.cells #[.pointer (some ⟨L.cp, 0, none⟩)] 24, .cells #[.int .i64 z] 3, .cells #[.int .i64 y] 3, .cells #[.string s] 9] w 2 3 #[.int .i64 y] rfl
    exact ⟨by rw [cell_of_row _ _ 0 _ _ _ r]; rfl, r.lt, fun hf => by have := (h.out.base _ hf).2; omega⟩
  have z3 := x3.out.1
  have x4 : Hid (Box ((((w.alloc (.cells #[.pointer (some ⟨L.cp, 0, none⟩)] 24)).alloc (.cells #[.int .i64 z] 3)).alloc (.cells #[.int .i64 y] 3)).alloc (.cells #[.string s] 9)) (foot L hv) (w.heap.size + 3) (.string s)) := by
    have r : RowAt ((((w.alloc (.cells #[.pointer (some ⟨L.cp, 0, none⟩)] 24)).alloc (.cells #[.int .i64 z] 3)).alloc (.cells #[.int .i64 y] 3)).alloc (.cells #[.string s] 9)) (w.heap.size + 3) 9 #[.string s] := allocs_row [.cells #[.pointer (some ⟨L.cp, 0, none⟩)] 24, .cells #[.int .i64 z] 3, .cells #[.int .i64 y] 3, .cells #[.string s] 9] w 3 9 #[.string s] rfl
    exact ⟨by rw [cell_of_row _ _ 0 _ _ _ r]; rfl, r.lt, fun hf => by have := (h.out.base _ hf).2; omega⟩
  have z4 := x4.out.1
  have U := Lib.hid (powUp_any L.pp _ _ _ _ _ (Lib.hid h0.out.pow))
  have c0 := h0.out.c0
  have H := Lib.hid (hasPage_any B _ L S hv h0 z y)
  rw [hin] at H
  rw [hu] at U
  have l0 : (256 : Int) < (s.size : Int) := by omega
  clear hs
  go_enter Tryz.func20, Tryz.ntmps20
  go_wp2_with fail
  generalize (((w.alloc (.cells #[.pointer (some ⟨L.cp, 0, none⟩)] 24)).alloc (.cells #[.int .i64 z] 3)).alloc (.cells #[.int .i64 y] 3)).alloc (.cells #[.string s] 9) = w0 at *
  refine U.out.mono ?_
  rintro e w1 ⟨rfl, rfl⟩
  go_wp2_with fail
  refine H.out.mono ?_
  rintro e w2 ⟨rfl, bh⟩
  have b2 := b0.trans (bh.mono b0.size)
  have h2 := Lib.hid (h0.out.after bh)
  replace x1 := Lib.hid (x1.out.goes (.of_below bh))
  replace z1 := x1.out.1
  replace x2 := Lib.hid (x2.out.goes (.of_below bh))
  replace z2 := x2.out.1
  replace x3 := Lib.hid (x3.out.goes (.of_below bh))
  replace z3 := x3.out.1
  replace x4 := Lib.hid (x4.out.goes (.of_below bh))
  replace z4 := x4.out.1
  clear H U h0 bh c0 b0
  go_wp2
  go_ret
  exact ⟨rfl, b2⟩

set_option maxHeartbeats 1000000 in
set_option maxRecDepth 8000 in
theorem prog_used (B : Nat) (w : World) (L : Lay) (S : St) (hv : Value) (h : Hid (Ch B w L S hv)) (i j : Nat) (s : ByteArray) (hi : i < L.n) (hj : j < L.m) (hu : S.up = true) (hs : s.size ≤ 256) (hp : isB (S.page i j) = true) :
    Calls Tryz.prog 20 #[.pointer (some ⟨L.cp, 0, none⟩), .int .i64 ((i : Nat) : Int), .int .i64 ((j : Nat) : Int), .string s] w fun e w' => e = .returned (.int .i64 100) ∧ Below w.heap.size w w' := by
  have b0 : Below w.heap.size w ((((w.alloc (.cells #[.pointer (some ⟨L.cp, 0, none⟩)] 24)).alloc (.cells #[.int .i64 ((i : Nat) : Int)] 3)).alloc (.cells #[.int .i64 ((j : Nat) : Int)] 3)).alloc (.cells #[.string s] 9)) := allocs_below [.cells #[.pointer (some ⟨L.cp, 0, none⟩)] 24, .cells #[.int .i64 ((i : Nat) : Int)] 3, .cells #[.int .i64 ((j : Nat) : Int)] 3, .cells #[.string s] 9] w
  have h0 := Lib.hid (h.out.after b0)
  have x1 : Hid (Box ((((w.alloc (.cells #[.pointer (some ⟨L.cp, 0, none⟩)] 24)).alloc (.cells #[.int .i64 ((i : Nat) : Int)] 3)).alloc (.cells #[.int .i64 ((j : Nat) : Int)] 3)).alloc (.cells #[.string s] 9)) (foot L hv) (w.heap.size) (.pointer (some ⟨L.cp, 0, none⟩))) := by
    have r : RowAt ((((w.alloc (.cells #[.pointer (some ⟨L.cp, 0, none⟩)] 24)).alloc (.cells #[.int .i64 ((i : Nat) : Int)] 3)).alloc (.cells #[.int .i64 ((j : Nat) : Int)] 3)).alloc (.cells #[.string s] 9)) (w.heap.size) 24 #[.pointer (some ⟨L.cp, 0, none⟩)] := allocs_row [.cells #[.pointer (some ⟨L.cp, 0, none⟩)] 24, .cells #[.int .i64 ((i : Nat) : Int)] 3, .cells #[.int .i64 ((j : Nat) : Int)] 3, .cells #[.string s] 9] w 0 24 #[.pointer (some ⟨L.cp, 0, none⟩)] rfl
    exact ⟨by rw [cell_of_row _ _ 0 _ _ _ r]; rfl, r.lt, fun hf => by have := (h.out.base _ hf).2; omega⟩
  have z1 := x1.out.1
  have x2 : Hid (Box ((((w.alloc (.cells #[.pointer (some ⟨L.cp, 0, none⟩)] 24)).alloc (.cells #[.int .i64 ((i : Nat) : Int)] 3)).alloc (.cells #[.int .i64 ((j : Nat) : Int)] 3)).alloc (.cells #[.string s] 9)) (foot L hv) (w.heap.size + 1) (.int .i64 ((i : Nat) : Int))) := by
    have r : RowAt ((((w.alloc (.cells #[.pointer (some ⟨L.cp, 0, none⟩)] 24)).alloc (.cells #[.int .i64 ((i : Nat) : Int)] 3)).alloc (.cells #[.int .i64 ((j : Nat) : Int)] 3)).alloc (.cells #[.string s] 9)) (w.heap.size + 1) 3 #[.int .i64 ((i : Nat) : Int)] := allocs_row [.cells #[.pointer (some ⟨L.cp, 0, none⟩)] 24, .cells #[.int .i64 ((i : Nat) : Int)] 3, .cells #[.int .i64 ((j : Nat) : Int)] 3, .cells #[.string s] 9] w 1 3 #[.int .i64 ((i : Nat) : Int)] rfl
    exact ⟨by rw [cell_of_row _ _ 0 _ _ _ r]; rfl, r.lt, fun hf => by have := (h.out.base _ hf).2; omega⟩
  have z2 := x2.out.1
  have x3 : Hid (Box ((((w.alloc (.cells #[.pointer (some ⟨L.cp, 0, none⟩)] 24)).alloc (.cells #[.int .i64 ((i : Nat) : Int)] 3)).alloc (.cells #[.int .i64 ((j : Nat) : Int)] 3)).alloc (.cells #[.string s] 9)) (foot L hv) (w.heap.size + 2) (.int .i64 ((j : Nat) : Int))) := by
    have r : RowAt ((((w.alloc (.cells #[.pointer (some ⟨L.cp, 0, none⟩)] 24)).alloc (.cells #[.int .i64 ((i : Nat) : Int)] 3)).alloc (.cells #[.int .i64 ((j : Nat) : Int)] 3)).alloc (.cells #[.string s] 9)) (w.heap.size + 2) 3 #[.int .i64 ((j : Nat) : Int)] := allocs_row [.cells #[.pointer (some ⟨L.cp, 0, none⟩)] 24, .cells #[.int .i64 ((i : Nat) : Int)] 3, .cells #[.int .i64 ((j : Nat) : Int)] 3, .cells #[.string s] 9] w 2 3 #[.int .i64 ((j : Nat) : Int)] rfl
    exact ⟨by rw [cell_of_row _ _ 0 _ _ _ r]; rfl, r.lt, fun hf => by have := (h.out.base _ hf).2; omega⟩
  have z3 := x3.out.1
  have x4 : Hid (Box ((((w.alloc (.cells #[.pointer (some ⟨L.cp, 0, none⟩)] 24)).alloc (.cells #[.int .i64 ((i : Nat) : Int)] 3)).alloc (.cells #[.int .i64 ((j : Nat) : Int)] 3)).alloc (.cells #[.string s] 9)) (foot L hv) (w.heap.size + 3) (.string s)) := by
    have r : RowAt ((((w.alloc (.cells #[.pointer (some ⟨L.cp, 0, none⟩)] 24)).alloc (.cells #[.int .i64 ((i : Nat) : Int)] 3)).alloc (.cells #[.int .i64 ((j : Nat) : Int)] 3)).alloc (.cells #[.string s] 9)) (w.heap.size + 3) 9 #[.string s] := allocs_row [.cells #[.pointer (some ⟨L.cp, 0, none⟩)] 24, .cells #[.int .i64 ((i : Nat) : Int)] 3, .cells #[.int .i64 ((j : Nat) : Int)] 3, .cells #[.string s] 9] w 3 9 #[.string s] rfl
    exact ⟨by rw [cell_of_row _ _ 0 _ _ _ r]; rfl, r.lt, fun hf => by have := (h.out.base _ hf).2; omega⟩
  have z4 := x4.out.1
  have U := Lib.hid (powUp_any L.pp _ _ _ _ _ (Lib.hid h0.out.pow))
  have c0 := h0.out.c0
  have hin : (inB ((i : Nat) : Int) L.n && inB ((j : Nat) : Int) L.m) = true := by rw [inB_nat i _ hi, inB_nat j _ hj]; rfl
  have H := Lib.hid (hasPage_any B _ L S hv h0 ((i : Nat) : Int) ((j : Nat) : Int))
  rw [hin] at H
  rw [hu] at U
  have l0 : ¬ (256 : Int) < (s.size : Int) := by omega
  have hs' := Lib.hid hs
  clear hs
  go_enter Tryz.func20, Tryz.ntmps20
  go_wp2_with fail
  generalize (((w.alloc (.cells #[.pointer (some ⟨L.cp, 0, none⟩)] 24)).alloc (.cells #[.int .i64 ((i : Nat) : Int)] 3)).alloc (.cells #[.int .i64 ((j : Nat) : Int)] 3)).alloc (.cells #[.string s] 9) = w0 at *
  refine U.out.mono ?_
  rintro e w1 ⟨rfl, rfl⟩
  go_wp2_with fail
  refine H.out.mono ?_
  rintro e w2 ⟨rfl, bh⟩
  have b2 := b0.trans (bh.mono b0.size)
  have h2 := Lib.hid (h0.out.after bh)
  replace x1 := Lib.hid (x1.out.goes (.of_below bh))
  replace z1 := x1.out.1
  replace x2 := Lib.hid (x2.out.goes (.of_below bh))
  replace z2 := x2.out.1
  replace x3 := Lib.hid (x3.out.goes (.of_below bh))
  replace z3 := x3.out.1
  replace x4 := Lib.hid (x4.out.goes (.of_below bh))
  replace z4 := x4.out.1
  clear H U h0 bh c0 b0
  go_wp2_with fail
  have bd : Below w2.heap.size w2 w2.drew := (Below.refl _ _).drew
  have h3 := Lib.hid (h2.out.after bd)
  have b3 := b2.trans (bd.mono b2.size)
  replace x1 := Lib.hid (x1.out.goes (.of_below bd))
  clear z1
  replace x2 := Lib.hid (x2.out.goes (.of_below bd))
  clear z2
  replace x3 := Lib.hid (x3.out.goes (.of_below bd))
  clear z3
  replace x4 := Lib.hid (x4.out.goes (.of_below bd))
  clear z4
  generalize hw3 : w2.drew = w3 at *
  have R := Lib.hid (fun w' (hC : Below w3.heap.size w3 w') => rowIs_any w' (L.tp i) L.m j hj (S.page i j) ((h3.out.after hC).pg hi hj) ((h3.out.after hC).pages i hi).lt)
  simp only [hp] at R
  refine wp_region_class (fun w' => Below w3.heap.size w3 w') (by kernel_rfl) (by kernel_rfl) (by rw [hw3]; exact Below.refl _ _) ?_
  refine wpQuiet_val rfl (.pointer (some ⟨L.cp, 0, none⟩)) (fun w' hC => by
    have hc := h3.out.after hC
    have c1 := hc.c1
    have c2 := hc.s0 hi
    have c3 := hc.pg hi hj
    have y1 := (x1.out.goes (.of_below hC)).1
    have y2 := (x2.out.goes (.of_below hC)).1
    have y3 := (x3.out.goes (.of_below hC)).1
    have i1 : (i : Int) < (L.n : Int) := by omega
    go_simp) ?_
  simp only [Act.put, List.setIfInBounds_toArray, List.set_cons_succ, List.set_cons_zero]
  refine wpQuiet_val rfl (.pointer (some ⟨L.cp, 0, none⟩)) (fun w' hC => by
    have hc := h3.out.after hC
    have c1 := hc.c1
    have c2 := hc.s0 hi
    have c3 := hc.pg hi hj
    have y1 := (x1.out.goes (.of_below hC)).1
    have y2 := (x2.out.goes (.of_below hC)).1
    have y3 := (x3.out.goes (.of_below hC)).1
    have i1 : (i : Int) < (L.n : Int) := by omega
    go_simp) ?_
  simp only [Act.put, List.setIfInBounds_toArray, List.set_cons_succ, List.set_cons_zero]
  refine wpQuiet_val rfl (.pointer (some ⟨L.cp, 1, none⟩)) (fun w' hC => by
    have hc := h3.out.after hC
    have c1 := hc.c1
    have c2 := hc.s0 hi
    have c3 := hc.pg hi hj
    have y1 := (x1.out.goes (.of_below hC)).1
    have y2 := (x2.out.goes (.of_below hC)).1
    have y3 := (x3.out.goes (.of_below hC)).1
    have i1 : (i : Int) < (L.n : Int) := by omega
    go_simp) ?_
  simp only [Act.put, List.setIfInBounds_toArray, List.set_cons_succ, List.set_cons_zero]
  refine wpQuiet_val rfl (.slice (some ⟨L.sp, 0, none⟩) L.n L.n) (fun w' hC => by
    have hc := h3.out.after hC
    have c1 := hc.c1
    have c2 := hc.s0 hi
    have c3 := hc.pg hi hj
    have y1 := (x1.out.goes (.of_below hC)).1
    have y2 := (x2.out.goes (.of_below hC)).1
    have y3 := (x3.out.goes (.of_below hC)).1
    have i1 : (i : Int) < (L.n : Int) := by omega
    go_simp) ?_
  simp only [Act.put, List.setIfInBounds_toArray, List.set_cons_succ, List.set_cons_zero]
  refine wpQuiet_val rfl (.int .i64 ((i : Nat) : Int)) (fun w' hC => by
    have hc := h3.out.after hC
    have c1 := hc.c1
    have c2 := hc.s0 hi
    have c3 := hc.pg hi hj
    have y1 := (x1.out.goes (.of_below hC)).1
    have y2 := (x2.out.goes (.of_below hC)).1
    have y3 := (x3.out.goes (.of_below hC)).1
    have i1 : (i : Int) < (L.n : Int) := by omega
    go_simp) ?_
  simp only [Act.put, List.setIfInBounds_toArray, List.set_cons_succ, List.set_cons_zero]
  refine wpQuiet_val rfl (.pointer (some ⟨L.sp, i * 3, none⟩)) (fun w' hC => by
    have hc := h3.out.after hC
    have c1 := hc.c1
    have c2 := hc.s0 hi
    have c3 := hc.pg hi hj
    have y1 := (x1.out.goes (.of_below hC)).1
    have y2 := (x2.out.goes (.of_below hC)).1
    have y3 := (x3.out.goes (.of_below hC)).1
    have i1 : (i : Int) < (L.n : Int) := by omega
    go_simp) ?_
  simp only [Act.put, List.setIfInBounds_toArray, List.set_cons_succ, List.set_cons_zero]
  refine wpQuiet_val rfl (.pointer (some ⟨L.sp, i * 3, none⟩)) (fun w' hC => by
    have hc := h3.out.after hC
    have c1 := hc.c1
    have c2 := hc.s0 hi
    have c3 := hc.pg hi hj
    have y1 := (x1.out.goes (.of_below hC)).1
    have y2 := (x2.out.goes (.of_below hC)).1
    have y3 := (x3.out.goes (.of_below hC)).1
    have i1 : (i : Int) < (L.n : Int) := by omega
    go_simp) ?_
  simp only [Act.put, List.setIfInBounds_toArray, List.set_cons_succ, List.set_cons_zero]
  refine wpQuiet_val rfl (.agg #[.slice (some ⟨L.tp i, 0, none⟩) L.m L.m]) (fun w' hC => by
    have hc := h3.out.after hC
    have c1 := hc.c1
    have c2 := hc.s0 hi
    have c3 := hc.pg hi hj
    have y1 := (x1.out.goes (.of_below hC)).1
    have y2 := (x2.out.goes (.of_below hC)).1
    have y3 := (x3.out.goes (.of_below hC)).1
    have i1 : (i : Int) < (L.n : Int) := by omega
    go_simp) ?_
  simp only [Act.put, List.setIfInBounds_toArray, List.set_cons_succ, List.set_cons_zero]
  refine wpQuiet_val rfl (.int .i64 ((j : Nat) : Int)) (fun w' hC => by
    have hc := h3.out.after hC
    have c1 := hc.c1
    have c2 := hc.s0 hi
    have c3 := hc.pg hi hj
    have y1 := (x1.out.goes (.of_below hC)).1
    have y2 := (x2.out.goes (.of_below hC)).1
    have y3 := (x3.out.goes (.of_below hC)).1
    have i1 : (i : Int) < (L.n : Int) := by omega
    go_simp) ?_
  simp only [Act.put, List.setIfInBounds_toArray, List.set_cons_succ, List.set_cons_zero]
  (go_big_quiet_want; go_big_quiet_op; apply Exists.intro; refine ⟨fun w' hC => (R.out w' hC).mono fun e w'' h => ⟨h.1, hC.trans (h.2.mono hC.size)⟩, ?_⟩; go_big_quiet_on)
  (go_big_quiet_want; go_big_quiet_op; go_big_quiet_on)
  refine wpQuiet_nil fun w4 hC => ?_
  have h4 := Lib.hid (h3.out.after hC)
  have b4 := b3.trans (hC.mono b3.size)
  replace x1 := Lib.hid (x1.out.goes (.of_below hC))
  replace x2 := Lib.hid (x2.out.goes (.of_below hC))
  replace x3 := Lib.hid (x3.out.goes (.of_below hC))
  replace x4 := Lib.hid (x4.out.goes (.of_below hC))
  clear R h3 b3 hC h2 b2 bd hw3
  go_wp2
  go_ret
  exact ⟨rfl, b4⟩

set_option maxHeartbeats 1000000 in
set_option maxRecDepth 8000 in
theorem prog_whole (B : Nat) (w : World) (L : Lay) (S : St) (hv : Value) (h : Hid (Ch B w L S hv)) (i j : Nat) (s : ByteArray) (hi : i < L.n) (hj : j < L.m) (hu : S.up = true) (hs : s.size ≤ 256) (hp : isB (S.page i j) = false) (lw : Low S) (hb : (S.left - 1 != 0) = true) :
    Calls Tryz.prog 20 #[.pointer (some ⟨L.cp, 0, none⟩), .int .i64 ((i : Nat) : Int), .int .i64 ((j : Nat) : Int), .string s] w fun e w' => e = .returned (.int .i64 0) ∧ ∃ hv', Hid (Ch B w' L (prS (cntP (actS S true (S.left - 1))) i j (pageT s 9223372036854775807 0)) hv') ∧ Goes L hv w hv' w' := by
  have b0 : Below w.heap.size w ((((w.alloc (.cells #[.pointer (some ⟨L.cp, 0, none⟩)] 24)).alloc (.cells #[.int .i64 ((i : Nat) : Int)] 3)).alloc (.cells #[.int .i64 ((j : Nat) : Int)] 3)).alloc (.cells #[.string s] 9)) := allocs_below [.cells #[.pointer (some ⟨L.cp, 0, none⟩)] 24, .cells #[.int .i64 ((i : Nat) : Int)] 3, .cells #[.int .i64 ((j : Nat) : Int)] 3, .cells #[.string s] 9] w
  have h0 := Lib.hid (h.out.after b0)
  have x1 : Hid (Box ((((w.alloc (.cells #[.pointer (some ⟨L.cp, 0, none⟩)] 24)).alloc (.cells #[.int .i64 ((i : Nat) : Int)] 3)).alloc (.cells #[.int .i64 ((j : Nat) : Int)] 3)).alloc (.cells #[.string s] 9)) (foot L hv) (w.heap.size) (.pointer (some ⟨L.cp, 0, none⟩))) := by
    have r : RowAt ((((w.alloc (.cells #[.pointer (some ⟨L.cp, 0, none⟩)] 24)).alloc (.cells #[.int .i64 ((i : Nat) : Int)] 3)).alloc (.cells #[.int .i64 ((j : Nat) : Int)] 3)).alloc (.cells #[.string s] 9)) (w.heap.size) 24 #[.pointer (some ⟨L.cp, 0, none⟩)] := allocs_row [.cells #[.pointer (some ⟨L.cp, 0, none⟩)] 24, .cells #[.int .i64 ((i : Nat) : Int)] 3, .cells #[.int .i64 ((j : Nat) : Int)] 3, .cells #[.string s] 9] w 0 24 #[.pointer (some ⟨L.cp, 0, none⟩)] rfl
    exact ⟨by rw [cell_of_row _ _ 0 _ _ _ r]; rfl, r.lt, fun hf => by have := (h.out.base _ hf).2; omega⟩
  have z1 := x1.out.1
  have x2 : Hid (Box ((((w.alloc (.cells #[.pointer (some ⟨L.cp, 0, none⟩)] 24)).alloc (.cells #[.int .i64 ((i : Nat) : Int)] 3)).alloc (.cells #[.int .i64 ((j : Nat) : Int)] 3)).alloc (.cells #[.string s] 9)) (foot L hv) (w.heap.size + 1) (.int .i64 ((i : Nat) : Int))) := by
    have r : RowAt ((((w.alloc (.cells #[.pointer (some ⟨L.cp, 0, none⟩)] 24)).alloc (.cells #[.int .i64 ((i : Nat) : Int)] 3)).alloc (.cells #[.int .i64 ((j : Nat) : Int)] 3)).alloc (.cells #[.string s] 9)) (w.heap.size + 1) 3 #[.int .i64 ((i : Nat) : Int)] := allocs_row [.cells #[.pointer (some ⟨L.cp, 0, none⟩)] 24, .cells #[.int .i64 ((i : Nat) : Int)] 3, .cells #[.int .i64 ((j : Nat) : Int)] 3, .cells #[.string s] 9] w 1 3 #[.int .i64 ((i : Nat) : Int)] rfl
    exact ⟨by rw [cell_of_row _ _ 0 _ _ _ r]; rfl, r.lt, fun hf => by have := (h.out.base _ hf).2; omega⟩
  have z2 := x2.out.1
  have x3 : Hid (Box ((((w.alloc (.cells #[.pointer (some ⟨L.cp, 0, none⟩)] 24)).alloc (.cells #[.int .i64 ((i : Nat) : Int)] 3)).alloc (.cells #[.int .i64 ((j : Nat) : Int)] 3)).alloc (.cells #[.string s] 9)) (foot L hv) (w.heap.size + 2) (.int .i64 ((j : Nat) : Int))) := by
    have r : RowAt ((((w.alloc (.cells #[.pointer (some ⟨L.cp, 0, none⟩)] 24)).alloc (.cells #[.int .i64 ((i : Nat) : Int)] 3)).alloc (.cells #[.int .i64 ((j : Nat) : Int)] 3)).alloc (.cells #[.string s] 9)) (w.heap.size + 2) 3 #[.int .i64 ((j : Nat) : Int)] := allocs_row [.cells #[.pointer (some ⟨L.cp, 0, none⟩)] 24, .cells #[.int .i64 ((i : Nat) : Int)] 3, .cells #[.int .i64 ((j : Nat) : Int)] 3, .cells #[.string s] 9] w 2 3 #[.int .i64 ((j : Nat) : Int)] rfl
    exact ⟨by rw [cell_of_row _ _ 0 _ _ _ r]; rfl, r.lt, fun hf => by have := (h.out.base _ hf).2; omega⟩
  have z3 := x3.out.1
  have x4 : Hid (Box ((((w.alloc (.cells #[.pointer (some ⟨L.cp, 0, none⟩)] 24)).alloc (.cells #[.int .i64 ((i : Nat) : Int)] 3)).alloc (.cells #[.int .i64 ((j : Nat) : Int)] 3)).alloc (.cells #[.string s] 9)) (foot L hv) (w.heap.size + 3) (.string s)) := by
    have r : RowAt ((((w.alloc (.cells #[.pointer (some ⟨L.cp, 0, none⟩)] 24)).alloc (.cells #[.int .i64 ((i : Nat) : Int)] 3)).alloc (.cells #[.int .i64 ((j : Nat) : Int)] 3)).alloc (.cells #[.string s] 9)) (w.heap.size + 3) 9 #[.string s] := allocs_row [.cells #[.pointer (some ⟨L.cp, 0, none⟩)] 24, .cells #[.int .i64 ((i : Nat) : Int)] 3, .cells #[.int .i64 ((j : Nat) : Int)] 3, .cells #[.string s] 9] w 3 9 #[.string s] rfl
    exact ⟨by rw [cell_of_row _ _ 0 _ _ _ r]; rfl, r.lt, fun hf => by have := (h.out.base _ hf).2; omega⟩
  have z4 := x4.out.1
  have U := Lib.hid (powUp_any L.pp _ _ _ _ _ (Lib.hid h0.out.pow))
  have c0 := h0.out.c0
  have hin : (inB ((i : Nat) : Int) L.n && inB ((j : Nat) : Int) L.m) = true := by rw [inB_nat i _ hi, inB_nat j _ hj]; rfl
  have H := Lib.hid (hasPage_any B _ L S hv h0 ((i : Nat) : Int) ((j : Nat) : Int))
  rw [hin] at H
  rw [hu] at U
  have l0 : ¬ (256 : Int) < (s.size : Int) := by omega
  have hs' := Lib.hid hs
  clear hs
  go_enter Tryz.func20, Tryz.ntmps20
  go_wp2_with fail
  generalize (((w.alloc (.cells #[.pointer (some ⟨L.cp, 0, none⟩)] 24)).alloc (.cells #[.int .i64 ((i : Nat) : Int)] 3)).alloc (.cells #[.int .i64 ((j : Nat) : Int)] 3)).alloc (.cells #[.string s] 9) = w0 at *
  refine U.out.mono ?_
  rintro e w1 ⟨rfl, rfl⟩
  go_wp2_with fail
  refine H.out.mono ?_
  rintro e w2 ⟨rfl, bh⟩
  have b2 := b0.trans (bh.mono b0.size)
  have h2 := Lib.hid (h0.out.after bh)
  replace x1 := Lib.hid (x1.out.goes (.of_below bh))
  replace z1 := x1.out.1
  replace x2 := Lib.hid (x2.out.goes (.of_below bh))
  replace z2 := x2.out.1
  replace x3 := Lib.hid (x3.out.goes (.of_below bh))
  replace z3 := x3.out.1
  replace x4 := Lib.hid (x4.out.goes (.of_below bh))
  replace z4 := x4.out.1
  clear H U h0 bh c0 b0
  have lw' := Lib.hid lw
  have hb' := Lib.hid hb
  clear lw hb
  go_wp2_with fail
  have bd : Below w2.heap.size w2 w2.drew := (Below.refl _ _).drew
  have h3 := Lib.hid (h2.out.after bd)
  have b3 := b2.trans (bd.mono b2.size)
  replace x1 := Lib.hid (x1.out.goes (.of_below bd))
  clear z1
  replace x2 := Lib.hid (x2.out.goes (.of_below bd))
  clear z2
  replace x3 := Lib.hid (x3.out.goes (.of_below bd))
  clear z3
  replace x4 := Lib.hid (x4.out.goes (.of_below bd))
  clear z4
  generalize hw3 : w2.drew = w3 at *
  have R := Lib.hid (fun w' (hC : Below w3.heap.size w3 w') => rowIs_any w' (L.tp i) L.m j hj (S.page i j) ((h3.out.after hC).pg hi hj) ((h3.out.after hC).pages i hi).lt)
  simp only [hp] at R
  refine wp_region_class (fun w' => Below w3.heap.size w3 w') (by kernel_rfl) (by kernel_rfl) (by rw [hw3]; exact Below.refl _ _) ?_
  refine wpQuiet_val rfl (.pointer (some ⟨L.cp, 0, none⟩)) (fun w' hC => by
    have hc := h3.out.after hC
    have c1 := hc.c1
    have c2 := hc.s0 hi
    have c3 := hc.pg hi hj
    have y1 := (x1.out.goes (.of_below hC)).1
    have y2 := (x2.out.goes (.of_below hC)).1
    have y3 := (x3.out.goes (.of_below hC)).1
    have i1 : (i : Int) < (L.n : Int) := by omega
    go_simp) ?_
  simp only [Act.put, List.setIfInBounds_toArray, List.set_cons_succ, List.set_cons_zero]
  refine wpQuiet_val rfl (.pointer (some ⟨L.cp, 0, none⟩)) (fun w' hC => by
    have hc := h3.out.after hC
    have c1 := hc.c1
    have c2 := hc.s0 hi
    have c3 := hc.pg hi hj
    have y1 := (x1.out.goes (.of_below hC)).1
    have y2 := (x2.out.goes (.of_below hC)).1
    have y3 := (x3.out.goes (.of_below hC)).1
    have i1 : (i : Int) < (L.n : Int) := by omega
    go_simp) ?_
  simp only [Act.put, List.setIfInBounds_toArray, List.set_cons_succ, List.set_cons_zero]
  refine wpQuiet_val rfl (.pointer (some ⟨L.cp, 1, none⟩)) (fun w' hC => by
    have hc := h3.out.after hC
    have c1 := hc.c1
    have c2 := hc.s0 hi
    have c3 := hc.pg hi hj
    have y1 := (x1.out.goes (.of_below hC)).1
    have y2 := (x2.out.goes (.of_below hC)).1
    have y3 := (x3.out.goes (.of_below hC)).1
    have i1 : (i : Int) < (L.n : Int) := by omega
    go_simp) ?_
  simp only [Act.put, List.setIfInBounds_toArray, List.set_cons_succ, List.set_cons_zero]
  refine wpQuiet_val rfl (.slice (some ⟨L.sp, 0, none⟩) L.n L.n) (fun w' hC => by
    have hc := h3.out.after hC
    have c1 := hc.c1
    have c2 := hc.s0 hi
    have c3 := hc.pg hi hj
    have y1 := (x1.out.goes (.of_below hC)).1
    have y2 := (x2.out.goes (.of_below hC)).1
    have y3 := (x3.out.goes (.of_below hC)).1
    have i1 : (i : Int) < (L.n : Int) := by omega
    go_simp) ?_
  simp only [Act.put, List.setIfInBounds_toArray, List.set_cons_succ, List.set_cons_zero]
  refine wpQuiet_val rfl (.int .i64 ((i : Nat) : Int)) (fun w' hC => by
    have hc := h3.out.after hC
    have c1 := hc.c1
    have c2 := hc.s0 hi
    have c3 := hc.pg hi hj
    have y1 := (x1.out.goes (.of_below hC)).1
    have y2 := (x2.out.goes (.of_below hC)).1
    have y3 := (x3.out.goes (.of_below hC)).1
    have i1 : (i : Int) < (L.n : Int) := by omega
    go_simp) ?_
  simp only [Act.put, List.setIfInBounds_toArray, List.set_cons_succ, List.set_cons_zero]
  refine wpQuiet_val rfl (.pointer (some ⟨L.sp, i * 3, none⟩)) (fun w' hC => by
    have hc := h3.out.after hC
    have c1 := hc.c1
    have c2 := hc.s0 hi
    have c3 := hc.pg hi hj
    have y1 := (x1.out.goes (.of_below hC)).1
    have y2 := (x2.out.goes (.of_below hC)).1
    have y3 := (x3.out.goes (.of_below hC)).1
    have i1 : (i : Int) < (L.n : Int) := by omega
    go_simp) ?_
  simp only [Act.put, List.setIfInBounds_toArray, List.set_cons_succ, List.set_cons_zero]
  refine wpQuiet_val rfl (.pointer (some ⟨L.sp, i * 3, none⟩)) (fun w' hC => by
    have hc := h3.out.after hC
    have c1 := hc.c1
    have c2 := hc.s0 hi
    have c3 := hc.pg hi hj
    have y1 := (x1.out.goes (.of_below hC)).1
    have y2 := (x2.out.goes (.of_below hC)).1
    have y3 := (x3.out.goes (.of_below hC)).1
    have i1 : (i : Int) < (L.n : Int) := by omega
    go_simp) ?_
  simp only [Act.put, List.setIfInBounds_toArray, List.set_cons_succ, List.set_cons_zero]
  refine wpQuiet_val rfl (.agg #[.slice (some ⟨L.tp i, 0, none⟩) L.m L.m]) (fun w' hC => by
    have hc := h3.out.after hC
    have c1 := hc.c1
    have c2 := hc.s0 hi
    have c3 := hc.pg hi hj
    have y1 := (x1.out.goes (.of_below hC)).1
    have y2 := (x2.out.goes (.of_below hC)).1
    have y3 := (x3.out.goes (.of_below hC)).1
    have i1 : (i : Int) < (L.n : Int) := by omega
    go_simp) ?_
  simp only [Act.put, List.setIfInBounds_toArray, List.set_cons_succ, List.set_cons_zero]
  refine wpQuiet_val rfl (.int .i64 ((j : Nat) : Int)) (fun w' hC => by
    have hc := h3.out.after hC
    have c1 := hc.c1
    have c2 := hc.s0 hi
    have c3 := hc.pg hi hj
    have y1 := (x1.out.goes (.of_below hC)).1
    have y2 := (x2.out.goes (.of_below hC)).1
    have y3 := (x3.out.goes (.of_below hC)).1
    have i1 : (i : Int) < (L.n : Int) := by omega
    go_simp) ?_
  simp only [Act.put, List.setIfInBounds_toArray, List.set_cons_succ, List.set_cons_zero]
  (go_big_quiet_want; go_big_quiet_op; apply Exists.intro; refine ⟨fun w' hC => (R.out w' hC).mono fun e w'' h => ⟨h.1, hC.trans (h.2.mono hC.size)⟩, ?_⟩; go_big_quiet_on)
  (go_big_quiet_want; go_big_quiet_op; go_big_quiet_on)
  refine wpQuiet_nil fun w4 hC => ?_
  have h4 := Lib.hid (h3.out.after hC)
  have b4 := b3.trans (hC.mono b3.size)
  replace x1 := Lib.hid (x1.out.goes (.of_below hC))
  replace x2 := Lib.hid (x2.out.goes (.of_below hC))
  replace x3 := Lib.hid (x3.out.goes (.of_below hC))
  replace x4 := Lib.hid (x4.out.goes (.of_below hC))
  clear R h3 b3 hC h2 b2 bd hw3
  have g4 : Goes L hv w hv w4 := .of_below b4
  clear b4
  go_wp2_with fail
  refine wp_region_still_tail 5 (by kernel_rfl) (by kernel_rfl) ?_
  change wpStill _ _ (World.drew _) (fun a' => wpList _ _ _ _ a' (World.drew _)) _ _
  have bd : Below w4.heap.size w4 w4.drew := (Below.refl _ _).drew
  replace h4 := Lib.hid (h4.out.after bd)
  replace g4 := g4.below bd
  replace x1 := Lib.hid (x1.out.goes (.of_below bd))
  replace x2 := Lib.hid (x2.out.goes (.of_below bd))
  replace x3 := Lib.hid (x3.out.goes (.of_below bd))
  replace x4 := Lib.hid (x4.out.goes (.of_below bd))
  clear bd
  generalize w4.drew = w5 at *
  have z1 := x1.out.1
  have A := Lib.hid (actP_whole B w5 L S hv h4 (w.heap.size + 3) w.heap.size (w.heap.size + 1) (w.heap.size + 2) i j s x4 x1 x2 x3 hi hj hs'.out lw'.out.hist hu (S.left - 1) rfl lw'.out.lo lw'.out.hi hb'.out lw'.out.progs)
  simp only [List.take_succ_cons, List.take_zero, List.drop_succ_cons, List.drop_zero]
  refine wpStill_of_quiet _ _ ?_
  repeat (first | go_big_quiet_skip | (go_big_quiet_want; go_big_quiet_op; go_big_quiet_on))
  refine wpQuiet_nil ?_
  go_wp2_with fail
  refine A.out.mono ?_
  rintro e w6 ⟨rfl, hv6, h6, g6⟩
  clear A h4 x1 x2 x3 x4 z1
  go_wp2
  go_ret
  exact ⟨rfl, hv6, h6, g4.trans g6⟩

set_option maxHeartbeats 1000000 in
set_option maxRecDepth 8000 in
theorem prog_part (B : Nat) (w : World) (L : Lay) (S : St) (hv : Value) (h : Hid (Ch B w L S hv)) (i j : Nat) (s : ByteArray) (hi : i < L.n) (hj : j < L.m) (hu : S.up = true) (hs : s.size ≤ 256) (hp : isB (S.page i j) = false) (lw : Low S) (hb : (S.left - 1 != 0) = false) :
    Calls Tryz.prog 20 #[.pointer (some ⟨L.cp, 0, none⟩), .int .i64 ((i : Nat) : Int), .int .i64 ((j : Nat) : Int), .string s] w fun e w' => e = .returned (.int .i64 4) ∧ ∃ hv', Hid (Ch B w' L (prS (cntP (actS S false (S.left - 1))) i j (pageT s S.keep S.junk)) hv') ∧ Goes L hv w hv' w' := by
  have b0 : Below w.heap.size w ((((w.alloc (.cells #[.pointer (some ⟨L.cp, 0, none⟩)] 24)).alloc (.cells #[.int .i64 ((i : Nat) : Int)] 3)).alloc (.cells #[.int .i64 ((j : Nat) : Int)] 3)).alloc (.cells #[.string s] 9)) := allocs_below [.cells #[.pointer (some ⟨L.cp, 0, none⟩)] 24, .cells #[.int .i64 ((i : Nat) : Int)] 3, .cells #[.int .i64 ((j : Nat) : Int)] 3, .cells #[.string s] 9] w
  have h0 := Lib.hid (h.out.after b0)
  have x1 : Hid (Box ((((w.alloc (.cells #[.pointer (some ⟨L.cp, 0, none⟩)] 24)).alloc (.cells #[.int .i64 ((i : Nat) : Int)] 3)).alloc (.cells #[.int .i64 ((j : Nat) : Int)] 3)).alloc (.cells #[.string s] 9)) (foot L hv) (w.heap.size) (.pointer (some ⟨L.cp, 0, none⟩))) := by
    have r : RowAt ((((w.alloc (.cells #[.pointer (some ⟨L.cp, 0, none⟩)] 24)).alloc (.cells #[.int .i64 ((i : Nat) : Int)] 3)).alloc (.cells #[.int .i64 ((j : Nat) : Int)] 3)).alloc (.cells #[.string s] 9)) (w.heap.size) 24 #[.pointer (some ⟨L.cp, 0, none⟩)] := allocs_row [.cells #[.pointer (some ⟨L.cp, 0, none⟩)] 24, .cells #[.int .i64 ((i : Nat) : Int)] 3, .cells #[.int .i64 ((j : Nat) : Int)] 3, .cells #[.string s] 9] w 0 24 #[.pointer (some ⟨L.cp, 0, none⟩)] rfl
    exact ⟨by rw [cell_of_row _ _ 0 _ _ _ r]; rfl, r.lt, fun hf => by have := (h.out.base _ hf).2; omega⟩
  have z1 := x1.out.1
  have x2 : Hid (Box ((((w.alloc (.cells #[.pointer (some ⟨L.cp, 0, none⟩)] 24)).alloc (.cells #[.int .i64 ((i : Nat) : Int)] 3)).alloc (.cells #[.int .i64 ((j : Nat) : Int)] 3)).alloc (.cells #[.string s] 9)) (foot L hv) (w.heap.size + 1) (.int .i64 ((i : Nat) : Int))) := by
    have r : RowAt ((((w.alloc (.cells #[.pointer (some ⟨L.cp, 0, none⟩)] 24)).alloc (.cells #[.int .i64 ((i : Nat) : Int)] 3)).alloc (.cells #[.int .i64 ((j : Nat) : Int)] 3)).alloc (.cells #[.string s] 9)) (w.heap.size + 1) 3 #[.int .i64 ((i : Nat) : Int)] := allocs_row [.cells #[.pointer (some ⟨L.cp, 0, none⟩)] 24, .cells #[.int .i64 ((i : Nat) : Int)] 3, .cells #[.int .i64 ((j : Nat) : Int)] 3, .cells #[.string s] 9] w 1 3 #[.int .i64 ((i : Nat) : Int)] rfl
    exact ⟨by rw [cell_of_row _ _ 0 _ _ _ r]; rfl, r.lt, fun hf => by have := (h.out.base _ hf).2; omega⟩
  have z2 := x2.out.1
  have x3 : Hid (Box ((((w.alloc (.cells #[.pointer (some ⟨L.cp, 0, none⟩)] 24)).alloc (.cells #[.int .i64 ((i : Nat) : Int)] 3)).alloc (.cells #[.int .i64 ((j : Nat) : Int)] 3)).alloc (.cells #[.string s] 9)) (foot L hv) (w.heap.size + 2) (.int .i64 ((j : Nat) : Int))) := by
    have r : RowAt ((((w.alloc (.cells #[.pointer (some ⟨L.cp, 0, none⟩)] 24)).alloc (.cells #[.int .i64 ((i : Nat) : Int)] 3)).alloc (.cells #[.int .i64 ((j : Nat) : Int)] 3)).alloc (.cells #[.string s] 9)) (w.heap.size + 2) 3 #[.int .i64 ((j : Nat) : Int)] := allocs_row [.cells #[.pointer (some ⟨L.cp, 0, none⟩)] 24, .cells #[.int .i64 ((i : Nat) : Int)] 3, .cells #[.int .i64 ((j : Nat) : Int)] 3, .cells #[.string s] 9] w 2 3 #[.int .i64 ((j : Nat) : Int)] rfl
    exact ⟨by rw [cell_of_row _ _ 0 _ _ _ r]; rfl, r.lt, fun hf => by have := (h.out.base _ hf).2; omega⟩
  have z3 := x3.out.1
  have x4 : Hid (Box ((((w.alloc (.cells #[.pointer (some ⟨L.cp, 0, none⟩)] 24)).alloc (.cells #[.int .i64 ((i : Nat) : Int)] 3)).alloc (.cells #[.int .i64 ((j : Nat) : Int)] 3)).alloc (.cells #[.string s] 9)) (foot L hv) (w.heap.size + 3) (.string s)) := by
    have r : RowAt ((((w.alloc (.cells #[.pointer (some ⟨L.cp, 0, none⟩)] 24)).alloc (.cells #[.int .i64 ((i : Nat) : Int)] 3)).alloc (.cells #[.int .i64 ((j : Nat) : Int)] 3)).alloc (.cells #[.string s] 9)) (w.heap.size + 3) 9 #[.string s] := allocs_row [.cells #[.pointer (some ⟨L.cp, 0, none⟩)] 24, .cells #[.int .i64 ((i : Nat) : Int)] 3, .cells #[.int .i64 ((j : Nat) : Int)] 3, .cells #[.string s] 9] w 3 9 #[.string s] rfl
    exact ⟨by rw [cell_of_row _ _ 0 _ _ _ r]; rfl, r.lt, fun hf => by have := (h.out.base _ hf).2; omega⟩
  have z4 := x4.out.1
  have U := Lib.hid (powUp_any L.pp _ _ _ _ _ (Lib.hid h0.out.pow))
  have c0 := h0.out.c0
  have hin : (inB ((i : Nat) : Int) L.n && inB ((j : Nat) : Int) L.m) = true := by rw [inB_nat i _ hi, inB_nat j _ hj]; rfl
  have H := Lib.hid (hasPage_any B _ L S hv h0 ((i : Nat) : Int) ((j : Nat) : Int))
  rw [hin] at H
  rw [hu] at U
  have l0 : ¬ (256 : Int) < (s.size : Int) := by omega
  have hs' := Lib.hid hs
  clear hs
  go_enter Tryz.func20, Tryz.ntmps20
  go_wp2_with fail
  generalize (((w.alloc (.cells #[.pointer (some ⟨L.cp, 0, none⟩)] 24)).alloc (.cells #[.int .i64 ((i : Nat) : Int)] 3)).alloc (.cells #[.int .i64 ((j : Nat) : Int)] 3)).alloc (.cells #[.string s] 9) = w0 at *
  refine U.out.mono ?_
  rintro e w1 ⟨rfl, rfl⟩
  go_wp2_with fail
  refine H.out.mono ?_
  rintro e w2 ⟨rfl, bh⟩
  have b2 := b0.trans (bh.mono b0.size)
  have h2 := Lib.hid (h0.out.after bh)
  replace x1 := Lib.hid (x1.out.goes (.of_below bh))
  replace z1 := x1.out.1
  replace x2 := Lib.hid (x2.out.goes (.of_below bh))
  replace z2 := x2.out.1
  replace x3 := Lib.hid (x3.out.goes (.of_below bh))
  replace z3 := x3.out.1
  replace x4 := Lib.hid (x4.out.goes (.of_below bh))
  replace z4 := x4.out.1
  clear H U h0 bh c0 b0
  have lw' := Lib.hid lw
  have hb' := Lib.hid hb
  clear lw hb
  go_wp2_with fail
  have bd : Below w2.heap.size w2 w2.drew := (Below.refl _ _).drew
  have h3 := Lib.hid (h2.out.after bd)
  have b3 := b2.trans (bd.mono b2.size)
  replace x1 := Lib.hid (x1.out.goes (.of_below bd))
  clear z1
  replace x2 := Lib.hid (x2.out.goes (.of_below bd))
  clear z2
  replace x3 := Lib.hid (x3.out.goes (.of_below bd))
  clear z3
  replace x4 := Lib.hid (x4.out.goes (.of_below bd))
  clear z4
  generalize hw3 : w2.drew = w3 at *
  have R := Lib.hid (fun w' (hC : Below w3.heap.size w3 w') => rowIs_any w' (L.tp i) L.m j hj (S.page i j) ((h3.out.after hC).pg hi hj) ((h3.out.after hC).pages i hi).lt)
  simp only [hp] at R
  refine wp_region_class (fun w' => Below w3.heap.size w3 w') (by kernel_rfl) (by kernel_rfl) (by rw [hw3]; exact Below.refl _ _) ?_
  refine wpQuiet_val rfl (.pointer (some ⟨L.cp, 0, none⟩)) (fun w' hC => by
    have hc := h3.out.after hC
    have c1 := hc.c1
    have c2 := hc.s0 hi
    have c3 := hc.pg hi hj
    have y1 := (x1.out.goes (.of_below hC)).1
    have y2 := (x2.out.goes (.of_below hC)).1
    have y3 := (x3.out.goes (.of_below hC)).1
    have i1 : (i : Int) < (L.n : Int) := by omega
    go_simp) ?_
  simp only [Act.put, List.setIfInBounds_toArray, List.set_cons_succ, List.set_cons_zero]
  refine wpQuiet_val rfl (.pointer (some ⟨L.cp, 0, none⟩)) (fun w' hC => by
    have hc := h3.out.after hC
    have c1 := hc.c1
    have c2 := hc.s0 hi
    have c3 := hc.pg hi hj
    have y1 := (x1.out.goes (.of_below hC)).1
    have y2 := (x2.out.goes (.of_below hC)).1
    have y3 := (x3.out.goes (.of_below hC)).1
    have i1 : (i : Int) < (L.n : Int) := by omega
    go_simp) ?_
  simp only [Act.put, List.setIfInBounds_toArray, List.set_cons_succ, List.set_cons_zero]
  refine wpQuiet_val rfl (.pointer (some ⟨L.cp, 1, none⟩)) (fun w' hC => by
    have hc := h3.out.after hC
    have c1 := hc.c1
    have c2 := hc.s0 hi
    have c3 := hc.pg hi hj
    have y1 := (x1.out.goes (.of_below hC)).1
    have y2 := (x2.out.goes (.of_below hC)).1
    have y3 := (x3.out.goes (.of_below hC)).1
    have i1 : (i : Int) < (L.n : Int) := by omega
    go_simp) ?_
  simp only [Act.put, List.setIfInBounds_toArray, List.set_cons_succ, List.set_cons_zero]
  refine wpQuiet_val rfl (.slice (some ⟨L.sp, 0, none⟩) L.n L.n) (fun w' hC => by
    have hc := h3.out.after hC
    have c1 := hc.c1
    have c2 := hc.s0 hi
    have c3 := hc.pg hi hj
    have y1 := (x1.out.goes (.of_below hC)).1
    have y2 := (x2.out.goes (.of_below hC)).1
    have y3 := (x3.out.goes (.of_below hC)).1
    have i1 : (i : Int) < (L.n : Int) := by omega
    go_simp) ?_
  simp only [Act.put, List.setIfInBounds_toArray, List.set_cons_succ, List.set_cons_zero]
  refine wpQuiet_val rfl (.int .i64 ((i : Nat) : Int)) (fun w' hC => by
    have hc := h3.out.after hC
    have c1 := hc.c1
    have c2 := hc.s0 hi
    have c3 := hc.pg hi hj
    have y1 := (x1.out.goes (.of_below hC)).1
    have y2 := (x2.out.goes (.of_below hC)).1
    have y3 := (x3.out.goes (.of_below hC)).1
    have i1 : (i : Int) < (L.n : Int) := by omega
    go_simp) ?_
  simp only [Act.put, List.setIfInBounds_toArray, List.set_cons_succ, List.set_cons_zero]
  refine wpQuiet_val rfl (.pointer (some ⟨L.sp, i * 3, none⟩)) (fun w' hC => by
    have hc := h3.out.after hC
    have c1 := hc.c1
    have c2 := hc.s0 hi
    have c3 := hc.pg hi hj
    have y1 := (x1.out.goes (.of_below hC)).1
    have y2 := (x2.out.goes (.of_below hC)).1
    have y3 := (x3.out.goes (.of_below hC)).1
    have i1 : (i : Int) < (L.n : Int) := by omega
    go_simp) ?_
  simp only [Act.put, List.setIfInBounds_toArray, List.set_cons_succ, List.set_cons_zero]
  refine wpQuiet_val rfl (.pointer (some ⟨L.sp, i * 3, none⟩)) (fun w' hC => by
    have hc := h3.out.after hC
    have c1 := hc.c1
    have c2 := hc.s0 hi
    have c3 := hc.pg hi hj
    have y1 := (x1.out.goes (.of_below hC)).1
    have y2 := (x2.out.goes (.of_below hC)).1
    have y3 := (x3.out.goes (.of_below hC)).1
    have i1 : (i : Int) < (L.n : Int) := by omega
    go_simp) ?_
  simp only [Act.put, List.setIfInBounds_toArray, List.set_cons_succ, List.set_cons_zero]
  refine wpQuiet_val rfl (.agg #[.slice (some ⟨L.tp i, 0, none⟩) L.m L.m]) (fun w' hC => by
    have hc := h3.out.after hC
    have c1 := hc.c1
    have c2 := hc.s0 hi
    have c3 := hc.pg hi hj
    have y1 := (x1.out.goes (.of_below hC)).1
    have y2 := (x2.out.goes (.of_below hC)).1
    have y3 := (x3.out.goes (.of_below hC)).1
    have i1 : (i : Int) < (L.n : Int) := by omega
    go_simp) ?_
  simp only [Act.put, List.setIfInBounds_toArray, List.set_cons_succ, List.set_cons_zero]
  refine wpQuiet_val rfl (.int .i64 ((j : Nat) : Int)) (fun w' hC => by
    have hc := h3.out.after hC
    have c1 := hc.c1
    have c2 := hc.s0 hi
    have c3 := hc.pg hi hj
    have y1 := (x1.out.goes (.of_below hC)).1
    have y2 := (x2.out.goes (.of_below hC)).1
    have y3 := (x3.out.goes (.of_below hC)).1
    have i1 : (i : Int) < (L.n : Int) := by omega
    go_simp) ?_
  simp only [Act.put, List.setIfInBounds_toArray, List.set_cons_succ, List.set_cons_zero]
  (go_big_quiet_want; go_big_quiet_op; apply Exists.intro; refine ⟨fun w' hC => (R.out w' hC).mono fun e w'' h => ⟨h.1, hC.trans (h.2.mono hC.size)⟩, ?_⟩; go_big_quiet_on)
  (go_big_quiet_want; go_big_quiet_op; go_big_quiet_on)
  refine wpQuiet_nil fun w4 hC => ?_
  have h4 := Lib.hid (h3.out.after hC)
  have b4 := b3.trans (hC.mono b3.size)
  replace x1 := Lib.hid (x1.out.goes (.of_below hC))
  replace x2 := Lib.hid (x2.out.goes (.of_below hC))
  replace x3 := Lib.hid (x3.out.goes (.of_below hC))
  replace x4 := Lib.hid (x4.out.goes (.of_below hC))
  clear R h3 b3 hC h2 b2 bd hw3
  have g4 : Goes L hv w hv w4 := .of_below b4
  clear b4
  go_wp2_with fail
  refine wp_region_still_tail 5 (by kernel_rfl) (by kernel_rfl) ?_
  change wpStill _ _ (World.drew _) (fun a' => wpList _ _ _ _ a' (World.drew _)) _ _
  have bd : Below w4.heap.size w4 w4.drew := (Below.refl _ _).drew
  replace h4 := Lib.hid (h4.out.after bd)
  replace g4 := g4.below bd
  replace x1 := Lib.hid (x1.out.goes (.of_below bd))
  replace x2 := Lib.hid (x2.out.goes (.of_below bd))
  replace x3 := Lib.hid (x3.out.goes (.of_below bd))
  replace x4 := Lib.hid (x4.out.goes (.of_below bd))
  clear bd
  generalize w4.drew = w5 at *
  have z1 := x1.out.1
  have A := Lib.hid (actP_part B w5 L S hv h4 (w.heap.size + 3) w.heap.size (w.heap.size + 1) (w.heap.size + 2) i j s x4 x1 x2 x3 hi hj hs'.out lw'.out.hist hu (S.left - 1) rfl lw'.out.lo lw'.out.hi hb'.out lw'.out.progs)
  simp only [List.take_succ_cons, List.take_zero, List.drop_succ_cons, List.drop_zero]
  refine wpStill_of_quiet _ _ ?_
  repeat (first | go_big_quiet_skip | (go_big_quiet_want; go_big_quiet_op; go_big_quiet_on))
  refine wpQuiet_nil ?_
  go_wp2_with fail
  refine A.out.mono ?_
  rintro e w6 ⟨rfl, hv6, h6, g6⟩
  clear A h4 x1 x2 x3 x4 z1
  go_wp2
  go_ret
  exact ⟨rfl, hv6, h6, g4.trans g6⟩

set_option maxHeartbeats 1000000 in
theorem prog_any (B : Nat) (w : World) (L : Lay) (S : St) (hv : Value) (h : Hid (Ch B w L S hv)) (z y : Int) (s : ByteArray) (lw : Low S) :
    Calls Tryz.prog 20 #[.pointer (some ⟨L.cp, 0, none⟩), .int .i64 z, .int .i64 y, .string s] w fun e w' => e = .returned (.int .i64 (progE L.n L.m S z y s)) ∧ ∃ hv', Hid (Ch B w' L (progS L.n L.m S z y s) hv') ∧ Goes L hv w hv' w' := by
  have up : ∀ {E : Int}, (Calls Tryz.prog 20 #[.pointer (some ⟨L.cp, 0, none⟩), .int .i64 z, .int .i64 y, .string s] w fun e w' => e = .returned (.int .i64 E) ∧ Below w.heap.size w w') → Calls Tryz.prog 20 #[.pointer (some ⟨L.cp, 0, none⟩), .int .i64 z, .int .i64 y, .string s] w fun e w' => e = .returned (.int .i64 E) ∧ ∃ hv', Hid (Ch B w' L S hv') ∧ Goes L hv w hv' w' := fun c => c.mono fun e w' ⟨h1, h2⟩ => ⟨h1, hv, h.out.after h2, .of_below h2⟩
  unfold progE progS
  by_cases hu : S.up = false
  · rw [if_pos hu, if_pos hu]
    exact up (prog_off B w L S hv h z y s hu)
  rw [if_neg hu, if_neg hu]
  have hu' : S.up = true := by simpa using hu
  by_cases hin : (inB z L.n && inB y L.m) = false
  · rw [if_pos hin, if_pos hin]
    exact up (prog_arg B w L S hv h z y s hu' hin)
  rw [if_neg hin, if_neg hin]
  have hin' : (inB z L.n && inB y L.m) = true := by simpa using hin
  by_cases hs : 256 < s.size
  · rw [if_pos hs, if_pos hs]
    exact up (prog_long B w L S hv h z y s hu' hin' hs)
  rw [if_neg hs, if_neg hs]
  rw [Bool.and_eq_true] at hin'
  obtain ⟨i, rfl, hi⟩ := inB_get hin'.1
  obtain ⟨j, rfl, hj⟩ := inB_get hin'.2
  rw [show ((i : Nat) : Int).toNat = i from rfl, show ((j : Nat) : Int).toNat = j from rfl]
  by_cases hb : isB (S.page i j) = true
  · rw [if_pos hb, if_pos hb]
    exact up (prog_used B w L S hv h i j s hi hj hu' (by omega) hb)
  rw [if_neg hb, if_neg hb]
  have hb' : isB (S.page i j) = false := by simpa using hb
  by_cases hl : (S.left - 1 != 0) = true
  · rw [if_pos hl, if_pos hl]
    exact prog_whole B w L S hv h i j s hi hj hu' (by omega) hb' lw hl
  · rw [if_neg hl, if_neg hl]
    exact prog_part B w L S hv h i j s hi hj hu' (by omega) hb' lw (by simpa using hl)

end Go.Proofs.YtapebaoajknepaaGreatDoor
/-
  States of a chip: what counts its acts is small; what is no act turns nothing; what a whole act does.
-/
namespace Go.Proofs.YtapebaoajknepaaGreatDoor
open Go.RowKit
set_option linter.unusedVariables false

/-- No more than t acts so far. -/
structure LowT (S : St) (t : Nat) : Prop where
  progs : S.progs ≤ t
  erases : S.erases ≤ t
  wear : ∀ i, S.wear i ≤ t
  hist : S.hist.length ≤ t
  lo : -(t : Int) ≤ S.left
  hi : S.left < 9223372036854775808

theorem LowT.low {S : St} {t : Nat} (h : LowT S t) (ht : t < 1000000) : Low S :=
  ⟨by have := h.progs; omega, by have := h.erases; omega, fun i => by have := h.wear i; omega, by have := h.hist; omega, by have := h.lo; omega, h.hi⟩
theorem LowT.mono {S : St} {t u : Nat} (h : LowT S t) (ht : t ≤ u) : LowT S u :=
  ⟨by have := h.progs; omega, by have := h.erases; omega, fun i => by have := h.wear i; omega, by have := h.hist; omega, by have := h.lo; omega, h.hi⟩
theorem LowT.act {S : St} {t : Nat} (h : LowT S t) (b : Bool) : LowT (actS S b (S.left - 1)) (t + 1) :=
  ⟨Nat.le_succ_of_le h.progs, Nat.le_succ_of_le h.erases, fun i => Nat.le_succ_of_le (h.wear i), Nat.le_succ_of_le h.hist, by
    have := h.lo
    show -((t + 1 : Nat) : Int) ≤ S.left - 1
    omega, by
    have := h.hi
    show S.left - 1 < _
    omega⟩
theorem LowT.prog1 {S : St} {t : Nat} (h : LowT S t) (b : Bool) (i j : Nat) (s : ByteArray) : LowT (prS (cntP (actS S b (S.left - 1))) i j s) (t + 1) :=
  ⟨Nat.succ_le_succ h.progs, Nat.le_succ_of_le h.erases, fun i => Nat.le_succ_of_le (h.wear i), by
    show (S.hist ++ [s]).length ≤ t + 1
    rw [List.length_append]
    exact Nat.succ_le_succ h.hist, (h.act b).lo, (h.act b).hi⟩
theorem LowT.erase1 {S : St} {t : Nat} (h : LowT S t) (b : Bool) (i k : Nat) : LowT (erS (cntE (actS S b (S.left - 1))) i k) (t + 1) :=
  ⟨Nat.le_succ_of_le h.progs, Nat.succ_le_succ h.erases, fun j => by
    show updW S.wear i j ≤ t + 1
    unfold updW
    have := h.wear i
    have := h.wear j
    split <;> omega, Nat.le_succ_of_le h.hist, (h.act b).lo, (h.act b).hi⟩
theorem LowT.prog {S : St} {t : Nat} (h : LowT S t) (n m : Nat) (z y : Int) (s : ByteArray) : LowT (progS n m S z y s) (t + 1) := by
  have h1 := h.mono (Nat.le_succ t)
  unfold progS
  split
  · exact h1
  split
  · exact h1
  split
  · exact h1
  split
  · exact h1
  split
  · exact h.prog1 _ _ _ _
  · exact h.prog1 _ _ _ _
theorem LowT.erase {S : St} {t : Nat} (h : LowT S t) (n : Nat) (z : Int) : LowT (eraseS n S z) (t + 1) := by
  have h1 := h.mono (Nat.le_succ t)
  unfold eraseS
  split
  · exact h1
  split
  · exact h1
  split
  · exact h1
  split
  · exact h.erase1 _ _ _
  · exact h.erase1 _ _ _

theorem isB_page (s : ByteArray) (k j : Nat) : isB (pageT s k j) = true := by
  have h := pageT_size s k j
  unfold isB
  cases hl : (pageT s k j).toList with
  | nil =>
    exfalso
    have : (pageT s k j).data.toList.length = 256 := by rw [Array.length_toList]; exact h
    rw [← ByteArray.toList_eq, hl] at this
    cases this
  | cons b l => rfl

theorem progS_same {n m : Nat} {S : St} {z y : Int} {s : ByteArray} (h : S.up = false ∨ progE n m S z y s = 1 ∨ progE n m S z y s = 100) : progS n m S z y s = S := by
  unfold progE at h
  unfold progS
  by_cases h1 : S.up = false
  · rw [if_pos h1]
  rw [if_neg h1] at h ⊢
  by_cases h2 : (inB z n && inB y m) = false
  · rw [if_pos h2]
  rw [if_neg h2] at h ⊢
  by_cases h3 : 256 < s.size
  · rw [if_pos h3]
  rw [if_neg h3] at h ⊢
  by_cases h4 : isB (S.page z.toNat y.toNat) = true
  · rw [if_pos h4]
  rw [if_neg h4] at h
  by_cases h5 : (S.left - 1 != 0) = true
  · rw [if_pos h5] at h
    rcases h with h | h | h
    · exact absurd h h1
    · cases h
    · cases h
  · rw [if_neg h5] at h
    rcases h with h | h | h
    · exact absurd h h1
    · cases h
    · cases h
theorem eraseS_same {n : Nat} {S : St} {z : Int} (h : S.up = false ∨ eraseE n S z = 1 ∨ eraseE n S z = 101) : eraseS n S z = S := by
  unfold eraseE at h
  unfold eraseS
  by_cases h1 : S.up = false
  · rw [if_pos h1]
  rw [if_neg h1] at h ⊢
  by_cases h2 : inB z n = false
  · rw [if_pos h2]
  rw [if_neg h2] at h ⊢
  by_cases h4 : wornB S z.toNat = true
  · rw [if_pos h4]
  rw [if_neg h4] at h
  by_cases h5 : (S.left - 1 != 0) = true
  · rw [if_pos h5] at h
    rcases h with h | h | h
    · exact absurd h h1
    · cases h
    · cases h
  · rw [if_neg h5] at h
    rcases h with h | h | h
    · exact absurd h h1
    · cases h
    · cases h

theorem prog_ok {n m i j : Nat} {S : St} {s : ByteArray} (h1 : S.up = true) (hi : i < n) (hj : j < m) (hs : s.size ≤ 256) (hp : isB (S.page i j) = false) (hl : S.left ≠ 1) :
    progE n m S i j s = 0 ∧ progS n m S i j s = prS (cntP (actS S true (S.left - 1))) i j (pageT s 9223372036854775807 0) := by
  have e1 : ¬ S.up = false := by rw [h1]; decide
  have e2 : ¬ (inB (i : Int) n && inB (j : Int) m) = false := by rw [inB_nat i n hi, inB_nat j m hj]; decide
  have e3 : ¬ 256 < s.size := by omega
  have e4 : ¬ isB (S.page ((i : Int)).toNat ((j : Int)).toNat) = true := by
    show ¬ isB (S.page i j) = true
    rw [hp]
    decide
  have e5 : (S.left - 1 != 0) = true := by rw [bne_iff_ne]; omega
  unfold progE progS
  rw [if_neg e1, if_neg e2, if_neg e3, if_neg e4, if_pos e5, if_neg e1, if_neg e2, if_neg e3, if_neg e4, if_pos e5]
  exact ⟨rfl, rfl⟩
theorem prog_torn {n m i j : Nat} {S : St} {s : ByteArray} (h1 : S.up = true) (hi : i < n) (hj : j < m) (hs : s.size ≤ 256) (hp : isB (S.page i j) = false) (hl : S.left = 1) :
    progE n m S i j s = 4 ∧ progS n m S i j s = prS (cntP (actS S false (S.left - 1))) i j (pageT s S.keep S.junk) := by
  have e1 : ¬ S.up = false := by rw [h1]; decide
  have e2 : ¬ (inB (i : Int) n && inB (j : Int) m) = false := by rw [inB_nat i n hi, inB_nat j m hj]; decide
  have e3 : ¬ 256 < s.size := by omega
  have e4 : ¬ isB (S.page ((i : Int)).toNat ((j : Int)).toNat) = true := by
    show ¬ isB (S.page i j) = true
    rw [hp]
    decide
  have e5 : ¬ (S.left - 1 != 0) = true := by rw [hl]; decide
  unfold progE progS
  rw [if_neg e1, if_neg e2, if_neg e3, if_neg e4, if_neg e5, if_neg e1, if_neg e2, if_neg e3, if_neg e4, if_neg e5]
  exact ⟨rfl, rfl⟩
theorem erase_ok {n i : Nat} {S : St} (h1 : S.up = true) (hi : i < n) (hw : wornB S i = false) (hl : S.left ≠ 1) :
    eraseE n S i = 0 ∧ eraseS n S i = erS (cntE (actS S true (S.left - 1))) i 9223372036854775807 := by
  have e1 : ¬ S.up = false := by rw [h1]; decide
  have e2 : ¬ inB (i : Int) n = false := by rw [inB_nat i n hi]; decide
  have e4 : ¬ wornB S ((i : Int)).toNat = true := by
    show ¬ wornB S i = true
    rw [hw]
    decide
  have e5 : (S.left - 1 != 0) = true := by rw [bne_iff_ne]; omega
  unfold eraseE eraseS
  rw [if_neg e1, if_neg e2, if_neg e4, if_pos e5, if_neg e1, if_neg e2, if_neg e4, if_pos e5]
  exact ⟨rfl, rfl⟩
theorem erase_no {n i : Nat} {S : St} (h1 : S.up = true) (hi : i < n) (hw : wornB S i = true) : eraseE n S i = 101 ∧ eraseS n S i = S := by
  have e1 : ¬ S.up = false := by rw [h1]; decide
  have e2 : ¬ inB (i : Int) n = false := by rw [inB_nat i n hi]; decide
  have e4 : wornB S ((i : Int)).toNat = true := hw
  unfold eraseE eraseS
  rw [if_neg e1, if_neg e2, if_pos e4, if_neg e1, if_neg e2, if_pos e4]
  exact ⟨rfl, rfl⟩

end Go.Proofs.YtapebaoajknepaaGreatDoor
/-
  Contract: Read, all ways.
-/
namespace Go.Proofs.YtapebaoajknepaaGreatDoor
open Go.RowKit
set_option linter.unusedVariables false

set_option maxHeartbeats 1000000 in
set_option maxRecDepth 8000 in
theorem read_off (B : Nat) (w : World) (L : Lay) (S : St) (hv : Value) (h : Hid (Ch B w L S hv)) (z y : Int) (hu : S.up = false) :
    Calls Tryz.prog 16 #[.pointer (some ⟨L.cp, 0, none⟩), .int .i64 z, .int .i64 y] w fun e w' => e = .returned (.tuple #[.string ⟨#[]⟩, .bool false, .int .i64 4]) ∧ Below w.heap.size w w' := by
  have U := Lib.hid (powUp_any L.pp _ _ _ _ _ (Lib.hid h.out.pow))
  have c0 := h.out.c0
  rw [hu] at U
  go_enter Tryz.func16, Tryz.ntmps16
  go_wp2_with fail
  refine U.out.mono ?_
  rintro e w1 ⟨rfl, rfl⟩
  go_wp2
  go_ret3
  exact ⟨rfl, Below.refl _ _⟩

set_option maxHeartbeats 1000000 in
set_option maxRecDepth 8000 in
theorem read_arg (B : Nat) (w : World) (L : Lay) (S : St) (hv : Value) (h : Hid (Ch B w L S hv)) (z y : Int) (hu : S.up = true) (hin : (inB z L.n && inB y L.m) = false) :
    Calls Tryz.prog 16 #[.pointer (some ⟨L.cp, 0, none⟩), .int .i64 z, .int .i64 y] w fun e w' => e = .returned (.tuple #[.string ⟨#[]⟩, .bool false, .int .i64 1]) ∧ Below w.heap.size w w' := by
  have U := Lib.hid (powUp_any L.pp _ _ _ _ _ (Lib.hid h.out.pow))
  have c0 := h.out.c0
  have H := Lib.hid (hasPage_any B _ L S hv h z y)
  rw [hin] at H
  rw [hu] at U
  go_enter Tryz.func16, Tryz.ntmps16
  go_wp2_with fail
  refine U.out.mono ?_
  rintro e w1 ⟨rfl, rfl⟩
  go_wp2_with fail
  refine H.out.mono ?_
  rintro e w2 ⟨rfl, b2⟩
  go_wp2
  go_ret3
  exact ⟨rfl, b2⟩

set_option maxHeartbeats 1000000 in
set_option maxRecDepth 8000 in
theorem read_yes (B : Nat) (w : World) (L : Lay) (S : St) (hv : Value) (h : Hid (Ch B w L S hv)) (i j : Nat) (hi : i < L.n) (hj : j < L.m) (hu : S.up = true) :
    Calls Tryz.prog 16 #[.pointer (some ⟨L.cp, 0, none⟩), .int .i64 ((i : Nat) : Int), .int .i64 ((j : Nat) : Int)] w fun e w' => e = .returned (.tuple #[.string (S.page i j), .bool (isB (S.page i j)), .int .i64 0]) ∧ Below w.heap.size w w' := by
  have U := Lib.hid (powUp_any L.pp _ _ _ _ _ (Lib.hid h.out.pow))
  have c0 := h.out.c0
  have hin : (inB ((i : Nat) : Int) L.n && inB ((j : Nat) : Int) L.m) = true := by rw [inB_nat i _ hi, inB_nat j _ hj]; rfl
  have H := Lib.hid (hasPage_any B _ L S hv h ((i : Nat) : Int) ((j : Nat) : Int))
  rw [hin] at H
  rw [hu] at U
  go_enter Tryz.func16, Tryz.ntmps16
  go_wp2_with fail
  refine U.out.mono ?_
  rintro e w1 ⟨rfl, rfl⟩
  go_wp2_with fail
  refine H.out.mono ?_
  rintro e w2 ⟨rfl, b2⟩
  go_wp2_with fail
  have b3 : Below w1.heap.size w1 w2.drew := b2.drew
  have h3 := Lib.hid (h.out.after b3)
  clear H U c0 b2
  generalize hw3 : w2.drew = w3 at *
  have R := Lib.hid (fun w' (hC : Below w3.heap.size w3 w') => rowIs_any w' (L.tp i) L.m j hj (S.page i j) ((h3.out.after hC).pg hi hj) ((h3.out.after hC).pages i hi).lt)
  refine wp_region_class (fun w' => Below w3.heap.size w3 w') (by kernel_rfl) (by kernel_rfl) (by rw [hw3]; exact Below.refl _ _) ?_
  refine wpQuiet_val rfl (.pointer (some ⟨L.cp, 0, none⟩)) (fun w' hC => by
    have hc := h3.out.after hC
    have c1 := hc.c1
    have c2 := hc.s0 hi
    have c3 := hc.pg hi hj
    have i1 : (i : Int) < (L.n : Int) := by omega
    have i2 : (j : Int) < (L.m : Int) := by omega
    go_simp) ?_
  simp only [Act.put, List.setIfInBounds_toArray, List.set_cons_succ, List.set_cons_zero]
  refine wpQuiet_val rfl (.pointer (some ⟨L.cp, 0, none⟩)) (fun w' hC => by
    have hc := h3.out.after hC
    have c1 := hc.c1
    have c2 := hc.s0 hi
    have c3 := hc.pg hi hj
    have i1 : (i : Int) < (L.n : Int) := by omega
    have i2 : (j : Int) < (L.m : Int) := by omega
    go_simp) ?_
  simp only [Act.put, List.setIfInBounds_toArray, List.set_cons_succ, List.set_cons_zero]
  refine wpQuiet_val rfl (.pointer (some ⟨L.cp, 1, none⟩)) (fun w' hC => by
    have hc := h3.out.after hC
    have c1 := hc.c1
    have c2 := hc.s0 hi
    have c3 := hc.pg hi hj
    have i1 : (i : Int) < (L.n : Int) := by omega
    have i2 : (j : Int) < (L.m : Int) := by omega
    go_simp) ?_
  simp only [Act.put, List.setIfInBounds_toArray, List.set_cons_succ, List.set_cons_zero]
  refine wpQuiet_val rfl (.slice (some ⟨L.sp, 0, none⟩) L.n L.n) (fun w' hC => by
    have hc := h3.out.after hC
    have c1 := hc.c1
    have c2 := hc.s0 hi
    have c3 := hc.pg hi hj
    have i1 : (i : Int) < (L.n : Int) := by omega
    have i2 : (j : Int) < (L.m : Int) := by omega
    go_simp) ?_
  simp only [Act.put, List.setIfInBounds_toArray, List.set_cons_succ, List.set_cons_zero]
  refine wpQuiet_val rfl (.int .i64 ((i : Nat) : Int)) (fun w' hC => by
    have hc := h3.out.after hC
    have c1 := hc.c1
    have c2 := hc.s0 hi
    have c3 := hc.pg hi hj
    have i1 : (i : Int) < (L.n : Int) := by omega
    have i2 : (j : Int) < (L.m : Int) := by omega
    go_simp) ?_
  simp only [Act.put, List.setIfInBounds_toArray, List.set_cons_succ, List.set_cons_zero]
  refine wpQuiet_val rfl (.pointer (some ⟨L.sp, i * 3, none⟩)) (fun w' hC => by
    have hc := h3.out.after hC
    have c1 := hc.c1
    have c2 := hc.s0 hi
    have c3 := hc.pg hi hj
    have i1 : (i : Int) < (L.n : Int) := by omega
    have i2 : (j : Int) < (L.m : Int) := by omega
    go_simp) ?_
  simp only [Act.put, List.setIfInBounds_toArray, List.set_cons_succ, List.set_cons_zero]
  refine wpQuiet_val rfl (.pointer (some ⟨L.sp, i * 3, none⟩)) (fun w' hC => by
    have hc := h3.out.after hC
    have c1 := hc.c1
    have c2 := hc.s0 hi
    have c3 := hc.pg hi hj
    have i1 : (i : Int) < (L.n : Int) := by omega
    have i2 : (j : Int) < (L.m : Int) := by omega
    go_simp) ?_
  simp only [Act.put, List.setIfInBounds_toArray, List.set_cons_succ, List.set_cons_zero]
  refine wpQuiet_val rfl (.pointer (some ⟨L.sp, i * 3, none⟩)) (fun w' hC => by
    have hc := h3.out.after hC
    have c1 := hc.c1
    have c2 := hc.s0 hi
    have c3 := hc.pg hi hj
    have i1 : (i : Int) < (L.n : Int) := by omega
    have i2 : (j : Int) < (L.m : Int) := by omega
    go_simp) ?_
  simp only [Act.put, List.setIfInBounds_toArray, List.set_cons_succ, List.set_cons_zero]
  refine wpQuiet_val rfl (.slice (some ⟨L.tp i, 0, none⟩) L.m L.m) (fun w' hC => by
    have hc := h3.out.after hC
    have c1 := hc.c1
    have c2 := hc.s0 hi
    have c3 := hc.pg hi hj
    have i1 : (i : Int) < (L.n : Int) := by omega
    have i2 : (j : Int) < (L.m : Int) := by omega
    go_simp) ?_
  simp only [Act.put, List.setIfInBounds_toArray, List.set_cons_succ, List.set_cons_zero]
  refine wpQuiet_val rfl (.int .i64 ((j : Nat) : Int)) (fun w' hC => by
    have hc := h3.out.after hC
    have c1 := hc.c1
    have c2 := hc.s0 hi
    have c3 := hc.pg hi hj
    have i1 : (i : Int) < (L.n : Int) := by omega
    have i2 : (j : Int) < (L.m : Int) := by omega
    go_simp) ?_
  simp only [Act.put, List.setIfInBounds_toArray, List.set_cons_succ, List.set_cons_zero]
  refine wpQuiet_val rfl (.pointer (some ⟨L.tp i, j, none⟩)) (fun w' hC => by
    have hc := h3.out.after hC
    have c1 := hc.c1
    have c2 := hc.s0 hi
    have c3 := hc.pg hi hj
    have i1 : (i : Int) < (L.n : Int) := by omega
    have i2 : (j : Int) < (L.m : Int) := by omega
    go_simp) ?_
  simp only [Act.put, List.setIfInBounds_toArray, List.set_cons_succ, List.set_cons_zero]
  refine wpQuiet_val rfl (.string (S.page i j)) (fun w' hC => by
    have hc := h3.out.after hC
    have c1 := hc.c1
    have c2 := hc.s0 hi
    have c3 := hc.pg hi hj
    have i1 : (i : Int) < (L.n : Int) := by omega
    have i2 : (j : Int) < (L.m : Int) := by omega
    go_simp) ?_
  simp only [Act.put, List.setIfInBounds_toArray, List.set_cons_succ, List.set_cons_zero]
  refine wpQuiet_val rfl (.pointer (some ⟨L.cp, 0, none⟩)) (fun w' hC => by
    have hc := h3.out.after hC
    have c1 := hc.c1
    have c2 := hc.s0 hi
    have c3 := hc.pg hi hj
    have i1 : (i : Int) < (L.n : Int) := by omega
    have i2 : (j : Int) < (L.m : Int) := by omega
    go_simp) ?_
  simp only [Act.put, List.setIfInBounds_toArray, List.set_cons_succ, List.set_cons_zero]
  refine wpQuiet_val rfl (.pointer (some ⟨L.cp, 0, none⟩)) (fun w' hC => by
    have hc := h3.out.after hC
    have c1 := hc.c1
    have c2 := hc.s0 hi
    have c3 := hc.pg hi hj
    have i1 : (i : Int) < (L.n : Int) := by omega
    have i2 : (j : Int) < (L.m : Int) := by omega
    go_simp) ?_
  simp only [Act.put, List.setIfInBounds_toArray, List.set_cons_succ, List.set_cons_zero]
  refine wpQuiet_val rfl (.pointer (some ⟨L.cp, 1, none⟩)) (fun w' hC => by
    have hc := h3.out.after hC
    have c1 := hc.c1
    have c2 := hc.s0 hi
    have c3 := hc.pg hi hj
    have i1 : (i : Int) < (L.n : Int) := by omega
    have i2 : (j : Int) < (L.m : Int) := by omega
    go_simp) ?_
  simp only [Act.put, List.setIfInBounds_toArray, List.set_cons_succ, List.set_cons_zero]
  refine wpQuiet_val rfl (.slice (some ⟨L.sp, 0, none⟩) L.n L.n) (fun w' hC => by
    have hc := h3.out.after hC
    have c1 := hc.c1
    have c2 := hc.s0 hi
    have c3 := hc.pg hi hj
    have i1 : (i : Int) < (L.n : Int) := by omega
    have i2 : (j : Int) < (L.m : Int) := by omega
    go_simp) ?_
  simp only [Act.put, List.setIfInBounds_toArray, List.set_cons_succ, List.set_cons_zero]
  refine wpQuiet_val rfl (.int .i64 ((i : Nat) : Int)) (fun w' hC => by
    have hc := h3.out.after hC
    have c1 := hc.c1
    have c2 := hc.s0 hi
    have c3 := hc.pg hi hj
    have i1 : (i : Int) < (L.n : Int) := by omega
    have i2 : (j : Int) < (L.m : Int) := by omega
    go_simp) ?_
  simp only [Act.put, List.setIfInBounds_toArray, List.set_cons_succ, List.set_cons_zero]
  refine wpQuiet_val rfl (.pointer (some ⟨L.sp, i * 3, none⟩)) (fun w' hC => by
    have hc := h3.out.after hC
    have c1 := hc.c1
    have c2 := hc.s0 hi
    have c3 := hc.pg hi hj
    have i1 : (i : Int) < (L.n : Int) := by omega
    have i2 : (j : Int) < (L.m : Int) := by omega
    go_simp) ?_
  simp only [Act.put, List.setIfInBounds_toArray, List.set_cons_succ, List.set_cons_zero]
  refine wpQuiet_val rfl (.pointer (some ⟨L.sp, i * 3, none⟩)) (fun w' hC => by
    have hc := h3.out.after hC
    have c1 := hc.c1
    have c2 := hc.s0 hi
    have c3 := hc.pg hi hj
    have i1 : (i : Int) < (L.n : Int) := by omega
    have i2 : (j : Int) < (L.m : Int) := by omega
    go_simp) ?_
  simp only [Act.put, List.setIfInBounds_toArray, List.set_cons_succ, List.set_cons_zero]
  refine wpQuiet_val rfl (.agg #[.slice (some ⟨L.tp i, 0, none⟩) L.m L.m]) (fun w' hC => by
    have hc := h3.out.after hC
    have c1 := hc.c1
    have c2 := hc.s0 hi
    have c3 := hc.pg hi hj
    have i1 : (i : Int) < (L.n : Int) := by omega
    have i2 : (j : Int) < (L.m : Int) := by omega
    go_simp) ?_
  simp only [Act.put, List.setIfInBounds_toArray, List.set_cons_succ, List.set_cons_zero]
  refine wpQuiet_val rfl (.int .i64 ((j : Nat) : Int)) (fun w' hC => by
    have hc := h3.out.after hC
    have c1 := hc.c1
    have c2 := hc.s0 hi
    have c3 := hc.pg hi hj
    have i1 : (i : Int) < (L.n : Int) := by omega
    have i2 : (j : Int) < (L.m : Int) := by omega
    go_simp) ?_
  simp only [Act.put, List.setIfInBounds_toArray, List.set_cons_succ, List.set_cons_zero]
  (go_big_quiet_want; go_big_quiet_op; apply Exists.intro; refine ⟨fun w' hC => (R.out w' hC).mono fun e w'' h => ⟨h.1, hC.trans (h.2.mono hC.size)⟩, ?_⟩; go_big_quiet_on)
  refine wpQuiet_val rfl (.string (S.page i j)) (fun w' hC => by
    have hc := h3.out.after hC
    have c1 := hc.c1
    have c2 := hc.s0 hi
    have c3 := hc.pg hi hj
    have i1 : (i : Int) < (L.n : Int) := by omega
    have i2 : (j : Int) < (L.m : Int) := by omega
    go_simp) ?_
  simp only [Act.put, List.setIfInBounds_toArray, List.set_cons_succ, List.set_cons_zero]
  refine wpQuiet_val rfl (.bool (isB (S.page i j))) (fun w' hC => by
    have hc := h3.out.after hC
    have c1 := hc.c1
    have c2 := hc.s0 hi
    have c3 := hc.pg hi hj
    have i1 : (i : Int) < (L.n : Int) := by omega
    have i2 : (j : Int) < (L.m : Int) := by omega
    go_simp) ?_
  simp only [Act.put, List.setIfInBounds_toArray, List.set_cons_succ, List.set_cons_zero]
  refine wpQuiet_val rfl (.int .i64 0) (fun w' hC => by
    have hc := h3.out.after hC
    have c1 := hc.c1
    have c2 := hc.s0 hi
    have c3 := hc.pg hi hj
    have i1 : (i : Int) < (L.n : Int) := by omega
    have i2 : (j : Int) < (L.m : Int) := by omega
    go_simp) ?_
  simp only [Act.put, List.setIfInBounds_toArray, List.set_cons_succ, List.set_cons_zero]
  refine wpQuiet_nil fun w4 hC => ?_
  have b4 := b3.trans (hC.mono b3.size)
  clear R h3 hC hw3
  go_wp2
  go_ret3
  exact ⟨rfl, b4⟩


/-- What is read. -/
def readV (n m : Nat) (S : St) (z y : Int) : Array Value := if S.up = false then #[.string ⟨#[]⟩, .bool false, .int .i64 4] else if (inB z n && inB y m) = false then #[.string ⟨#[]⟩, .bool false, .int .i64 1] else #[.string (S.page z.toNat y.toNat), .bool (isB (S.page z.toNat y.toNat)), .int .i64 0]
theorem read_any (B : Nat) (w : World) (L : Lay) (S : St) (hv : Value) (h : Hid (Ch B w L S hv)) (z y : Int) :
    Calls Tryz.prog 16 #[.pointer (some ⟨L.cp, 0, none⟩), .int .i64 z, .int .i64 y] w fun e w' => e = .returned (.tuple (readV L.n L.m S z y)) ∧ Below w.heap.size w w' := by
  unfold readV
  by_cases hu : S.up = false
  · rw [if_pos hu]
    exact read_off B w L S hv h z y hu
  rw [if_neg hu]
  have hu' : S.up = true := by simpa using hu
  by_cases hin : (inB z L.n && inB y L.m) = false
  · rw [if_pos hin]
    exact read_arg B w L S hv h z y hu' hin
  rw [if_neg hin]
  have hin' : (inB z L.n && inB y L.m) = true := by simpa using hin
  rw [Bool.and_eq_true] at hin'
  obtain ⟨i, rfl, hi⟩ := inB_get hin'.1
  obtain ⟨j, rfl, hj⟩ := inB_get hin'.2
  exact read_yes B w L S hv h i j hi hj hu'

end Go.Proofs.YtapebaoajknepaaGreatDoor
/-
  Contracts: RotateLeft32, the document's right and turn, the closure that turns, and what makes it.
-/
namespace Go.Proofs.YtapebaoajknepaaGreatDoor
open Go.RowKit

set_option maxHeartbeats 400000 in
theorem rot_any (x : Nat) (n : Nat) (hx : x < 4294967296) (h1 : 1 ≤ n) (h2 : n ≤ 31) (w : World) :
    Calls Tryz.prog 112 #[.int .u32 x, .int .i64 (-(n : Int))] w fun e w' => e = .returned (.int .u32 (rotr x n : Nat)) ∧ w' = w := by
  obtain ⟨c, hc⟩ : ∃ c, c = 32 - n := ⟨_, rfl⟩
  have e1 := rot_count n h1 h2
  rw [← hc] at e1
  have e2 := Lib.hid (rot_value x n hx h1 h2 c hc)
  have c1 : 1 ≤ c := by omega
  have c2 : c ≤ 31 := by omega
  clear hc
  go_enter Tryz.func112, Tryz.ntmps112
  go_wp2
  go_ret
  refine ⟨?_, rfl⟩
  rw [← e2.out]
  rfl

/-- The document's turn, bit by bit. -/
theorem turn_next (x j : Nat) (hj : j < 32) (y : Nat) (hy : y = rotr x j) : y / 2 + y % 2 * 2147483648 = rotr x (j + 1) := by
  subst hy
  exact (rotr_succ x j hj).symm

/-- The numbers of bits, as cells. -/
def nums (ns : List Nat) : List Value := ns.map fun n => .int .i64 (n : Nat)

set_option maxHeartbeats 400000 in
theorem turns1_any (g p : Nat) (ns : List Nat) (l cap : Nat) (x : Nat) (hx : x < 4294967296) (hns : ∀ n ∈ ns, 1 ≤ n ∧ n ≤ 31) (hl : l = ns.length) (hl9 : l ≤ 9) (w : World)
    (hp : Hid (RowAt w p 46 #[.slice (some ⟨g, 0, none⟩) l cap])) (hg : Hid (∀ (j n : Nat), ns[j]? = some n → w.cell? ⟨g, j, none⟩ = some (.int .i64 (n : Nat)))) :
    Calls Tryz.prog 111 #[.int .u32 x, .pointer (some ⟨p, 0, none⟩)] w fun e w' => e = .returned (.int .u32 (turnsN x ns : Nat)) ∧ w' = w := by
  have cp := cell_of_one hp.out
  go_enter Tryz.func111, Tryz.ntmps111
  go_wp2
  clear cp
  go_loopw [4, 9] (fun t i wr => ∃ j y : Nat, j ≤ l ∧ i = .int .i64 j ∧ t = .int .u32 y ∧ y < 4294967296 ∧ Hid (y = turnsN x (ns.take j)) ∧ wr = w)
    (fun _ i _ => l - (intOf i).toNat)
  case atStart => exact ⟨0, 0, by omega, rfl, rfl, by omega, by simp [Hid, turnsN], rfl⟩
  case round =>
    obtain ⟨j, y, hj, rfl, rfl, hy, hr, rfl⟩ := hrel
    by_cases hlt : j < l
    · have hjn : j < ns.length := by omega
      obtain ⟨n, hn⟩ : ∃ n, ns[j] = n := ⟨_, rfl⟩
      have hn2 : ns[j]? = some n := by rw [List.getElem?_eq_getElem hjn, hn]
      have cj := hg.out j n hn2
      have hm := hns n (List.mem_of_getElem? hn2)
      have h1 := hm.1
      have h2 := hm.2
      have hy2 : Hid (y ^^^ rotr x n = turnsN x (ns.take (j + 1))) := by
        unfold Hid
        rw [List.take_succ_eq_append_getElem hjn, turnsN_snoc, ← hr.out, hn]
      have e1 := bits_xor_u32_nat y (rotr x n) hy (rotr_lt x n hx (by omega))
      have l1 := xor_lt y (rotr x n) hy (rotr_lt x n hx (by omega))
      have E1 := Lib.hid e1
      clear hm hn2 hn e1
      go_wp2_with fail
      refine (rot_any x n hx h1 h2 _).mono ?_
      rintro e w' ⟨rfl, rfl⟩
      go_wp2
      go_roundw
      case rel => exact ⟨j + 1, y ^^^ rotr x n, by omega, by go_num, by rw [← E1.out], l1, hy2, by first | rfl | trivial⟩
      case measure => simp [intOf]; omega
    · have : j = ns.length := by omega
      subst this
      go_wp2
      go_ret
      refine ⟨?_, rfl⟩
      have := hr.out
      rw [List.take_of_length_le (Nat.le_refl _)] at this
      rw [← this]
      rfl

end Go.Proofs.YtapebaoajknepaaGreatDoor
/-
  Contracts: turns, wordAt.
-/
namespace Go.Proofs.YtapebaoajknepaaGreatDoor
open Go.RowKit

/-- A closure that turns by ns, made below block B. -/
def Turner (B : Nat) (w : World) (v : Value) (ns : List Nat) : Prop :=
  ∃ g p cap, v = .func (.func 111) #[] #[.pointer (some ⟨p, 0, none⟩)] ∧ p < B ∧ g < B ∧ RowAt w p 46 #[.slice (some ⟨g, 0, none⟩) ns.length cap] ∧ RowAt w g 3 (nums ns).toArray

theorem Turner.below {B : Nat} {w w' : World} {v : Value} {ns : List Nat} (h : Turner B w v ns) {C : Nat} (hb : Below C w w') (hC : B ≤ C) : Turner B w' v ns := by
  obtain ⟨g, p, cap, e, hp, hg, r1, r2⟩ := h
  exact ⟨g, p, cap, e, hp, hg, r1.below hb (by omega), r2.below hb (by omega)⟩

theorem Turner.mono {B C : Nat} {w : World} {v : Value} {ns : List Nat} (h : Turner B w v ns) (hC : B ≤ C) : Turner C w v ns := by
  obtain ⟨g, p, cap, e, hp, hg, r1, r2⟩ := h
  exact ⟨g, p, cap, e, by omega, by omega, r1, r2⟩

theorem turner_call {B q : Nat} {w : World} {ns : List Nat} (h : Turner B w (.func (.func 111) #[] #[.pointer (some ⟨q, 0, none⟩)]) ns) (hns : ∀ n ∈ ns, 1 ≤ n ∧ n ≤ 31) (hl : ns.length ≤ 9) (x : Nat) (hx : x < 4294967296) :
    Calls Tryz.prog 111 #[.int .u32 x, .pointer (some ⟨q, 0, none⟩)] w fun e w' => e = .returned (.int .u32 (turnsN x ns : Nat)) ∧ w' = w := by
  obtain ⟨g, p, cap, e, _, _, r1, r2⟩ := h
  obtain rfl : q = p := by simpa using e
  refine turns1_any g q ns ns.length cap x hx hns rfl hl w r1 ?_
  unfold Hid
  intro j n hj
  rw [cell_of_row w g j _ _ _ r2]
  simp [nums, hj]

set_option maxHeartbeats 400000 in
theorem turns_any (g l cap : Nat) (w : World) :
    Calls Tryz.prog 105 #[.slice (some ⟨g, 0, none⟩) l cap] w fun e w' => e = .returned (.func (.func 111) #[] #[.pointer (some ⟨w.heap.size, 0, none⟩)]) ∧
      w' = w.alloc (.cells #[.slice (some ⟨g, 0, none⟩) l cap] 46 (0, 0)) := by
  go_enter Tryz.func105, Tryz.ntmps105
  go_wp2
  go_ret
  exact ⟨rfl, rfl⟩

/-- The first j bytes of a word. -/
def wordP (B : Nat → Nat) (i : Nat) : Nat → Nat
  | 0 => 0
  | j + 1 => wordP B i j * 256 + B (4 * i + j)

theorem wordP_lt {B : Nat → Nat} (h : Bytes B) (i j : Nat) : wordP B i j < 256 ^ j := by
  induction j with
  | zero => simp [wordP]
  | succ j ih =>
    have := h (4 * i + j)
    simp only [wordP, Nat.pow_succ]
    omega

theorem wordP_four (B : Nat → Nat) (i : Nat) : wordP B i 4 = wordN B i := by
  simp [wordP, wordN]

theorem wordP_lt3 {B : Nat → Nat} (h : Bytes B) (i j : Nat) (hj : j < 4) : wordP B i j < 16777216 :=
  Nat.lt_of_lt_of_le (wordP_lt h i j) (Nat.pow_le_pow_right (n := 256) (j := 3) (by decide) (by omega))

theorem join8 (y b : Nat) (hy : y < 16777216) (hb : b < 256) : bits .or .u32 ((y : Int) * 256) (b : Int) = ((y * 256 + b : Nat) : Int) := by
  rw [bits_join .u32 32 (by decide) wraps_u32 8 _ _ (by omega) (by omega) (by omega) (by omega) (by omega) (by omega)]
  omega

set_option maxHeartbeats 400000 in
theorem wordAt_any (B : Nat → Nat) (hB : Hid (Bytes B)) (i : Nat) (hi : i < 16) (w : World) :
    Calls Tryz.prog 110 #[.agg (rowOf 64 (w8 B)), .int .i64 (i : Nat)] w fun e w' => e = .returned (.int .u32 (wordN B i : Nat)) ∧ Below w.heap.size w w' := by
  have sl := run_slice_lh (P := Tryz.prog) Tryz.underlying144 (by kernel_rfl : (Tryz.prog.info? 5).map (·.size) = some 1) w.heap.size (4 * (i : Int)) (4 * ((i : Int) + 1)) (4 * i) (4 * i + 4) (by omega) (by omega) (by omega) (by omega) (by omega)
  rw [show 4 * i + 4 - 4 * i = 4 by omega] at sl
  go_enter Tryz.func110, Tryz.ntmps110
  go_wp2
  clear sl
  have hR := Lib.hid (RowAt.new w 144 (rowOf 64 (w8 B)))
  have hBl := ((Below.refl w.heap.size w).alloc (Nat.le_refl _) (.cells (rowOf 64 (w8 B)) 144 (0, 0)))
  generalize w.alloc (.cells (rowOf 64 (w8 B)) 144 (0, 0)) = w1 at *
  go_loopw [5, 15] (fun t i' wr => ∃ j y : Nat, j ≤ 4 ∧ i' = .int .i64 j ∧ t = .int .u32 y ∧ Hid (y = wordP B i j) ∧ wr = w1)
    (fun _ i _ => 4 - (intOf i).toNat)
  case atStart => exact ⟨0, 0, by omega, rfl, rfl, by simp [Hid, wordP], rfl⟩
  case round =>
    obtain ⟨j, y, hj, rfl, rfl, hr, rfl⟩ := hrel
    by_cases hlt : j < 4
    · have cj := hR.out.cell (4 * i + j) (by omega)
      unfold w8 at cj
      have hb := hB.out (4 * i + j)
      have hy : y < 16777216 := by rw [hr.out]; exact wordP_lt3 hB.out i j hlt
      obtain ⟨b, hbe⟩ : ∃ b, B (4 * i + j) = b := ⟨_, rfl⟩
      rw [hbe] at cj hb
      have e1 := Lib.hid (join8 y b hy hb)
      have e2 : Hid (y * 256 + b = wordP B i (j + 1)) := by unfold Hid; rw [wordP, ← hr.out, hbe]
      clear hbe
      go_wp2
      go_roundw
      case rel => exact ⟨j + 1, y * 256 + b, by omega, by go_num, by rw [← e1.out], e2, trivial⟩
      case measure => simp [intOf]; omega
    · have : j = 4 := by omega
      subst this
      go_wp2
      go_ret
      refine ⟨?_, hBl⟩
      have := hr.out
      rw [wordP_four] at this
      rw [← this]
      rfl

end Go.Proofs.YtapebaoajknepaaGreatDoor
/-
  What several layers share over keys: rows of 16 bytes, held against each other.
-/
namespace Go.Proofs.YtapebaoajknepaaGreatDoor
open Go.RowKit

theorem z8_16 : rowOf 16 (w8 zeroN) = #[.int .u8 0, .int .u8 0, .int .u8 0, .int .u8 0, .int .u8 0, .int .u8 0, .int .u8 0, .int .u8 0, .int .u8 0, .int .u8 0, .int .u8 0, .int .u8 0, .int .u8 0, .int .u8 0, .int .u8 0, .int .u8 0] := rfl
theorem info_key (f : Nat → Value) : (Tryz.prog.info? 116).map (·.size) = some (rowOf 16 f).size := by rw [rowOf_size]; kernel_rfl
theorem sz8 : (Tryz.prog.info? 5).map (·.size) = some 1 := by kernel_rfl

theorem elem8 : ∃ i, Tryz.prog.info? 5 = some i := by
  obtain ⟨i0, hi, _⟩ := info_parts Tryz.info5
  exact ⟨i0, hi⟩

theorem eq_key (f g : Nat → Nat) (w : World) : (Op.equalIn 10000 116 (.agg (rowOf 16 (w8 f))) (.agg (rowOf 16 (w8 g)))).run Tryz.prog w = .ok ((List.range 16).all fun i => ((f i : Nat) : Int) == ((g i : Nat) : Int)) w := by
  obtain ⟨i, hi⟩ := elem8
  rw [run_equalIn_array w 9999 _ _ Tryz.underlying116 hi]
  refine eqItems_two w 9998 Tryz.underlying5 (by kernel_rfl) _ _ _ (fun j => ((f j : Nat) : Int)) (fun j => ((g j : Nat) : Int)) _ (fun i hi => ?_)
  have hc : Tryz.prog.cellsOf 5 = 1 := by kernel_rfl
  have hi2 : i < 16 := by simpa using hi
  rw [hc, Nat.mul_one, rowOf_get _ _ _ hi2, rowOf_get _ _ _ hi2]
  exact ⟨rfl, rfl⟩

theorem eq_key_same (f : Nat → Nat) (w : World) : (Op.equalIn 10000 116 (.agg (rowOf 16 (w8 f))) (.agg (rowOf 16 (w8 f)))).run Tryz.prog w = .ok true w := by
  rw [eq_key]
  simp

/-- Two keys are the same at their 16 places. -/
def sameK (f g : Nat → Nat) : Bool := (List.range 16).all fun i => f i == g i

theorem sameK_iff (f g : Nat → Nat) : sameK f g = true ↔ ∀ j, j < 16 → f j = g j := by
  unfold sameK
  simp
theorem sameK_rfl (f : Nat → Nat) : sameK f f = true := (sameK_iff f f).2 fun _ _ => rfl
theorem sameK_of {f g : Nat → Nat} (h : ∀ j, j < 16 → f j = g j) : sameK f g = true := (sameK_iff f g).2 h

theorem eq_key_two (f g : Nat → Nat) (w : World) : (Op.equalIn 10000 116 (.agg (rowOf 16 (w8 f))) (.agg (rowOf 16 (w8 g)))).run Tryz.prog w = .ok (sameK f g) w := by
  rw [eq_key]
  have : (fun i => ((f i : Nat) : Int) == ((g i : Nat) : Int)) = fun i => f i == g i := by
    funext i
    rw [Bool.eq_iff_iff, beq_iff_eq, beq_iff_eq]
    omega
  rw [this]
  rfl

/-- A key held against a key. -/
theorem run_eql_key (f : Nat → Nat) {o : Oper} {a : Act} {x y : Operand} {t : TypeId} (ho : o.op = .binOp .eql 116 x y t) (hx : a.eval x = .agg (rowOf 16 (w8 f))) (hy : a.eval y = .agg (rowOf 16 (w8 f))) (w : World) :
    (execOp a.eval o).run Tryz.prog w = .ok (.value (.bool true)) w := by
  have e := eq_key_same f w
  unfold execOp
  simp only [ho, hx, hy]
  simp [go_sem, e]
theorem run_eql_key2 (f g : Nat → Nat) (b : Bool) (hb : sameK f g = b) {o : Oper} {a : Act} {x y : Operand} {t : TypeId} (ho : o.op = .binOp .eql 116 x y t) (hx : a.eval x = .agg (rowOf 16 (w8 f))) (hy : a.eval y = .agg (rowOf 16 (w8 g))) (w : World) :
    (execOp a.eval o).run Tryz.prog w = .ok (.value (.bool b)) w := by
  subst hb
  have e := eq_key_two f g w
  unfold execOp
  simp only [ho, hx, hy]
  simp [go_sem, e]
theorem run_neq_key2 (f g : Nat → Nat) (b : Bool) (hb : (!sameK f g) = b) {o : Oper} {a : Act} {x y : Operand} {t : TypeId} (ho : o.op = .binOp .neq 116 x y t) (hx : a.eval x = .agg (rowOf 16 (w8 f))) (hy : a.eval y = .agg (rowOf 16 (w8 g))) (w : World) :
    (execOp a.eval o).run Tryz.prog w = .ok (.value (.bool b)) w := by
  subst hb
  have e := eq_key_two f g w
  unfold execOp
  simp only [ho, hx, hy]
  simp [go_sem, e]

end Go.Proofs.YtapebaoajknepaaGreatDoor
/-
  Contracts: hashOf, firstWords, the document's Wide, Narrow, k.
-/
namespace Go.Proofs.YtapebaoajknepaaGreatDoor
open Go.RowKit

theorem z8_32 : rowOf 32 (w8 zeroN) = #[.int .u8 0, .int .u8 0, .int .u8 0, .int .u8 0, .int .u8 0, .int .u8 0, .int .u8 0, .int .u8 0, .int .u8 0, .int .u8 0, .int .u8 0, .int .u8 0, .int .u8 0, .int .u8 0, .int .u8 0, .int .u8 0, .int .u8 0, .int .u8 0, .int .u8 0, .int .u8 0, .int .u8 0, .int .u8 0, .int .u8 0, .int .u8 0, .int .u8 0, .int .u8 0, .int .u8 0, .int .u8 0, .int .u8 0, .int .u8 0, .int .u8 0, .int .u8 0] := rfl
theorem z32_8 : rowOf 8 (w32 zeroN) = #[.int .u32 0, .int .u32 0, .int .u32 0, .int .u32 0, .int .u32 0, .int .u32 0, .int .u32 0, .int .u32 0] := rfl
theorem z64_8 : rowOf 8 (w64 zeroN) = #[.int .u64 0, .int .u64 0, .int .u64 0, .int .u64 0, .int .u64 0, .int .u64 0, .int .u64 0, .int .u64 0] := rfl

theorem info_hash (f : Nat → Value) : (Tryz.prog.info? 119).map (·.size) = some (rowOf 32 f).size := by rw [rowOf_size]; kernel_rfl
theorem info_w8 (f : Nat → Value) : (Tryz.prog.info? 142).map (·.size) = some (rowOf 8 f).size := by rw [rowOf_size]; kernel_rfl
theorem info_w64 (f : Nat → Value) : (Tryz.prog.info? 164).map (·.size) = some (rowOf 64 f).size := by rw [rowOf_size]; kernel_rfl
theorem info_b64 (f : Nat → Value) : (Tryz.prog.info? 144).map (·.size) = some (rowOf 64 f).size := by rw [rowOf_size]; kernel_rfl

theorem hash_shift (s : Nat → Nat) (j y : Nat) (hy : y = s (j / 4)) (c : Nat) (hc : c = 24 - 8 * (j % 4)) : (y : Int) / 2 ^ c % 256 = ((hashN s j : Nat) : Int) := by
  subst hy hc
  unfold hashN
  simp

set_option maxHeartbeats 400000 in
theorem hashOf_any (s : Nat → Nat) (hs : Hid (Words s)) (w : World) :
    Calls Tryz.prog 89 #[.agg (rowOf 8 (w32 s))] w fun e w' => e = .returned (.agg (rowOf 32 (w8 (hashN s)))) ∧ Below w.heap.size w w' := by
  go_enter Tryz.func89, Tryz.ntmps89
  go_wp2
  rw [← z8_32]
  obtain ⟨w1, hw1⟩ : ∃ w1, ((w.alloc (.cells (rowOf 8 (w32 s)) 142)).alloc (.cells (rowOf 32 (w8 zeroN)) 119)).alloc (.cells (rowOf 32 (w8 zeroN)) 119) = w1 := ⟨_, rfl⟩
  have r0 : Hid (RowAt w1 w.heap.size 142 (rowOf 8 (w32 s))) := by rw [← hw1]; exact ((RowAt.new _ _ _).alloc _).alloc _
  have r1 : Hid (RowAt w1 (w.heap.size + 1) 119 (rowOf 32 (w8 zeroN))) := by rw [← hw1]; exact row_new1 w _ _ _ _
  have r2 : Hid (RowAt w1 (w.heap.size + 1 + 1) 119 (rowOf 32 (w8 zeroN))) := by rw [← hw1]; exact row_new2 w _ _ _ _
  have b0 : Below w.heap.size w w1 := by rw [← hw1]; exact (((Below.refl _ _).alloc (Nat.le_refl _) _).alloc (by simp) _).alloc (by simp; omega) _
  rw [hw1]
  clear hw1
  go_loopw [6] (fun i wr => ∃ j : Nat, j ≤ 32 ∧ i = .int .i64 j ∧ Hid (RowAt wr (w.heap.size + 1 + 1) 119 (rowOf 32 (w8 (part (hashN s) zeroN j)))) ∧ Below (w.heap.size + 1 + 1) w1 wr)
    (fun i _ => 32 - (intOf i).toNat)
  case atStart => exact ⟨0, by omega, rfl, by rw [part_zero]; exact r2, Below.refl _ _⟩
  case round =>
    obtain ⟨j, hj, rfl, hr, hbl⟩ := hrel
    by_cases hlt : j < 32
    · have c0 := (r0.out.below hbl (by omega)).cell (j / 4) (by omega)
      have c2 := hr.out.cell j hlt
      have f2 := hr.out.free j
      unfold w32 at c0
      have hy := hs.out (j / 4)
      obtain ⟨y, hye⟩ : ∃ y, s (j / 4) = y := ⟨_, rfl⟩
      rw [hye] at c0 hy
      obtain ⟨c, hc⟩ : ∃ c, c = 24 - 8 * (j % 4) := ⟨_, rfl⟩
      have e1 := Lib.hid (hash_shift s j y hye.symm c hc)
      have e2 : (8 : Int) * (3 - (j : Int) % 4) = (c : Int) := by omega
      have cc : c ≤ 24 := by omega
      have e3 : Hid ((rowOf 32 (w8 (part (hashN s) zeroN j))).setIfInBounds j (.int .u8 ((hashN s j : Nat) : Int)) = rowOf 32 (w8 (part (hashN s) zeroN (j + 1)))) := by
        unfold Hid; rw [rowOf_upd8, part_upd]
      clear hc hye
      go_wp2
      go_roundw
      case rel =>
        rw [e1.out]
        exact ⟨j + 1, by omega, by go_num, (hr.out.set j _).congr e3.out, hbl.setCell (Nat.le_refl _) _⟩
      case measure => simp [intOf]; omega
    · have : j = 32 := by omega
      subst this
      have hr2 : Hid (RowAt wr (w.heap.size + 1 + 1) 119 (rowOf 32 (w8 (hashN s)))) := hr.out.congr (rowOf_congr fun k hk => by unfold w8; rw [part_below _ _ _ _ hk])
      have hq : Hid (RowAt wr (w.heap.size + 1) 119 (rowOf 32 (w8 zeroN))) := r1.out.below hbl (by omega)
      clear hr
      go_wp2_with (first | (refine wpList_load_row rfl 119 _ rfl (w.heap.size + 1 + 1) rfl 119 _ (0, 0) _ hr2.out Tryz.underlying119 rfl (info_hash _) ?_) | (refine wpList_store_row rfl 119 _ _ rfl (w.heap.size + 1) (rowOf 32 (w8 (hashN s))) rfl rfl 119 _ hq.out (info_hash _) (by rw [rowOf_size, rowOf_size]) (rowOf_cells8 _ _) ?_))
      refine bodyPost_ret (v := .agg (rowOf 32 (w8 (hashN s)))) ?_ rfl ⟨rfl, below_setRow' (b0.trans (hbl.mono (by omega))) (by omega) _⟩
      exact results_cell_row Tryz.results89 _ _ (w.heap.size + 1) 119 (rowOf 32 (w8 (hashN s))) (0, 0) _ rfl (hq.out.setRow _) Tryz.underlying119 rfl (info_hash _)

end Go.Proofs.YtapebaoajknepaaGreatDoor
/-
  Contract: spread.
-/
namespace Go.Proofs.YtapebaoajknepaaGreatDoor
open Go.RowKit

theorem z32_64 : rowOf 64 (w32 zeroN) = #[.int .u32 0, .int .u32 0, .int .u32 0, .int .u32 0, .int .u32 0, .int .u32 0, .int .u32 0, .int .u32 0, .int .u32 0, .int .u32 0, .int .u32 0, .int .u32 0, .int .u32 0, .int .u32 0, .int .u32 0, .int .u32 0, .int .u32 0, .int .u32 0, .int .u32 0, .int .u32 0, .int .u32 0, .int .u32 0, .int .u32 0, .int .u32 0, .int .u32 0, .int .u32 0, .int .u32 0, .int .u32 0, .int .u32 0, .int .u32 0, .int .u32 0, .int .u32 0, .int .u32 0, .int .u32 0, .int .u32 0, .int .u32 0, .int .u32 0, .int .u32 0, .int .u32 0, .int .u32 0, .int .u32 0, .int .u32 0, .int .u32 0, .int .u32 0, .int .u32 0, .int .u32 0, .int .u32 0, .int .u32 0, .int .u32 0, .int .u32 0, .int .u32 0, .int .u32 0, .int .u32 0, .int .u32 0, .int .u32 0, .int .u32 0, .int .u32 0, .int .u32 0, .int .u32 0, .int .u32 0, .int .u32 0, .int .u32 0, .int .u32 0, .int .u32 0] := rfl
theorem z64_64 : rowOf 64 (w64 zeroN) = #[.int .u64 0, .int .u64 0, .int .u64 0, .int .u64 0, .int .u64 0, .int .u64 0, .int .u64 0, .int .u64 0, .int .u64 0, .int .u64 0, .int .u64 0, .int .u64 0, .int .u64 0, .int .u64 0, .int .u64 0, .int .u64 0, .int .u64 0, .int .u64 0, .int .u64 0, .int .u64 0, .int .u64 0, .int .u64 0, .int .u64 0, .int .u64 0, .int .u64 0, .int .u64 0, .int .u64 0, .int .u64 0, .int .u64 0, .int .u64 0, .int .u64 0, .int .u64 0, .int .u64 0, .int .u64 0, .int .u64 0, .int .u64 0, .int .u64 0, .int .u64 0, .int .u64 0, .int .u64 0, .int .u64 0, .int .u64 0, .int .u64 0, .int .u64 0, .int .u64 0, .int .u64 0, .int .u64 0, .int .u64 0, .int .u64 0, .int .u64 0, .int .u64 0, .int .u64 0, .int .u64 0, .int .u64 0, .int .u64 0, .int .u64 0, .int .u64 0, .int .u64 0, .int .u64 0, .int .u64 0, .int .u64 0, .int .u64 0, .int .u64 0, .int .u64 0] := rfl
theorem z8_64 : rowOf 64 (w8 zeroN) = #[.int .u8 0, .int .u8 0, .int .u8 0, .int .u8 0, .int .u8 0, .int .u8 0, .int .u8 0, .int .u8 0, .int .u8 0, .int .u8 0, .int .u8 0, .int .u8 0, .int .u8 0, .int .u8 0, .int .u8 0, .int .u8 0, .int .u8 0, .int .u8 0, .int .u8 0, .int .u8 0, .int .u8 0, .int .u8 0, .int .u8 0, .int .u8 0, .int .u8 0, .int .u8 0, .int .u8 0, .int .u8 0, .int .u8 0, .int .u8 0, .int .u8 0, .int .u8 0, .int .u8 0, .int .u8 0, .int .u8 0, .int .u8 0, .int .u8 0, .int .u8 0, .int .u8 0, .int .u8 0, .int .u8 0, .int .u8 0, .int .u8 0, .int .u8 0, .int .u8 0, .int .u8 0, .int .u8 0, .int .u8 0, .int .u8 0, .int .u8 0, .int .u8 0, .int .u8 0, .int .u8 0, .int .u8 0, .int .u8 0, .int .u8 0, .int .u8 0, .int .u8 0, .int .u8 0, .int .u8 0, .int .u8 0, .int .u8 0, .int .u8 0, .int .u8 0] := rfl

theorem turns_two (x a b : Nat) : turnsN x [a, b] = rotr x a ^^^ rotr x b := by simp [turnsN]
theorem turns_three (x a b c : Nat) : turnsN x [a, b, c] = rotr x a ^^^ rotr x b ^^^ rotr x c := by simp [turnsN, Nat.xor_assoc]

theorem next_value (x y z v : Nat) (hx : x < 4294967296) (hy : y < 4294967296) :
    ((z : Int) + bits .xor .u32 ((turnsN x [7, 18] : Nat) : Int) ((x : Int) / 8) + (v : Int) + bits .xor .u32 ((turnsN y [17, 19] : Nat) : Int) ((y : Int) / 1024)) % 4294967296 =
      (((z + (rotr x 7 ^^^ rotr x 18 ^^^ x / 8) + v + (rotr y 17 ^^^ rotr y 19 ^^^ y / 1024)) % 4294967296 : Nat) : Int) := by
  rw [turns_two, turns_two, show (x : Int) / 8 = ((x / 8 : Nat) : Int) by omega, show (y : Int) / 1024 = ((y / 1024 : Nat) : Int) by omega]
  rw [bits_xor_u32_nat _ _ (xor_lt _ _ (rotr_lt x 7 hx (by decide)) (rotr_lt x 18 hx (by decide))) (by omega)]
  rw [bits_xor_u32_nat _ _ (xor_lt _ _ (rotr_lt y 17 hy (by decide)) (rotr_lt y 19 hy (by decide))) (by omega)]
  omega

theorem words_part (B : Nat → Nat) : part (wordN B) zeroN 16 = wordsN B := rfl

set_option maxHeartbeats 400000 in
theorem spread_any (B : Nat → Nat) (hB : Hid (Bytes B)) (w : World) :
    Calls Tryz.prog 104 #[.agg (rowOf 64 (w8 B))] w fun e w' => e = .returned (.agg (rowOf 64 (w32 (spreadN B 48)))) ∧ Below w.heap.size w w' := by
  go_enter Tryz.func104, Tryz.ntmps104
  go_wp2_with fail
  refine (turns_any _ _ _ _).mono ?_
  rintro e w1 ⟨rfl, rfl⟩
  go_wp2_with fail
  refine (turns_any _ _ _ _).mono ?_
  rintro e w1 ⟨rfl, rfl⟩
  go_wp2_with fail
  rw [← z32_64]
  obtain ⟨os, hos⟩ : ∃ os : List Obj, os = [.cells (rowOf 64 (w8 B)) 144, .cells (rowOf 64 (w32 zeroN)) 164, .cells #[.int .i64 7, .int .i64 18] 3, .cells #[.slice (some ⟨w.heap.size + 1 + 1, 0, none⟩) 2 2] 46,
    .cells #[.int .i64 17, .int .i64 19] 3, .cells #[.slice (some ⟨w.heap.size + 1 + 1 + 1 + 1, 0, none⟩) 2 2] 46, .cells (rowOf 64 (w32 zeroN)) 164] := ⟨_, rfl⟩
  obtain ⟨w1, hw1⟩ : ∃ w1, os.foldl World.alloc w = w1 := ⟨_, rfl⟩
  have r0 : Hid (RowAt w1 w.heap.size 144 (rowOf 64 (w8 B))) := by rw [← hw1]; exact allocs_row os w 0 _ _ (by rw [hos]; rfl)
  have r1 : Hid (RowAt w1 (w.heap.size + 1) 164 (rowOf 64 (w32 zeroN))) := by rw [← hw1]; exact allocs_row os w 1 _ _ (by rw [hos]; rfl)
  have t1 : Hid (Turner (w.heap.size + 6) w1 (.func (.func 111) #[] #[.pointer (some ⟨w.heap.size + 1 + 1 + 1, 0, none⟩)]) [7, 18]) := by
    rw [← hw1]
    exact ⟨w.heap.size + 2, w.heap.size + 3, 2, rfl, by omega, by omega, allocs_row os w 3 _ _ (by rw [hos]; rfl), allocs_row os w 2 _ _ (by rw [hos]; rfl)⟩
  have t2 : Hid (Turner (w.heap.size + 6) w1 (.func (.func 111) #[] #[.pointer (some ⟨w.heap.size + 1 + 1 + 1 + 1 + 1, 0, none⟩)]) [17, 19]) := by
    rw [← hw1]
    exact ⟨w.heap.size + 4, w.heap.size + 5, 2, rfl, by omega, by omega, allocs_row os w 5 _ _ (by rw [hos]; rfl), allocs_row os w 4 _ _ (by rw [hos]; rfl)⟩
  have r6 : Hid (RowAt w1 (w.heap.size + 1 + 1 + 1 + 1 + 1 + 1) 164 (rowOf 64 (w32 zeroN))) := by rw [← hw1]; exact allocs_row os w 6 _ _ (by rw [hos]; rfl)
  have b0 : Below w.heap.size w w1 := by rw [← hw1]; exact allocs_below os w
  rw [hos] at hw1
  simp only [List.foldl_cons, List.foldl_nil] at hw1
  rw [hw1]
  clear hw1 hos os
  obtain ⟨p, hp⟩ : ∃ p, w.heap.size + 1 + 1 + 1 + 1 + 1 + 1 = p := ⟨_, rfl⟩
  rw [hp] at r6
  rw [hp]
  have hp6 : w.heap.size + 6 ≤ p := by omega
  clear hp
  go_loopw [14] (fun i wr => ∃ j : Nat, j ≤ 16 ∧ i = .int .i64 j ∧ Hid (RowAt wr p 164 (rowOf 64 (w32 (part (wordN B) zeroN j)))) ∧ Below p w1 wr)
    (fun i _ => 16 - (intOf i).toNat)
  case atStart => exact ⟨0, by omega, rfl, by rw [part_zero]; exact r6, Below.refl _ _⟩
  case round =>
    obtain ⟨j, hj, rfl, hr, hbl⟩ := hrel
    by_cases hlt : j < 16
    · have hr0 : Hid (RowAt wr w.heap.size 144 (rowOf 64 (w8 B))) := r0.out.below hbl (by omega)
      have e3 : Hid ((rowOf 64 (w32 (part (wordN B) zeroN j))).setIfInBounds j (.int .u32 ((wordN B j : Nat) : Int)) = rowOf 64 (w32 (part (wordN B) zeroN (j + 1)))) := by
        unfold Hid; rw [rowOf_upd32, part_upd]
      go_wp2_with (first | (refine wpList_load_row rfl 144 _ rfl w.heap.size rfl 144 _ (0, 0) _ hr0.out Tryz.underlying144 rfl (info_b64 _) ?_))
      refine (wordAt_any B hB j hlt _).mono ?_
      rintro e w2 ⟨rfl, hb2⟩
      have hr2 : Hid (RowAt w2 p 164 (rowOf 64 (w32 (part (wordN B) zeroN j)))) := hr.out.below hb2 hr.out.lt
      have hbl2 : Below p w1 w2 := hbl.trans (hb2.mono (Nat.le_of_lt hr.out.lt))
      have c2 := hr2.out.cell j (by omega)
      have f2 := hr2.out.free j
      clear hb2 hr hbl hr0
      go_wp2
      go_roundw
      case rel => exact ⟨j + 1, by omega, by go_num, (hr2.out.set j _).congr e3.out, hbl2.setCell (Nat.le_refl _) _⟩
      case measure => simp [intOf]; omega
    · have : j = 16 := by omega
      subst this
      rw [words_part] at hr
      go_wp2
      go_loopw [7] (fun i wr => ∃ i' n : Nat, n ≤ 48 ∧ i = .int .i64 i' ∧ i' = n + 16 ∧ Hid (RowAt wr p 164 (rowOf 64 (w32 (spreadN B n)))) ∧ Below p w1 wr)
        (fun i _ => 64 - (intOf i).toNat)
      case atStart => exact ⟨16, 0, by omega, rfl, rfl, hr, hbl⟩
      case round =>
        obtain ⟨i, n, hn, rfl, hin, hr, hbl⟩ := hrel
        by_cases hlt : i < 64
        · have e15 : (i : Int) - 15 = ((n + 1 : Nat) : Int) := by omega
          have e2 : (i : Int) - 2 = ((n + 14 : Nat) : Int) := by omega
          have e16 : (i : Int) - 16 = (n : Int) := by omega
          have e7 : (i : Int) - 7 = ((n + 9 : Nat) : Int) := by omega
          have l15 : n + 1 < 64 := by omega
          have l2 : n + 14 < 64 := by omega
          have l16 : n < 64 := by omega
          have l7 : n + 9 < 64 := by omega
          have hW := spreadN_words hB.out n
          have c15 := hr.out.cell (n + 1) l15
          have c2 := hr.out.cell (n + 14) l2
          have c16 := hr.out.cell n l16
          have c7 := hr.out.cell (n + 9) l7
          unfold w32 at c15 c2 c16 c7
          have hx := hW (n + 1)
          have hy := hW (n + 14)
          have hz := hW n
          have hv := hW (n + 9)
          have E0 : Hid (nextN (spreadN B n) i = nextN (spreadN B n) i) := rfl
          unfold Hid at E0
          rw (occs := [1]) [nextN] at E0
          rw [show i - 16 = n by omega, show i - 15 = n + 1 by omega, show i - 7 = n + 9 by omega, show i - 2 = n + 14 by omega] at E0
          obtain ⟨x, gx⟩ : ∃ x, spreadN B n (n + 1) = x := ⟨_, rfl⟩
          obtain ⟨y, gy⟩ : ∃ y, spreadN B n (n + 14) = y := ⟨_, rfl⟩
          obtain ⟨z, gz⟩ : ∃ z, spreadN B n n = z := ⟨_, rfl⟩
          obtain ⟨v, gv⟩ : ∃ v, spreadN B n (n + 9) = v := ⟨_, rfl⟩
          rw [gx] at c15 hx
          rw [gy] at c2 hy
          rw [gz] at c16 hz
          rw [gv] at c7 hv
          rw [gx, gy, gz, gv] at E0
          replace gz := Lib.hid gz
          replace gv := Lib.hid gv
          clear gx gy
          have E1 := Lib.hid E0
          have HI := Lib.hid hin
          clear hW E0 hin
          go_wp2
          go_quiet (fail)
          go_wp2
          clear c15 c2 c16 c7
          refine wp_region_still_tail 25 (by kernel_rfl) (by kernel_rfl) ?_
          change wpStill _ _ (World.drew (wr.drewN nq)) (fun a' => wpList _ _ _ _ a' (World.drew (wr.drewN nq))) _ _
          have hr2 : Hid (RowAt (World.drew (wr.drewN nq)) p 164 (rowOf 64 (w32 (spreadN B n)))) := hr
          have hbl2 : Below p w1 (World.drew (wr.drewN nq)) := (below_drewN hbl nq).drew
          generalize World.drew (wr.drewN nq) = w2 at *
          clear hr hbl
          have c16 := hr2.out.cell n l16
          have c7 := hr2.out.cell (n + 9) l7
          have ci := hr2.out.cell i (by omega)
          have fi := hr2.out.free i
          unfold w32 at c16 c7
          rw [gz.out] at c16
          rw [gv.out] at c7
          have k1 := turner_call (t1.out.below hbl2 (by omega)) (by decide) (by decide) x hx
          have k2 := turner_call (t2.out.below hbl2 (by omega)) (by decide) (by decide) y hy
          have K1 := Lib.hid k1
          have K2 := Lib.hid k2
          clear k1 k2
          simp only [List.take_succ_cons, List.take_zero, List.drop_succ_cons, List.drop_zero]
          refine wpStill_of_quiet _ _ ?_
          repeat (first | go_big_quiet_skip | (go_big_quiet_want; go_big_quiet_op; go_big_quiet_on))
          (go_big_quiet_want; go_big_quiet_op; apply Exists.intro; refine ⟨K1.out, ?_⟩; go_big_quiet_on)
          repeat (first | go_big_quiet_skip | (go_big_quiet_want; go_big_quiet_op; go_big_quiet_on))
          (go_big_quiet_want; go_big_quiet_op; apply Exists.intro; refine ⟨K2.out, ?_⟩; go_big_quiet_on)
          repeat (first | go_big_quiet_skip | (go_big_quiet_want; go_big_quiet_op; go_big_quiet_on))
          refine wpQuiet_nil ?_
          have EV := Lib.hid ((next_value x y z v hx hy).trans (congrArg Int.ofNat E1.out))
          have e3 : Hid ((rowOf 64 (w32 (spreadN B n))).setIfInBounds i (.int .u32 ((nextN (spreadN B n) i : Nat) : Int)) = rowOf 64 (w32 (spreadN B (n + 1)))) := by
            unfold Hid; rw [rowOf_upd32]; rw [HI.out, Nat.add_comm n 16]; rfl
          go_wp2
          go_roundw
          case rel => exact ⟨i + 1, n + 1, by omega, by go_num, by rw [HI.out], by rw [EV.out]; exact (hr2.out.set i _).congr e3.out, hbl2.setCell (Nat.le_refl _) _⟩
          case measure => simp [intOf]; omega
        · have : n = 48 := by omega
          subst this
          have hq : Hid (RowAt wr (w.heap.size + 1) 164 (rowOf 64 (w32 zeroN))) := r1.out.below hbl (by omega)
          clear hin
          go_wp2_with (first | (refine wpList_load_row rfl 164 _ rfl p rfl 164 _ (0, 0) _ hr.out Tryz.underlying164 rfl (info_w64 _) ?_) | (refine wpList_store_row rfl 164 _ _ rfl (w.heap.size + 1) (rowOf 64 (w32 (spreadN B 48))) rfl rfl 164 _ hq.out (info_w64 _) (by rw [rowOf_size, rowOf_size]) (rowOf_cells32 _ _) ?_))
          refine bodyPost_ret (v := .agg (rowOf 64 (w32 (spreadN B 48)))) ?_ rfl ⟨rfl, below_setRow' (b0.trans (hbl.mono (by omega))) (by omega) _⟩
          exact results_cell_row Tryz.results104 _ _ (w.heap.size + 1) 164 (rowOf 64 (w32 (spreadN B 48))) (0, 0) _ rfl (hq.out.setRow _) Tryz.underlying164 rfl (info_w64 _)

end Go.Proofs.YtapebaoajknepaaGreatDoor
