/-
  Contract: Program, all ways.
-/
import Derived.Test.YtogeccmeaacgnaaNandEraseAny
import Derived.Test.YtogeccmeaacgnaaNandProg
import Derived.Test.YtogeccmeaacgnaaNandAsk
namespace Go.Proofs.Ytogeccmeaacgnaa
open Go.RowKit
set_option linter.unusedVariables false

def progE (n m : Nat) (S : St) (z y : Int) (s : ByteArray) : Int := if S.up = false then 4 else if (inB z n && inB y m) = false then 1 else if 256 < s.size then 1 else if isB (S.page z.toNat y.toNat) = true then 100 else if (S.left - 1 != 0) = true then 0 else 4
def progS (n m : Nat) (S : St) (z y : Int) (s : ByteArray) : St := if S.up = false then S else if (inB z n && inB y m) = false then S else if 256 < s.size then S else if isB (S.page z.toNat y.toNat) = true then S else if (S.left - 1 != 0) = true then prS (cntP (actS S true (S.left - 1))) z.toNat y.toNat (pageT s 9223372036854775807 0) else prS (cntP (actS S false (S.left - 1))) z.toNat y.toNat (pageT s S.keep S.junk)

set_option maxHeartbeats 1000000 in
set_option maxRecDepth 8000 in
theorem prog_off (B : Nat) (w : World) (L : Lay) (S : St) (hv : Value) (h : Hid (Ch B w L S hv)) (z y : Int) (s : ByteArray) (hu : S.up = false) :
    Calls Try.prog 12 #[.pointer (some ⟨L.cp, 0, none⟩), .int .i64 z, .int .i64 y, .string s] w fun e w' => e = .returned (.int .i64 4) ∧ Below w.heap.size w w' := by
  have b0 : Below w.heap.size w ((((w.alloc (.cells #[.pointer (some ⟨L.cp, 0, none⟩)] 27)).alloc (.cells #[.int .i64 z] 3)).alloc (.cells #[.int .i64 y] 3)).alloc (.cells #[.string s] 9)) := allocs_below [.cells #[.pointer (some ⟨L.cp, 0, none⟩)] 27, .cells #[.int .i64 z] 3, .cells #[.int .i64 y] 3, .cells #[.string s] 9] w
  have h0 := Lib.hid (h.out.after b0)
  have x1 : Hid (Box ((((w.alloc (.cells #[.pointer (some ⟨L.cp, 0, none⟩)] 27)).alloc (.cells #[.int .i64 z] 3)).alloc (.cells #[.int .i64 y] 3)).alloc (.cells #[.string s] 9)) (foot L hv) (w.heap.size) (.pointer (some ⟨L.cp, 0, none⟩))) := by
    have r : RowAt ((((w.alloc (.cells #[.pointer (some ⟨L.cp, 0, none⟩)] 27)).alloc (.cells #[.int .i64 z] 3)).alloc (.cells #[.int .i64 y] 3)).alloc (.cells #[.string s] 9)) (w.heap.size) 27 #[.pointer (some ⟨L.cp, 0, none⟩)] := allocs_row [.cells #[.pointer (some ⟨L.cp, 0, none⟩)] 27, .cells #[.int .i64 z] 3, .cells #[.int .i64 y] 3, .cells #[.string s] 9] w 0 27 #[.pointer (some ⟨L.cp, 0, none⟩)] rfl
    exact ⟨by rw [cell_of_row _ _ 0 _ _ _ r]; rfl, r.lt, fun hf => by have := (h.out.base _ hf).2; omega⟩
  have z1 := x1.out.1
  have x2 : Hid (Box ((((w.alloc (.cells #[.pointer (some ⟨L.cp, 0, none⟩)] 27)).alloc (.cells #[.int .i64 z] 3)).alloc (.cells #[.int .i64 y] 3)).alloc (.cells #[.string s] 9)) (foot L hv) (w.heap.size + 1) (.int .i64 z)) := by
    have r : RowAt ((((w.alloc (.cells #[.pointer (some ⟨L.cp, 0, none⟩)] 27)).alloc (.cells #[.int .i64 z] 3)).alloc (.cells #[.int .i64 y] 3)).alloc (.cells #[.string s] 9)) (w.heap.size + 1) 3 #[.int .i64 z] := allocs_row [.cells #[.pointer (some ⟨L.cp, 0, none⟩)] 27, .cells #[.int .i64 z] 3, .cells #[.int .i64 y] 3, .cells #[.string s] 9] w 1 3 #[.int .i64 z] rfl
    exact ⟨by rw [cell_of_row _ _ 0 _ _ _ r]; rfl, r.lt, fun hf => by have := (h.out.base _ hf).2; omega⟩
  have z2 := x2.out.1
  have x3 : Hid (Box ((((w.alloc (.cells #[.pointer (some ⟨L.cp, 0, none⟩)] 27)).alloc (.cells #[.int .i64 z] 3)).alloc (.cells #[.int .i64 y] 3)).alloc (.cells #[.string s] 9)) (foot L hv) (w.heap.size + 2) (.int .i64 y)) := by
    have r : RowAt ((((w.alloc (.cells #[.pointer (some ⟨L.cp, 0, none⟩)] 27)).alloc (.cells #[.int .i64 z] 3)).alloc (.cells #[.int .i64 y] 3)).alloc (.cells #[.string s] 9)) (w.heap.size + 2) 3 #[.int .i64 y] := allocs_row [.cells #[.pointer (some ⟨L.cp, 0, none⟩)] 27, .cells #[.int .i64 z] 3, .cells #[.int .i64 y] 3, .cells #[.string s] 9] w 2 3 #[.int .i64 y] rfl
    exact ⟨by rw [cell_of_row _ _ 0 _ _ _ r]; rfl, r.lt, fun hf => by have := (h.out.base _ hf).2; omega⟩
  have z3 := x3.out.1
  have x4 : Hid (Box ((((w.alloc (.cells #[.pointer (some ⟨L.cp, 0, none⟩)] 27)).alloc (.cells #[.int .i64 z] 3)).alloc (.cells #[.int .i64 y] 3)).alloc (.cells #[.string s] 9)) (foot L hv) (w.heap.size + 3) (.string s)) := by
    have r : RowAt ((((w.alloc (.cells #[.pointer (some ⟨L.cp, 0, none⟩)] 27)).alloc (.cells #[.int .i64 z] 3)).alloc (.cells #[.int .i64 y] 3)).alloc (.cells #[.string s] 9)) (w.heap.size + 3) 9 #[.string s] := allocs_row [.cells #[.pointer (some ⟨L.cp, 0, none⟩)] 27, .cells #[.int .i64 z] 3, .cells #[.int .i64 y] 3, .cells #[.string s] 9] w 3 9 #[.string s] rfl
    exact ⟨by rw [cell_of_row _ _ 0 _ _ _ r]; rfl, r.lt, fun hf => by have := (h.out.base _ hf).2; omega⟩
  have z4 := x4.out.1
  have U := Lib.hid (powUp_any L.pp _ _ _ _ _ (Lib.hid h0.out.pow))
  have c0 := h0.out.c0
  rw [hu] at U
  go_enter Try.func12, Try.ntmps12
  go_wp2_with fail
  generalize (((w.alloc (.cells #[.pointer (some ⟨L.cp, 0, none⟩)] 27)).alloc (.cells #[.int .i64 z] 3)).alloc (.cells #[.int .i64 y] 3)).alloc (.cells #[.string s] 9) = w0 at *
  refine U.out.mono ?_
  rintro e w1 ⟨rfl, rfl⟩
  go_wp2
  go_ret
  exact ⟨rfl, b0⟩

set_option maxHeartbeats 1000000 in
set_option maxRecDepth 8000 in
theorem prog_arg (B : Nat) (w : World) (L : Lay) (S : St) (hv : Value) (h : Hid (Ch B w L S hv)) (z y : Int) (s : ByteArray) (hu : S.up = true) (hin : (inB z L.n && inB y L.m) = false) :
    Calls Try.prog 12 #[.pointer (some ⟨L.cp, 0, none⟩), .int .i64 z, .int .i64 y, .string s] w fun e w' => e = .returned (.int .i64 1) ∧ Below w.heap.size w w' := by
  have b0 : Below w.heap.size w ((((w.alloc (.cells #[.pointer (some ⟨L.cp, 0, none⟩)] 27)).alloc (.cells #[.int .i64 z] 3)).alloc (.cells #[.int .i64 y] 3)).alloc (.cells #[.string s] 9)) := allocs_below [.cells #[.pointer (some ⟨L.cp, 0, none⟩)] 27, .cells #[.int .i64 z] 3, .cells #[.int .i64 y] 3, .cells #[.string s] 9] w
  have h0 := Lib.hid (h.out.after b0)
  have x1 : Hid (Box ((((w.alloc (.cells #[.pointer (some ⟨L.cp, 0, none⟩)] 27)).alloc (.cells #[.int .i64 z] 3)).alloc (.cells #[.int .i64 y] 3)).alloc (.cells #[.string s] 9)) (foot L hv) (w.heap.size) (.pointer (some ⟨L.cp, 0, none⟩))) := by
    have r : RowAt ((((w.alloc (.cells #[.pointer (some ⟨L.cp, 0, none⟩)] 27)).alloc (.cells #[.int .i64 z] 3)).alloc (.cells #[.int .i64 y] 3)).alloc (.cells #[.string s] 9)) (w.heap.size) 27 #[.pointer (some ⟨L.cp, 0, none⟩)] := allocs_row [.cells #[.pointer (some ⟨L.cp, 0, none⟩)] 27, .cells #[.int .i64 z] 3, .cells #[.int .i64 y] 3, .cells #[.string s] 9] w 0 27 #[.pointer (some ⟨L.cp, 0, none⟩)] rfl
    exact ⟨by rw [cell_of_row _ _ 0 _ _ _ r]; rfl, r.lt, fun hf => by have := (h.out.base _ hf).2; omega⟩
  have z1 := x1.out.1
  have x2 : Hid (Box ((((w.alloc (.cells #[.pointer (some ⟨L.cp, 0, none⟩)] 27)).alloc (.cells #[.int .i64 z] 3)).alloc (.cells #[.int .i64 y] 3)).alloc (.cells #[.string s] 9)) (foot L hv) (w.heap.size + 1) (.int .i64 z)) := by
    have r : RowAt ((((w.alloc (.cells #[.pointer (some ⟨L.cp, 0, none⟩)] 27)).alloc (.cells #[.int .i64 z] 3)).alloc (.cells #[.int .i64 y] 3)).alloc (.cells #[.string s] 9)) (w.heap.size + 1) 3 #[.int .i64 z] := allocs_row [.cells #[.pointer (some ⟨L.cp, 0, none⟩)] 27, .cells #[.int .i64 z] 3, .cells #[.int .i64 y] 3, .cells #[.string s] 9] w 1 3 #[.int .i64 z] rfl
    exact ⟨by rw [cell_of_row _ _ 0 _ _ _ r]; rfl, r.lt, fun hf => by have := (h.out.base _ hf).2; omega⟩
  have z2 := x2.out.1
  have x3 : Hid (Box ((((w.alloc (.cells #[.pointer (some ⟨L.cp, 0, none⟩)] 27)).alloc (.cells #[.int .i64 z] 3)).alloc (.cells #[.int .i64 y] 3)).alloc (.cells #[.string s] 9)) (foot L hv) (w.heap.size + 2) (.int .i64 y)) := by
    have r : RowAt ((((w.alloc (.cells #[.pointer (some ⟨L.cp, 0, none⟩)] 27)).alloc (.cells #[.int .i64 z] 3)).alloc (.cells #[.int .i64 y] 3)).alloc (.cells #[.string s] 9)) (w.heap.size + 2) 3 #[.int .i64 y] := allocs_row [.cells #[.pointer (some ⟨L.cp, 0, none⟩)] 27, .cells #[.int .i64 z] 3, .cells #[.int .i64 y] 3, .cells #[.string s] 9] w 2 3 #[.int .i64 y] rfl
    exact ⟨by rw [cell_of_row _ _ 0 _ _ _ r]; rfl, r.lt, fun hf => by have := (h.out.base _ hf).2; omega⟩
  have z3 := x3.out.1
  have x4 : Hid (Box ((((w.alloc (.cells #[.pointer (some ⟨L.cp, 0, none⟩)] 27)).alloc (.cells #[.int .i64 z] 3)).alloc (.cells #[.int .i64 y] 3)).alloc (.cells #[.string s] 9)) (foot L hv) (w.heap.size + 3) (.string s)) := by
    have r : RowAt ((((w.alloc (.cells #[.pointer (some ⟨L.cp, 0, none⟩)] 27)).alloc (.cells #[.int .i64 z] 3)).alloc (.cells #[.int .i64 y] 3)).alloc (.cells #[.string s] 9)) (w.heap.size + 3) 9 #[.string s] := allocs_row [.cells #[.pointer (some ⟨L.cp, 0, none⟩)] 27, .cells #[.int .i64 z] 3, .cells #[.int .i64 y] 3, .cells #[.string s] 9] w 3 9 #[.string s] rfl
    exact ⟨by rw [cell_of_row _ _ 0 _ _ _ r]; rfl, r.lt, fun hf => by have := (h.out.base _ hf).2; omega⟩
  have z4 := x4.out.1
  have U := Lib.hid (powUp_any L.pp _ _ _ _ _ (Lib.hid h0.out.pow))
  have c0 := h0.out.c0
  have H := Lib.hid (hasPage_any B _ L S hv h0 z y)
  rw [hin] at H
  rw [hu] at U
  go_enter Try.func12, Try.ntmps12
  go_wp2_with fail
  generalize (((w.alloc (.cells #[.pointer (some ⟨L.cp, 0, none⟩)] 27)).alloc (.cells #[.int .i64 z] 3)).alloc (.cells #[.int .i64 y] 3)).alloc (.cells #[.string s] 9) = w0 at *
  refine U.out.mono ?_
  rintro e w1 ⟨rfl, rfl⟩
  go_wp2_with fail
  refine H.out.mono ?_
  rintro e w2 ⟨rfl, bh⟩
  have b2 := b0.trans (bh.mono b0.size)
  have h2 := Lib.hid (h0.out.after bh)
  replace x1 := Lib.hid (x1.out.goes (.of_below bh))
  replace z1 := x1.out.1
  replace x2 := Lib.hid (x2.out.goes (.of_below bh))
  replace z2 := x2.out.1
  replace x3 := Lib.hid (x3.out.goes (.of_below bh))
  replace z3 := x3.out.1
  replace x4 := Lib.hid (x4.out.goes (.of_below bh))
  replace z4 := x4.out.1
  clear H U h0 bh c0 b0
  go_wp2
  go_ret
  exact ⟨rfl, b2⟩

set_option maxHeartbeats 1000000 in
set_option maxRecDepth 8000 in
theorem prog_long (B : Nat) (w : World) (L : Lay) (S : St) (hv : Value) (h : Hid (Ch B w L S hv)) (z y : Int) (s : ByteArray) (hu : S.up = true) (hin : (inB z L.n && inB y L.m) = true) (hs : 256 < s.size) :
    Calls Try.prog 12 #[.pointer (some ⟨L.cp, 0, none⟩), .int .i64 z, .int .i64 y, .string s] w fun e w' => e = .returned (.int .i64 1) ∧ Below w.heap.size w w' := by
  have b0 : Below w.heap.size w ((((w.alloc (.cells #[.pointer (some ⟨L.cp, 0, none⟩)] 27)).alloc (.cells #[.int .i64 z] 3)).alloc (.cells #[.int .i64 y] 3)).alloc (.cells #[.string s] 9)) := allocs_below [.cells #[.pointer (some ⟨L.cp, 0, none⟩)] 27, .cells #[.int .i64 z] 3, .cells #[.int .i64 y] 3, .cells #[.string s] 9] w
  have h0 := Lib.hid (h.out.after b0)
  have x1 : Hid (Box ((((w.alloc (.cells #[.pointer (some ⟨L.cp, 0, none⟩)] 27)).alloc (.cells #[.int .i64 z] 3)).alloc (.cells #[.int .i64 y] 3)).alloc (.cells #[.string s] 9)) (foot L hv) (w.heap.size) (.pointer (some ⟨L.cp, 0, none⟩))) := by
    have r : RowAt ((((w.alloc (.cells #[.pointer (some ⟨L.cp, 0, none⟩)] 27)).alloc (.cells #[.int .i64 z] 3)).alloc (.cells #[.int .i64 y] 3)).alloc (.cells #[.string s] 9)) (w.heap.size) 27 #[.pointer (some ⟨L.cp, 0, none⟩)] := allocs_row [.cells #[.pointer (some ⟨L.cp, 0, none⟩)] 27, .cells #[.int .i64 z] 3, .cells #[.int .i64 y] 3, .cells #[.string s] 9] w 0 27 #[.pointer (some ⟨L.cp, 0, none⟩)] rfl
    exact ⟨by rw [cell_of_row _ _ 0 _ _ _ r]; rfl, r.lt, fun hf => by have := (h.out.base _ hf).2; omega⟩
  have z1 := x1.out.1
  have x2 : Hid (Box ((((w.alloc (.cells #[.pointer (some ⟨L.cp, 0, none⟩)] 27)).alloc (.cells #[.int .i64 z] 3)).alloc (.cells #[.int .i64 y] 3)).alloc (.cells #[.string s] 9)) (foot L hv) (w.heap.size + 1) (.int .i64 z)) := by
    have r : RowAt ((((w.alloc (.cells #[.pointer (some ⟨L.cp, 0, none⟩)] 27)).alloc (.cells #[.int .i64 z] 3)).alloc (.cells #[.int .i64 y] 3)).alloc (.cells #[.string s] 9)) (w.heap.size + 1) 3 #[.int .i64 z] := allocs_row [.cells #[.pointer (some ⟨L.cp, 0, none⟩)] 27, .cells #[.int .i64 z] 3, .cells #[.int .i64 y] 3, .cells #[.string s] 9] w 1 3 #[.int .i64 z] rfl
    exact ⟨by rw [cell_of_row _ _ 0 _ _ _ r]; rfl, r.lt, fun hf => by have := (h.out.base _ hf).2; omega⟩
  have z2 := x2.out.1
  have x3 : Hid (Box ((((w.alloc (.cells #[.pointer (some ⟨L.cp, 0, none⟩)] 27)).alloc (.cells #[.int .i64 z] 3)).alloc (.cells #[.int .i64 y] 3)).alloc (.cells #[.string s] 9)) (foot L hv) (w.heap.size + 2) (.int .i64 y)) := by
    have r : RowAt ((((w.alloc (.cells #[.pointer (some ⟨L.cp, 0, none⟩)] 27)).alloc (.cells #[.int .i64 z] 3)).alloc (.cells #[.int .i64 y] 3)).alloc (.cells #[.string s] 9)) (w.heap.size + 2) 3 #[.int .i64 y] := allocs_row [.cells #[.pointer (some ⟨L.cp, 0, none⟩)] 27, .cells #[.int .i64 z] 3, .cells #[.int .i64 y] 3, .cells #[.string s] 9] w 2 3 #[.int .i64 y] rfl
    exact ⟨by rw [cell_of_row _ _ 0 _ _ _ r]; rfl, r.lt, fun hf => by have := (h.out.base _ hf).2; omega⟩
  have z3 := x3.out.1
  have x4 : Hid (Box ((((w.alloc (.cells #[.pointer (some ⟨L.cp, 0, none⟩)] 27)).alloc (.cells #[.int .i64 z] 3)).alloc (.cells #[.int .i64 y] 3)).alloc (.cells #[.string s] 9)) (foot L hv) (w.heap.size + 3) (.string s)) := by
    have r : RowAt ((((w.alloc (.cells #[.pointer (some ⟨L.cp, 0, none⟩)] 27)).alloc (.cells #[.int .i64 z] 3)).alloc (.cells #[.int .i64 y] 3)).alloc (.cells #[.string s] 9)) (w.heap.size + 3) 9 #[.string s] := allocs_row [.cells #[.pointer (some ⟨L.cp, 0, none⟩)] 27, .cells #[.int .i64 z] 3, .cells #[.int .i64 y] 3, .cells #[.string s] 9] w 3 9 #[.string s] rfl
    exact ⟨by rw [cell_of_row _ _ 0 _ _ _ r]; rfl, r.lt, fun hf => by have := (h.out.base _ hf).2; omega⟩
  have z4 := x4.out.1
  have U := Lib.hid (powUp_any L.pp _ _ _ _ _ (Lib.hid h0.out.pow))
  have c0 := h0.out.c0
  have H := Lib.hid (hasPage_any B _ L S hv h0 z y)
  rw [hin] at H
  rw [hu] at U
  have l0 : (256 : Int) < (s.size : Int) := by omega
  clear hs
  go_enter Try.func12, Try.ntmps12
  go_wp2_with fail
  generalize (((w.alloc (.cells #[.pointer (some ⟨L.cp, 0, none⟩)] 27)).alloc (.cells #[.int .i64 z] 3)).alloc (.cells #[.int .i64 y] 3)).alloc (.cells #[.string s] 9) = w0 at *
  refine U.out.mono ?_
  rintro e w1 ⟨rfl, rfl⟩
  go_wp2_with fail
  refine H.out.mono ?_
  rintro e w2 ⟨rfl, bh⟩
  have b2 := b0.trans (bh.mono b0.size)
  have h2 := Lib.hid (h0.out.after bh)
  replace x1 := Lib.hid (x1.out.goes (.of_below bh))
  replace z1 := x1.out.1
  replace x2 := Lib.hid (x2.out.goes (.of_below bh))
  replace z2 := x2.out.1
  replace x3 := Lib.hid (x3.out.goes (.of_below bh))
  replace z3 := x3.out.1
  replace x4 := Lib.hid (x4.out.goes (.of_below bh))
  replace z4 := x4.out.1
  clear H U h0 bh c0 b0
  go_wp2
  go_ret
  exact ⟨rfl, b2⟩

set_option maxHeartbeats 1000000 in
set_option maxRecDepth 8000 in
theorem prog_used (B : Nat) (w : World) (L : Lay) (S : St) (hv : Value) (h : Hid (Ch B w L S hv)) (i j : Nat) (s : ByteArray) (hi : i < L.n) (hj : j < L.m) (hu : S.up = true) (hs : s.size ≤ 256) (hp : isB (S.page i j) = true) :
    Calls Try.prog 12 #[.pointer (some ⟨L.cp, 0, none⟩), .int .i64 ((i : Nat) : Int), .int .i64 ((j : Nat) : Int), .string s] w fun e w' => e = .returned (.int .i64 100) ∧ Below w.heap.size w w' := by
  have b0 : Below w.heap.size w ((((w.alloc (.cells #[.pointer (some ⟨L.cp, 0, none⟩)] 27)).alloc (.cells #[.int .i64 ((i : Nat) : Int)] 3)).alloc (.cells #[.int .i64 ((j : Nat) : Int)] 3)).alloc (.cells #[.string s] 9)) := allocs_below [.cells #[.pointer (some ⟨L.cp, 0, none⟩)] 27, .cells #[.int .i64 ((i : Nat) : Int)] 3, .cells #[.int .i64 ((j : Nat) : Int)] 3, .cells #[.string s] 9] w
  have h0 := Lib.hid (h.out.after b0)
  have x1 : Hid (Box ((((w.alloc (.cells #[.pointer (some ⟨L.cp, 0, none⟩)] 27)).alloc (.cells #[.int .i64 ((i : Nat) : Int)] 3)).alloc (.cells #[.int .i64 ((j : Nat) : Int)] 3)).alloc (.cells #[.string s] 9)) (foot L hv) (w.heap.size) (.pointer (some ⟨L.cp, 0, none⟩))) := by
    have r : RowAt ((((w.alloc (.cells #[.pointer (some ⟨L.cp, 0, none⟩)] 27)).alloc (.cells #[.int .i64 ((i : Nat) : Int)] 3)).alloc (.cells #[.int .i64 ((j : Nat) : Int)] 3)).alloc (.cells #[.string s] 9)) (w.heap.size) 27 #[.pointer (some ⟨L.cp, 0, none⟩)] := allocs_row [.cells #[.pointer (some ⟨L.cp, 0, none⟩)] 27, .cells #[.int .i64 ((i : Nat) : Int)] 3, .cells #[.int .i64 ((j : Nat) : Int)] 3, .cells #[.string s] 9] w 0 27 #[.pointer (some ⟨L.cp, 0, none⟩)] rfl
    exact ⟨by rw [cell_of_row _ _ 0 _ _ _ r]; rfl, r.lt, fun hf => by have := (h.out.base _ hf).2; omega⟩
  have z1 := x1.out.1
  have x2 : Hid (Box ((((w.alloc (.cells #[.pointer (some ⟨L.cp, 0, none⟩)] 27)).alloc (.cells #[.int .i64 ((i : Nat) : Int)] 3)).alloc (.cells #[.int .i64 ((j : Nat) : Int)] 3)).alloc (.cells #[.string s] 9)) (foot L hv) (w.heap.size + 1) (.int .i64 ((i : Nat) : Int))) := by
    have r : RowAt ((((w.alloc (.cells #[.pointer (some ⟨L.cp, 0, none⟩)] 27)).alloc (.cells #[.int .i64 ((i : Nat) : Int)] 3)).alloc (.cells #[.int .i64 ((j : Nat) : Int)] 3)).alloc (.cells #[.string s] 9)) (w.heap.size + 1) 3 #[.int .i64 ((i : Nat) : Int)] := allocs_row [.cells #[.pointer (some ⟨L.cp, 0, none⟩)] 27, .cells #[.int .i64 ((i : Nat) : Int)] 3, .cells #[.int .i64 ((j : Nat) : Int)] 3, .cells #[.string s] 9] w 1 3 #[.int .i64 ((i : Nat) : Int)] rfl
    exact ⟨by rw [cell_of_row _ _ 0 _ _ _ r]; rfl, r.lt, fun hf => by have := (h.out.base _ hf).2; omega⟩
  have z2 := x2.out.1
  have x3 : Hid (Box ((((w.alloc (.cells #[.pointer (some ⟨L.cp, 0, none⟩)] 27)).alloc (.cells #[.int .i64 ((i : Nat) : Int)] 3)).alloc (.cells #[.int .i64 ((j : Nat) : Int)] 3)).alloc (.cells #[.string s] 9)) (foot L hv) (w.heap.size + 2) (.int .i64 ((j : Nat) : Int))) := by
    have r : RowAt ((((w.alloc (.cells #[.pointer (some ⟨L.cp, 0, none⟩)] 27)).alloc (.cells #[.int .i64 ((i : Nat) : Int)] 3)).alloc (.cells #[.int .i64 ((j : Nat) : Int)] 3)).alloc (.cells #[.string s] 9)) (w.heap.size + 2) 3 #[.int .i64 ((j : Nat) : Int)] := allocs_row [.cells #[.pointer (some ⟨L.cp, 0, none⟩)] 27, .cells #[.int .i64 ((i : Nat) : Int)] 3, .cells #[.int .i64 ((j : Nat) : Int)] 3, .cells #[.string s] 9] w 2 3 #[.int .i64 ((j : Nat) : Int)] rfl
    exact ⟨by rw [cell_of_row _ _ 0 _ _ _ r]; rfl, r.lt, fun hf => by have := (h.out.base _ hf).2; omega⟩
  have z3 := x3.out.1
  have x4 : Hid (Box ((((w.alloc (.cells #[.pointer (some ⟨L.cp, 0, none⟩)] 27)).alloc (.cells #[.int .i64 ((i : Nat) : Int)] 3)).alloc (.cells #[.int .i64 ((j : Nat) : Int)] 3)).alloc (.cells #[.string s] 9)) (foot L hv) (w.heap.size + 3) (.string s)) := by
    have r : RowAt ((((w.alloc (.cells #[.pointer (some ⟨L.cp, 0, none⟩)] 27)).alloc (.cells #[.int .i64 ((i : Nat) : Int)] 3)).alloc (.cells #[.int .i64 ((j : Nat) : Int)] 3)).alloc (.cells #[.string s] 9)) (w.heap.size + 3) 9 #[.string s] := allocs_row [.cells #[.pointer (some ⟨L.cp, 0, none⟩)] 27, .cells #[.int .i64 ((i : Nat) : Int)] 3, .cells #[.int .i64 ((j : Nat) : Int)] 3, .cells #[.string s] 9] w 3 9 #[.string s] rfl
    exact ⟨by rw [cell_of_row _ _ 0 _ _ _ r]; rfl, r.lt, fun hf => by have := (h.out.base _ hf).2; omega⟩
  have z4 := x4.out.1
  have U := Lib.hid (powUp_any L.pp _ _ _ _ _ (Lib.hid h0.out.pow))
  have c0 := h0.out.c0
  have hin : (inB ((i : Nat) : Int) L.n && inB ((j : Nat) : Int) L.m) = true := by rw [inB_nat i _ hi, inB_nat j _ hj]; rfl
  have H := Lib.hid (hasPage_any B _ L S hv h0 ((i : Nat) : Int) ((j : Nat) : Int))
  rw [hin] at H
  rw [hu] at U
  have l0 : ¬ (256 : Int) < (s.size : Int) := by omega
  have hs' := Lib.hid hs
  clear hs
  go_enter Try.func12, Try.ntmps12
  go_wp2_with fail
  generalize (((w.alloc (.cells #[.pointer (some ⟨L.cp, 0, none⟩)] 27)).alloc (.cells #[.int .i64 ((i : Nat) : Int)] 3)).alloc (.cells #[.int .i64 ((j : Nat) : Int)] 3)).alloc (.cells #[.string s] 9) = w0 at *
  refine U.out.mono ?_
  rintro e w1 ⟨rfl, rfl⟩
  go_wp2_with fail
  refine H.out.mono ?_
  rintro e w2 ⟨rfl, bh⟩
  have b2 := b0.trans (bh.mono b0.size)
  have h2 := Lib.hid (h0.out.after bh)
  replace x1 := Lib.hid (x1.out.goes (.of_below bh))
  replace z1 := x1.out.1
  replace x2 := Lib.hid (x2.out.goes (.of_below bh))
  replace z2 := x2.out.1
  replace x3 := Lib.hid (x3.out.goes (.of_below bh))
  replace z3 := x3.out.1
  replace x4 := Lib.hid (x4.out.goes (.of_below bh))
  replace z4 := x4.out.1
  clear H U h0 bh c0 b0
  go_wp2_with fail
  have bd : Below w2.heap.size w2 w2.drew := (Below.refl _ _).drew
  have h3 := Lib.hid (h2.out.after bd)
  have b3 := b2.trans (bd.mono b2.size)
  replace x1 := Lib.hid (x1.out.goes (.of_below bd))
  clear z1
  replace x2 := Lib.hid (x2.out.goes (.of_below bd))
  clear z2
  replace x3 := Lib.hid (x3.out.goes (.of_below bd))
  clear z3
  replace x4 := Lib.hid (x4.out.goes (.of_below bd))
  clear z4
  generalize hw3 : w2.drew = w3 at *
  have R := Lib.hid (fun w' (hC : Below w3.heap.size w3 w') => rowIs_any w' (L.tp i) L.m j hj (S.page i j) ((h3.out.after hC).pg hi hj) ((h3.out.after hC).pages i hi).lt)
  simp only [hp] at R
  refine wp_region_class (fun w' => Below w3.heap.size w3 w') (by kernel_rfl) (by kernel_rfl) (by rw [hw3]; exact Below.refl _ _) ?_
  refine wpQuiet_val rfl (.pointer (some ⟨L.cp, 0, none⟩)) (fun w' hC => by
    have hc := h3.out.after hC
    have c1 := hc.c1
    have c2 := hc.s0 hi
    have c3 := hc.pg hi hj
    have y1 := (x1.out.goes (.of_below hC)).1
    have y2 := (x2.out.goes (.of_below hC)).1
    have y3 := (x3.out.goes (.of_below hC)).1
    have i1 : (i : Int) < (L.n : Int) := by omega
    go_simp) ?_
  simp only [Act.put, List.setIfInBounds_toArray, List.set_cons_succ, List.set_cons_zero]
  refine wpQuiet_val rfl (.pointer (some ⟨L.cp, 0, none⟩)) (fun w' hC => by
    have hc := h3.out.after hC
    have c1 := hc.c1
    have c2 := hc.s0 hi
    have c3 := hc.pg hi hj
    have y1 := (x1.out.goes (.of_below hC)).1
    have y2 := (x2.out.goes (.of_below hC)).1
    have y3 := (x3.out.goes (.of_below hC)).1
    have i1 : (i : Int) < (L.n : Int) := by omega
    go_simp) ?_
  simp only [Act.put, List.setIfInBounds_toArray, List.set_cons_succ, List.set_cons_zero]
  refine wpQuiet_val rfl (.pointer (some ⟨L.cp, 1, none⟩)) (fun w' hC => by
    have hc := h3.out.after hC
    have c1 := hc.c1
    have c2 := hc.s0 hi
    have c3 := hc.pg hi hj
    have y1 := (x1.out.goes (.of_below hC)).1
    have y2 := (x2.out.goes (.of_below hC)).1
    have y3 := (x3.out.goes (.of_below hC)).1
    have i1 : (i : Int) < (L.n : Int) := by omega
    go_simp) ?_
  simp only [Act.put, List.setIfInBounds_toArray, List.set_cons_succ, List.set_cons_zero]
  refine wpQuiet_val rfl (.slice (some ⟨L.sp, 0, none⟩) L.n L.n) (fun w' hC => by
    have hc := h3.out.after hC
    have c1 := hc.c1
    have c2 := hc.s0 hi
    have c3 := hc.pg hi hj
    have y1 := (x1.out.goes (.of_below hC)).1
    have y2 := (x2.out.goes (.of_below hC)).1
    have y3 := (x3.out.goes (.of_below hC)).1
    have i1 : (i : Int) < (L.n : Int) := by omega
    go_simp) ?_
  simp only [Act.put, List.setIfInBounds_toArray, List.set_cons_succ, List.set_cons_zero]
  refine wpQuiet_val rfl (.int .i64 ((i : Nat) : Int)) (fun w' hC => by
    have hc := h3.out.after hC
    have c1 := hc.c1
    have c2 := hc.s0 hi
    have c3 := hc.pg hi hj
    have y1 := (x1.out.goes (.of_below hC)).1
    have y2 := (x2.out.goes (.of_below hC)).1
    have y3 := (x3.out.goes (.of_below hC)).1
    have i1 : (i : Int) < (L.n : Int) := by omega
    go_simp) ?_
  simp only [Act.put, List.setIfInBounds_toArray, List.set_cons_succ, List.set_cons_zero]
  refine wpQuiet_val rfl (.pointer (some ⟨L.sp, i * 3, none⟩)) (fun w' hC => by
    have hc := h3.out.after hC
    have c1 := hc.c1
    have c2 := hc.s0 hi
    have c3 := hc.pg hi hj
    have y1 := (x1.out.goes (.of_below hC)).1
    have y2 := (x2.out.goes (.of_below hC)).1
    have y3 := (x3.out.goes (.of_below hC)).1
    have i1 : (i : Int) < (L.n : Int) := by omega
    go_simp) ?_
  simp only [Act.put, List.setIfInBounds_toArray, List.set_cons_succ, List.set_cons_zero]
  refine wpQuiet_val rfl (.pointer (some ⟨L.sp, i * 3, none⟩)) (fun w' hC => by
    have hc := h3.out.after hC
    have c1 := hc.c1
    have c2 := hc.s0 hi
    have c3 := hc.pg hi hj
    have y1 := (x1.out.goes (.of_below hC)).1
    have y2 := (x2.out.goes (.of_below hC)).1
    have y3 := (x3.out.goes (.of_below hC)).1
    have i1 : (i : Int) < (L.n : Int) := by omega
    go_simp) ?_
  simp only [Act.put, List.setIfInBounds_toArray, List.set_cons_succ, List.set_cons_zero]
  refine wpQuiet_val rfl (.agg #[.slice (some ⟨L.tp i, 0, none⟩) L.m L.m]) (fun w' hC => by
    have hc := h3.out.after hC
    have c1 := hc.c1
    have c2 := hc.s0 hi
    have c3 := hc.pg hi hj
    have y1 := (x1.out.goes (.of_below hC)).1
    have y2 := (x2.out.goes (.of_below hC)).1
    have y3 := (x3.out.goes (.of_below hC)).1
    have i1 : (i : Int) < (L.n : Int) := by omega
    go_simp) ?_
  simp only [Act.put, List.setIfInBounds_toArray, List.set_cons_succ, List.set_cons_zero]
  refine wpQuiet_val rfl (.int .i64 ((j : Nat) : Int)) (fun w' hC => by
    have hc := h3.out.after hC
    have c1 := hc.c1
    have c2 := hc.s0 hi
    have c3 := hc.pg hi hj
    have y1 := (x1.out.goes (.of_below hC)).1
    have y2 := (x2.out.goes (.of_below hC)).1
    have y3 := (x3.out.goes (.of_below hC)).1
    have i1 : (i : Int) < (L.n : Int) := by omega
    go_simp) ?_
  simp only [Act.put, List.setIfInBounds_toArray, List.set_cons_succ, List.set_cons_zero]
  (go_big_quiet_want; go_big_quiet_op; apply Exists.intro; refine ⟨fun w' hC => (R.out w' hC).mono fun e w'' h => ⟨h.1, hC.trans (h.2.mono hC.size)⟩, ?_⟩; go_big_quiet_on)
  (go_big_quiet_want; go_big_quiet_op; go_big_quiet_on)
  refine wpQuiet_nil fun w4 hC => ?_
  have h4 := Lib.hid (h3.out.after hC)
  have b4 := b3.trans (hC.mono b3.size)
  replace x1 := Lib.hid (x1.out.goes (.of_below hC))
  replace x2 := Lib.hid (x2.out.goes (.of_below hC))
  replace x3 := Lib.hid (x3.out.goes (.of_below hC))
  replace x4 := Lib.hid (x4.out.goes (.of_below hC))
  clear R h3 b3 hC h2 b2 bd hw3
  go_wp2
  go_ret
  exact ⟨rfl, b4⟩

set_option maxHeartbeats 1000000 in
set_option maxRecDepth 8000 in
theorem prog_whole (B : Nat) (w : World) (L : Lay) (S : St) (hv : Value) (h : Hid (Ch B w L S hv)) (i j : Nat) (s : ByteArray) (hi : i < L.n) (hj : j < L.m) (hu : S.up = true) (hs : s.size ≤ 256) (hp : isB (S.page i j) = false) (lw : Low S) (hb : (S.left - 1 != 0) = true) :
    Calls Try.prog 12 #[.pointer (some ⟨L.cp, 0, none⟩), .int .i64 ((i : Nat) : Int), .int .i64 ((j : Nat) : Int), .string s] w fun e w' => e = .returned (.int .i64 0) ∧ ∃ hv', Hid (Ch B w' L (prS (cntP (actS S true (S.left - 1))) i j (pageT s 9223372036854775807 0)) hv') ∧ Goes L hv w hv' w' := by
  have b0 : Below w.heap.size w ((((w.alloc (.cells #[.pointer (some ⟨L.cp, 0, none⟩)] 27)).alloc (.cells #[.int .i64 ((i : Nat) : Int)] 3)).alloc (.cells #[.int .i64 ((j : Nat) : Int)] 3)).alloc (.cells #[.string s] 9)) := allocs_below [.cells #[.pointer (some ⟨L.cp, 0, none⟩)] 27, .cells #[.int .i64 ((i : Nat) : Int)] 3, .cells #[.int .i64 ((j : Nat) : Int)] 3, .cells #[.string s] 9] w
  have h0 := Lib.hid (h.out.after b0)
  have x1 : Hid (Box ((((w.alloc (.cells #[.pointer (some ⟨L.cp, 0, none⟩)] 27)).alloc (.cells #[.int .i64 ((i : Nat) : Int)] 3)).alloc (.cells #[.int .i64 ((j : Nat) : Int)] 3)).alloc (.cells #[.string s] 9)) (foot L hv) (w.heap.size) (.pointer (some ⟨L.cp, 0, none⟩))) := by
    have r : RowAt ((((w.alloc (.cells #[.pointer (some ⟨L.cp, 0, none⟩)] 27)).alloc (.cells #[.int .i64 ((i : Nat) : Int)] 3)).alloc (.cells #[.int .i64 ((j : Nat) : Int)] 3)).alloc (.cells #[.string s] 9)) (w.heap.size) 27 #[.pointer (some ⟨L.cp, 0, none⟩)] := allocs_row [.cells #[.pointer (some ⟨L.cp, 0, none⟩)] 27, .cells #[.int .i64 ((i : Nat) : Int)] 3, .cells #[.int .i64 ((j : Nat) : Int)] 3, .cells #[.string s] 9] w 0 27 #[.pointer (some ⟨L.cp, 0, none⟩)] rfl
    exact ⟨by rw [cell_of_row _ _ 0 _ _ _ r]; rfl, r.lt, fun hf => by have := (h.out.base _ hf).2; omega⟩
  have z1 := x1.out.1
  have x2 : Hid (Box ((((w.alloc (.cells #[.pointer (some ⟨L.cp, 0, none⟩)] 27)).alloc (.cells #[.int .i64 ((i : Nat) : Int)] 3)).alloc (.cells #[.int .i64 ((j : Nat) : Int)] 3)).alloc (.cells #[.string s] 9)) (foot L hv) (w.heap.size + 1) (.int .i64 ((i : Nat) : Int))) := by
    have r : RowAt ((((w.alloc (.cells #[.pointer (some ⟨L.cp, 0, none⟩)] 27)).alloc (.cells #[.int .i64 ((i : Nat) : Int)] 3)).alloc (.cells #[.int .i64 ((j : Nat) : Int)] 3)).alloc (.cells #[.string s] 9)) (w.heap.size + 1) 3 #[.int .i64 ((i : Nat) : Int)] := allocs_row [.cells #[.pointer (some ⟨L.cp, 0, none⟩)] 27, .cells #[.int .i64 ((i : Nat) : Int)] 3, .cells #[.int .i64 ((j : Nat) : Int)] 3, .cells #[.string s] 9] w 1 3 #[.int .i64 ((i : Nat) : Int)] rfl
    exact ⟨by rw [cell_of_row _ _ 0 _ _ _ r]; rfl, r.lt, fun hf => by have := (h.out.base _ hf).2; omega⟩
  have z2 := x2.out.1
  have x3 : Hid (Box ((((w.alloc (.cells #[.pointer (some ⟨L.cp, 0, none⟩)] 27)).alloc (.cells #[.int .i64 ((i : Nat) : Int)] 3)).alloc (.cells #[.int .i64 ((j : Nat) : Int)] 3)).alloc (.cells #[.string s] 9)) (foot L hv) (w.heap.size + 2) (.int .i64 ((j : Nat) : Int))) := by
    have r : RowAt ((((w.alloc (.cells #[.pointer (some ⟨L.cp, 0, none⟩)] 27)).alloc (.cells #[.int .i64 ((i : Nat) : Int)] 3)).alloc (.cells #[.int .i64 ((j : Nat) : Int)] 3)).alloc (.cells #[.string s] 9)) (w.heap.size + 2) 3 #[.int .i64 ((j : Nat) : Int)] := allocs_row [.cells #[.pointer (some ⟨L.cp, 0, none⟩)] 27, .cells #[.int .i64 ((i : Nat) : Int)] 3, .cells #[.int .i64 ((j : Nat) : Int)] 3, .cells #[.string s] 9] w 2 3 #[.int .i64 ((j : Nat) : Int)] rfl
    exact ⟨by rw [cell_of_row _ _ 0 _ _ _ r]; rfl, r.lt, fun hf => by have := (h.out.base _ hf).2; omega⟩
  have z3 := x3.out.1
  have x4 : Hid (Box ((((w.alloc (.cells #[.pointer (some ⟨L.cp, 0, none⟩)] 27)).alloc (.cells #[.int .i64 ((i : Nat) : Int)] 3)).alloc (.cells #[.int .i64 ((j : Nat) : Int)] 3)).alloc (.cells #[.string s] 9)) (foot L hv) (w.heap.size + 3) (.string s)) := by
    have r : RowAt ((((w.alloc (.cells #[.pointer (some ⟨L.cp, 0, none⟩)] 27)).alloc (.cells #[.int .i64 ((i : Nat) : Int)] 3)).alloc (.cells #[.int .i64 ((j : Nat) : Int)] 3)).alloc (.cells #[.string s] 9)) (w.heap.size + 3) 9 #[.string s] := allocs_row [.cells #[.pointer (some ⟨L.cp, 0, none⟩)] 27, .cells #[.int .i64 ((i : Nat) : Int)] 3, .cells #[.int .i64 ((j : Nat) : Int)] 3, .cells #[.string s] 9] w 3 9 #[.string s] rfl
    exact ⟨by rw [cell_of_row _ _ 0 _ _ _ r]; rfl, r.lt, fun hf => by have := (h.out.base _ hf).2; omega⟩
  have z4 := x4.out.1
  have U := Lib.hid (powUp_any L.pp _ _ _ _ _ (Lib.hid h0.out.pow))
  have c0 := h0.out.c0
  have hin : (inB ((i : Nat) : Int) L.n && inB ((j : Nat) : Int) L.m) = true := by rw [inB_nat i _ hi, inB_nat j _ hj]; rfl
  have H := Lib.hid (hasPage_any B _ L S hv h0 ((i : Nat) : Int) ((j : Nat) : Int))
  rw [hin] at H
  rw [hu] at U
  have l0 : ¬ (256 : Int) < (s.size : Int) := by omega
  have hs' := Lib.hid hs
  clear hs
  go_enter Try.func12, Try.ntmps12
  go_wp2_with fail
  generalize (((w.alloc (.cells #[.pointer (some ⟨L.cp, 0, none⟩)] 27)).alloc (.cells #[.int .i64 ((i : Nat) : Int)] 3)).alloc (.cells #[.int .i64 ((j : Nat) : Int)] 3)).alloc (.cells #[.string s] 9) = w0 at *
  refine U.out.mono ?_
  rintro e w1 ⟨rfl, rfl⟩
  go_wp2_with fail
  refine H.out.mono ?_
  rintro e w2 ⟨rfl, bh⟩
  have b2 := b0.trans (bh.mono b0.size)
  have h2 := Lib.hid (h0.out.after bh)
  replace x1 := Lib.hid (x1.out.goes (.of_below bh))
  replace z1 := x1.out.1
  replace x2 := Lib.hid (x2.out.goes (.of_below bh))
  replace z2 := x2.out.1
  replace x3 := Lib.hid (x3.out.goes (.of_below bh))
  replace z3 := x3.out.1
  replace x4 := Lib.hid (x4.out.goes (.of_below bh))
  replace z4 := x4.out.1
  clear H U h0 bh c0 b0
  have lw' := Lib.hid lw
  have hb' := Lib.hid hb
  clear lw hb
  go_wp2_with fail
  have bd : Below w2.heap.size w2 w2.drew := (Below.refl _ _).drew
  have h3 := Lib.hid (h2.out.after bd)
  have b3 := b2.trans (bd.mono b2.size)
  replace x1 := Lib.hid (x1.out.goes (.of_below bd))
  clear z1
  replace x2 := Lib.hid (x2.out.goes (.of_below bd))
  clear z2
  replace x3 := Lib.hid (x3.out.goes (.of_below bd))
  clear z3
  replace x4 := Lib.hid (x4.out.goes (.of_below bd))
  clear z4
  generalize hw3 : w2.drew = w3 at *
  have R := Lib.hid (fun w' (hC : Below w3.heap.size w3 w') => rowIs_any w' (L.tp i) L.m j hj (S.page i j) ((h3.out.after hC).pg hi hj) ((h3.out.after hC).pages i hi).lt)
  simp only [hp] at R
  refine wp_region_class (fun w' => Below w3.heap.size w3 w') (by kernel_rfl) (by kernel_rfl) (by rw [hw3]; exact Below.refl _ _) ?_
  refine wpQuiet_val rfl (.pointer (some ⟨L.cp, 0, none⟩)) (fun w' hC => by
    have hc := h3.out.after hC
    have c1 := hc.c1
    have c2 := hc.s0 hi
    have c3 := hc.pg hi hj
    have y1 := (x1.out.goes (.of_below hC)).1
    have y2 := (x2.out.goes (.of_below hC)).1
    have y3 := (x3.out.goes (.of_below hC)).1
    have i1 : (i : Int) < (L.n : Int) := by omega
    go_simp) ?_
  simp only [Act.put, List.setIfInBounds_toArray, List.set_cons_succ, List.set_cons_zero]
  refine wpQuiet_val rfl (.pointer (some ⟨L.cp, 0, none⟩)) (fun w' hC => by
    have hc := h3.out.after hC
    have c1 := hc.c1
    have c2 := hc.s0 hi
    have c3 := hc.pg hi hj
    have y1 := (x1.out.goes (.of_below hC)).1
    have y2 := (x2.out.goes (.of_below hC)).1
    have y3 := (x3.out.goes (.of_below hC)).1
    have i1 : (i : Int) < (L.n : Int) := by omega
    go_simp) ?_
  simp only [Act.put, List.setIfInBounds_toArray, List.set_cons_succ, List.set_cons_zero]
  refine wpQuiet_val rfl (.pointer (some ⟨L.cp, 1, none⟩)) (fun w' hC => by
    have hc := h3.out.after hC
    have c1 := hc.c1
    have c2 := hc.s0 hi
    have c3 := hc.pg hi hj
    have y1 := (x1.out.goes (.of_below hC)).1
    have y2 := (x2.out.goes (.of_below hC)).1
    have y3 := (x3.out.goes (.of_below hC)).1
    have i1 : (i : Int) < (L.n : Int) := by omega
    go_simp) ?_
  simp only [Act.put, List.setIfInBounds_toArray, List.set_cons_succ, List.set_cons_zero]
  refine wpQuiet_val rfl (.slice (some ⟨L.sp, 0, none⟩) L.n L.n) (fun w' hC => by
    have hc := h3.out.after hC
    have c1 := hc.c1
    have c2 := hc.s0 hi
    have c3 := hc.pg hi hj
    have y1 := (x1.out.goes (.of_below hC)).1
    have y2 := (x2.out.goes (.of_below hC)).1
    have y3 := (x3.out.goes (.of_below hC)).1
    have i1 : (i : Int) < (L.n : Int) := by omega
    go_simp) ?_
  simp only [Act.put, List.setIfInBounds_toArray, List.set_cons_succ, List.set_cons_zero]
  refine wpQuiet_val rfl (.int .i64 ((i : Nat) : Int)) (fun w' hC => by
    have hc := h3.out.after hC
    have c1 := hc.c1
    have c2 := hc.s0 hi
    have c3 := hc.pg hi hj
    have y1 := (x1.out.goes (.of_below hC)).1
    have y2 := (x2.out.goes (.of_below hC)).1
    have y3 := (x3.out.goes (.of_below hC)).1
    have i1 : (i : Int) < (L.n : Int) := by omega
    go_simp) ?_
  simp only [Act.put, List.setIfInBounds_toArray, List.set_cons_succ, List.set_cons_zero]
  refine wpQuiet_val rfl (.pointer (some ⟨L.sp, i * 3, none⟩)) (fun w' hC => by
    have hc := h3.out.after hC
    have c1 := hc.c1
    have c2 := hc.s0 hi
    have c3 := hc.pg hi hj
    have y1 := (x1.out.goes (.of_below hC)).1
    have y2 := (x2.out.goes (.of_below hC)).1
    have y3 := (x3.out.goes (.of_below hC)).1
    have i1 : (i : Int) < (L.n : Int) := by omega
    go_simp) ?_
  simp only [Act.put, List.setIfInBounds_toArray, List.set_cons_succ, List.set_cons_zero]
  refine wpQuiet_val rfl (.pointer (some ⟨L.sp, i * 3, none⟩)) (fun w' hC => by
    have hc := h3.out.after hC
    have c1 := hc.c1
    have c2 := hc.s0 hi
    have c3 := hc.pg hi hj
    have y1 := (x1.out.goes (.of_below hC)).1
    have y2 := (x2.out.goes (.of_below hC)).1
    have y3 := (x3.out.goes (.of_below hC)).1
    have i1 : (i : Int) < (L.n : Int) := by omega
    go_simp) ?_
  simp only [Act.put, List.setIfInBounds_toArray, List.set_cons_succ, List.set_cons_zero]
  refine wpQuiet_val rfl (.agg #[.slice (some ⟨L.tp i, 0, none⟩) L.m L.m]) (fun w' hC => by
    have hc := h3.out.after hC
    have c1 := hc.c1
    have c2 := hc.s0 hi
    have c3 := hc.pg hi hj
    have y1 := (x1.out.goes (.of_below hC)).1
    have y2 := (x2.out.goes (.of_below hC)).1
    have y3 := (x3.out.goes (.of_below hC)).1
    have i1 : (i : Int) < (L.n : Int) := by omega
    go_simp) ?_
  simp only [Act.put, List.setIfInBounds_toArray, List.set_cons_succ, List.set_cons_zero]
  refine wpQuiet_val rfl (.int .i64 ((j : Nat) : Int)) (fun w' hC => by
    have hc := h3.out.after hC
    have c1 := hc.c1
    have c2 := hc.s0 hi
    have c3 := hc.pg hi hj
    have y1 := (x1.out.goes (.of_below hC)).1
    have y2 := (x2.out.goes (.of_below hC)).1
    have y3 := (x3.out.goes (.of_below hC)).1
    have i1 : (i : Int) < (L.n : Int) := by omega
    go_simp) ?_
  simp only [Act.put, List.setIfInBounds_toArray, List.set_cons_succ, List.set_cons_zero]
  (go_big_quiet_want; go_big_quiet_op; apply Exists.intro; refine ⟨fun w' hC => (R.out w' hC).mono fun e w'' h => ⟨h.1, hC.trans (h.2.mono hC.size)⟩, ?_⟩; go_big_quiet_on)
  (go_big_quiet_want; go_big_quiet_op; go_big_quiet_on)
  refine wpQuiet_nil fun w4 hC => ?_
  have h4 := Lib.hid (h3.out.after hC)
  have b4 := b3.trans (hC.mono b3.size)
  replace x1 := Lib.hid (x1.out.goes (.of_below hC))
  replace x2 := Lib.hid (x2.out.goes (.of_below hC))
  replace x3 := Lib.hid (x3.out.goes (.of_below hC))
  replace x4 := Lib.hid (x4.out.goes (.of_below hC))
  clear R h3 b3 hC h2 b2 bd hw3
  have g4 : Goes L hv w hv w4 := .of_below b4
  clear b4
  go_wp2_with fail
  refine wp_region_still_tail 5 (by kernel_rfl) (by kernel_rfl) ?_
  change wpStill _ _ (World.drew _) (fun a' => wpList _ _ _ _ a' (World.drew _)) _ _
  have bd : Below w4.heap.size w4 w4.drew := (Below.refl _ _).drew
  replace h4 := Lib.hid (h4.out.after bd)
  replace g4 := g4.below bd
  replace x1 := Lib.hid (x1.out.goes (.of_below bd))
  replace x2 := Lib.hid (x2.out.goes (.of_below bd))
  replace x3 := Lib.hid (x3.out.goes (.of_below bd))
  replace x4 := Lib.hid (x4.out.goes (.of_below bd))
  clear bd
  generalize w4.drew = w5 at *
  have z1 := x1.out.1
  have A := Lib.hid (actP_whole B w5 L S hv h4 (w.heap.size + 3) w.heap.size (w.heap.size + 1) (w.heap.size + 2) i j s x4 x1 x2 x3 hi hj hs'.out lw'.out.hist hu (S.left - 1) rfl lw'.out.lo lw'.out.hi hb'.out lw'.out.progs)
  simp only [List.take_succ_cons, List.take_zero, List.drop_succ_cons, List.drop_zero]
  refine wpStill_of_quiet _ _ ?_
  repeat (first | go_big_quiet_skip | (go_big_quiet_want; go_big_quiet_op; go_big_quiet_on))
  refine wpQuiet_nil ?_
  go_wp2_with fail
  refine A.out.mono ?_
  rintro e w6 ⟨rfl, hv6, h6, g6⟩
  clear A h4 x1 x2 x3 x4 z1
  go_wp2
  go_ret
  exact ⟨rfl, hv6, h6, g4.trans g6⟩

set_option maxHeartbeats 1000000 in
set_option maxRecDepth 8000 in
theorem prog_part (B : Nat) (w : World) (L : Lay) (S : St) (hv : Value) (h : Hid (Ch B w L S hv)) (i j : Nat) (s : ByteArray) (hi : i < L.n) (hj : j < L.m) (hu : S.up = true) (hs : s.size ≤ 256) (hp : isB (S.page i j) = false) (lw : Low S) (hb : (S.left - 1 != 0) = false) :
    Calls Try.prog 12 #[.pointer (some ⟨L.cp, 0, none⟩), .int .i64 ((i : Nat) : Int), .int .i64 ((j : Nat) : Int), .string s] w fun e w' => e = .returned (.int .i64 4) ∧ ∃ hv', Hid (Ch B w' L (prS (cntP (actS S false (S.left - 1))) i j (pageT s S.keep S.junk)) hv') ∧ Goes L hv w hv' w' := by
  have b0 : Below w.heap.size w ((((w.alloc (.cells #[.pointer (some ⟨L.cp, 0, none⟩)] 27)).alloc (.cells #[.int .i64 ((i : Nat) : Int)] 3)).alloc (.cells #[.int .i64 ((j : Nat) : Int)] 3)).alloc (.cells #[.string s] 9)) := allocs_below [.cells #[.pointer (some ⟨L.cp, 0, none⟩)] 27, .cells #[.int .i64 ((i : Nat) : Int)] 3, .cells #[.int .i64 ((j : Nat) : Int)] 3, .cells #[.string s] 9] w
  have h0 := Lib.hid (h.out.after b0)
  have x1 : Hid (Box ((((w.alloc (.cells #[.pointer (some ⟨L.cp, 0, none⟩)] 27)).alloc (.cells #[.int .i64 ((i : Nat) : Int)] 3)).alloc (.cells #[.int .i64 ((j : Nat) : Int)] 3)).alloc (.cells #[.string s] 9)) (foot L hv) (w.heap.size) (.pointer (some ⟨L.cp, 0, none⟩))) := by
    have r : RowAt ((((w.alloc (.cells #[.pointer (some ⟨L.cp, 0, none⟩)] 27)).alloc (.cells #[.int .i64 ((i : Nat) : Int)] 3)).alloc (.cells #[.int .i64 ((j : Nat) : Int)] 3)).alloc (.cells #[.string s] 9)) (w.heap.size) 27 #[.pointer (some ⟨L.cp, 0, none⟩)] := allocs_row [.cells #[.pointer (some ⟨L.cp, 0, none⟩)] 27, .cells #[.int .i64 ((i : Nat) : Int)] 3, .cells #[.int .i64 ((j : Nat) : Int)] 3, .cells #[.string s] 9] w 0 27 #[.pointer (some ⟨L.cp, 0, none⟩)] rfl
    exact ⟨by rw [cell_of_row _ _ 0 _ _ _ r]; rfl, r.lt, fun hf => by have := (h.out.base _ hf).2; omega⟩
  have z1 := x1.out.1
  have x2 : Hid (Box ((((w.alloc (.cells #[.pointer (some ⟨L.cp, 0, none⟩)] 27)).alloc (.cells #[.int .i64 ((i : Nat) : Int)] 3)).alloc (.cells #[.int .i64 ((j : Nat) : Int)] 3)).alloc (.cells #[.string s] 9)) (foot L hv) (w.heap.size + 1) (.int .i64 ((i : Nat) : Int))) := by
    have r : RowAt ((((w.alloc (.cells #[.pointer (some ⟨L.cp, 0, none⟩)] 27)).alloc (.cells #[.int .i64 ((i : Nat) : Int)] 3)).alloc (.cells #[.int .i64 ((j : Nat) : Int)] 3)).alloc (.cells #[.string s] 9)) (w.heap.size + 1) 3 #[.int .i64 ((i : Nat) : Int)] := allocs_row [.cells #[.pointer (some ⟨L.cp, 0, none⟩)] 27, .cells #[.int .i64 ((i : Nat) : Int)] 3, .cells #[.int .i64 ((j : Nat) : Int)] 3, .cells #[.string s] 9] w 1 3 #[.int .i64 ((i : Nat) : Int)] rfl
    exact ⟨by rw [cell_of_row _ _ 0 _ _ _ r]; rfl, r.lt, fun hf => by have := (h.out.base _ hf).2; omega⟩
  have z2 := x2.out.1
  have x3 : Hid (Box ((((w.alloc (.cells #[.pointer (some ⟨L.cp, 0, none⟩)] 27)).alloc (.cells #[.int .i64 ((i : Nat) : Int)] 3)).alloc (.cells #[.int .i64 ((j : Nat) : Int)] 3)).alloc (.cells #[.string s] 9)) (foot L hv) (w.heap.size + 2) (.int .i64 ((j : Nat) : Int))) := by
    have r : RowAt ((((w.alloc (.cells #[.pointer (some ⟨L.cp, 0, none⟩)] 27)).alloc (.cells #[.int .i64 ((i : Nat) : Int)] 3)).alloc (.cells #[.int .i64 ((j : Nat) : Int)] 3)).alloc (.cells #[.string s] 9)) (w.heap.size + 2) 3 #[.int .i64 ((j : Nat) : Int)] := allocs_row [.cells #[.pointer (some ⟨L.cp, 0, none⟩)] 27, .cells #[.int .i64 ((i : Nat) : Int)] 3, .cells #[.int .i64 ((j : Nat) : Int)] 3, .cells #[.string s] 9] w 2 3 #[.int .i64 ((j : Nat) : Int)] rfl
    exact ⟨by rw [cell_of_row _ _ 0 _ _ _ r]; rfl, r.lt, fun hf => by have := (h.out.base _ hf).2; omega⟩
  have z3 := x3.out.1
  have x4 : Hid (Box ((((w.alloc (.cells #[.pointer (some ⟨L.cp, 0, none⟩)] 27)).alloc (.cells #[.int .i64 ((i : Nat) : Int)] 3)).alloc (.cells #[.int .i64 ((j : Nat) : Int)] 3)).alloc (.cells #[.string s] 9)) (foot L hv) (w.heap.size + 3) (.string s)) := by
    have r : RowAt ((((w.alloc (.cells #[.pointer (some ⟨L.cp, 0, none⟩)] 27)).alloc (.cells #[.int .i64 ((i : Nat) : Int)] 3)).alloc (.cells #[.int .i64 ((j : Nat) : Int)] 3)).alloc (.cells #[.string s] 9)) (w.heap.size + 3) 9 #[.string s] := allocs_row [.cells #[.pointer (some ⟨L.cp, 0, none⟩)] 27, .cells #[.int .i64 ((i : Nat) : Int)] 3, .cells #[.int .i64 ((j : Nat) : Int)] 3, .cells #[.string s] 9] w 3 9 #[.string s] rfl
    exact ⟨by rw [cell_of_row _ _ 0 _ _ _ r]; rfl, r.lt, fun hf => by have := (h.out.base _ hf).2; omega⟩
  have z4 := x4.out.1
  have U := Lib.hid (powUp_any L.pp _ _ _ _ _ (Lib.hid h0.out.pow))
  have c0 := h0.out.c0
  have hin : (inB ((i : Nat) : Int) L.n && inB ((j : Nat) : Int) L.m) = true := by rw [inB_nat i _ hi, inB_nat j _ hj]; rfl
  have H := Lib.hid (hasPage_any B _ L S hv h0 ((i : Nat) : Int) ((j : Nat) : Int))
  rw [hin] at H
  rw [hu] at U
  have l0 : ¬ (256 : Int) < (s.size : Int) := by omega
  have hs' := Lib.hid hs
  clear hs
  go_enter Try.func12, Try.ntmps12
  go_wp2_with fail
  generalize (((w.alloc (.cells #[.pointer (some ⟨L.cp, 0, none⟩)] 27)).alloc (.cells #[.int .i64 ((i : Nat) : Int)] 3)).alloc (.cells #[.int .i64 ((j : Nat) : Int)] 3)).alloc (.cells #[.string s] 9) = w0 at *
  refine U.out.mono ?_
  rintro e w1 ⟨rfl, rfl⟩
  go_wp2_with fail
  refine H.out.mono ?_
  rintro e w2 ⟨rfl, bh⟩
  have b2 := b0.trans (bh.mono b0.size)
  have h2 := Lib.hid (h0.out.after bh)
  replace x1 := Lib.hid (x1.out.goes (.of_below bh))
  replace z1 := x1.out.1
  replace x2 := Lib.hid (x2.out.goes (.of_below bh))
  replace z2 := x2.out.1
  replace x3 := Lib.hid (x3.out.goes (.of_below bh))
  replace z3 := x3.out.1
  replace x4 := Lib.hid (x4.out.goes (.of_below bh))
  replace z4 := x4.out.1
  clear H U h0 bh c0 b0
  have lw' := Lib.hid lw
  have hb' := Lib.hid hb
  clear lw hb
  go_wp2_with fail
  have bd : Below w2.heap.size w2 w2.drew := (Below.refl _ _).drew
  have h3 := Lib.hid (h2.out.after bd)
  have b3 := b2.trans (bd.mono b2.size)
  replace x1 := Lib.hid (x1.out.goes (.of_below bd))
  clear z1
  replace x2 := Lib.hid (x2.out.goes (.of_below bd))
  clear z2
  replace x3 := Lib.hid (x3.out.goes (.of_below bd))
  clear z3
  replace x4 := Lib.hid (x4.out.goes (.of_below bd))
  clear z4
  generalize hw3 : w2.drew = w3 at *
  have R := Lib.hid (fun w' (hC : Below w3.heap.size w3 w') => rowIs_any w' (L.tp i) L.m j hj (S.page i j) ((h3.out.after hC).pg hi hj) ((h3.out.after hC).pages i hi).lt)
  simp only [hp] at R
  refine wp_region_class (fun w' => Below w3.heap.size w3 w') (by kernel_rfl) (by kernel_rfl) (by rw [hw3]; exact Below.refl _ _) ?_
  refine wpQuiet_val rfl (.pointer (some ⟨L.cp, 0, none⟩)) (fun w' hC => by
    have hc := h3.out.after hC
    have c1 := hc.c1
    have c2 := hc.s0 hi
    have c3 := hc.pg hi hj
    have y1 := (x1.out.goes (.of_below hC)).1
    have y2 := (x2.out.goes (.of_below hC)).1
    have y3 := (x3.out.goes (.of_below hC)).1
    have i1 : (i : Int) < (L.n : Int) := by omega
    go_simp) ?_
  simp only [Act.put, List.setIfInBounds_toArray, List.set_cons_succ, List.set_cons_zero]
  refine wpQuiet_val rfl (.pointer (some ⟨L.cp, 0, none⟩)) (fun w' hC => by
    have hc := h3.out.after hC
    have c1 := hc.c1
    have c2 := hc.s0 hi
    have c3 := hc.pg hi hj
    have y1 := (x1.out.goes (.of_below hC)).1
    have y2 := (x2.out.goes (.of_below hC)).1
    have y3 := (x3.out.goes (.of_below hC)).1
    have i1 : (i : Int) < (L.n : Int) := by omega
    go_simp) ?_
  simp only [Act.put, List.setIfInBounds_toArray, List.set_cons_succ, List.set_cons_zero]
  refine wpQuiet_val rfl (.pointer (some ⟨L.cp, 1, none⟩)) (fun w' hC => by
    have hc := h3.out.after hC
    have c1 := hc.c1
    have c2 := hc.s0 hi
    have c3 := hc.pg hi hj
    have y1 := (x1.out.goes (.of_below hC)).1
    have y2 := (x2.out.goes (.of_below hC)).1
    have y3 := (x3.out.goes (.of_below hC)).1
    have i1 : (i : Int) < (L.n : Int) := by omega
    go_simp) ?_
  simp only [Act.put, List.setIfInBounds_toArray, List.set_cons_succ, List.set_cons_zero]
  refine wpQuiet_val rfl (.slice (some ⟨L.sp, 0, none⟩) L.n L.n) (fun w' hC => by
    have hc := h3.out.after hC
    have c1 := hc.c1
    have c2 := hc.s0 hi
    have c3 := hc.pg hi hj
    have y1 := (x1.out.goes (.of_below hC)).1
    have y2 := (x2.out.goes (.of_below hC)).1
    have y3 := (x3.out.goes (.of_below hC)).1
    have i1 : (i : Int) < (L.n : Int) := by omega
    go_simp) ?_
  simp only [Act.put, List.setIfInBounds_toArray, List.set_cons_succ, List.set_cons_zero]
  refine wpQuiet_val rfl (.int .i64 ((i : Nat) : Int)) (fun w' hC => by
    have hc := h3.out.after hC
    have c1 := hc.c1
    have c2 := hc.s0 hi
    have c3 := hc.pg hi hj
    have y1 := (x1.out.goes (.of_below hC)).1
    have y2 := (x2.out.goes (.of_below hC)).1
    have y3 := (x3.out.goes (.of_below hC)).1
    have i1 : (i : Int) < (L.n : Int) := by omega
    go_simp) ?_
  simp only [Act.put, List.setIfInBounds_toArray, List.set_cons_succ, List.set_cons_zero]
  refine wpQuiet_val rfl (.pointer (some ⟨L.sp, i * 3, none⟩)) (fun w' hC => by
    have hc := h3.out.after hC
    have c1 := hc.c1
    have c2 := hc.s0 hi
    have c3 := hc.pg hi hj
    have y1 := (x1.out.goes (.of_below hC)).1
    have y2 := (x2.out.goes (.of_below hC)).1
    have y3 := (x3.out.goes (.of_below hC)).1
    have i1 : (i : Int) < (L.n : Int) := by omega
    go_simp) ?_
  simp only [Act.put, List.setIfInBounds_toArray, List.set_cons_succ, List.set_cons_zero]
  refine wpQuiet_val rfl (.pointer (some ⟨L.sp, i * 3, none⟩)) (fun w' hC => by
    have hc := h3.out.after hC
    have c1 := hc.c1
    have c2 := hc.s0 hi
    have c3 := hc.pg hi hj
    have y1 := (x1.out.goes (.of_below hC)).1
    have y2 := (x2.out.goes (.of_below hC)).1
    have y3 := (x3.out.goes (.of_below hC)).1
    have i1 : (i : Int) < (L.n : Int) := by omega
    go_simp) ?_
  simp only [Act.put, List.setIfInBounds_toArray, List.set_cons_succ, List.set_cons_zero]
  refine wpQuiet_val rfl (.agg #[.slice (some ⟨L.tp i, 0, none⟩) L.m L.m]) (fun w' hC => by
    have hc := h3.out.after hC
    have c1 := hc.c1
    have c2 := hc.s0 hi
    have c3 := hc.pg hi hj
    have y1 := (x1.out.goes (.of_below hC)).1
    have y2 := (x2.out.goes (.of_below hC)).1
    have y3 := (x3.out.goes (.of_below hC)).1
    have i1 : (i : Int) < (L.n : Int) := by omega
    go_simp) ?_
  simp only [Act.put, List.setIfInBounds_toArray, List.set_cons_succ, List.set_cons_zero]
  refine wpQuiet_val rfl (.int .i64 ((j : Nat) : Int)) (fun w' hC => by
    have hc := h3.out.after hC
    have c1 := hc.c1
    have c2 := hc.s0 hi
    have c3 := hc.pg hi hj
    have y1 := (x1.out.goes (.of_below hC)).1
    have y2 := (x2.out.goes (.of_below hC)).1
    have y3 := (x3.out.goes (.of_below hC)).1
    have i1 : (i : Int) < (L.n : Int) := by omega
    go_simp) ?_
  simp only [Act.put, List.setIfInBounds_toArray, List.set_cons_succ, List.set_cons_zero]
  (go_big_quiet_want; go_big_quiet_op; apply Exists.intro; refine ⟨fun w' hC => (R.out w' hC).mono fun e w'' h => ⟨h.1, hC.trans (h.2.mono hC.size)⟩, ?_⟩; go_big_quiet_on)
  (go_big_quiet_want; go_big_quiet_op; go_big_quiet_on)
  refine wpQuiet_nil fun w4 hC => ?_
  have h4 := Lib.hid (h3.out.after hC)
  have b4 := b3.trans (hC.mono b3.size)
  replace x1 := Lib.hid (x1.out.goes (.of_below hC))
  replace x2 := Lib.hid (x2.out.goes (.of_below hC))
  replace x3 := Lib.hid (x3.out.goes (.of_below hC))
  replace x4 := Lib.hid (x4.out.goes (.of_below hC))
  clear R h3 b3 hC h2 b2 bd hw3
  have g4 : Goes L hv w hv w4 := .of_below b4
  clear b4
  go_wp2_with fail
  refine wp_region_still_tail 5 (by kernel_rfl) (by kernel_rfl) ?_
  change wpStill _ _ (World.drew _) (fun a' => wpList _ _ _ _ a' (World.drew _)) _ _
  have bd : Below w4.heap.size w4 w4.drew := (Below.refl _ _).drew
  replace h4 := Lib.hid (h4.out.after bd)
  replace g4 := g4.below bd
  replace x1 := Lib.hid (x1.out.goes (.of_below bd))
  replace x2 := Lib.hid (x2.out.goes (.of_below bd))
  replace x3 := Lib.hid (x3.out.goes (.of_below bd))
  replace x4 := Lib.hid (x4.out.goes (.of_below bd))
  clear bd
  generalize w4.drew = w5 at *
  have z1 := x1.out.1
  have A := Lib.hid (actP_part B w5 L S hv h4 (w.heap.size + 3) w.heap.size (w.heap.size + 1) (w.heap.size + 2) i j s x4 x1 x2 x3 hi hj hs'.out lw'.out.hist hu (S.left - 1) rfl lw'.out.lo lw'.out.hi hb'.out lw'.out.progs)
  simp only [List.take_succ_cons, List.take_zero, List.drop_succ_cons, List.drop_zero]
  refine wpStill_of_quiet _ _ ?_
  repeat (first | go_big_quiet_skip | (go_big_quiet_want; go_big_quiet_op; go_big_quiet_on))
  refine wpQuiet_nil ?_
  go_wp2_with fail
  refine A.out.mono ?_
  rintro e w6 ⟨rfl, hv6, h6, g6⟩
  clear A h4 x1 x2 x3 x4 z1
  go_wp2
  go_ret
  exact ⟨rfl, hv6, h6, g4.trans g6⟩

set_option maxHeartbeats 1000000 in
theorem prog_any (B : Nat) (w : World) (L : Lay) (S : St) (hv : Value) (h : Hid (Ch B w L S hv)) (z y : Int) (s : ByteArray) (lw : Low S) :
    Calls Try.prog 12 #[.pointer (some ⟨L.cp, 0, none⟩), .int .i64 z, .int .i64 y, .string s] w fun e w' => e = .returned (.int .i64 (progE L.n L.m S z y s)) ∧ ∃ hv', Hid (Ch B w' L (progS L.n L.m S z y s) hv') ∧ Goes L hv w hv' w' := by
  have up : ∀ {E : Int}, (Calls Try.prog 12 #[.pointer (some ⟨L.cp, 0, none⟩), .int .i64 z, .int .i64 y, .string s] w fun e w' => e = .returned (.int .i64 E) ∧ Below w.heap.size w w') → Calls Try.prog 12 #[.pointer (some ⟨L.cp, 0, none⟩), .int .i64 z, .int .i64 y, .string s] w fun e w' => e = .returned (.int .i64 E) ∧ ∃ hv', Hid (Ch B w' L S hv') ∧ Goes L hv w hv' w' := fun c => c.mono fun e w' ⟨h1, h2⟩ => ⟨h1, hv, h.out.after h2, .of_below h2⟩
  unfold progE progS
  by_cases hu : S.up = false
  · rw [if_pos hu, if_pos hu]
    exact up (prog_off B w L S hv h z y s hu)
  rw [if_neg hu, if_neg hu]
  have hu' : S.up = true := by simpa using hu
  by_cases hin : (inB z L.n && inB y L.m) = false
  · rw [if_pos hin, if_pos hin]
    exact up (prog_arg B w L S hv h z y s hu' hin)
  rw [if_neg hin, if_neg hin]
  have hin' : (inB z L.n && inB y L.m) = true := by simpa using hin
  by_cases hs : 256 < s.size
  · rw [if_pos hs, if_pos hs]
    exact up (prog_long B w L S hv h z y s hu' hin' hs)
  rw [if_neg hs, if_neg hs]
  rw [Bool.and_eq_true] at hin'
  obtain ⟨i, rfl, hi⟩ := inB_get hin'.1
  obtain ⟨j, rfl, hj⟩ := inB_get hin'.2
  rw [show ((i : Nat) : Int).toNat = i from rfl, show ((j : Nat) : Int).toNat = j from rfl]
  by_cases hb : isB (S.page i j) = true
  · rw [if_pos hb, if_pos hb]
    exact up (prog_used B w L S hv h i j s hi hj hu' (by omega) hb)
  rw [if_neg hb, if_neg hb]
  have hb' : isB (S.page i j) = false := by simpa using hb
  by_cases hl : (S.left - 1 != 0) = true
  · rw [if_pos hl, if_pos hl]
    exact prog_whole B w L S hv h i j s hi hj hu' (by omega) hb' lw hl
  · rw [if_neg hl, if_neg hl]
    exact prog_part B w L S hv h i j s hi hj hu' (by omega) hb' lw (by simpa using hl)

end Go.Proofs.Ytogeccmeaacgnaa
