/-
  Contracts: the power.
-/
import Derived.Test.YtopajipagacmkaaNandState
import Derived.Test.YtopajipagacmkaaAtomicStore
import Derived.Test.YtopajipagacmkaaMinMax
import Derived.BigQuiet
namespace Go.Proofs.Ytopajipagacmkaa
open Go.RowKit
set_option linter.unusedVariables false

section
variable {p : Nat} {w : World} {up : Bool} {left keep : Int} {junk : Nat}
theorem pw_0 (h : RowAt w p 69 (pw up left keep junk)) : w.cell? ⟨p, 0, none⟩ = some (.bool up) := by rw [cell_of_row w p 0 _ _ _ h]; rfl
theorem pw_1 (h : RowAt w p 69 (pw up left keep junk)) : w.cell? ⟨p, 1, none⟩ = some (.int .i64 left) := by rw [cell_of_row w p 1 _ _ _ h]; rfl
theorem pw_2 (h : RowAt w p 69 (pw up left keep junk)) : w.cell? ⟨p, 2, none⟩ = some (.int .i64 keep) := by rw [cell_of_row w p 2 _ _ _ h]; rfl
theorem pw_3 (h : RowAt w p 69 (pw up left keep junk)) : w.cell? ⟨p, 3, none⟩ = some (.int .u8 (junk : Nat)) := by rw [cell_of_row w p 3 _ _ _ h]; rfl
theorem pw_set0 (h : RowAt w p 69 (pw up left keep junk)) (b : Bool) : RowAt (w.setCell ⟨p, 0, none⟩ (.bool b)) p 69 (pw b left keep junk) := h.set 0 _
theorem pw_set1 (h : RowAt w p 69 (pw up left keep junk)) (x : Int) : RowAt (w.setCell ⟨p, 1, none⟩ (.int .i64 x)) p 69 (pw up x keep junk) := h.set 1 _
theorem pw_set2 (h : RowAt w p 69 (pw up left keep junk)) (x : Int) : RowAt (w.setCell ⟨p, 2, none⟩ (.int .i64 x)) p 69 (pw up left x junk) := h.set 2 _
theorem pw_set3 (h : RowAt w p 69 (pw up left keep junk)) (x : Nat) : RowAt (w.setCell ⟨p, 3, none⟩ (.int .u8 (x : Nat))) p 69 (pw up left keep x) := h.set 3 _
end

set_option maxRecDepth 8000 in
theorem newPower_any (w : World) : Calls Try.prog 9 #[] w fun e w' => e = .returned (.pointer (some ⟨w.heap.size, 0, none⟩)) ∧ Hid (RowAt w' w.heap.size 69 (pw true 0 0 0)) ∧ Below w.heap.size w w' := by
  have r := Lib.hid (RowAt.new w 69 (pw true 0 0 0))
  have b : Below w.heap.size w (w.alloc (.cells (pw true 0 0 0) 69)) := (Below.refl _ _).alloc (Nat.le_refl _) _
  go_enter Try.func9, Try.ntmps9
  go_wp2
  go_ret
  exact ⟨rfl, r, b⟩

set_option maxRecDepth 8000 in
theorem powUp_any (p : Nat) (up : Bool) (left keep : Int) (junk : Nat) (w : World) (h : Hid (RowAt w p 69 (pw up left keep junk))) :
    Calls Try.prog 21 #[.pointer (some ⟨p, 0, none⟩)] w fun e w' => e = .returned (.bool up) ∧ w' = w := by
  have c0 := pw_0 h.out
  go_enter Try.func21, Try.ntmps21
  go_wp2
  go_ret
  exact ⟨rfl, rfl⟩

set_option maxRecDepth 8000 in
theorem powKept_any (p : Nat) (up : Bool) (left keep : Int) (junk : Nat) (w : World) (h : Hid (RowAt w p 69 (pw up left keep junk))) :
    Calls Try.prog 34 #[.pointer (some ⟨p, 0, none⟩)] w fun e w' => e = .returned (.tuple #[.int .i64 keep, .int .u8 (junk : Nat)]) ∧ Below w.heap.size w w' := by
  have c2 := pw_2 h.out
  have c3 := pw_3 h.out
  go_enter Try.func34, Try.ntmps34
  go_wp2_with fail
  go_quiet (fail)
  go_wp2_with fail
  go_ret2
  exact ⟨rfl, ⟨rfl, rfl, rfl, Nat.le_refl _, fun _ _ => rfl⟩⟩

set_option maxRecDepth 8000 in
theorem powCut_any (p : Nat) (up : Bool) (left keep : Int) (junk : Nat) (w : World) (h : Hid (RowAt w p 69 (pw up left keep junk))) :
    Calls Try.prog 17 #[.pointer (some ⟨p, 0, none⟩)] w fun e w' => e = .returned (.tuple #[]) ∧ Hid (RowAt w' p 69 (pw false left keep junk)) ∧ Apart p w w' := by
  have c0 := pw_0 h.out
  have z0 := h.out.free 0
  have r1 := Lib.hid (pw_set0 h.out false)
  have a1 : Apart p w (w.setCell ⟨p, 0, none⟩ (.bool false)) := (Apart.refl p w).setCell h.out _
  go_enter Try.func17, Try.ntmps17
  go_wp2
  go_end0
  exact ⟨rfl, r1, a1⟩

set_option maxRecDepth 8000 in
theorem powOn_any (p : Nat) (up : Bool) (left keep : Int) (junk : Nat) (w : World) (h : Hid (RowAt w p 69 (pw up left keep junk))) :
    Calls Try.prog 18 #[.pointer (some ⟨p, 0, none⟩)] w fun e w' => e = .returned (.tuple #[]) ∧ Hid (RowAt w' p 69 (pw true 0 keep junk)) ∧ Apart p w w' := by
  have c0 := pw_0 h.out
  have z0 := h.out.free 0
  have r1 := Lib.hid (pw_set0 h.out true)
  have a1 : Apart p w (w.setCell ⟨p, 0, none⟩ (.bool true)) := (Apart.refl p w).setCell h.out _
  have S1 := Lib.hid (told_store ⟨p, 1, none⟩ left 0 _ (pw_1 r1.out) (r1.out.free 1))
  have r2 := Lib.hid (pw_set1 r1.out 0)
  have a2 : Apart p w ((w.setCell ⟨p, 0, none⟩ (.bool true)).setCell ⟨p, 1, none⟩ (.int .i64 0)) := a1.setCell r1.out _
  go_enter Try.func18, Try.ntmps18
  go_wp2_with fail
  refine S1.out.mono ?_
  rintro e w1 ⟨rfl, rfl⟩
  go_wp2
  go_end0
  exact ⟨rfl, r2, a2⟩

set_option maxRecDepth 8000 in
theorem powFuse_any (p : Nat) (up : Bool) (left keep : Int) (junk : Nat) (w : World) (h : Hid (RowAt w p 69 (pw up left keep junk))) (n k N K : Int) (hN : (n < 0 ∧ N = 0) ∨ (0 ≤ n ∧ N = n)) (hK : (k < 0 ∧ K = 0) ∨ (0 ≤ k ∧ K = k)) (j : Nat) :
    Calls Try.prog 15 #[.pointer (some ⟨p, 0, none⟩), .int .i64 n, .int .i64 k, .int .u8 (j : Nat)] w fun e w' => e = .returned (.tuple #[]) ∧ Hid (RowAt w' p 69 (pw up N K j)) ∧ Apart p w w' := by
  have S1 := Lib.hid (told_store ⟨p, 1, none⟩ left N _ (pw_1 h.out) (h.out.free 1))
  have r1 := Lib.hid (pw_set1 h.out N)
  have a1 : Apart p w (w.setCell ⟨p, 1, none⟩ (.int .i64 N)) := (Apart.refl p w).setCell h.out _
  have hN' := Lib.hid hN
  have hK' := Lib.hid hK
  clear hN hK
  go_enter Try.func15, Try.ntmps15
  go_wp2_with (refine wpList_max2 rfl _ _ rfl rfl n 0 N rfl rfl hN'.out ?_)
  refine S1.out.mono ?_
  rintro e w1 ⟨rfl, rfl⟩
  clear S1
  generalize w.setCell ⟨p, 1, none⟩ (.int .i64 N) = w1 at *
  have c2 := pw_2 r1.out
  have z2 := r1.out.free 2
  have r2 := Lib.hid (pw_set2 r1.out K)
  have a2 : Apart p w (w1.setCell ⟨p, 2, none⟩ (.int .i64 K)) := a1.setCell r1.out _
  have c3 := pw_3 r2.out
  have z3 := r2.out.free 3
  have r3 := Lib.hid (pw_set3 r2.out j)
  have a3 : Apart p w ((w1.setCell ⟨p, 2, none⟩ (.int .i64 K)).setCell ⟨p, 3, none⟩ (.int .u8 (j : Nat))) := a2.setCell r2.out _
  go_wp2_with (refine wpList_max2 rfl _ _ rfl rfl k 0 K rfl rfl hK'.out ?_)
  go_end0
  exact ⟨rfl, r3, a3⟩

set_option maxRecDepth 8000 in
theorem powAct_no (p : Nat) (left keep : Int) (junk : Nat) (w : World) (h : Hid (RowAt w p 69 (pw false left keep junk))) :
    Calls Try.prog 33 #[.pointer (some ⟨p, 0, none⟩)] w fun e w' => e = .returned (.tuple #[.bool false, .bool false]) ∧ w' = w := by
  have c0 := pw_0 h.out
  go_enter Try.func33, Try.ntmps33
  go_wp2
  go_ret2
  exact ⟨rfl, rfl⟩

theorem wrap_minus (x : Int) (h1 : -1000000 < x) (h2 : x < 9223372036854775808) : IntKind.i64.wrap (x + -1) = x - 1 := by
  simp [IntKind.wrap, IntKind.bits, IntKind.signed]
  omega

set_option maxRecDepth 8000 in
theorem powAct_yes (p : Nat) (left keep : Int) (junk : Nat) (w : World) (h : Hid (RowAt w p 69 (pw true left keep junk))) (h1 : -1000000 < left) (h2 : left < 9223372036854775808) (l1 : Int) (hl : Hid (l1 = left - 1)) (b : Bool) (hb : (l1 != 0) = b) :
    Calls Try.prog 33 #[.pointer (some ⟨p, 0, none⟩)] w fun e w' => e = .returned (.tuple #[.bool true, .bool b]) ∧ Hid (RowAt w' p 69 (pw b l1 keep junk)) ∧ Apart p w w' := by
  have c0 := pw_0 h.out
  have A1 := Lib.hid (told_add ⟨p, 1, none⟩ left (-1) l1 w (pw_1 h.out) (h.out.free 1) (by rw [hl.out]; exact wrap_minus left h1 h2))
  have r1 := Lib.hid (pw_set1 h.out l1)
  have a1 : Apart p w (w.setCell ⟨p, 1, none⟩ (.int .i64 l1)) := (Apart.refl p w).setCell h.out _
  go_enter Try.func33, Try.ntmps33
  go_wp2_with fail
  refine A1.out.mono ?_
  rintro e w1 ⟨rfl, rfl⟩
  clear A1 c0
  generalize w.setCell ⟨p, 1, none⟩ (.int .i64 l1) = w1 at *
  have c0 := pw_0 r1.out
  have z0 := r1.out.free 0
  have r2 := Lib.hid (pw_set0 r1.out b)
  have a2 : Apart p w (w1.setCell ⟨p, 0, none⟩ (.bool b)) := a1.setCell r1.out _
  have c1 := pw_0 r2.out
  clear h h1 h2
  go_wp2_with fail
  go_quiet (fail)
  go_wp2_with fail
  go_ret2
  exact ⟨rfl, r2.out.drewN _, a2.trans (.of_below ⟨rfl, rfl, rfl, Nat.le_refl _, fun _ _ => rfl⟩)⟩

end Go.Proofs.Ytopajipagacmkaa
