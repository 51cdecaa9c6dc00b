/-
  Walks: AesBytes, AesBoxes.
-/
import Derived.Test.YtelalcgmecianaaAesShown
import Derived.Test.YtelalcgmecianaaOpen
namespace Go.Proofs.Ytelalcgmecianaa
open Go.RowKit

set_option maxHeartbeats 1000000 in
set_option maxRecDepth 8000 in
theorem walk_AesBytes (a : Int) (wa : (Lit.int .u8 a).wf = true) (b : Int) (wb : (Lit.int .u8 b).wf = true) (w : World) :
    Calls Try.prog 5 #[.int .u8 a, .int .u8 b] w fun e w' => e = .returned (.bool true) ∧ Below w.heap.size w w' := by
  have ha := wf_u8 wa
  have hb := wf_u8 wb
  obtain ⟨a, rfl⟩ := Int.eq_ofNat_of_zero_le ha.1
  obtain ⟨b, rfl⟩ := Int.eq_ofNat_of_zero_le hb.1
  have ha : a < 256 := by omega
  have hb : b < 256 := by omega
  have T1 := Lib.hid (times_any a b ha hb)
  have T2 := Lib.hid (refTimes_any a b ha hb)
  have T3 := Lib.hid (box_any a ha)
  have T4 := Lib.hid (refBox_any a ha)
  clear wa wb
  generalize timesN a b = x at *
  generalize boxN a = y at *
  go_enter Try.func5, Try.ntmps5
  go_wp2_with fail
  refine (T1.out _).mono ?_
  rintro e w1 ⟨rfl, rfl⟩
  go_wp2_with fail
  refine (T2.out _).mono ?_
  rintro e w1 ⟨rfl, rfl⟩
  go_wp2_with fail
  refine (T3.out _).mono ?_
  rintro e w1 ⟨rfl, rfl⟩
  go_wp2_with fail
  refine (T4.out _).mono ?_
  rintro e w1 ⟨rfl, rfl⟩
  go_wp2_with fail
  refine (shown_any _).mono ?_
  rintro e w1 ⟨rfl, hb1⟩
  go_wp2
  go_ret
  exact ⟨rfl, hb1⟩

set_option maxHeartbeats 1000000 in
set_option maxRecDepth 8000 in
theorem walk_AesBoxes (a : Int) (wa : (Lit.int .u8 a).wf = true) (b : Int) (wb : (Lit.int .u8 b).wf = true) (w : World) :
    Calls Try.prog 8 #[.int .u8 a, .int .u8 b] w fun e w' => e = .returned (.bool true) ∧ Below w.heap.size w w' := by
  have ha := wf_u8 wa
  have hb := wf_u8 wb
  obtain ⟨a, rfl⟩ := Int.eq_ofNat_of_zero_le ha.1
  obtain ⟨b, rfl⟩ := Int.eq_ofNat_of_zero_le hb.1
  have ha : a < 256 := by omega
  have hb : b < 256 := by omega
  have T1 := Lib.hid (box_any a ha)
  have T2 := Lib.hid (box_any b hb)
  have n1 := (box_facts ha).2.2.2.2.2
  have hi := box_inj ha hb
  clear wa wb
  have d2 : ((boxN a : Int) != (a : Int)) = true := by simp; omega
  have d1 : Hid (∃ c : Bool, ((boxN a : Int) == (boxN b : Int)) = c ∧ ((a : Int) == (b : Int)) = c) := by
    by_cases h : a = b
    · subst h; exact ⟨true, by simp, by simp⟩
    · have : boxN a ≠ boxN b := fun e => h (hi.1 e)
      exact ⟨false, by simp; omega, by simp; omega⟩
  clear n1 hi
  generalize boxN a = x at *
  generalize boxN b = y at *
  obtain ⟨c, e1, e2⟩ := d1.out
  clear d1
  go_enter Try.func8, Try.ntmps8
  go_wp2_with fail
  refine (T1.out _).mono ?_
  rintro e w1 ⟨rfl, rfl⟩
  go_wp2_with fail
  refine (T2.out _).mono ?_
  rintro e w1 ⟨rfl, rfl⟩
  go_wp2_with fail
  refine (T1.out _).mono ?_
  rintro e w1 ⟨rfl, rfl⟩
  go_wp2_with fail
  refine (shown_any _).mono ?_
  rintro e w1 ⟨rfl, hb1⟩
  go_wp2
  go_ret
  exact ⟨rfl, hb1⟩

end Go.Proofs.Ytelalcgmecianaa
