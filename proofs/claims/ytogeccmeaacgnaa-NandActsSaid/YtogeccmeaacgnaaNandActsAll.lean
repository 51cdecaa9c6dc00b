/-
  The law NandActs: every input.
-/
import Derived.Test.YtogeccmeaacgnaaNandActs
import Derived.Test.YtogeccmeaacgnaaOpenZ
namespace Go.Proofs.Ytogeccmeaacgnaa
open Go.RowKit
set_option linter.unusedVariables false

theorem walk_NandActs (n : Int) (h0 : (Lit.int .i64 n).wf = true) (m : Int) (h1 : (Lit.int .i64 m).wf = true) (r : Int) (h2 : (Lit.int .i64 r).wf = true)
    (a : Option Addr) (nb cb : Nat) (f : Nat → Int) (al : Option Addr) (nl cl : Nat) (X : Acts) (w : World) (hf : CameZ w a nb cb f) (ha : CameA w al nl cl X) :
    Calls Try.prog 3 #[.int .i64 n, .int .i64 m, .int .i64 r, .slice a nb cb, .slice al nl cl] w fun e w' => e = .returned (.bool true) ∧ Below w.heap.size w w' := by
  by_cases c1 : (120 : Int) < (nl : Int)
  · exact acts_long1 n m r a nb cb al nl cl w c1
  by_cases c2 : (70 : Int) < (nb : Int)
  · exact acts_long2 n m r a nb cb al nl cl w c1 c2
  by_cases c3 : newB n m r = true
  · have c4 := c3
    unfold newB at c4
    rw [Bool.and_eq_true, Bool.and_eq_true, decide_eq_true_eq] at c4
    obtain ⟨⟨i1, i2⟩, i3⟩ := c4
    obtain ⟨n', rfl, n1, n2⟩ := inW_get i1
    obtain ⟨m', rfl, m1, m2⟩ := inW_get i2
    exact acts_yes n' m' r a nb cb f al nl cl X w (Lib.hid hf.1) (Lib.hid ha.1) ha.2 (by omega) (by omega) n1 n2 m1 m2 i3
  · exact acts_no n m r a nb cb al nl cl w c1 c2 (by simpa using c3)

end Go.Proofs.Ytogeccmeaacgnaa
