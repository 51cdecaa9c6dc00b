/-
  Slices of numbers that may be below zero.
-/
import Derived.Test.YtogeccmeaacgnaaSeesV
namespace Go.Proofs.Ytogeccmeaacgnaa
open Go.RowKit
set_option linter.unusedVariables false

def intV (f : Nat → Int) : Nat → Value := fun j => .int .i64 (f j)
abbrev SeesZ (w : World) (a : Option Addr) (n : Nat) (f : Nat → Int) : Prop := SeesV w a n (intV f)

theorem at_intsV {w0 : World} {ad : Option Addr} {n c i : Nat} {F : Nat → Value} (h : SeesV w0 ad n F) (hi : i < n) {o : Oper} {a : Act} {x y : Operand} (ho : o.op = .indexAddr 22 x y) (hx : a.eval x = .slice ad n c) {z : Int} (hy : a.eval y = .int .i64 z) (hz : z = (i : Int)) (w : World) :
    (execOp a.eval o).run Try.prog w = .ok (.value (.pointer (some (elV ad i)))) w := by
  have := run_index_v Try.underlying22 el_ints sz_int (k := 1) (n := n) (by rw [Nat.mul_one]; exact h) (by decide) hi ho hx hy hz w
  rwa [Nat.mul_one] at this

end Go.Proofs.Ytogeccmeaacgnaa
