/-
  Contract: an atomic number stored.
-/
import Derived.Test.YtogeccmeaacgnaaAtomic
namespace Go.Proofs.Ytogeccmeaacgnaa
open Go.RowKit

set_option maxRecDepth 8000 in
/-- Store. -/
theorem told_store (a : Addr) (x y : Int) (w : World) (hc : w.cell? a = some (.int .i64 x)) (hz : w.frozen? a = false) :
    Calls Try.prog 43 #[.pointer (some a), .int .i64 y] w fun e w' => e = .returned (.tuple #[]) ∧ w' = w.setCell a (.int .i64 y) := by
  have hst := run_call_store (P := Try.prog) Try.func48 (by kernel_rfl) (by kernel_rfl) (by kernel_rfl) (by kernel_rfl) (k := .i64) (y := y) hc hz
  go_enter Try.func43, Try.ntmps43
  go_wp2
  go_end0
  exact ⟨rfl, rfl⟩

end Go.Proofs.Ytogeccmeaacgnaa
