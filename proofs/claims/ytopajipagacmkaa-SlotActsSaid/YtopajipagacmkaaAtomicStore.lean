/-
  Contract: an atomic number stored.
-/
import Derived.Test.YtopajipagacmkaaAtomic
namespace Go.Proofs.Ytopajipagacmkaa
open Go.RowKit

set_option maxRecDepth 8000 in
/-- Store. -/
theorem told_store (a : Addr) (x y : Int) (w : World) (hc : w.cell? a = some (.int .i64 x)) (hz : w.frozen? a = false) :
    Calls Try.prog 32 #[.pointer (some a), .int .i64 y] w fun e w' => e = .returned (.tuple #[]) ∧ w' = w.setCell a (.int .i64 y) := by
  have hst := run_call_store (P := Try.prog) Try.func36 (by kernel_rfl) (by kernel_rfl) (by kernel_rfl) (by kernel_rfl) (k := .i64) (y := y) hc hz
  go_enter Try.func32, Try.ntmps32
  go_wp2
  go_end0
  exact ⟨rfl, rfl⟩

end Go.Proofs.Ytopajipagacmkaa
