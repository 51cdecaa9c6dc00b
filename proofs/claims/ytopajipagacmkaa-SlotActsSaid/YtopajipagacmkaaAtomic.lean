/-
  Contracts: atomic numbers.
-/
import Derived.Test.YtopajipagacmkaaShaKit
import Derived.Laws.LoneSync
namespace Go.Proofs.Ytopajipagacmkaa
open Go.RowKit

set_option maxRecDepth 8000 in
/-- Add, of a number x. -/
theorem told_add (a : Addr) (x d s : Int) (w : World) (hc : w.cell? a = some (.int .i64 x)) (hz : w.frozen? a = false) (hs : IntKind.i64.wrap (x + d) = s) :
    Calls Try.prog 37 #[.pointer (some a), .int .i64 d] w fun e w' => e = .returned (.int .i64 s) ∧ w' = w.setCell a (.int .i64 s) := by
  have hadd := run_call_add (P := Try.prog) Try.func38 (by kernel_rfl) (by kernel_rfl) (by kernel_rfl) .i64 (by kernel_rfl) (y := d) (s := s) hc hz (by simp [go_sem]; exact hs)
  go_enter Try.func37, Try.ntmps37
  go_wp2
  go_ret
  exact ⟨rfl, rfl⟩

end Go.Proofs.Ytopajipagacmkaa
