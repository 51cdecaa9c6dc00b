/-
  Contract: Same.
-/
import Derived.Test.YtcglbbkphgdnmaaDoorShaKit
namespace Go.Proofs.YtcglbbkphgdnmaaDoor
open Go.RowKit

/-- Are two texts the same? As the walk tells it. -/
theorem same_any (a b : ByteArray) (w : World) :
    Calls Tryd.prog 40 #[.string a, .string b] w fun e w' => e = .returned (.bool (a.toList == b.toList)) ∧ w' = w := by
  go_enter Tryd.func40, Tryd.ntmps40
  go_wp2
  go_ret
  exact ⟨rfl, rfl⟩

end Go.Proofs.YtcglbbkphgdnmaaDoor
