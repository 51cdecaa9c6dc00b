/-
  A sum is bytes.
-/
import Derived.Test.YtcglbbkphgdnmaaDoorShaFold
namespace Go.Proofs.YtcglbbkphgdnmaaDoor

theorem sumN_bytes (T : List UInt8) : Bytes (sumN T) := fun j => hashN_bytes _ j

end Go.Proofs.YtcglbbkphgdnmaaDoor
