/-
  The number that a cell holds.
-/
import Derived.Test.YtogeccmeaacgnaaOpen
namespace Go.Proofs.Ytogeccmeaacgnaa

def intOfV : Option Value → Int
  | some (.int _ z) => z
  | _ => 0

end Go.Proofs.Ytogeccmeaacgnaa
