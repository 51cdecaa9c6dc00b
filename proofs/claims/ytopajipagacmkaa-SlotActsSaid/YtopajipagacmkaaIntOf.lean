/-
  The number that a cell holds.
-/
import Derived.Test.YtopajipagacmkaaOpen
namespace Go.Proofs.Ytopajipagacmkaa

def intOfV : Option Value → Int
  | some (.int _ z) => z
  | _ => 0

end Go.Proofs.Ytopajipagacmkaa
