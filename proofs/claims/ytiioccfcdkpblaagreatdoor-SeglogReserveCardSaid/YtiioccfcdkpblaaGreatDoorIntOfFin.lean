/-
  The number that a cell holds.
-/
import Derived.Test.YtiioccfcdkpblaaGreatDoorAll8
namespace Go.Proofs.YtiioccfcdkpblaaGreatDoor

def intOfV : Option Value → Int
  | some (.int _ z) => z
  | _ => 0

end Go.Proofs.YtiioccfcdkpblaaGreatDoor
