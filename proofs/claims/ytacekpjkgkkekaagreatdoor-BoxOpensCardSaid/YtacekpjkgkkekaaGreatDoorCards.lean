/-
  DERIVED. GIVEN WITH THE SEED: THE CARDS: each row of YtacekpjkgkkekaaGreatDoorRows.lean that lists a variable, with what it lists TIED to the program's text (the seventh form; the later family's looks); each row that meets fmt, with fmt's text TOLD by the authors' own Lean function (tested against real Go, not proved from fmt's source: count such statements apart). THE CARD IS WHAT COUNTS. Prove the row's statement (the work); the ties are given (YtacekpjkgkkekaaGreatDoorTie.lean); close each card by the builder's one call (the guide's Derived/Test/ToyasCard.lean, 'card_holds'). Laid BY PROGRAM, IN A SANDBOX (cutbox-door.mjs). By AI agents, Wed Nov 11 2026. No macro, syntax, notation, axiom, sorry.
-/
import Derived.Test.YtacekpjkgkkekaaGreatDoorRows
import GoSem.ClaimSeven
namespace Go.Proofs.YtacekpjkgkkekaaGreatDoor
namespace Rows

/-- THE TIED CARD OF 'oblivionlaw06.BoxOpens'. -/
def boxOpensCard : Claim7 := { stood := { row := boxOpensRow, standIns := [], harness := (true, "5345a1318e6f7d684f28448e72e02e5bf338a768740b3dc4d7bf66281d095363"), looks := false }, kinds := [], alts := [], laidByText := true, laidKinds := [.data], laidTests := true, laidLooks := .later }
def BoxOpensCardSaid : Prop := Claim7.holds Tryz.pinned (.plain (OpenSpec.ofChange boxOpensSpec)) boxOpensCard

/-- THE SECOND FORM's CARD OF 'oblivionlaw06.BoxOpens'. -/
def boxOpensUptoCard : Claim7 := { stood := { row := boxOpensUptoRow, standIns := [], harness := (true, "5345a1318e6f7d684f28448e72e02e5bf338a768740b3dc4d7bf66281d095363"), looks := false }, kinds := [], alts := [], laidByText := true, laidKinds := [.data], laidTests := true, laidLooks := .later }
def BoxOpensUptoCardSaid : Prop := Claim7.holds Tryz.pinned (.plain (OpenSpec.upto boxOpensSpec)) boxOpensUptoCard
end Rows
end Go.Proofs.YtacekpjkgkkekaaGreatDoor
