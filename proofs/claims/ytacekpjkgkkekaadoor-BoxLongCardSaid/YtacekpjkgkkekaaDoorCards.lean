/-
  DERIVED. GIVEN WITH THE SEED: THE CARDS: each row of YtacekpjkgkkekaaDoorRows.lean that lists a variable, with what it lists TIED to the program's text (the seventh form; the later family's looks); each row that meets fmt, with fmt's text TOLD by the authors' own Lean function (tested against real Go, not proved from fmt's source: count such statements apart). THE CARD IS WHAT COUNTS. Prove the row's statement (the work); the ties are given (YtacekpjkgkkekaaDoorTie.lean); close each card by the builder's one call (the guide's Derived/Test/ToyasCard.lean, 'card_holds'). Laid BY PROGRAM, IN A SANDBOX (cutbox-door.mjs). By AI agents, Wed Nov 11 2026. No macro, syntax, notation, axiom, sorry.
-/
import Derived.Test.YtacekpjkgkkekaaDoorRows
import GoSem.ClaimSeven
namespace Go.Proofs.YtacekpjkgkkekaaDoor
namespace Rows

/-- THE TIED CARD OF 'oblivionlaw06.BoxSeals'. -/
def boxSealsCard : Claim7 := { stood := { row := boxSealsRow, standIns := [], harness := (true, "e221c0d19312477c9ce212882bf44944eda3ddf3a0c8c08c590486ce6d76d0d6"), looks := false }, kinds := [], alts := [], laidByText := true, laidKinds := [.data], laidTests := true, laidLooks := .later }
def BoxSealsCardSaid : Prop := Claim7.holds Tryd.pinned (.plain (OpenSpec.ofChange boxSealsSpec)) boxSealsCard

/-- THE TIED CARD OF 'oblivionlaw06.BoxLong'. -/
def boxLongCard : Claim7 := { stood := { row := boxLongRow, standIns := [], harness := (true, "e221c0d19312477c9ce212882bf44944eda3ddf3a0c8c08c590486ce6d76d0d6"), looks := false }, kinds := [], alts := [], laidByText := true, laidKinds := [.data], laidTests := true, laidLooks := .later }
def BoxLongCardSaid : Prop := Claim7.holds Tryd.pinned (.plain (OpenSpec.ofChange boxLongSpec)) boxLongCard

/-- THE SECOND FORM's CARD OF 'oblivionlaw06.BoxSeals'. -/
def boxSealsUptoCard : Claim7 := { stood := { row := boxSealsUptoRow, standIns := [], harness := (true, "e221c0d19312477c9ce212882bf44944eda3ddf3a0c8c08c590486ce6d76d0d6"), looks := false }, kinds := [], alts := [], laidByText := true, laidKinds := [.data], laidTests := true, laidLooks := .later }
def BoxSealsUptoCardSaid : Prop := Claim7.holds Tryd.pinned (.plain (OpenSpec.upto boxSealsSpec)) boxSealsUptoCard

/-- THE SECOND FORM's CARD OF 'oblivionlaw06.BoxLong'. -/
def boxLongUptoCard : Claim7 := { stood := { row := boxLongUptoRow, standIns := [], harness := (true, "e221c0d19312477c9ce212882bf44944eda3ddf3a0c8c08c590486ce6d76d0d6"), looks := false }, kinds := [], alts := [], laidByText := true, laidKinds := [.data], laidTests := true, laidLooks := .later }
def BoxLongUptoCardSaid : Prop := Claim7.holds Tryd.pinned (.plain (OpenSpec.upto boxLongSpec)) boxLongUptoCard
end Rows
end Go.Proofs.YtacekpjkgkkekaaDoor
