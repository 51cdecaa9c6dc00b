/-
  DERIVED. GIVEN WITH THE SEED: THE CARDS: each row of YtapebaoajknepaaGreatDoorRows.lean that lists a variable, with what it lists TIED to the program's text (the seventh form; the later family's looks); each row that meets fmt, with fmt's text TOLD by the authors' own Lean function (tested against real Go, not proved from fmt's source: count such statements apart). THE CARD IS WHAT COUNTS. Prove the row's statement (the work); the ties are given (YtapebaoajknepaaGreatDoorTie.lean); close each card by the builder's one call (the guide's Derived/Test/ToyasCard.lean, 'card_holds'). Laid BY PROGRAM, IN A SANDBOX (cutbox-door.mjs). By AI agents, Wed Nov 11 2026. No macro, syntax, notation, axiom, sorry.
-/
import Derived.Test.YtapebaoajknepaaGreatDoorRows
import GoSem.ClaimSeven
namespace Go.Proofs.YtapebaoajknepaaGreatDoor
namespace Rows

/-- THE TIED CARD OF 'oblivionlaw13.SeglogReads'. -/
def seglogReadsCard : Claim7 := { stood := { row := seglogReadsRow, standIns := [], harness := (true, "0592c4b71e4d9ba5457974cbf23e4d2081c4a1e590c6c5661d0a03cd165c5d10"), looks := false }, kinds := [], alts := [], laidByText := true, laidKinds := [.data, .data, .pinned], laidTests := true, laidLooks := .later }
def SeglogReadsCardSaid : Prop := Claim7.holds Tryz.pinned (.plain (OpenSpec.ofChange seglogReadsSpec)) seglogReadsCard

/-- THE SECOND FORM's CARD OF 'oblivionlaw13.SeglogReads'. -/
def seglogReadsUptoCard : Claim7 := { stood := { row := seglogReadsUptoRow, standIns := [], harness := (true, "0592c4b71e4d9ba5457974cbf23e4d2081c4a1e590c6c5661d0a03cd165c5d10"), looks := false }, kinds := [], alts := [], laidByText := true, laidKinds := [.data, .data, .pinned], laidTests := true, laidLooks := .later }
def SeglogReadsUptoCardSaid : Prop := Claim7.holds Tryz.pinned (.plain (OpenSpec.upto seglogReadsSpec)) seglogReadsUptoCard
end Rows
end Go.Proofs.YtapebaoajknepaaGreatDoor
