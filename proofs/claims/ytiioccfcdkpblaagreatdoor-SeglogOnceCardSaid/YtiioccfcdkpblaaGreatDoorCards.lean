/-
  DERIVED. GIVEN WITH THE SEED: THE CARDS: each row of YtiioccfcdkpblaaGreatDoorRows.lean that lists a variable, with what it lists TIED to the program's text (the seventh form; the later family's looks); each row that meets fmt, with fmt's text TOLD by the authors' own Lean function (tested against real Go, not proved from fmt's source: count such statements apart). THE CARD IS WHAT COUNTS. Prove the row's statement (the work); the ties are given (YtiioccfcdkpblaaGreatDoorTie.lean); close each card by the builder's one call (the guide's Derived/Test/ToyasCard.lean, 'card_holds'). Laid BY PROGRAM, IN A SANDBOX (cutbox-door.mjs). By AI agents, Wed Nov 11 2026. No macro, syntax, notation, axiom, sorry.
-/
import Derived.Test.YtiioccfcdkpblaaGreatDoorRows
import GoSem.ClaimSeven
namespace Go.Proofs.YtiioccfcdkpblaaGreatDoor
namespace Rows

/-- THE TIED CARD OF 'oblivionlaw13.SeglogReads'. -/
def seglogReadsCard : Claim7 := { stood := { row := seglogReadsRow, standIns := [], harness := (true, "6af5cd1c4d569ac26176878c941d46f494b8b32aaae002445de712a1784b293a"), looks := false }, kinds := [], alts := [], laidByText := true, laidKinds := [.data, .data, .pinned], laidTests := true, laidLooks := .later }
def SeglogReadsCardSaid : Prop := Claim7.holds Tryz.pinned (.plain (OpenSpec.ofChange seglogReadsSpec)) seglogReadsCard

/-- THE TIED CARD OF 'oblivionlaw13.SeglogReserve'. -/
def seglogReserveCard : Claim7 := { stood := { row := seglogReserveRow, standIns := [], harness := (true, "6af5cd1c4d569ac26176878c941d46f494b8b32aaae002445de712a1784b293a"), looks := false }, kinds := [], alts := [], laidByText := true, laidKinds := [.data, .data, .pinned], laidTests := true, laidLooks := .later }
def SeglogReserveCardSaid : Prop := Claim7.holds Tryz.pinned (.plain (OpenSpec.ofChange seglogReserveSpec)) seglogReserveCard

/-- THE TIED CARD OF 'oblivionlaw13.SeglogOnce'. -/
def seglogOnceCard : Claim7 := { stood := { row := seglogOnceRow, standIns := [], harness := (true, "6af5cd1c4d569ac26176878c941d46f494b8b32aaae002445de712a1784b293a"), looks := false }, kinds := [], alts := [], laidByText := true, laidKinds := [.data, .data, .pinned], laidTests := true, laidLooks := .later }
def SeglogOnceCardSaid : Prop := Claim7.holds Tryz.pinned (.plain (OpenSpec.ofChange seglogOnceSpec)) seglogOnceCard

/-- THE TIED CARD OF 'oblivionlaw13.SeglogErases'. -/
def seglogErasesCard : Claim7 := { stood := { row := seglogErasesRow, standIns := [], harness := (true, "6af5cd1c4d569ac26176878c941d46f494b8b32aaae002445de712a1784b293a"), looks := false }, kinds := [], alts := [], laidByText := true, laidKinds := [.data, .data, .pinned], laidTests := true, laidLooks := .later }
def SeglogErasesCardSaid : Prop := Claim7.holds Tryz.pinned (.plain (OpenSpec.ofChange seglogErasesSpec)) seglogErasesCard

/-- THE SECOND FORM's CARD OF 'oblivionlaw13.SeglogReads'. -/
def seglogReadsUptoCard : Claim7 := { stood := { row := seglogReadsUptoRow, standIns := [], harness := (true, "6af5cd1c4d569ac26176878c941d46f494b8b32aaae002445de712a1784b293a"), looks := false }, kinds := [], alts := [], laidByText := true, laidKinds := [.data, .data, .pinned], laidTests := true, laidLooks := .later }
def SeglogReadsUptoCardSaid : Prop := Claim7.holds Tryz.pinned (.plain (OpenSpec.upto seglogReadsSpec)) seglogReadsUptoCard

/-- THE SECOND FORM's CARD OF 'oblivionlaw13.SeglogReserve'. -/
def seglogReserveUptoCard : Claim7 := { stood := { row := seglogReserveUptoRow, standIns := [], harness := (true, "6af5cd1c4d569ac26176878c941d46f494b8b32aaae002445de712a1784b293a"), looks := false }, kinds := [], alts := [], laidByText := true, laidKinds := [.data, .data, .pinned], laidTests := true, laidLooks := .later }
def SeglogReserveUptoCardSaid : Prop := Claim7.holds Tryz.pinned (.plain (OpenSpec.upto seglogReserveSpec)) seglogReserveUptoCard

/-- THE SECOND FORM's CARD OF 'oblivionlaw13.SeglogOnce'. -/
def seglogOnceUptoCard : Claim7 := { stood := { row := seglogOnceUptoRow, standIns := [], harness := (true, "6af5cd1c4d569ac26176878c941d46f494b8b32aaae002445de712a1784b293a"), looks := false }, kinds := [], alts := [], laidByText := true, laidKinds := [.data, .data, .pinned], laidTests := true, laidLooks := .later }
def SeglogOnceUptoCardSaid : Prop := Claim7.holds Tryz.pinned (.plain (OpenSpec.upto seglogOnceSpec)) seglogOnceUptoCard

/-- THE SECOND FORM's CARD OF 'oblivionlaw13.SeglogErases'. -/
def seglogErasesUptoCard : Claim7 := { stood := { row := seglogErasesUptoRow, standIns := [], harness := (true, "6af5cd1c4d569ac26176878c941d46f494b8b32aaae002445de712a1784b293a"), looks := false }, kinds := [], alts := [], laidByText := true, laidKinds := [.data, .data, .pinned], laidTests := true, laidLooks := .later }
def SeglogErasesUptoCardSaid : Prop := Claim7.holds Tryz.pinned (.plain (OpenSpec.upto seglogErasesSpec)) seglogErasesUptoCard
end Rows
end Go.Proofs.YtiioccfcdkpblaaGreatDoor
