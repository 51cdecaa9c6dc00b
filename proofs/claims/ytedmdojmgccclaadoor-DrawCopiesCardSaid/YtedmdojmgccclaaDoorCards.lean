/-
  DERIVED. GIVEN WITH THE SEED: THE CARDS: each row of YtedmdojmgccclaaDoorRows.lean that lists a variable, with what it lists TIED to the program's text (the seventh form; the later family's looks); each row that meets fmt, with fmt's text TOLD by the authors' own Lean function (tested against real Go, not proved from fmt's source: count such statements apart). THE CARD IS WHAT COUNTS. Prove the row's statement (the work); the ties are given (YtedmdojmgccclaaDoorTie.lean); close each card by the builder's one call (the guide's Derived/Test/ToyasCard.lean, 'card_holds'). Laid BY PROGRAM, IN A SANDBOX (cutbox-door.mjs). By AI agents, Wed Nov 11 2026. No macro, syntax, notation, axiom, sorry.
-/
import Derived.Test.YtedmdojmgccclaaDoorRows
import GoSem.ClaimSeven
namespace Go.Proofs.YtedmdojmgccclaaDoor
namespace Rows

/-- THE TIED CARD OF 'oblivionlaw07.DrawTells'. -/
def drawTellsCard : Claim7 := { stood := { row := drawTellsRow, standIns := [], harness := (true, "bf4f0fd483eedeaf1b27eddb19da18ee114fcb6810ca90840f1ba616f78c62ab"), looks := false }, kinds := [], alts := [], laidByText := true, laidKinds := [.data], laidTests := true, laidLooks := .later }
def DrawTellsCardSaid : Prop := Claim7.holds Tryd.pinned (.plain (OpenSpec.ofChange drawTellsSpec)) drawTellsCard

/-- THE TIED CARD OF 'oblivionlaw07.DrawFrom'. -/
def drawFromCard : Claim7 := { stood := { row := drawFromRow, standIns := [], harness := (true, "bf4f0fd483eedeaf1b27eddb19da18ee114fcb6810ca90840f1ba616f78c62ab"), looks := false }, kinds := [], alts := [], laidByText := true, laidKinds := [.data], laidTests := true, laidLooks := .later }
def DrawFromCardSaid : Prop := Claim7.holds Tryd.pinned (.plain (OpenSpec.ofChange drawFromSpec)) drawFromCard

/-- THE TIED CARD OF 'oblivionlaw07.DrawCopies'. -/
def drawCopiesCard : Claim7 := { stood := { row := drawCopiesRow, standIns := [], harness := (true, "bf4f0fd483eedeaf1b27eddb19da18ee114fcb6810ca90840f1ba616f78c62ab"), looks := false }, kinds := [], alts := [], laidByText := true, laidKinds := [.data], laidTests := true, laidLooks := .later }
def DrawCopiesCardSaid : Prop := Claim7.holds Tryd.pinned (.plain (OpenSpec.ofChange drawCopiesSpec)) drawCopiesCard

/-- THE SECOND FORM's CARD OF 'oblivionlaw07.DrawTells'. -/
def drawTellsUptoCard : Claim7 := { stood := { row := drawTellsUptoRow, standIns := [], harness := (true, "bf4f0fd483eedeaf1b27eddb19da18ee114fcb6810ca90840f1ba616f78c62ab"), looks := false }, kinds := [], alts := [], laidByText := true, laidKinds := [.data], laidTests := true, laidLooks := .later }
def DrawTellsUptoCardSaid : Prop := Claim7.holds Tryd.pinned (.plain (OpenSpec.upto drawTellsSpec)) drawTellsUptoCard

/-- THE SECOND FORM's CARD OF 'oblivionlaw07.DrawFrom'. -/
def drawFromUptoCard : Claim7 := { stood := { row := drawFromUptoRow, standIns := [], harness := (true, "bf4f0fd483eedeaf1b27eddb19da18ee114fcb6810ca90840f1ba616f78c62ab"), looks := false }, kinds := [], alts := [], laidByText := true, laidKinds := [.data], laidTests := true, laidLooks := .later }
def DrawFromUptoCardSaid : Prop := Claim7.holds Tryd.pinned (.plain (OpenSpec.upto drawFromSpec)) drawFromUptoCard

/-- THE SECOND FORM's CARD OF 'oblivionlaw07.DrawCopies'. -/
def drawCopiesUptoCard : Claim7 := { stood := { row := drawCopiesUptoRow, standIns := [], harness := (true, "bf4f0fd483eedeaf1b27eddb19da18ee114fcb6810ca90840f1ba616f78c62ab"), looks := false }, kinds := [], alts := [], laidByText := true, laidKinds := [.data], laidTests := true, laidLooks := .later }
def DrawCopiesUptoCardSaid : Prop := Claim7.holds Tryd.pinned (.plain (OpenSpec.upto drawCopiesSpec)) drawCopiesUptoCard
end Rows
end Go.Proofs.YtedmdojmgccclaaDoor
