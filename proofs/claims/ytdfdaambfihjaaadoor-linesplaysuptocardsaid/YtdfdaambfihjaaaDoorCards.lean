/-
  DERIVED. GIVEN WITH THE SEED: THE CARDS: each row of YtdfdaambfihjaaaDoorRows.lean that lists a variable, with what it lists TIED to the program's text (the seventh form; the later family's looks); each row that meets fmt, with fmt's text TOLD by the authors' own Lean function (tested against real Go, not proved from fmt's source: count such statements apart). THE CARD IS WHAT COUNTS. Prove the row's statement (the work); the ties are given (YtdfdaambfihjaaaDoorTie.lean); close each card by the builder's one call (the guide's Derived/Test/ToyasCard.lean, 'card_holds'). Laid BY PROGRAM, IN A SANDBOX (cutbox-door.mjs). By AI agents, Wed Nov 11 2026. No macro, syntax, notation, axiom, sorry.
-/
import Derived.Test.YtdfdaambfihjaaaDoorRows
import GoSem.ClaimSeven
namespace Go.Proofs.YtdfdaambfihjaaaDoor
namespace Rows

/-- THE TIED CARD OF 'lanternlaw11.LinesPlays'. -/
def linesPlaysCard : Claim7 := { stood := { row := linesPlaysRow, standIns := [], harness := (true, "36eaa6cef0d47a3a63543bdbe07b4f69129b78c31310326d7b04aee8c8c1837f"), looks := false }, kinds := [], alts := [], laidByText := true, laidKinds := [.data], laidTests := true, laidLooks := .later }
def LinesPlaysCardSaid : Prop := Claim7.holds Tryd.pinned (.plain (OpenSpec.ofChange linesPlaysSpec)) linesPlaysCard

/-- THE TIED CARD OF 'lanternlaw11.LinesOrder'. -/
def linesOrderCard : Claim7 := { stood := { row := linesOrderRow, standIns := [], harness := (true, "36eaa6cef0d47a3a63543bdbe07b4f69129b78c31310326d7b04aee8c8c1837f"), looks := false }, kinds := [], alts := [], laidByText := true, laidKinds := [.data], laidTests := true, laidLooks := .later }
def LinesOrderCardSaid : Prop := Claim7.holds Tryd.pinned (.plain (OpenSpec.ofChange linesOrderSpec)) linesOrderCard

/-- THE SECOND FORM's CARD OF 'lanternlaw11.LinesPlays'. -/
def linesPlaysUptoCard : Claim7 := { stood := { row := linesPlaysUptoRow, standIns := [], harness := (true, "36eaa6cef0d47a3a63543bdbe07b4f69129b78c31310326d7b04aee8c8c1837f"), looks := false }, kinds := [], alts := [], laidByText := true, laidKinds := [.data], laidTests := true, laidLooks := .later }
def LinesPlaysUptoCardSaid : Prop := Claim7.holds Tryd.pinned (.plain (OpenSpec.upto linesPlaysSpec)) linesPlaysUptoCard

/-- THE SECOND FORM's CARD OF 'lanternlaw11.LinesOrder'. -/
def linesOrderUptoCard : Claim7 := { stood := { row := linesOrderUptoRow, standIns := [], harness := (true, "36eaa6cef0d47a3a63543bdbe07b4f69129b78c31310326d7b04aee8c8c1837f"), looks := false }, kinds := [], alts := [], laidByText := true, laidKinds := [.data], laidTests := true, laidLooks := .later }
def LinesOrderUptoCardSaid : Prop := Claim7.holds Tryd.pinned (.plain (OpenSpec.upto linesOrderSpec)) linesOrderUptoCard
end Rows
end Go.Proofs.YtdfdaambfihjaaaDoor
