/-
  DERIVED. GIVEN WITH THE SEED: THE CARDS: each row of YtkkmoplijicmpaeDoorRows.lean that lists a variable, with what it lists TIED to the program's text (the seventh form; the later family's looks); each row that meets fmt, with fmt's text TOLD by the authors' own Lean function (tested against real Go, not proved from fmt's source: count such statements apart). THE CARD IS WHAT COUNTS. Prove the row's statement (the work); the ties are given (YtkkmoplijicmpaeDoorTie.lean); close each card by the builder's one call (the guide's Derived/Test/ToyasCard.lean, 'card_holds'). Laid BY PROGRAM, IN A SANDBOX (cutbox-door.mjs). By AI agents, Wed Nov 11 2026. No macro, syntax, notation, axiom, sorry.
-/
import Derived.Test.YtkkmoplijicmpaeDoorRows
import GoSem.ClaimSeven
namespace Go.Proofs.YtkkmoplijicmpaeDoor
namespace Rows

/-- THE TIED CARD OF 'lanternlaw04.BlocksMend'. -/
def blocksMendCard : Claim7 := { stood := { row := blocksMendRow, standIns := [], harness := (true, "793a394194b4d4add6e8ced36b2f9c2a956608e6eab9a96c3a0b867d8ae53b67"), looks := false }, kinds := [], alts := [], laidByText := true, laidKinds := [.data], laidTests := true, laidLooks := .later }
def BlocksMendCardSaid : Prop := Claim7.holds Tryd.pinned (.plain (OpenSpec.ofChange blocksMendSpec)) blocksMendCard

/-- THE TIED CARD OF 'lanternlaw04.BlocksBack'. -/
def blocksBackCard : Claim7 := { stood := { row := blocksBackRow, standIns := [], harness := (true, "793a394194b4d4add6e8ced36b2f9c2a956608e6eab9a96c3a0b867d8ae53b67"), looks := false }, kinds := [], alts := [], laidByText := true, laidKinds := [.data], laidTests := true, laidLooks := .later }
def BlocksBackCardSaid : Prop := Claim7.holds Tryd.pinned (.plain (OpenSpec.ofChange blocksBackSpec)) blocksBackCard

/-- THE TIED CARD OF 'lanternlaw05.ReportMakes'. -/
def reportMakesCard : Claim7 := { stood := { row := reportMakesRow, standIns := [], harness := (true, "793a394194b4d4add6e8ced36b2f9c2a956608e6eab9a96c3a0b867d8ae53b67"), looks := false }, kinds := [], alts := [], laidByText := true, laidKinds := [.data], laidTests := true, laidLooks := .later }
def ReportMakesCardSaid : Prop := Claim7.holds Tryd.pinned (.plain (OpenSpec.ofChange reportMakesSpec)) reportMakesCard

/-- THE TIED CARD OF 'lanternlaw05.ReportMissing'. -/
def reportMissingCard : Claim7 := { stood := { row := reportMissingRow, standIns := [], harness := (true, "793a394194b4d4add6e8ced36b2f9c2a956608e6eab9a96c3a0b867d8ae53b67"), looks := false }, kinds := [], alts := [], laidByText := true, laidKinds := [.data], laidTests := true, laidLooks := .later }
def ReportMissingCardSaid : Prop := Claim7.holds Tryd.pinned (.plain (OpenSpec.ofChange reportMissingSpec)) reportMissingCard

/-- THE TIED CARD OF 'lanternlaw05.ReportSegments'. -/
def reportSegmentsCard : Claim7 := { stood := { row := reportSegmentsRow, standIns := [], harness := (true, "793a394194b4d4add6e8ced36b2f9c2a956608e6eab9a96c3a0b867d8ae53b67"), looks := false }, kinds := [], alts := [], laidByText := true, laidKinds := [.data], laidTests := true, laidLooks := .later }
def ReportSegmentsCardSaid : Prop := Claim7.holds Tryd.pinned (.plain (OpenSpec.ofChange reportSegmentsSpec)) reportSegmentsCard

/-- THE TIED CARD OF 'lanternlaw05.ReportLies'. -/
def reportLiesCard : Claim7 := { stood := { row := reportLiesRow, standIns := [], harness := (true, "793a394194b4d4add6e8ced36b2f9c2a956608e6eab9a96c3a0b867d8ae53b67"), looks := false }, kinds := [], alts := [], laidByText := true, laidKinds := [.data], laidTests := true, laidLooks := .later }
def ReportLiesCardSaid : Prop := Claim7.holds Tryd.pinned (.plain (OpenSpec.ofChange reportLiesSpec)) reportLiesCard

/-- THE SECOND FORM's CARD OF 'lanternlaw04.BlocksMend'. -/
def blocksMendUptoCard : Claim7 := { stood := { row := blocksMendUptoRow, standIns := [], harness := (true, "793a394194b4d4add6e8ced36b2f9c2a956608e6eab9a96c3a0b867d8ae53b67"), looks := false }, kinds := [], alts := [], laidByText := true, laidKinds := [.data], laidTests := true, laidLooks := .later }
def BlocksMendUptoCardSaid : Prop := Claim7.holds Tryd.pinned (.plain (OpenSpec.upto blocksMendSpec)) blocksMendUptoCard

/-- THE SECOND FORM's CARD OF 'lanternlaw04.BlocksBack'. -/
def blocksBackUptoCard : Claim7 := { stood := { row := blocksBackUptoRow, standIns := [], harness := (true, "793a394194b4d4add6e8ced36b2f9c2a956608e6eab9a96c3a0b867d8ae53b67"), looks := false }, kinds := [], alts := [], laidByText := true, laidKinds := [.data], laidTests := true, laidLooks := .later }
def BlocksBackUptoCardSaid : Prop := Claim7.holds Tryd.pinned (.plain (OpenSpec.upto blocksBackSpec)) blocksBackUptoCard

/-- THE SECOND FORM's CARD OF 'lanternlaw05.ReportMakes'. -/
def reportMakesUptoCard : Claim7 := { stood := { row := reportMakesUptoRow, standIns := [], harness := (true, "793a394194b4d4add6e8ced36b2f9c2a956608e6eab9a96c3a0b867d8ae53b67"), looks := false }, kinds := [], alts := [], laidByText := true, laidKinds := [.data], laidTests := true, laidLooks := .later }
def ReportMakesUptoCardSaid : Prop := Claim7.holds Tryd.pinned (.plain (OpenSpec.upto reportMakesSpec)) reportMakesUptoCard

/-- THE SECOND FORM's CARD OF 'lanternlaw05.ReportMissing'. -/
def reportMissingUptoCard : Claim7 := { stood := { row := reportMissingUptoRow, standIns := [], harness := (true, "793a394194b4d4add6e8ced36b2f9c2a956608e6eab9a96c3a0b867d8ae53b67"), looks := false }, kinds := [], alts := [], laidByText := true, laidKinds := [.data], laidTests := true, laidLooks := .later }
def ReportMissingUptoCardSaid : Prop := Claim7.holds Tryd.pinned (.plain (OpenSpec.upto reportMissingSpec)) reportMissingUptoCard

/-- THE SECOND FORM's CARD OF 'lanternlaw05.ReportSegments'. -/
def reportSegmentsUptoCard : Claim7 := { stood := { row := reportSegmentsUptoRow, standIns := [], harness := (true, "793a394194b4d4add6e8ced36b2f9c2a956608e6eab9a96c3a0b867d8ae53b67"), looks := false }, kinds := [], alts := [], laidByText := true, laidKinds := [.data], laidTests := true, laidLooks := .later }
def ReportSegmentsUptoCardSaid : Prop := Claim7.holds Tryd.pinned (.plain (OpenSpec.upto reportSegmentsSpec)) reportSegmentsUptoCard

/-- THE SECOND FORM's CARD OF 'lanternlaw05.ReportLies'. -/
def reportLiesUptoCard : Claim7 := { stood := { row := reportLiesUptoRow, standIns := [], harness := (true, "793a394194b4d4add6e8ced36b2f9c2a956608e6eab9a96c3a0b867d8ae53b67"), looks := false }, kinds := [], alts := [], laidByText := true, laidKinds := [.data], laidTests := true, laidLooks := .later }
def ReportLiesUptoCardSaid : Prop := Claim7.holds Tryd.pinned (.plain (OpenSpec.upto reportLiesSpec)) reportLiesUptoCard
end Rows
end Go.Proofs.YtkkmoplijicmpaeDoor
