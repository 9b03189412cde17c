/-
  DERIVED. GIVEN WITH THE SEED: THE CARDS: each row of YtillgoegiplmkaaGreatDoorRows.lean that lists a variable, with what it lists TIED to the program's text (the seventh form; the later family's looks); each row that meets fmt, with fmt's text TOLD by the authors' own Lean function (tested against real Go, not proved from fmt's source: count such statements apart). THE CARD IS WHAT COUNTS. Prove the row's statement (the work); the ties are given (YtillgoegiplmkaaGreatDoorTie.lean); close each card by the builder's one call (the guide's Derived/Test/ToyasCard.lean, 'card_holds'). Laid BY PROGRAM, IN A SANDBOX (cutbox-door.mjs). By AI agents, Wed Nov 11 2026. No macro, syntax, notation, axiom, sorry.
-/
import Derived.Test.YtillgoegiplmkaaGreatDoorRows
import GoSem.ClaimSeven
namespace Go.Proofs.YtillgoegiplmkaaGreatDoor
namespace Rows

/-- THE TIED CARD OF 'lanternlaw08.TablePlays'. -/
def tablePlaysCard : Claim7 := { stood := { row := tablePlaysRow, standIns := [], harness := (true, "638c28c6606758b1e8edb41a7d7a0647733b0381490f381e58479ef6f3b03e10"), looks := false }, kinds := [], alts := [], laidByText := true, laidKinds := [.data], laidTests := true, laidLooks := .later }
def TablePlaysCardSaid : Prop := Claim7.holds Tryz.pinned (.plain (OpenSpec.ofChange tablePlaysSpec)) tablePlaysCard

/-- THE TIED CARD OF 'lanternlaw08.TableLoads'. -/
def tableLoadsCard : Claim7 := { stood := { row := tableLoadsRow, standIns := [], harness := (true, "638c28c6606758b1e8edb41a7d7a0647733b0381490f381e58479ef6f3b03e10"), looks := false }, kinds := [], alts := [], laidByText := true, laidKinds := [.data], laidTests := true, laidLooks := .later }
def TableLoadsCardSaid : Prop := Claim7.holds Tryz.pinned (.plain (OpenSpec.ofChange tableLoadsSpec)) tableLoadsCard

/-- THE TIED CARD OF 'lanternlaw08.TableEnough'. -/
def tableEnoughCard : Claim7 := { stood := { row := tableEnoughRow, standIns := [], harness := (true, "638c28c6606758b1e8edb41a7d7a0647733b0381490f381e58479ef6f3b03e10"), looks := false }, kinds := [], alts := [], laidByText := true, laidKinds := [.data], laidTests := true, laidLooks := .later }
def TableEnoughCardSaid : Prop := Claim7.holds Tryz.pinned (.plain (OpenSpec.ofChange tableEnoughSpec)) tableEnoughCard

/-- THE TIED CARD OF 'lanternlaw08.TableShort'. -/
def tableShortCard : Claim7 := { stood := { row := tableShortRow, standIns := [], harness := (true, "638c28c6606758b1e8edb41a7d7a0647733b0381490f381e58479ef6f3b03e10"), looks := false }, kinds := [], alts := [], laidByText := true, laidKinds := [.data], laidTests := true, laidLooks := .later }
def TableShortCardSaid : Prop := Claim7.holds Tryz.pinned (.plain (OpenSpec.ofChange tableShortSpec)) tableShortCard

/-- THE TIED CARD OF 'lanternlaw08.TableOnce'. -/
def tableOnceCard : Claim7 := { stood := { row := tableOnceRow, standIns := [], harness := (true, "638c28c6606758b1e8edb41a7d7a0647733b0381490f381e58479ef6f3b03e10"), looks := false }, kinds := [], alts := [], laidByText := true, laidKinds := [.data], laidTests := true, laidLooks := .later }
def TableOnceCardSaid : Prop := Claim7.holds Tryz.pinned (.plain (OpenSpec.ofChange tableOnceSpec)) tableOnceCard

/-- THE SECOND FORM's CARD OF 'lanternlaw08.TablePlays'. -/
def tablePlaysUptoCard : Claim7 := { stood := { row := tablePlaysUptoRow, standIns := [], harness := (true, "638c28c6606758b1e8edb41a7d7a0647733b0381490f381e58479ef6f3b03e10"), looks := false }, kinds := [], alts := [], laidByText := true, laidKinds := [.data], laidTests := true, laidLooks := .later }
def TablePlaysUptoCardSaid : Prop := Claim7.holds Tryz.pinned (.plain (OpenSpec.upto tablePlaysSpec)) tablePlaysUptoCard

/-- THE SECOND FORM's CARD OF 'lanternlaw08.TableLoads'. -/
def tableLoadsUptoCard : Claim7 := { stood := { row := tableLoadsUptoRow, standIns := [], harness := (true, "638c28c6606758b1e8edb41a7d7a0647733b0381490f381e58479ef6f3b03e10"), looks := false }, kinds := [], alts := [], laidByText := true, laidKinds := [.data], laidTests := true, laidLooks := .later }
def TableLoadsUptoCardSaid : Prop := Claim7.holds Tryz.pinned (.plain (OpenSpec.upto tableLoadsSpec)) tableLoadsUptoCard

/-- THE SECOND FORM's CARD OF 'lanternlaw08.TableEnough'. -/
def tableEnoughUptoCard : Claim7 := { stood := { row := tableEnoughUptoRow, standIns := [], harness := (true, "638c28c6606758b1e8edb41a7d7a0647733b0381490f381e58479ef6f3b03e10"), looks := false }, kinds := [], alts := [], laidByText := true, laidKinds := [.data], laidTests := true, laidLooks := .later }
def TableEnoughUptoCardSaid : Prop := Claim7.holds Tryz.pinned (.plain (OpenSpec.upto tableEnoughSpec)) tableEnoughUptoCard

/-- THE SECOND FORM's CARD OF 'lanternlaw08.TableShort'. -/
def tableShortUptoCard : Claim7 := { stood := { row := tableShortUptoRow, standIns := [], harness := (true, "638c28c6606758b1e8edb41a7d7a0647733b0381490f381e58479ef6f3b03e10"), looks := false }, kinds := [], alts := [], laidByText := true, laidKinds := [.data], laidTests := true, laidLooks := .later }
def TableShortUptoCardSaid : Prop := Claim7.holds Tryz.pinned (.plain (OpenSpec.upto tableShortSpec)) tableShortUptoCard

/-- THE SECOND FORM's CARD OF 'lanternlaw08.TableOnce'. -/
def tableOnceUptoCard : Claim7 := { stood := { row := tableOnceUptoRow, standIns := [], harness := (true, "638c28c6606758b1e8edb41a7d7a0647733b0381490f381e58479ef6f3b03e10"), looks := false }, kinds := [], alts := [], laidByText := true, laidKinds := [.data], laidTests := true, laidLooks := .later }
def TableOnceUptoCardSaid : Prop := Claim7.holds Tryz.pinned (.plain (OpenSpec.upto tableOnceSpec)) tableOnceUptoCard
end Rows
end Go.Proofs.YtillgoegiplmkaaGreatDoor
