/-
  DERIVED. GIVEN WITH THE SEED: THE CARDS: each row of YtgmbpagbiakciadDoorRows.lean that lists a variable, with what it lists TIED to the program's text (the seventh form; the later family's looks); each row that meets fmt, with fmt's text TOLD by the authors' own Lean function (tested against real Go, not proved from fmt's source: count such statements apart). THE CARD IS WHAT COUNTS. Prove the row's statement (the work); the ties are given (YtgmbpagbiakciadDoorTie.lean); close each card by the builder's one call (the guide's Derived/Test/ToyasCard.lean, 'card_holds'). Laid BY PROGRAM, IN A SANDBOX (cutbox-door.mjs). By AI agents, Wed Nov 11 2026. No macro, syntax, notation, axiom, sorry.
-/
import Derived.Test.YtgmbpagbiakciadDoorRows
import GoSem.ClaimSeven
namespace Go.Proofs.YtgmbpagbiakciadDoor
namespace Rows

/-- THE TIED CARD OF 'lanternlaw04.BlocksNames'. -/
def blocksNamesCard : Claim7 := { stood := { row := blocksNamesRow, standIns := [], harness := (true, "c3fdc03a5577d296c4b0d66f25adf778cfa6776ec195afc1f7769dc2f3c22643"), looks := false }, kinds := [], alts := [], laidByText := true, laidKinds := [.data], laidTests := true, laidLooks := .later }
def BlocksNamesCardSaid : Prop := Claim7.holds Tryd.pinned (.plain (OpenSpec.ofChange blocksNamesSpec)) blocksNamesCard

/-- THE TIED CARD OF 'lanternlaw04.BlocksCuts'. -/
def blocksCutsCard : Claim7 := { stood := { row := blocksCutsRow, standIns := [], harness := (true, "c3fdc03a5577d296c4b0d66f25adf778cfa6776ec195afc1f7769dc2f3c22643"), looks := false }, kinds := [], alts := [], laidByText := true, laidKinds := [.data], laidTests := true, laidLooks := .later }
def BlocksCutsCardSaid : Prop := Claim7.holds Tryd.pinned (.plain (OpenSpec.ofChange blocksCutsSpec)) blocksCutsCard

/-- THE TIED CARD OF 'lanternlaw04.BlocksAgains'. -/
def blocksAgainsCard : Claim7 := { stood := { row := blocksAgainsRow, standIns := [], harness := (true, "c3fdc03a5577d296c4b0d66f25adf778cfa6776ec195afc1f7769dc2f3c22643"), looks := false }, kinds := [], alts := [], laidByText := true, laidKinds := [.data], laidTests := true, laidLooks := .later }
def BlocksAgainsCardSaid : Prop := Claim7.holds Tryd.pinned (.plain (OpenSpec.ofChange blocksAgainsSpec)) blocksAgainsCard

/-- THE TIED CARD OF 'lanternlaw04.BlocksMakes'. -/
def blocksMakesCard : Claim7 := { stood := { row := blocksMakesRow, standIns := [], harness := (true, "c3fdc03a5577d296c4b0d66f25adf778cfa6776ec195afc1f7769dc2f3c22643"), looks := false }, kinds := [], alts := [], laidByText := true, laidKinds := [.data], laidTests := true, laidLooks := .later }
def BlocksMakesCardSaid : Prop := Claim7.holds Tryd.pinned (.plain (OpenSpec.ofChange blocksMakesSpec)) blocksMakesCard

/-- THE TIED CARD OF 'lanternlaw04.BlocksBuffers'. -/
def blocksBuffersCard : Claim7 := { stood := { row := blocksBuffersRow, standIns := [], harness := (true, "c3fdc03a5577d296c4b0d66f25adf778cfa6776ec195afc1f7769dc2f3c22643"), looks := false }, kinds := [], alts := [], laidByText := true, laidKinds := [.data], laidTests := true, laidLooks := .later }
def BlocksBuffersCardSaid : Prop := Claim7.holds Tryd.pinned (.plain (OpenSpec.ofChange blocksBuffersSpec)) blocksBuffersCard

/-- THE TIED CARD OF 'lanternlaw04.BlocksFill'. -/
def blocksFillCard : Claim7 := { stood := { row := blocksFillRow, standIns := [], harness := (true, "c3fdc03a5577d296c4b0d66f25adf778cfa6776ec195afc1f7769dc2f3c22643"), looks := false }, kinds := [], alts := [], laidByText := true, laidKinds := [.data], laidTests := true, laidLooks := .later }
def BlocksFillCardSaid : Prop := Claim7.holds Tryd.pinned (.plain (OpenSpec.ofChange blocksFillSpec)) blocksFillCard

/-- THE SECOND FORM's CARD OF 'lanternlaw04.BlocksNames'. -/
def blocksNamesUptoCard : Claim7 := { stood := { row := blocksNamesUptoRow, standIns := [], harness := (true, "c3fdc03a5577d296c4b0d66f25adf778cfa6776ec195afc1f7769dc2f3c22643"), looks := false }, kinds := [], alts := [], laidByText := true, laidKinds := [.data], laidTests := true, laidLooks := .later }
def BlocksNamesUptoCardSaid : Prop := Claim7.holds Tryd.pinned (.plain (OpenSpec.upto blocksNamesSpec)) blocksNamesUptoCard

/-- THE SECOND FORM's CARD OF 'lanternlaw04.BlocksCuts'. -/
def blocksCutsUptoCard : Claim7 := { stood := { row := blocksCutsUptoRow, standIns := [], harness := (true, "c3fdc03a5577d296c4b0d66f25adf778cfa6776ec195afc1f7769dc2f3c22643"), looks := false }, kinds := [], alts := [], laidByText := true, laidKinds := [.data], laidTests := true, laidLooks := .later }
def BlocksCutsUptoCardSaid : Prop := Claim7.holds Tryd.pinned (.plain (OpenSpec.upto blocksCutsSpec)) blocksCutsUptoCard

/-- THE SECOND FORM's CARD OF 'lanternlaw04.BlocksAgains'. -/
def blocksAgainsUptoCard : Claim7 := { stood := { row := blocksAgainsUptoRow, standIns := [], harness := (true, "c3fdc03a5577d296c4b0d66f25adf778cfa6776ec195afc1f7769dc2f3c22643"), looks := false }, kinds := [], alts := [], laidByText := true, laidKinds := [.data], laidTests := true, laidLooks := .later }
def BlocksAgainsUptoCardSaid : Prop := Claim7.holds Tryd.pinned (.plain (OpenSpec.upto blocksAgainsSpec)) blocksAgainsUptoCard

/-- THE SECOND FORM's CARD OF 'lanternlaw04.BlocksMakes'. -/
def blocksMakesUptoCard : Claim7 := { stood := { row := blocksMakesUptoRow, standIns := [], harness := (true, "c3fdc03a5577d296c4b0d66f25adf778cfa6776ec195afc1f7769dc2f3c22643"), looks := false }, kinds := [], alts := [], laidByText := true, laidKinds := [.data], laidTests := true, laidLooks := .later }
def BlocksMakesUptoCardSaid : Prop := Claim7.holds Tryd.pinned (.plain (OpenSpec.upto blocksMakesSpec)) blocksMakesUptoCard

/-- THE SECOND FORM's CARD OF 'lanternlaw04.BlocksBuffers'. -/
def blocksBuffersUptoCard : Claim7 := { stood := { row := blocksBuffersUptoRow, standIns := [], harness := (true, "c3fdc03a5577d296c4b0d66f25adf778cfa6776ec195afc1f7769dc2f3c22643"), looks := false }, kinds := [], alts := [], laidByText := true, laidKinds := [.data], laidTests := true, laidLooks := .later }
def BlocksBuffersUptoCardSaid : Prop := Claim7.holds Tryd.pinned (.plain (OpenSpec.upto blocksBuffersSpec)) blocksBuffersUptoCard

/-- THE SECOND FORM's CARD OF 'lanternlaw04.BlocksFill'. -/
def blocksFillUptoCard : Claim7 := { stood := { row := blocksFillUptoRow, standIns := [], harness := (true, "c3fdc03a5577d296c4b0d66f25adf778cfa6776ec195afc1f7769dc2f3c22643"), looks := false }, kinds := [], alts := [], laidByText := true, laidKinds := [.data], laidTests := true, laidLooks := .later }
def BlocksFillUptoCardSaid : Prop := Claim7.holds Tryd.pinned (.plain (OpenSpec.upto blocksFillSpec)) blocksFillUptoCard
end Rows
end Go.Proofs.YtgmbpagbiakciadDoor
