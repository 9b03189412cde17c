/-
  DERIVED. GIVEN WITH THE SEED: THE CARDS: each row of YtkkmoplijicmpabDoorRows.lean that lists a variable, with what it lists TIED to the program's text (the seventh form; the later family's looks); each row that meets fmt, with fmt's text TOLD by the authors' own Lean function (tested against real Go, not proved from fmt's source: count such statements apart). THE CARD IS WHAT COUNTS. Prove the row's statement (the work); the ties are given (YtkkmoplijicmpabDoorTie.lean); close each card by the builder's one call (the guide's Derived/Test/ToyasCard.lean, 'card_holds'). Laid BY PROGRAM, IN A SANDBOX (cutbox-door.mjs). By AI agents, Wed Nov 11 2026. No macro, syntax, notation, axiom, sorry.
-/
import Derived.Test.YtkkmoplijicmpabDoorRows
import GoSem.ClaimSeven
namespace Go.Proofs.YtkkmoplijicmpabDoor
namespace Rows

/-- THE TIED CARD OF 'lanternlaw02.SegmentPrints'. -/
def segmentPrintsCard : Claim7 := { stood := { row := segmentPrintsRow, standIns := [], harness := (true, "637ffd5f6e3869e3a2657b873c3e218da31e23b24c92ee5ca648c2ec8fad5eab"), looks := false }, kinds := [], alts := [], laidByText := true, laidKinds := [.data], laidTests := true, laidLooks := .later }
def SegmentPrintsCardSaid : Prop := Claim7.holds Tryd.pinned (.plain (OpenSpec.ofChange segmentPrintsSpec)) segmentPrintsCard

/-- THE TIED CARD OF 'lanternlaw02.SegmentParses'. -/
def segmentParsesCard : Claim7 := { stood := { row := segmentParsesRow, standIns := [], harness := (true, "637ffd5f6e3869e3a2657b873c3e218da31e23b24c92ee5ca648c2ec8fad5eab"), looks := false }, kinds := [], alts := [], laidByText := true, laidKinds := [.data], laidTests := true, laidLooks := .later }
def SegmentParsesCardSaid : Prop := Claim7.holds Tryd.pinned (.plain (OpenSpec.ofChange segmentParsesSpec)) segmentParsesCard

/-- THE TIED CARD OF 'lanternlaw02.SegmentBack'. -/
def segmentBackCard : Claim7 := { stood := { row := segmentBackRow, standIns := [], harness := (true, "637ffd5f6e3869e3a2657b873c3e218da31e23b24c92ee5ca648c2ec8fad5eab"), looks := false }, kinds := [], alts := [], laidByText := true, laidKinds := [.data], laidTests := true, laidLooks := .later }
def SegmentBackCardSaid : Prop := Claim7.holds Tryd.pinned (.plain (OpenSpec.ofChange segmentBackSpec)) segmentBackCard

/-- THE TIED CARD OF 'lanternlaw02.SegmentCut'. -/
def segmentCutCard : Claim7 := { stood := { row := segmentCutRow, standIns := [], harness := (true, "637ffd5f6e3869e3a2657b873c3e218da31e23b24c92ee5ca648c2ec8fad5eab"), looks := false }, kinds := [], alts := [], laidByText := true, laidKinds := [.data], laidTests := true, laidLooks := .later }
def SegmentCutCardSaid : Prop := Claim7.holds Tryd.pinned (.plain (OpenSpec.ofChange segmentCutSpec)) segmentCutCard

/-- THE TIED CARD OF 'lanternlaw02.SegmentFirst'. -/
def segmentFirstCard : Claim7 := { stood := { row := segmentFirstRow, standIns := [], harness := (true, "637ffd5f6e3869e3a2657b873c3e218da31e23b24c92ee5ca648c2ec8fad5eab"), looks := false }, kinds := [], alts := [], laidByText := true, laidKinds := [.data], laidTests := true, laidLooks := .later }
def SegmentFirstCardSaid : Prop := Claim7.holds Tryd.pinned (.plain (OpenSpec.ofChange segmentFirstSpec)) segmentFirstCard

/-- THE SECOND FORM's CARD OF 'lanternlaw02.SegmentPrints'. -/
def segmentPrintsUptoCard : Claim7 := { stood := { row := segmentPrintsUptoRow, standIns := [], harness := (true, "637ffd5f6e3869e3a2657b873c3e218da31e23b24c92ee5ca648c2ec8fad5eab"), looks := false }, kinds := [], alts := [], laidByText := true, laidKinds := [.data], laidTests := true, laidLooks := .later }
def SegmentPrintsUptoCardSaid : Prop := Claim7.holds Tryd.pinned (.plain (OpenSpec.upto segmentPrintsSpec)) segmentPrintsUptoCard

/-- THE SECOND FORM's CARD OF 'lanternlaw02.SegmentParses'. -/
def segmentParsesUptoCard : Claim7 := { stood := { row := segmentParsesUptoRow, standIns := [], harness := (true, "637ffd5f6e3869e3a2657b873c3e218da31e23b24c92ee5ca648c2ec8fad5eab"), looks := false }, kinds := [], alts := [], laidByText := true, laidKinds := [.data], laidTests := true, laidLooks := .later }
def SegmentParsesUptoCardSaid : Prop := Claim7.holds Tryd.pinned (.plain (OpenSpec.upto segmentParsesSpec)) segmentParsesUptoCard

/-- THE SECOND FORM's CARD OF 'lanternlaw02.SegmentBack'. -/
def segmentBackUptoCard : Claim7 := { stood := { row := segmentBackUptoRow, standIns := [], harness := (true, "637ffd5f6e3869e3a2657b873c3e218da31e23b24c92ee5ca648c2ec8fad5eab"), looks := false }, kinds := [], alts := [], laidByText := true, laidKinds := [.data], laidTests := true, laidLooks := .later }
def SegmentBackUptoCardSaid : Prop := Claim7.holds Tryd.pinned (.plain (OpenSpec.upto segmentBackSpec)) segmentBackUptoCard

/-- THE SECOND FORM's CARD OF 'lanternlaw02.SegmentCut'. -/
def segmentCutUptoCard : Claim7 := { stood := { row := segmentCutUptoRow, standIns := [], harness := (true, "637ffd5f6e3869e3a2657b873c3e218da31e23b24c92ee5ca648c2ec8fad5eab"), looks := false }, kinds := [], alts := [], laidByText := true, laidKinds := [.data], laidTests := true, laidLooks := .later }
def SegmentCutUptoCardSaid : Prop := Claim7.holds Tryd.pinned (.plain (OpenSpec.upto segmentCutSpec)) segmentCutUptoCard

/-- THE SECOND FORM's CARD OF 'lanternlaw02.SegmentFirst'. -/
def segmentFirstUptoCard : Claim7 := { stood := { row := segmentFirstUptoRow, standIns := [], harness := (true, "637ffd5f6e3869e3a2657b873c3e218da31e23b24c92ee5ca648c2ec8fad5eab"), looks := false }, kinds := [], alts := [], laidByText := true, laidKinds := [.data], laidTests := true, laidLooks := .later }
def SegmentFirstUptoCardSaid : Prop := Claim7.holds Tryd.pinned (.plain (OpenSpec.upto segmentFirstSpec)) segmentFirstUptoCard
end Rows
end Go.Proofs.YtkkmoplijicmpabDoor
