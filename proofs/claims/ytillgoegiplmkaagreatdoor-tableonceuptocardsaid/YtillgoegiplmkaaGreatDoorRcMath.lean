import Derived.Laws.Bits64
import Derived.Test.YtillgoegiplmkaaGreatDoorNums
namespace Go.Proofs.YtillgoegiplmkaaGreatDoor

/-- One shift of the register. -/
def cst (c : Nat) : Nat := if c % 2 = 1 then (c / 2) ^^^ 3988292384 else c / 2
/-- Some shifts. -/
def cit : Nat → Nat → Nat
  | 0, c => c
  | n + 1, c => cit n (cst c)
/-- The register behind some bytes. -/
def crc : Nat → List Int → Nat
  | c, [] => c
  | c, z :: l => crc (cit 8 (c ^^^ z.toNat)) l

/-- The sum of some bytes. -/
def crs (l : List Int) : Nat := crc 4294967295 l ^^^ 4294967295
/-! ## How the program and the document reckon it. -/
end Go.Proofs.YtillgoegiplmkaaGreatDoor

namespace Go.Proofs.YtillgoegiplmkaaGreatDoor
open Go.RowKit

end Go.Proofs.YtillgoegiplmkaaGreatDoor
