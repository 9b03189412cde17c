import Derived.Test.YtkkmoplijicmpabDoorSpn
import Derived.WalkSmall
namespace Go.Proofs.YtkkmoplijicmpabDoor.C
open Go.RowKit

/-- Where the next span may begin. -/
def lst (l : List Sp) (k : Nat) : Int := match k with
  | 0 => 0
  | k + 1 => (l.getD k (0, 0)).2 + 1

end Go.Proofs.YtkkmoplijicmpabDoor.C
