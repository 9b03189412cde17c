import Derived.Test.YtlagadpfnkidjadDoorSpn
import Derived.WalkSmall
namespace Go.Proofs.YtlagadpfnkidjadDoor.C
open Go.RowKit

def eqB (l m : List Sp) : Bool := decide (l = m)

theorem eq_step {l m : List Sp} (k : Nat) {p q : Sp} (hp : l[k]? = some p) (hq : m[k]? = some q) : (l.drop k = m.drop k) ↔ (p = q ∧ l.drop (k + 1) = m.drop (k + 1)) := by
  rw [drop_get l k p hp, drop_get m k q hq]; simp

end Go.Proofs.YtlagadpfnkidjadDoor.C
