import Derived.Test.YtdfdaambfihjaaaDoorClmMath
import Derived.RangeFuncNested
import Derived.RangeFuncBound
import Derived.RangeFuncCalls
import Derived.RangeFuncLeaves
import Derived.Shelf.Abstract
import Derived.Shelf.RegionOpen
import Derived.OwnWalkIn
import Derived.TacticsInMore
import Derived.LoopNIn
import Derived.LoopIn
import Derived.Sort.QuietIn
namespace Go.Proofs.YtdfdaambfihjaaaDoor.C
open Go.RowKit Go.Shelf
attribute [local go_sem] Oper.semAt_some

/-- What lies below n₀, and block b, lie as they lay. -/
structure Kps (n₀ b : Nat) (W W' : World) : Prop where
  low : Below n₀ W W'
  blk : W'.heap[b]? = W.heap[b]?
/-- Spans that lie below n₀. -/
def Spl (n₀ : Nat) (W : World) (a : Option Addr) (l : List Sp) : Prop := Spa W a l ∧ (l ≠ [] → ∀ x, a = some x → x.block < n₀)
abbrev Pz := Sp × Bool

end Go.Proofs.YtdfdaambfihjaaaDoor.C
