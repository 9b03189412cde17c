import Derived.Test.YtkkmoplijicmpabDoorSam
import Derived.RangeFuncNested
import Derived.RangeFuncBound
import Derived.RangeFuncCalls
import Derived.RangeFuncLeaves
import Derived.Shelf.Abstract
import Derived.Shelf.RegionOpen
import Derived.OwnWalkIn
import Derived.TacticsInMore
import Derived.LoopNIn
import Derived.LoopIn
import Derived.Sort.QuietIn
namespace Go.Proofs.YtkkmoplijicmpabDoor.C
open Go.RowKit Go.Shelf
attribute [local go_sem] Oper.semAt_some

/-- What lies below n₀, and block b, lie as they lay. -/
structure Kps (n₀ b : Nat) (W W' : World) : Prop where
  low : Below n₀ W W'
  blk : W'.heap[b]? = W.heap[b]?
theorem Kps.refl (n₀ b : Nat) (W : World) : Kps n₀ b W W := ⟨Below.refl _ _, rfl⟩
theorem Kps.trans {n₀ b : Nat} {A B C : World} (h : Kps n₀ b A B) (h' : Kps n₀ b B C) : Kps n₀ b A C := ⟨h.low.trans h'.low, h'.blk.trans h.blk⟩

/-- Spans that lie below n₀. -/
def Spl (n₀ : Nat) (W : World) (a : Option Addr) (l : List Sp) : Prop := Spa W a l ∧ (l ≠ [] → ∀ x, a = some x → x.block < n₀)
theorem Spl.keep {n₀ : Nat} {W W' : World} {a : Option Addr} {l : List Sp} (h : Spl n₀ W a l) (hb : Below n₀ W W') : Spl n₀ W' a l := by
  refine ⟨?_, h.2⟩
  by_cases hl : l = []
  · exact .inl hl
  · rcases h.1 with h1 | ⟨g, off, ha, hc⟩
    · exact .inl h1
    · have hg := h.2 hl _ ha
      exact .inr ⟨g, off, ha, fun i p hp => ⟨(hb.cell (p := ⟨g, off + i * 2, none⟩) hg).trans (hc i p hp).1, (hb.cell (p := ⟨g, off + i * 2 + 1, none⟩) hg).trans (hc i p hp).2⟩⟩

abbrev Pz := Sp × Bool

end Go.Proofs.YtkkmoplijicmpabDoor.C
