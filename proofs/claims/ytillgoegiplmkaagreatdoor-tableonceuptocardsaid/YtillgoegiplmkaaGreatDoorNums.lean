import Derived.Test.YtillgoegiplmkaaGreatDoorChecked
import Derived.Test.YtillgoegiplmkaaGreatDoorLen
import Derived.WalkKit
import Derived.WalkSpells
import Derived.WalkLawsBesides
import Derived.Laws.BitsAllLaws
import Derived.Test.YtillgoegiplmkaaGreatDoorRead
import Derived.Test.YtillgoegiplmkaaGreatDoorMath
namespace Go.Proofs.YtillgoegiplmkaaGreatDoor
open Go.RowKit

theorem Tryz.info_u8 : (Tryz.prog.info? 5).map (fun i => (i.zero, i.size, i.bytes)) = some (some (.int .u8 0), 1, 1) := by kernel_rfl

end Go.Proofs.YtillgoegiplmkaaGreatDoor

namespace Go.Proofs.YtillgoegiplmkaaGreatDoor
open Go.RowKit

theorem own_shape {w : World} {base n sz : Nat} {e : TypeId} {v : Value} {xs : List Value} (h : w.ownsRow base e sz v n xs) : ∃ a cap, v = .slice a n cap := by
  obtain ⟨_, ⟨rfl, rfl⟩ | ⟨g, cap, cur, rfl, _⟩⟩ := h
  · exact ⟨none, 0, rfl⟩
  · exact ⟨_, cap, rfl⟩

theorem own_lies {w : World} {base n cap : Nat} {e : TypeId} {a : Option Addr} {k : IntKind} {xs : List Int} (h : w.ownsRow base e 1 (.slice a n cap) n (xs.map (Value.int k))) : Lies k w a xs ∧ xs.length = n := by
  have hl : xs.length = n := by have := h.1; simpa using this
  refine ⟨?_, hl⟩
  obtain ⟨_, ⟨_, h0⟩ | ⟨g, cap', cur, hv, hb, hg, hn, hm, hs, ht⟩⟩ := id h
  · exact .inl (List.eq_nil_of_length_eq_zero (by omega))
  · simp only [Value.slice.injEq] at hv
    obtain ⟨rfl, _, rfl⟩ := hv
    refine .inr ⟨g, 0, rfl, fun i hi => ?_⟩
    rw [Nat.zero_add, h.cellAt i (by omega), List.getElem?_map, List.getD_eq_getElem?_getD, List.getElem?_eq_getElem hi]
    rfl

end Go.Proofs.YtillgoegiplmkaaGreatDoor
