import Derived.Test.YtcfodcioeefbeaaDoorNums
import Derived.Test.YtcfodcioeefbeaaDoorRead
import Derived.Test.YtcfodcioeefbeaaDoorMath
namespace Go.Proofs.YtcfodcioeefbeaaDoor
open Go.RowKit

theorem own_shape {w : World} {base n sz : Nat} {e : TypeId} {v : Value} {xs : List Value} (h : w.ownsRow base e sz v n xs) : ∃ a cap, v = .slice a n cap := by
  obtain ⟨_, ⟨rfl, rfl⟩ | ⟨g, cap, cur, rfl, _⟩⟩ := h
  · exact ⟨none, 0, rfl⟩
  · exact ⟨_, cap, rfl⟩

theorem own_lies {w : World} {base n cap : Nat} {e : TypeId} {a : Option Addr} {k : IntKind} {xs : List Int} (h : w.ownsRow base e 1 (.slice a n cap) n (xs.map (Value.int k))) : Lies k w a xs ∧ xs.length = n := by
  have hl : xs.length = n := by have := h.1; simpa using this
  refine ⟨?_, hl⟩
  obtain ⟨_, ⟨_, h0⟩ | ⟨g, cap', cur, hv, hb, hg, hn, hm, hs, ht⟩⟩ := id h
  · exact .inl (List.eq_nil_of_length_eq_zero (by omega))
  · simp only [Value.slice.injEq] at hv
    obtain ⟨rfl, _, rfl⟩ := hv
    refine .inr ⟨g, 0, rfl, fun i hi => ?_⟩
    rw [Nat.zero_add, h.cellAt i (by omega), List.getElem?_map, List.getD_eq_getElem?_getD, List.getElem?_eq_getElem hi]
    rfl

theorem own_grown {w0 w w' : World} {base n sz : Nat} {e : TypeId} {v : Value} {xs : List Value} (hb : Below base w0 w) (hg : w.grownBy w' v.ownBlock) (h : w.ownsRow base e sz v n xs) (hs : base ≤ w.heap.size) : Below base w0 w' :=
  hb.grown hg hs (fun j hj => (h.lt j hj).1)

theorem lies_drop {k : IntKind} {w : World} {b off : Nat} {zs : List Int} (h : ∀ i, i < zs.length → w.cell? ⟨b, off + i, none⟩ = some (.int k (zs.getD i 0))) (m : Nat) : Lies k w (some ⟨b, off + m, none⟩) (zs.drop m) := by
  refine .inr ⟨b, off + m, rfl, fun i hi => ?_⟩
  simp at hi
  rw [Nat.add_assoc, h (m + i) (by omega)]
  simp [List.getD_eq_getElem?_getD]

end Go.Proofs.YtcfodcioeefbeaaDoor
