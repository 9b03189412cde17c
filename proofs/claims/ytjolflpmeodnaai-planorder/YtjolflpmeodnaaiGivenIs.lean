import Derived.Test.YtjolflpmeodnaaiGivenCt
import Derived.Test.YtjolflpmeodnaaiPlOr
namespace Go.Proofs.Ytjolflpmeodnaai
open Go.ChangeShapes Go.WideShapes Go.ChangeAt Go.RowKit
set_option linter.unusedVariables false

variable {H : Type} {enc : TypeId × Value → H} {W : World}

set_option maxRecDepth 100000 in
/-- Numbers that came in. -/
theorem given_is {v : Value} {d : DataW H} {p : List MemPlace} {base : Nat} (hok : Value.okWide Try.prog W .any base 31 v) (h : DataW.Trod enc Try.prog W 0 (fun _ => true) true 31 v d p) :
    ∃ a l n c, v = .slice a n c ∧ List.length l = n ∧ Ita W a l ∧ n ≤ 9223372036854775807 := by
  obtain ⟨a0, len0, cap0, rfl⟩ := okWide_slice Try.underlying31 hok
  obtain ⟨fuel, hf⟩ := h
  have hf' : DataW.trod enc Try.prog W 0 (fun _ => true) true fuel 31 [.slice a0 len0 cap0] = some (d, p) := hf
  rcases open_ints Try.underlying31 Try.underlying3 (by kernel_rfl) hf' with ⟨hcs, hx⟩ | ⟨x, l, c, zs, hcs, _, hl, hm, hz, hx, hcell, hwz⟩
  · simp at hcs
    obtain ⟨rfl, rfl, rfl⟩ := hcs
    exact ⟨none, [], 0, 0, rfl, rfl, .inl rfl, by omega⟩
  · simp at hcs
    obtain ⟨rfl, rfl, rfl⟩ := hcs
    simp only [if_true] at hz
    refine ⟨some x, zs.take len0, len0, cap0, rfl, by simp; omega, ?_, by unfold maxLen at hm; omega⟩
    by_cases h0 : zs.take len0 = []
    · exact .inl h0
    · have hpos : 0 < (zs.take len0).length := List.length_pos_iff.mpr h0
      have hpos2 : 0 < zs.length := by rw [List.length_take] at hpos; omega
      obtain ⟨g, off, rfl⟩ : ∃ g off, x = ⟨g, off, none⟩ := by
        have q3 := World.cell?_spot (hcell 0 (by omega))
        obtain ⟨b, off, spot⟩ := x
        have hs : spot = none := by simpa [Addr.add] using q3
        subst hs
        exact ⟨b, off, rfl⟩
      refine .inr ⟨g, off, rfl, fun i y hi => ?_⟩
      have hi1 : i < zs.length := by have := (List.getElem?_eq_some_iff.mp hi).1; rw [List.length_take] at this; omega
      have h5 := hcell i (by omega)
      rw [padd_none] at h5
      rw [h5]
      rw [List.getElem?_take] at hi
      split at hi
      · have h6 : zs[i]? = some zs[i] := List.getElem?_eq_getElem hi1
        rw [h6] at hi
        cases hi
        first | rfl | simp [hi1]
      · cases hi

end Go.Proofs.Ytjolflpmeodnaai
