import Derived.Test.YtblkpmelneignacGivenC
namespace Go.Proofs.Ytblkpmelneignac
open Go.ChangeShapes Go.WideShapes Go.ChangeAt Go.RowKit
variable {H : Type} {enc : TypeId × Value → H} {W : World}

/-- A nil list that came in has no room. -/
theorem nil_of {v : Value} {d : DataW H} {p : List MemPlace} (h : DataW.Trod enc Try.prog W 0 (fun _ => true) true 22 v d p) : ∀ n c, v = .slice none n c → c = 0 := by
  obtain ⟨fuel, h⟩ := h
  rintro n c rfl
  rcases Go.Deep.open_slice_pairs Try.underlying22 Try.underlying24 (by kernel_rfl) rfl rfl (by kernel_rfl) (by kernel_rfl) h with ⟨hcs, _⟩ | ⟨a, len, cap, m, n, V0, V1, D0, D1, P0, P1, hcs, _⟩
  · simp [Value.cells] at hcs
    exact hcs.2
  · simp [Value.cells] at hcs

end Go.Proofs.Ytblkpmelneignac
