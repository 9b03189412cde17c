import Derived.Test.YticdedcgmofpjaaDoorDkOk
import Derived.Test.YticdedcgmofpjaaDoorDkNm
import Derived.Test.YticdedcgmofpjaaDoorDkPs
import Derived.Test.YticdedcgmofpjaaDoorDkPv
import Derived.Test.YticdedcgmofpjaaDoorDkPx
namespace Go.Proofs.YticdedcgmofpjaaDoor.K
open Go.RowKit
set_option linter.unusedVariables false
set_option linter.unusedSimpArgs false

/-- The law's world: the disk D and the page's disk E, each with blocks of its own, none of them below lo, none of X; nothing below lo has changed. -/
structure Sx (w0 : World) (lo x pb : Nat) (X : Nat → Prop) (wr : World) (D E : Dk) : Prop where
  bel : Below lo w0 wr
  lo' : lo ≤ wr.heap.size
  xs : ∀ k, X k → k < wr.heap.size
  hh : X (lo + 1) ∧ wr.cell? ⟨lo + 1, 0, none⟩ = some (.pointer (some ⟨x, 0, none⟩))
  dd : X (lo + 2) ∧ wr.cell? ⟨lo + 2, 0, none⟩ = some (.pointer (some ⟨x, 0, none⟩))
  foot : ∃ F G : Nat → Prop, Dm wr x F D ∧ Pm wr pb G E ∧ (∀ k, F k → ¬ G k) ∧ (∀ k, F k → lo ≤ k ∧ ¬ X k ∧ k < wr.heap.size) ∧ (∀ k, G k → lo ≤ k ∧ ¬ X k ∧ k < wr.heap.size)
section
variable {w0 wr V : World} {lo x pb : Nat} {X : Nat → Prop} {D E D' E' : Dk}
theorem Sx.later (h : Sx w0 lo x pb X wr D E) (hb' : Below wr.heap.size wr V) : Sx w0 lo x pb X V D E := by
  obtain ⟨F, G, h1, h2, h3, h4, h5⟩ := h.foot
  have hs := hb'.size
  exact ⟨h.bel.trans (hb'.mono h.lo'), Nat.le_trans h.lo' hs, fun k q => Nat.lt_of_lt_of_le (h.xs k q) hs, ⟨h.hh.1, bel_cell hb' h.hh.2⟩, ⟨h.dd.1, bel_cell hb' h.dd.2⟩, F, G, h1.below hb', h2.below hb', h3, fun k hk => ⟨(h4 k hk).1, (h4 k hk).2.1, Nat.lt_of_lt_of_le (h4 k hk).2.2 hs⟩, fun k hk => ⟨(h5 k hk).1, (h5 k hk).2.1, Nat.lt_of_lt_of_le (h5 k hk).2.2 hs⟩⟩
/-- What is new is nobody's. -/
theorem Sx.free (h : Sx w0 lo x pb X wr D E) (hb' : Below wr.heap.size wr V) : Sx w0 lo x pb (fun k => X k ∨ (wr.heap.size ≤ k ∧ k < V.heap.size)) V D E := by
  obtain ⟨F, G, h1, h2, h3, h4, h5⟩ := h.foot
  have hs := hb'.size
  exact ⟨h.bel.trans (hb'.mono h.lo'), Nat.le_trans h.lo' hs, fun k q => q.elim (fun q => Nat.lt_of_lt_of_le (h.xs k q) hs) (·.2), ⟨.inl h.hh.1, bel_cell hb' h.hh.2⟩, ⟨.inl h.dd.1, bel_cell hb' h.dd.2⟩, F, G, h1.below hb', h2.below hb', h3, fun k hk => ⟨(h4 k hk).1, fun q => q.elim (h4 k hk).2.1 (fun q => by have := (h4 k hk).2.2; omega), Nat.lt_of_lt_of_le (h4 k hk).2.2 hs⟩, fun k hk => ⟨(h5 k hk).1, fun q => q.elim (h5 k hk).2.1 (fun q => by have := (h5 k hk).2.2; omega), Nat.lt_of_lt_of_le (h5 k hk).2.2 hs⟩⟩
theorem Sx.drop {Y : Nat → Prop} (h : Sx w0 lo x pb X wr D E) (hY : ∀ k, Y k → X k) (h1 : Y (lo + 1)) (h2 : Y (lo + 2)) : Sx w0 lo x pb Y wr D E := by
  obtain ⟨F, G, q1, q2, q3, q4, q5⟩ := h.foot
  exact ⟨h.bel, h.lo', fun k q => h.xs k (hY k q), ⟨h1, h.hh.2⟩, ⟨h2, h.dd.2⟩, F, G, q1, q2, q3, fun k hk => ⟨(q4 k hk).1, fun q => (q4 k hk).2.1 (hY k q), (q4 k hk).2.2⟩, fun k hk => ⟨(q5 k hk).1, fun q => (q5 k hk).2.1 (hY k q), (q5 k hk).2.2⟩⟩
theorem kd_bel {F : Nat → Prop} (h : Kd F wr V) (hF : ∀ k, F k → lo ≤ k) (hl : lo ≤ wr.heap.size) : Below lo wr V := ⟨h.os, h.tape, h.output, h.size, fun k hk => h.same k (by omega) (fun q => by have := hF k q; omega)⟩
theorem Sx.prog (h : Sx w0 lo x pb X wr D E) : ∃ F, Dm wr x F D ∧ (∀ k, F k → lo ≤ k ∧ ¬ X k) ∧ ∀ (V : World) (D' : Dk), Dm V x (up F wr) D' → Kd F wr V → Sx w0 lo x pb X V D' E := by
  obtain ⟨F, G, h1, h2, h3, h4, h5⟩ := h.foot
  refine ⟨F, h1, fun k hk => ⟨(h4 k hk).1, (h4 k hk).2.1⟩, fun V D' hD hK => ?_⟩
  have hl := h.lo'
  have hs := hK.size
  refine ⟨h.bel.trans (kd_bel hK (fun k q => (h4 k q).1) h.lo'), Nat.le_trans h.lo' hs, fun k q => Nat.lt_of_lt_of_le (h.xs k q) hs, ⟨h.hh.1, hK.cell h.hh.2 (fun q => (h4 _ q).2.1 h.hh.1)⟩, ⟨h.dd.1, hK.cell h.dd.2 (fun q => (h4 _ q).2.1 h.dd.1)⟩, K.fc (up F wr) V, G, hD.fc, h2.same (fun k hk hl => hK.same k hl (fun q => h3 k q hk)), fun k q hg => ?_, fun k q => ?_, fun k q => ⟨(h5 k q).1, (h5 k q).2.1, Nat.lt_of_lt_of_le (h5 k q).2.2 hs⟩⟩
  · rcases q.1 with q1 | q1
    · exact h3 k q1 hg
    · have := (h5 k hg).2.2; omega
  · rcases q with ⟨q1 | q1, q2⟩
    · exact ⟨(h4 k q1).1, (h4 k q1).2.1, q2⟩
    · exact ⟨by omega, fun q => by have := h.xs k q; omega, q2⟩
theorem Sx.page (h : Sx w0 lo x pb X wr D E) : ∃ G, Pm wr pb G E ∧ (∀ k, G k → lo ≤ k ∧ ¬ X k) ∧ ∀ (V : World) (E' : Dk), Pm V pb (up G wr) E' → Kd G wr V → Sx w0 lo x pb X V D E' := by
  obtain ⟨F, G, h1, h2, h3, h4, h5⟩ := h.foot
  refine ⟨G, h2, fun k hk => ⟨(h5 k hk).1, (h5 k hk).2.1⟩, fun V E' hE hK => ?_⟩
  have hl := h.lo'
  have hs := hK.size
  refine ⟨h.bel.trans (kd_bel hK (fun k q => (h5 k q).1) h.lo'), Nat.le_trans h.lo' hs, fun k q => Nat.lt_of_lt_of_le (h.xs k q) hs, ⟨h.hh.1, hK.cell h.hh.2 (fun q => (h5 _ q).2.1 h.hh.1)⟩, ⟨h.dd.1, hK.cell h.dd.2 (fun q => (h5 _ q).2.1 h.dd.1)⟩, F, K.fc (up G wr) V, h1.same (fun k hk hl => hK.same k hl (fun q => h3 k hk q)), hE.fc, fun k hf q => ?_, fun k q => ⟨(h4 k q).1, (h4 k q).2.1, Nat.lt_of_lt_of_le (h4 k q).2.2 hs⟩, fun k q => ?_⟩
  · rcases q.1 with q1 | q1
    · exact h3 k hf q1
    · have := (h4 k hf).2.2; omega
  · rcases q with ⟨q1 | q1, q2⟩
    · exact ⟨(h5 k q1).1, (h5 k q1).2.1, q2⟩
    · exact ⟨by omega, fun q => by have := h.xs k q; omega, q2⟩
theorem Er.low {aD aF aN : Addr} (h : Er w0 aD aF aN) (hb : Below lo w0 V) (h1 : 0 < lo) (h2 : 1 < lo) (h3 : 2 < lo) : Er V aD aF aN :=
  ⟨(World.cell?_of_block (hb.block _ h1)).trans h.d, (World.cell?_of_block (hb.block _ h2)).trans h.f, (World.cell?_of_block (hb.block _ h3)).trans h.n⟩
end
end Go.Proofs.YticdedcgmofpjaaDoor.K
