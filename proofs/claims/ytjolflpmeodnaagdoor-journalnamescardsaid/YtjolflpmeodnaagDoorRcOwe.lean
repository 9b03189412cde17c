import Derived.Test.YtjolflpmeodnaagDoorRcFam
namespace Go.Proofs.YtjolflpmeodnaagDoor
open Go.RowKit
set_option linter.unusedVariables false

theorem Tryd.info_bytes6 : (Tryd.prog.info? 25).map (fun i => (i.zero, i.size, i.bytes)) = some (some (.slice none 0 0), 1, 24) := by kernel_rfl
theorem Tryd.info_spans6 : (Tryd.prog.info? 24).map (fun i => (i.zero, i.size, i.bytes)) = some (some (.slice none 0 0), 1, 24) := by kernel_rfl

theorem Gri.sep {S : Nat → Prop} {w0 w : World} {base R n k : Nat} {X : Rwo} {os : Nat → Ro} {vd vs d s : Value} {dl sl : List Value} {F : Nat → Rwo} (h : Gri S w0 w base R X os n k vd vs d s dl sl F) (hn : n < R) : ∀ j, s.ownBlock = some j → d.ownBlock ≠ some j := fun j h1 h2 => by
  have := h.fam.sep (4 + 2 * n) (3 + 2 * n) j (by omega) (by omega) (by rw [h.here.2]; exact h1) (by rw [h.here.1]; exact h2)
  omega
theorem Gri.sep2 {S : Nat → Prop} {w0 w : World} {base R n k : Nat} {X : Rwo} {os : Nat → Ro} {vd vs d s : Value} {dl sl : List Value} {F : Nat → Rwo} (h : Gri S w0 w base R X os n k vd vs d s dl sl F) : ∀ j, vs.ownBlock = some j → vd.ownBlock ≠ some j := fun j h1 h2 => by
  have := h.fam.sep 1 0 j (by omega) (by omega) (by rw [h.f1]; exact h1) (by rw [h.f0]; exact h2)
  omega
theorem Gri.rows {S : Nat → Prop} {w0 w : World} {base R n k : Nat} {X : Rwo} {os : Nat → Ro} {vd vs d s : Value} {dl sl : List Value} {F : Nat → Rwo} (h : Gri S w0 w base R X os n k vd vs d s dl sl F) : w.ownsRow base 25 1 vd n dl ∧ w.ownsRow base 24 1 vs n sl := by
  have h0 := h.fam.own 0 (by omega)
  have h1 := h.fam.own 1 (by omega)
  rw [h.f0] at h0; rw [h.f1] at h1
  exact ⟨h0, h1⟩
/-- Where the list of records lies. -/
theorem list_cells {w : World} {base R rc : Nat} {ra : Option Addr} {os : Nat → Ro} {cs : List Value} (h : w.ownsRow base 27 11 (.slice ra R rc) R cs) (hc : ∀ i, i < R → ∀ j u, (rcC (os i).r (os i).sv (os i).dv)[j]? = some u → cs[i * 11 + j]? = some u) (n : Nat) (hn : n < R) :
    ∃ g, ra = some ⟨g, 0, none⟩ ∧ ∀ j u, (rcC (os n).r (os n).sv (os n).dv)[j]? = some u → w.cell? ⟨g, n * 11 + j, none⟩ = some u := by
  obtain ⟨g, cap, hv⟩ := C.own_some h (by omega)
  simp only [Value.slice.injEq] at hv
  obtain ⟨rfl, _, rfl⟩ := hv
  refine ⟨g, rfl, fun j u hj => ?_⟩
  have hj2 : j < 11 := (Array.getElem?_eq_some_iff.mp hj).1
  rw [h.cellAt _ (by omega)]
  exact hc n hn j u hj

/-- What the two rows tell at the end. -/
theorem Grd.read {S : Nat → Prop} {w0 w : World} {base R : Nat} {X : Rwo} {os : Nat → Ro} {vd vs : Value} {dl sl : List Value} {F : Nat → Rwo} (h : Grd S w0 w base R X os R vd vs dl sl F) (i : Nat) (hi : i < R) :
    ∃ gD cD gS cS g1 l1 g2 l2, vd = .slice (some ⟨gD, 0, none⟩) R cD ∧ vs = .slice (some ⟨gS, 0, none⟩) R cS ∧ w.cell? ⟨gD, i, none⟩ = some (.slice (some ⟨g1, 0, none⟩) ((os i).r.data.length + 9) l1) ∧ w.cell? ⟨gS, i, none⟩ = some (.slice (some ⟨g2, 0, none⟩) ((os i).r.spans.length + 9) l2) ∧ (∀ k, k < (os i).r.data.length + 9 → w.cell? ⟨g1, k, none⟩ = some (.int .u8 (yM i))) ∧ (∀ k, k < (os i).r.spans.length + 9 → w.cell? ⟨g2, k * 2, none⟩ = some (.int .i64 (zM i))) := by
  have h0 := h.fam.own 0 (by omega)
  have h1 := h.fam.own 1 (by omega)
  rw [h.f0] at h0; rw [h.f1] at h1
  simp only at h0 h1
  obtain ⟨d, s, q1, q2, q3, q4⟩ := h.done i hi
  have h2 := h.fam.own (3 + 2 * i) (by omega)
  have h3 := h.fam.own (4 + 2 * i) (by omega)
  rw [q3] at h2; rw [q4] at h3
  have h2' : DOwn w base d (List.replicate ((os i).r.data.length + 9) (yM i)) := h2
  have h3' : C.SOwn w base s (List.replicate ((os i).r.spans.length + 9) (zM i, 0)) := h3
  obtain ⟨gD, cD, rfl⟩ := C.own_some h0 (by omega)
  obtain ⟨gS, cS, rfl⟩ := C.own_some h1 (by omega)
  obtain ⟨g1, l1, hd⟩ := C.own_some h2' (by simp)
  obtain ⟨g2, l2, hs⟩ := C.own_some h3' (by simp)
  rw [List.length_replicate] at hd hs
  subst hd hs
  refine ⟨gD, cD, gS, cS, g1, l1, g2, l2, rfl, rfl, (h0.cellAt i (by omega)).trans q1, (h1.cellAt i (by omega)).trans q2, fun k hk => (h2'.cells (k := k) (x := yM i) ?_).1, fun k hk => (h3'.cells (k := k) (p := (zM i, 0)) ?_).1⟩
  · rw [List.getElem?_replicate, if_pos hk]
  · rw [List.getElem?_replicate, if_pos hk]

end Go.Proofs.YtjolflpmeodnaagDoor
