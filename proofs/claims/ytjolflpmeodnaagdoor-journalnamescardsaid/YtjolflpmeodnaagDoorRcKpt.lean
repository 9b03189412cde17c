import Derived.Test.YtjolflpmeodnaagDoorRcLnd
namespace Go.Proofs.YtjolflpmeodnaagDoor
open Go.RowKit
set_option linter.unusedVariables false

/-- The lists of a record that was lent, with their marks. -/
structure Lnd (w : World) (base gd gs ns nd : Nat) (l : List (Int × Int)) (zs : List Int) : Prop where
  dat : Blk .u8 w gd 5 (mkD zs)
  spn : C.SOwn w base (.slice (some ⟨gs, 0, none⟩) (ns + 2) (ns + 2)) (mkS l)
  ndl : zs.length = nd
  nsl : l.length = ns
  ne : gd ≠ gs
  lo : base ≤ gd
  sd : nd ≤ 140737488351232
  ss : ns * 16 ≤ 140737488351232
theorem Lnd.below {w w' : World} {base gd gs ns nd : Nat} {l : List (Int × Int)} {zs : List Int} (h : Lnd w base gd gs ns nd l zs) (hb : Below w.heap.size w w') : Lnd w' base gd gs ns nd l zs :=
  ⟨(hb.block gd (Array.getElem?_eq_some_iff.mp h.dat).1).trans h.dat, own_below6 h.spn hb, h.ndl, h.nsl, h.ne, h.lo, h.sd, h.ss⟩
theorem Lnd.gsl {w : World} {base gd gs ns nd : Nat} {l : List (Int × Int)} {zs : List Int} (h : Lnd w base gd gs ns nd l zs) : base ≤ gs ∧ gs < w.heap.size := h.spn.lt gs rfl
/-- It lies there as any record. -/
theorem Lnd.rin {w : World} {base gd gs ns nd : Nat} {r : Rc} (h : Lnd w base gd gs ns nd r.spans r.data) : RIn w r (some ⟨gs, 0, none⟩) (some ⟨gd, 0, none⟩) ns nd (ns + 2) (nd + 2) := by
  have h1 := h.ndl
  have h2 := h.nsl
  have h3 := h.sd
  have h4 := h.ss
  refine ⟨h.nsl, h.ndl, by omega, ⟨⟨some ⟨gs, 0, none⟩, ns + 2, by rw [h.nsl], .inr ⟨gs, 0, rfl, fun i p hp => ?_⟩, by omega, by omega⟩, by omega⟩, .inr ⟨gd, 0, rfl, fun i hi => ?_⟩, fun h => by cases h⟩
  · have hi : i < r.spans.length := (List.getElem?_eq_some_iff.mp hp).1
    have q := h.spn.cells (k := i) (p := p) (by rw [List.getElem?_append_left hi]; exact hp)
    rw [Nat.zero_add]
    exact ⟨q.1, q.2.1⟩
  · have q := h.dat.cell i (by simp; omega)
    rw [Nat.zero_add, q, List.getD_eq_getElem?_getD, List.getElem?_append_left hi, ← List.getD_eq_getElem?_getD]

end Go.Proofs.YtjolflpmeodnaagDoor
