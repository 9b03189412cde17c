import Derived.Test.YtmbmoadhgmlabafDoorRcLnd
namespace Go.Proofs.YtmbmoadhgmlabafDoor
open Go.RowKit
set_option linter.unusedVariables false

/-- The lists of a record that was lent, with their marks. -/
structure Lnd (w : World) (base gd gs ns nd : Nat) (l : List (Int × Int)) (zs : List Int) : Prop where
  dat : Blk .u8 w gd 5 (mkD zs)
  spn : C.SOwn w base (.slice (some ⟨gs, 0, none⟩) (ns + 2) (ns + 2)) (mkS l)
  ndl : zs.length = nd
  nsl : l.length = ns
  ne : gd ≠ gs
  lo : base ≤ gd
  sd : nd ≤ 140737488351232
  ss : ns * 16 ≤ 140737488351232
theorem Lnd.below {w w' : World} {base gd gs ns nd : Nat} {l : List (Int × Int)} {zs : List Int} (h : Lnd w base gd gs ns nd l zs) (hb : Below w.heap.size w w') : Lnd w' base gd gs ns nd l zs :=
  ⟨(hb.block gd (Array.getElem?_eq_some_iff.mp h.dat).1).trans h.dat, own_below6 h.spn hb, h.ndl, h.nsl, h.ne, h.lo, h.sd, h.ss⟩
theorem Lnd.gsl {w : World} {base gd gs ns nd : Nat} {l : List (Int × Int)} {zs : List Int} (h : Lnd w base gd gs ns nd l zs) : base ≤ gs ∧ gs < w.heap.size := h.spn.lt gs rfl
/-- It lies there as any record. -/
theorem Lnd.rin {w : World} {base gd gs ns nd : Nat} {r : Rc} (h : Lnd w base gd gs ns nd r.spans r.data) : RIn w r (some ⟨gs, 0, none⟩) (some ⟨gd, 0, none⟩) ns nd (ns + 2) (nd + 2) := by
  have h1 := h.ndl
  have h2 := h.nsl
  have h3 := h.sd
  have h4 := h.ss
  refine ⟨h.nsl, h.ndl, by omega, ⟨⟨some ⟨gs, 0, none⟩, ns + 2, by rw [h.nsl], .inr ⟨gs, 0, rfl, fun i p hp => ?_⟩, by omega, by omega⟩, by omega⟩, .inr ⟨gd, 0, rfl, fun i hi => ?_⟩, fun h => by cases h⟩
  · have hi : i < r.spans.length := (List.getElem?_eq_some_iff.mp hp).1
    have q := h.spn.cells (k := i) (p := p) (by rw [List.getElem?_append_left hi]; exact hp)
    rw [Nat.zero_add]
    exact ⟨q.1, q.2.1⟩
  · have q := h.dat.cell i (by simp; omega)
    rw [Nat.zero_add, q, List.getD_eq_getElem?_getD, List.getElem?_append_left hi, ← List.getD_eq_getElem?_getD]

set_option maxRecDepth 100000 in
set_option maxHeartbeats 1000000 in
theorem kept6_any (r : Rc) (base gd gs ns nd : Nat) (l : List (Int × Int)) (zs : List Int) (w : World) (h : Lnd w base gd gs ns nd l zs) :
    Calls Tryd.prog 22 #[.agg (rcC r (.slice (some ⟨gs, 0, none⟩) ns (ns + 2)) (.slice (some ⟨gd, 0, none⟩) nd (nd + 2)))] w fun e w' => e = .returned (.bool true) ∧ Below w.heap.size w w' := by
  have HB : Hid (Below w.heap.size w (w.alloc (rcO r (.slice (some ⟨gs, 0, none⟩) ns (ns + 2)) (.slice (some ⟨gd, 0, none⟩) nd (nd + 2))))) := (Below.refl _ _).alloc (Nat.le_refl _) _
  have h1 := h.below HB.out
  obtain ⟨q1, _, _, _⟩ := h1.spn.cells (rget1 l ns h.nsl (-77, 0) (-78, 0))
  obtain ⟨q2, _, _, _⟩ := h1.spn.cells (rget2 l ns h.nsl (-77, 0) (-78, 0))
  have k1 := h1.dat.cell nd (by have := h.ndl; simp; omega)
  have k2 := h1.dat.cell (nd + 1) (by have := h.ndl; simp; omega)
  rw [List.getD_eq_getElem?_getD, rget1 zs nd h.ndl] at k1
  rw [List.getD_eq_getElem?_getD, rget2 zs nd h.ndl] at k2
  simp only [Option.getD_some] at q1 q2 k1 k2
  have hsd := h.sd
  have hss := h.ss
  clear h h1
  go_enter Tryd.func22, Tryd.ntmps22
  go_wp2
  go_ret
  exact ⟨rfl, HB.out⟩
end Go.Proofs.YtmbmoadhgmlabafDoor
