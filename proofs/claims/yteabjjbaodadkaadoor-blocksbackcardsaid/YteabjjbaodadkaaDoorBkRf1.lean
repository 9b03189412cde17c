import Derived.Test.YteabjjbaodadkaaDoorAll
import Derived.Test.YteabjjbaodadkaaDoorBkCut
import Derived.Deep.RegionHeld3
import Derived.Test.YteabjjbaodadkaaDoorBkGrn
namespace Go.Proofs.YteabjjbaodadkaaDoor
open Go.RowKit

/-! ## The reference: numbers, types, sessions, parcels -/

set_option maxHeartbeats 1000000 in
theorem session2_any (k : Pk) (w : World) :
    Calls Tryd.prog 33 #[.agg #[.int .i64 k.org, .int .i64 k.num]] w fun e w' => e = .returned (.bool (sesB k)) ∧ Below w.heap.size w w' := by
  have HB : Hid (Below w.heap.size w (w.alloc (.cells #[.int .i64 k.org, .int .i64 k.num] 43))) := (Below.refl _ _).alloc (Nat.le_refl _) _
  have HS : Hid (sesB k = decide (1 ≤ k.org ∧ k.org ≤ 4611686018427387903 ∧ 1 ≤ k.num ∧ k.num ≤ 4611686018427387902)) := rfl
  generalize sesB k = q at *
  go_enter Tryd.func33, Tryd.ntmps33
  by_cases h0 : 1 ≤ k.org
  rotate_left
  · go_wp2
    go_ret
    exact ⟨by rw [HS.out, decide_eq_false (by omega)]; rfl, HB.out⟩
  by_cases h1 : k.org ≤ 4611686018427387903
  rotate_left
  · go_wp2
    go_ret
    exact ⟨by rw [HS.out, decide_eq_false (by omega)]; rfl, HB.out⟩
  by_cases h2 : 1 ≤ k.num
  rotate_left
  · go_wp2
    go_ret
    exact ⟨by rw [HS.out, decide_eq_false (by omega)]; rfl, HB.out⟩
  by_cases h3 : k.num < 4611686018427387903
  rotate_left
  · go_wp2
    go_ret
    exact ⟨by rw [HS.out, decide_eq_false (by omega)]; rfl, HB.out⟩
  go_wp2
  go_ret
  exact ⟨by rw [HS.out, decide_eq_true (by omega)]; rfl, HB.out⟩

set_option maxHeartbeats 1000000 in
theorem parcel2_any (k : Pk) (w : World) :
    Calls Tryd.prog 34 #[.agg #[.int .i64 k.srv, .int .i64 k.size, .int .i64 k.red, .int .i64 k.mtu, .int .i64 k.every]] w fun e w' => e = .returned (.bool (pclB k)) ∧ Below w.heap.size w w' := by
  have HB : Hid (Below w.heap.size w (w.alloc (.cells #[.int .i64 k.srv, .int .i64 k.size, .int .i64 k.red, .int .i64 k.mtu, .int .i64 k.every] 45))) := (Below.refl _ _).alloc (Nat.le_refl _) _
  have HS : Hid (pclB k = decide (0 ≤ k.srv ∧ k.srv ≤ 4611686018427387903 ∧ 1 ≤ k.size ∧ k.size ≤ 65536 ∧ 0 ≤ k.red ∧ k.red ≤ k.size ∧ 80 ≤ k.mtu ∧ k.mtu ≤ 4096 ∧ 0 ≤ k.every ∧ k.every ≤ 65536)) := rfl
  generalize pclB k = q at *
  go_enter Tryd.func34, Tryd.ntmps34
  by_cases h0 : 0 ≤ k.srv
  rotate_left
  · go_wp2
    go_ret
    exact ⟨by rw [HS.out, decide_eq_false (by omega)]; rfl, HB.out⟩
  by_cases h1 : k.srv ≤ 4611686018427387903
  rotate_left
  · go_wp2
    go_ret
    exact ⟨by rw [HS.out, decide_eq_false (by omega)]; rfl, HB.out⟩
  by_cases h2 : 1 ≤ k.size
  rotate_left
  · go_wp2
    go_ret
    exact ⟨by rw [HS.out, decide_eq_false (by omega)]; rfl, HB.out⟩
  by_cases h3 : k.size ≤ 65536
  rotate_left
  · go_wp2
    go_ret
    exact ⟨by rw [HS.out, decide_eq_false (by omega)]; rfl, HB.out⟩
  by_cases h4 : 0 ≤ k.red
  rotate_left
  · go_wp2
    go_ret
    exact ⟨by rw [HS.out, decide_eq_false (by omega)]; rfl, HB.out⟩
  by_cases h5 : k.red ≤ k.size
  rotate_left
  · go_wp2
    go_ret
    exact ⟨by rw [HS.out, decide_eq_false (by omega)]; rfl, HB.out⟩
  by_cases h6 : 80 ≤ k.mtu
  rotate_left
  · go_wp2
    go_ret
    exact ⟨by rw [HS.out, decide_eq_false (by omega)]; rfl, HB.out⟩
  by_cases h7 : k.mtu ≤ 4096
  rotate_left
  · go_wp2
    go_ret
    exact ⟨by rw [HS.out, decide_eq_false (by omega)]; rfl, HB.out⟩
  by_cases h8 : 0 ≤ k.every
  rotate_left
  · go_wp2
    go_ret
    exact ⟨by rw [HS.out, decide_eq_false (by omega)]; rfl, HB.out⟩
  by_cases h9 : k.every ≤ 65536
  rotate_left
  · go_wp2
    go_ret
    exact ⟨by rw [HS.out, decide_eq_false (by omega)]; rfl, HB.out⟩
  go_wp2
  go_ret
  exact ⟨by rw [HS.out, decide_eq_true (by omega)]; rfl, HB.out⟩

end Go.Proofs.YteabjjbaodadkaaDoor

namespace Go.Proofs.YteabjjbaodadkaaDoor
open Go.RowKit

/-- What lies there while the calls go on. -/
def BX (w : World) (k : Pk) (x : Pc) (V : World) : Prop := V.heap[w.heap.size]? = some (.cells #[.int .i64 k.org, .int .i64 k.num] 43) ∧ V.heap[w.heap.size + 1]? = some (.cells (pcC x) 57) ∧ Below w.heap.size w V
theorem BX.s0 {w V : World} {k : Pk} {x : Pc} (h : BX w k x V) : V.cell? ⟨w.heap.size, 0, none⟩ = some (.int .i64 k.org) := cell_of_row _ _ 0 _ _ _ h.1
theorem BX.s1 {w V : World} {k : Pk} {x : Pc} (h : BX w k x V) : V.cell? ⟨w.heap.size, 1, none⟩ = some (.int .i64 k.num) := cell_of_row _ _ 1 _ _ _ h.1
theorem BX.x0 {w V : World} {k : Pk} {x : Pc} (h : BX w k x V) : V.cell? ⟨w.heap.size + 1, 0, none⟩ = some (.int .i64 x.typ) := cell_of_row _ _ 0 _ _ _ h.2.1
theorem BX.x1 {w V : World} {k : Pk} {x : Pc} (h : BX w k x V) : V.cell? ⟨w.heap.size + 1, 1, none⟩ = some (.int .i64 x.frm) := cell_of_row _ _ 1 _ _ _ h.2.1
theorem BX.x3 {w V : World} {k : Pk} {x : Pc} (h : BX w k x V) : V.cell? ⟨w.heap.size + 1, 3, none⟩ = some (.int .i64 x.chk) := cell_of_row _ _ 3 _ _ _ h.2.1
theorem BX.x4 {w V : World} {k : Pk} {x : Pc} (h : BX w k x V) : V.cell? ⟨w.heap.size + 1, 4, none⟩ = some (.int .i64 x.rep) := cell_of_row _ _ 4 _ _ _ h.2.1
theorem BX.below {w V V' : World} {k : Pk} {x : Pc} (h : BX w k x V) (hb : Below V.heap.size V V') : BX w k x V' :=
  ⟨(hb.block _ (Array.getElem?_eq_some_iff.1 h.1).1).trans h.1, (hb.block _ (Array.getElem?_eq_some_iff.1 h.2.1).1).trans h.2.1, h.2.2.trans (hb.mono h.2.2.size)⟩
theorem BX.drew {w V : World} {k : Pk} {x : Pc} (h : BX w k x V) : BX w k x V.drew := ⟨h.1, h.2.1, h.2.2.drew⟩

end Go.Proofs.YteabjjbaodadkaaDoor

namespace Go.Proofs.YteabjjbaodadkaaDoor
open Go.RowKit

/-- What lies there while the reference looks for the room. -/
structure RmI (k : Pk) (w : World) (x : Pc) (n : Nat) (wr : World) : Prop where
  ses : wr.heap[w.heap.size]? = some (.cells #[.int .i64 k.org, .int .i64 k.num] 43)
  pcl : wr.heap[w.heap.size + 1]? = some (.cells #[.int .i64 k.srv, .int .i64 k.size, .int .i64 k.red, .int .i64 k.mtu, .int .i64 k.every] 45)
  box : ∃ t : Int, wr.heap[w.heap.size + 2]? = some (.cells #[.int .i64 x.typ, .int .i64 x.frm, .int .i64 t, .int .i64 x.chk, .int .i64 x.rep] 57)
  bel : Below w.heap.size w wr
  fit : n = 0 ∨ fitB (frX k x) k.mtu n = true

theorem set5 {w : World} {b : Nat} {a0 a1 a2 a3 a4 u : Value} {t : TypeId} (h : w.heap[b]? = some (.cells #[a0, a1, a2, a3, a4] t (0, 0))) : (w.setCell ⟨b, 2, none⟩ u).heap[b]? = some (.cells #[a0, a1, u, a3, a4] t (0, 0)) := by
  have hb := (Array.getElem?_eq_some_iff.1 h).1
  simp [World.setCell, Array.getElem?_modify, h]

theorem RmI.set {k : Pk} {w wr : World} {x : Pc} {n : Nat} (h : RmI k w x n wr) (t : Int) : RmI k w x n (wr.setCell ⟨w.heap.size + 2, 2, none⟩ (.int .i64 t)) ∧ (wr.setCell ⟨w.heap.size + 2, 2, none⟩ (.int .i64 t)).heap[w.heap.size + 2]? = some (.cells #[.int .i64 x.typ, .int .i64 x.frm, .int .i64 t, .int .i64 x.chk, .int .i64 x.rep] 57) := by
  obtain ⟨t0, hb⟩ := h.box
  have h5 := set5 (u := .int .i64 t) hb
  exact ⟨⟨(Below.heap_setCell _ _ _ _ (by simp)).trans h.ses, (Below.heap_setCell _ _ _ _ (by simp)).trans h.pcl, ⟨t, h5⟩, h.bel.setCell (by simp) _, h.fit⟩, h5⟩
theorem RmI.below {k : Pk} {w wr wr' : World} {x : Pc} {n : Nat} (h : RmI k w x n wr) (hb : Below wr.heap.size wr wr') : RmI k w x n wr' := by
  obtain ⟨t0, hx⟩ := h.box
  exact ⟨(hb.block _ (Array.getElem?_eq_some_iff.1 h.ses).1).trans h.ses, (hb.block _ (Array.getElem?_eq_some_iff.1 h.pcl).1).trans h.pcl, ⟨t0, (hb.block _ (Array.getElem?_eq_some_iff.1 hx).1).trans hx⟩, h.bel.trans (hb.mono h.bel.size), h.fit⟩

end Go.Proofs.YteabjjbaodadkaaDoor

namespace Go.Proofs.YteabjjbaodadkaaDoor
open Go.RowKit

/-- The reference asks for a checkpoint where the program does. -/
theorem redC_iff {k : Pk} {at' base plains : Int} (hp : 0 ≤ plains) : redC k at' base plains = (decide (k.red - at' ≤ ro1 k at' (base + 1) 0) || (decide (0 < k.every) && decide (plains = k.every - 1))) := by
  rw [Bool.eq_iff_iff]
  simp only [redC, Bool.or_eq_true, Bool.and_eq_true, decide_eq_true_eq]
  constructor
  · rintro (h | h)
    · left; omega
    · right; omega
  · rintro (h | h)
    · left; omega
    · right; omega

/-- How far the reference has cut: the red part. -/
structure CR (k : Pk) (w : World) (base0 : Int) (v : Value) (at' base plains : Int) (l : List Pc) (f : Nat) (wr : World) : Prop where
  lo : 0 ≤ at'
  hi : at' ≤ k.red
  own : POwn wr (w.heap.size + 2) v l
  bel : Below w.heap.size w wr
  ses : wr.heap[w.heap.size]? = some (.cells #[.int .i64 k.org, .int .i64 k.num] 43)
  pcl : wr.heap[w.heap.size + 1]? = some (.cells #[.int .i64 k.srv, .int .i64 k.size, .int .i64 k.red, .int .i64 k.mtu, .int .i64 k.every] 45)
  whole : redG k k.red.toNat 0 base0 0 = l ++ redG k f at' base plains
  fuel : k.red - at' ≤ f
  len : l.length ≤ at'
  bas : base0 ≤ base ∧ base ≤ base0 + l.length
  pla : 0 ≤ plains ∧ plains ≤ l.length
theorem CR.size {k : Pk} {w wr : World} {b0 b p : Int} {v : Value} {at' : Int} {l : List Pc} {f : Nat} (h : CR k w b0 v at' b p l f wr) : w.heap.size + 2 ≤ wr.heap.size := by
  obtain ⟨hi, _⟩ := Array.getElem?_eq_some_iff.mp h.pcl; exact hi

theorem CR.step {k : Pk} {w wr W w5 : World} {b0 b p : Int} {v v' : Value} {at' : Int} {l : List Pc} {f : Nat} (h : CR k w b0 v at' b p l f wr) (ok : k.Ok) (hlt : at' < k.red) (hb0 : 0 ≤ b0 ∧ b0 ≤ 4611686018427322367) (hb : Below wr.heap.size wr W)
    (hown : w5.ownsRow (w.heap.size + 2) 57 5 v' (l.length + 1) (l.flatMap pcL ++ pcL (nxP k at' b p))) (hgr : W.grownBy w5 v.ownBlock) : ∃ f', CR k w b0 v' (nxP k at' b p).to (nxB k at' b p) (nxN k at' b p) (l ++ [nxP k at' b p]) f' w5 := by
  have hlen := h.len; have hhi := h.hi; have hbas := h.bas; have hpla := h.pla; have hsz := ok.size; have hrd := ok.red
  have hto := nxP_to ok (base := b) (plains := p) h.lo hlt ⟨by omega, by omega⟩
  have hfu := h.fuel
  obtain ⟨f', rfl⟩ : ∃ f', f = f' + 1 := ⟨f - 1, by omega⟩
  have hrow := row_ge h.own
  have hs := h.size
  refine ⟨f', by have := h.lo; omega, hto.2, ?_, ?_, ?_, ?_, ?_, by omega, ?_, ?_, ?_⟩
  · unfold POwn
    rw [List.flatMap_append, show (l ++ [nxP k at' b p]).length = l.length + 1 from by simp, show [nxP k at' b p].flatMap pcL = pcL (nxP k at' b p) from by simp]
    exact hown
  · exact (h.bel.trans (hb.mono (by omega))).grown hgr (by have := hb.size; omega) (fun r hr => by have := hrow r hr; omega)
  · rw [hgr.block _ (by have := hb.size; omega) (fun e => by have := hrow _ e.symm; omega), hb.block _ (by omega)]
    exact h.ses
  · rw [hgr.block _ (by have := hb.size; omega) (fun e => by have := hrow _ e.symm; omega), hb.block _ (by omega)]
    exact h.pcl
  · rw [h.whole, redG_nx hlt]; simp
  · simp; omega
  · simp only [List.length_append, List.length_cons, List.length_nil]
    unfold nxB; split <;> omega
  · simp only [List.length_append, List.length_cons, List.length_nil]
    unfold nxN; split <;> omega

/-- The green part, behind what the red one laid (l0). -/
structure CG (k : Pk) (w : World) (l0 : List Pc) (v : Value) (at' : Int) (l : List Pc) (f : Nat) (wr : World) : Prop where
  lo : k.red ≤ at'
  hi : at' ≤ k.size
  own : POwn wr (w.heap.size + 2) v (l0 ++ l)
  bel : Below w.heap.size w wr
  ses : wr.heap[w.heap.size]? = some (.cells #[.int .i64 k.org, .int .i64 k.num] 43)
  pcl : wr.heap[w.heap.size + 1]? = some (.cells #[.int .i64 k.srv, .int .i64 k.size, .int .i64 k.red, .int .i64 k.mtu, .int .i64 k.every] 45)
  whole : grnG k (k.size - k.red).toNat k.red = l ++ grnG k f at'
  fuel : k.size - at' ≤ f
  len : (l0 ++ l).length ≤ at'
theorem CG.size {k : Pk} {w wr : World} {v : Value} {at' : Int} {l0 l : List Pc} {f : Nat} (h : CG k w l0 v at' l f wr) : w.heap.size + 2 ≤ wr.heap.size := by
  obtain ⟨hi, _⟩ := Array.getElem?_eq_some_iff.mp h.pcl; exact hi

theorem CG.step {k : Pk} {w wr W w5 : World} {v v' : Value} {at' : Int} {l0 l : List Pc} {f : Nat} (h : CG k w l0 v at' l f wr) (ok : k.Ok) (hlt : at' < k.size) (hb : Below wr.heap.size wr W)
    (hown : w5.ownsRow (w.heap.size + 2) 57 5 v' ((l0 ++ l).length + 1) ((l0 ++ l).flatMap pcL ++ pcL (gPc k at'))) (hgr : W.grownBy w5 v.ownBlock) : ∃ f', CG k w l0 v' (gPc k at').to (l ++ [gPc k at']) f' w5 := by
  have hto := gPc_to ok (by have := ok.red; have := h.lo; omega) hlt
  have hfu := h.fuel
  obtain ⟨f', rfl⟩ : ∃ f', f = f' + 1 := ⟨f - 1, by omega⟩
  have hrow := row_ge h.own
  have hs := h.size
  refine ⟨f', by have := h.lo; omega, hto.2, ?_, ?_, ?_, ?_, ?_, by omega, ?_⟩
  · unfold POwn
    rw [← List.append_assoc, List.flatMap_append, show ((l0 ++ l) ++ [gPc k at']).length = (l0 ++ l).length + 1 from by simp; omega, show [gPc k at'].flatMap pcL = pcL (gPc k at') from by simp]
    exact hown
  · exact (h.bel.trans (hb.mono (by omega))).grown hgr (by have := hb.size; omega) (fun r hr => by have := hrow r hr; omega)
  · rw [hgr.block _ (by have := hb.size; omega) (fun e => by have := hrow _ e.symm; omega), hb.block _ (by omega)]
    exact h.ses
  · rw [hgr.block _ (by have := hb.size; omega) (fun e => by have := hrow _ e.symm; omega), hb.block _ (by omega)]
    exact h.pcl
  · rw [h.whole, grnG, if_pos hlt]; simp
  · have := h.len
    simp only [List.length_append, List.length_cons, List.length_nil] at *; omega

/-- From the red part to the green one; and the end. -/
theorem CR.green {k : Pk} {w wr : World} {b0 b p : Int} {v : Value} {at' : Int} {l : List Pc} {f : Nat} (h : CR k w b0 v at' b p l f wr) (ok : k.Ok) (hge : k.red ≤ at') : at' = k.red ∧ l = redG k k.red.toNat 0 b0 0 ∧ CG k w l v k.red [] (k.size - k.red).toNat wr := by
  have hat : at' = k.red := by have := h.hi; omega
  have hw := h.whole
  rw [redG_end hge, List.append_nil] at hw
  have hr := ok.red
  refine ⟨hat, hw.symm, by omega, by omega, by rw [List.append_nil]; exact h.own, h.bel, h.ses, h.pcl, rfl, by omega, ?_⟩
  rw [List.append_nil, ← hat]; exact h.len
theorem CG.done {k : Pk} {w wr : World} {b0 : Int} {v : Value} {at' : Int} {l : List Pc} {f : Nat} (h : CG k w (redG k k.red.toNat 0 b0 0) v at' l f wr) (hge : k.size ≤ at') : POwn wr w.heap.size v (cutL k b0) := by
  have hw := h.whole
  have he : grnG k f at' = [] := by
    cases f with
    | zero => rfl
    | succ f => rw [grnG, if_neg (by omega)]
  rw [he, List.append_nil] at hw
  unfold cutL
  rw [hw]
  exact h.own.weak (by omega)

end Go.Proofs.YteabjjbaodadkaaDoor

namespace Go.Proofs.YteabjjbaodadkaaDoor
open Go.RowKit

theorem setAll {w : World} {b : Nat} {a0 a1 a2 a3 a4 u0 u1 u2 u3 u4 : Value} {t : TypeId} (h : w.heap[b]? = some (.cells #[a0, a1, a2, a3, a4] t (0, 0))) : (((((w.setCell ⟨b, 0, none⟩ u0).setCell ⟨b, 1, none⟩ u1).setCell ⟨b, 2, none⟩ u2).setCell ⟨b, 3, none⟩ u3).setCell ⟨b, 4, none⟩ u4).heap[b]? = some (.cells #[u0, u1, u2, u3, u4] t (0, 0)) := by
  have hb := (Array.getElem?_eq_some_iff.1 h).1
  simp [World.setCell, Array.getElem?_modify, h]
theorem set50 {w : World} {b : Nat} {a0 a1 a2 a3 a4 u : Value} {t : TypeId} (h : w.heap[b]? = some (.cells #[a0, a1, a2, a3, a4] t (0, 0))) : (w.setCell ⟨b, 0, none⟩ u).heap[b]? = some (.cells #[u, a1, a2, a3, a4] t (0, 0)) := by
  have hb := (Array.getElem?_eq_some_iff.1 h).1
  simp [World.setCell, Array.getElem?_modify, h]

end Go.Proofs.YteabjjbaodadkaaDoor
