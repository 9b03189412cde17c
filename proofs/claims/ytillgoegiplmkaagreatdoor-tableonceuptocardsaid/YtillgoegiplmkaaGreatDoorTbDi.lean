import Derived.Test.YtillgoegiplmkaaGreatDoorTbDb
import Derived.Test.YtillgoegiplmkaaGreatDoorJoi
import Derived.Test.YtillgoegiplmkaaGreatDoorTbCg
import Derived.Deep.RegionHeld3
import Derived.Test.YtillgoegiplmkaaGreatDoorTbT
namespace Go.Proofs.YtillgoegiplmkaaGreatDoor.B
open C
open Go.RowKit Go.Maps
set_option linter.unusedVariables false
set_option linter.unusedSimpArgs false

set_option maxRecDepth 8000 in
set_option maxHeartbeats 4000000 in
theorem recall_then {w : World} {z : Tz} {T : T8} (h : Tw w z T) (r : Rc) (hr : sW (sR r)) (sv dv : Value) : Calls Tryz.prog 113 #[tP z, .agg (rcC r sv dv)] w (ThP z (T.putI (⟨r.org, r.num, r.srv, r.red, r.size, [(0, r.red)], [], true, false, true, false, 0⟩ : Ic)) w) := by
  obtain ⟨W, hW⟩ : ∃ W, w.alloc (rcO r sv dv) = W := ⟨_, rfl⟩
  have HW : Hid (w.alloc (rcO r sv dv) = W) := hW
  have hbx : Below w.heap.size w W := by rw [← hW]; exact (Below.refl _ _).alloc (Nat.le_refl _) _
  have hbd : Below w.heap.size w W.drew := hbx.drew
  have hp : W.heap[w.heap.size]? = some (rcO r sv dv) := by rw [← hW]; exact heap_alloc_new' w _
  have hT := h.below hbx
  obtain ⟨c0, c1, c2, c3, c4, c5⟩ := hT.c
  obtain ⟨k0, k1, k2, k3, k4, k5, k6, k7, k8, k9, k10⟩ := rc_cells hp
  obtain ⟨g, hg⟩ : ∃ g, W.heap.size = g := ⟨_, rfl⟩
  have hwg : w.heap.size < g := by rw [← hg, ← hW]; simp
  have hb1 : Below w.heap.size w ((W.alloc (.cells #[.int .i64 0, .int .i64 r.red] 90)).drew) := (hbx.alloc hbx.size _).drew
  have hq1 : ((W.alloc (.cells #[.int .i64 0, .int .i64 r.red] 90)).drew).heap[g]? = some (.cells #[.int .i64 0, .int .i64 r.red] 90) := by rw [← hg]; exact heap_alloc_new' W _
  have hp1 : ((W.alloc (.cells #[.int .i64 0, .int .i64 r.red] 90)).drew).heap[w.heap.size]? = some (rcO r sv dv) := (Below.heap_alloc _ _ _ (by omega)).trans hp
  have hso : SO ((W.alloc (.cells #[.int .i64 0, .int .i64 r.red] 90)).drew) (.slice (some ⟨g, 0, none⟩) 1 1) [(0, r.red)] := ⟨rfl, .inr ⟨g, 1, _, rfl, Nat.zero_le _, hq1, Nat.le_refl _, by unfold maxLen; omega, rfl, rfl⟩⟩
  obtain ⟨w2, z', hrun, hT2, hU2⟩ := h.putI (o := (⟨r.org, r.num, r.srv, r.red, r.size, [(0, r.red)], [], true, false, true, false, 0⟩ : Ic)) (hv := .slice (some ⟨g, 0, none⟩) 1 1) (dv := .slice none 0 0) (Kl.of_below hb1) hr (World.ownsRow_nil _ _ _ _) hso (fun x q => by cases q) (fun x q => .inr (by simp only [Value.ownBlock, Option.some.injEq] at q; omega))
  have hkl := updX_kl Tryz.underlying69 (h.below hb1).pI.mp hr hrun
  have hrun : (Instr.mapUpdate 69 (.map (some z.m2)) (.agg #[.int .i64 r.org, .int .i64 r.num]) (.agg #[.int .i64 r.org, .int .i64 r.num, .int .i64 r.srv, .int .i64 r.red, .int .i64 r.size, .slice (some ⟨g, 0, none⟩) 1 1, .slice none 0 0, .bool true, .bool false, .bool true, .bool false, .int .i64 0])).run Tryz.prog ((W.alloc (.cells #[.int .i64 0, .int .i64 r.red] 90)).drew) = .ok () w2 := hrun
  have HT : Hid (Tw w2 z' (T.putI (⟨r.org, r.num, r.srv, r.red, r.size, [(0, r.red)], [], true, false, true, false, 0⟩ : Ic)) ∧ Up z z' w w2) := ⟨hT2, hU2⟩
  have hm2 : z.m2 < w.heap.size := h.ltp h.pI.pm
  have hxm : z.x ≠ z.m2 := fun q => by have := h.px; rw [q, h.pI.pm] at this; cases this
  have HK : Hid (∀ V : World, V.heap[z.x]? = W.heap[z.x]? → V.heap[w.heap.size]? = some (rcO r sv dv) → V.cell? ⟨z.x, 4, none⟩ = some (.map (some z.m2)) ∧ V.cell? ⟨w.heap.size, 1, none⟩ = some (.int .i64 r.org) ∧ V.cell? ⟨w.heap.size, 2, none⟩ = some (.int .i64 r.num) ∧ V.cell? ⟨w.heap.size, 4, none⟩ = some (.int .i64 r.srv) ∧ V.cell? ⟨w.heap.size, 6, none⟩ = some (.int .i64 r.red) ∧ V.cell? ⟨w.heap.size, 7, none⟩ = some (.int .i64 r.size)) := fun V q1 q2 => by
    have q3 := q1.trans hT.box
    exact ⟨(cell_of_row _ _ _ _ _ _ q3).trans rfl, (cell_of_row _ _ _ _ _ _ q2).trans rfl, (cell_of_row _ _ _ _ _ _ q2).trans rfl, (cell_of_row _ _ _ _ _ _ q2).trans rfl, (cell_of_row _ _ _ _ _ _ q2).trans rfl, (cell_of_row _ _ _ _ _ _ q2).trans rfl⟩
  have hxl : z.x < W.heap.size := hT.ltp hT.px
  have K0 : Hid ((fun V : World => V.cell? ⟨z.x, 4, none⟩ = some (.map (some z.m2)) ∧ V.cell? ⟨w.heap.size, 1, none⟩ = some (.int .i64 r.org) ∧ V.cell? ⟨w.heap.size, 2, none⟩ = some (.int .i64 r.num) ∧ V.cell? ⟨w.heap.size, 4, none⟩ = some (.int .i64 r.srv) ∧ V.cell? ⟨w.heap.size, 6, none⟩ = some (.int .i64 r.red) ∧ V.cell? ⟨w.heap.size, 7, none⟩ = some (.int .i64 r.size)) W) := HK.out W rfl hp
  have K1 : Hid ((fun V : World => V.cell? ⟨z.x, 4, none⟩ = some (.map (some z.m2)) ∧ V.cell? ⟨w.heap.size, 1, none⟩ = some (.int .i64 r.org) ∧ V.cell? ⟨w.heap.size, 2, none⟩ = some (.int .i64 r.num) ∧ V.cell? ⟨w.heap.size, 4, none⟩ = some (.int .i64 r.srv) ∧ V.cell? ⟨w.heap.size, 6, none⟩ = some (.int .i64 r.red) ∧ V.cell? ⟨w.heap.size, 7, none⟩ = some (.int .i64 r.size)) W.drew) := HK.out W.drew rfl hp
  have K2 : Hid ((fun V : World => V.cell? ⟨z.x, 4, none⟩ = some (.map (some z.m2)) ∧ V.cell? ⟨w.heap.size, 1, none⟩ = some (.int .i64 r.org) ∧ V.cell? ⟨w.heap.size, 2, none⟩ = some (.int .i64 r.num) ∧ V.cell? ⟨w.heap.size, 4, none⟩ = some (.int .i64 r.srv) ∧ V.cell? ⟨w.heap.size, 6, none⟩ = some (.int .i64 r.red) ∧ V.cell? ⟨w.heap.size, 7, none⟩ = some (.int .i64 r.size)) ((W.alloc (.cells #[.int .i64 0, .int .i64 r.red] 90)).drew)) := HK.out _ (Below.heap_alloc _ _ _ hxl) hp1
  have K3 : Hid ((fun V : World => V.cell? ⟨z.x, 4, none⟩ = some (.map (some z.m2)) ∧ V.cell? ⟨w.heap.size, 1, none⟩ = some (.int .i64 r.org) ∧ V.cell? ⟨w.heap.size, 2, none⟩ = some (.int .i64 r.num) ∧ V.cell? ⟨w.heap.size, 4, none⟩ = some (.int .i64 r.srv) ∧ V.cell? ⟨w.heap.size, 6, none⟩ = some (.int .i64 r.red) ∧ V.cell? ⟨w.heap.size, 7, none⟩ = some (.int .i64 r.size)) w2) := HK.out _ ((hkl.block _ (by show z.x < (W.alloc _).heap.size; simp; omega) hxm).trans (Below.heap_alloc _ _ _ hxl)) ((hkl.block _ (by show w.heap.size < (W.alloc _).heap.size; simp; omega) (by omega)).trans hp1)
  have HG : Hid (W.heap.size = g) := hg
  rw [← hg] at hrun
  clear h hT hW hbx hbd hp hT2 hU2 hb1 hq1 hp1 hso hkl hm2 hxm hxl HK hg hwg c0 c1 c2 c3 c4 c5 k0 k1 k2 k3 k4 k5 k6 k7 k8 k9 k10
  go_enter Tryz.func113, Tryz.ntmps113
  go_wp2
  rw [HW.out]
  have hS := K0.out
  go_region_held3 (fun V => V.cell? ⟨z.x, 4, none⟩ = some (.map (some z.m2)) ∧ V.cell? ⟨w.heap.size, 1, none⟩ = some (.int .i64 r.org) ∧ V.cell? ⟨w.heap.size, 2, none⟩ = some (.int .i64 r.num) ∧ V.cell? ⟨w.heap.size, 4, none⟩ = some (.int .i64 r.srv) ∧ V.cell? ⟨w.heap.size, 6, none⟩ = some (.int .i64 r.red) ∧ V.cell? ⟨w.heap.size, 7, none⟩ = some (.int .i64 r.size)) (first | assumption | exact K1.out | exact K2.out | exact K3.out) (fail)
  all_goals go_wp2
  all_goals go_end0
  all_goals exact ⟨rfl, z', HT.out⟩
end Go.Proofs.YtillgoegiplmkaaGreatDoor.B

namespace Go.Proofs.YtillgoegiplmkaaGreatDoor.B
open C
open Go.RowKit Go.Maps
set_option linter.unusedVariables false
set_option linter.unusedSimpArgs false

set_option maxRecDepth 8000 in
set_option maxHeartbeats 4000000 in
theorem settle_a {w : World} {z : Tz} {T : T8} (h : Tw w z T) (hok : T.Ok) (h0 : T.id ≠ 0) (org num srv red size how : Int) (hvl : List Sp) (data : List Int) (done gone shut : Bool) (au av : Option Addr) (nu nv cu cv : Nat) (ho : 1 ≤ org ∧ org ≤ mxN ∧ org ≠ T.id) (hn : 1 ≤ num ∧ num < mxN) (hrd : BO w (.slice av nv cv) data) (hrh : SO w (.slice au nu cu) hvl) (hd : ∀ g, (Value.slice av nv cv).ownBlock = some g → (∃ e ∈ z.I, e.i.s = (org, num) ∧ e.dv.ownBlock = some g) ∨ w.heap.size ≤ g) (he : ∀ g, (Value.slice au nu cu).ownBlock = some g → (∃ e ∈ z.I, e.i.s = (org, num) ∧ e.hv.ownBlock = some g) ∨ w.heap.size ≤ g) : Calls Tryz.prog 141 #[tP z, .agg #[.int .i64 org, .int .i64 num, .int .i64 srv, .int .i64 red, .int .i64 size, .slice au nu cu, .slice av nv cv, .bool done, .bool gone, .bool false, .bool shut, .int .i64 how]] w (ThP z (T.putI (⟨org, num, srv, red, size, hvl, data, done, gone, false, shut, how⟩ : Ic)) w) := by
  obtain ⟨W, hW⟩ : ∃ W, w.alloc (.cells #[.int .i64 org, .int .i64 num, .int .i64 srv, .int .i64 red, .int .i64 size, .slice au nu cu, .slice av nv cv, .bool done, .bool gone, .bool false, .bool shut, .int .i64 how] 63) = W := ⟨_, rfl⟩
  have HW : Hid (w.alloc (.cells #[.int .i64 org, .int .i64 num, .int .i64 srv, .int .i64 red, .int .i64 size, .slice au nu cu, .slice av nv cv, .bool done, .bool gone, .bool false, .bool shut, .int .i64 how] 63) = W) := hW
  have hbx : Below w.heap.size w W := by rw [← hW]; exact (Below.refl _ _).alloc (Nat.le_refl _) _
  have hbd : Below w.heap.size w W.drew := hbx.drew
  have hp : W.heap[w.heap.size]? = some (.cells #[.int .i64 org, .int .i64 num, .int .i64 srv, .int .i64 red, .int .i64 size, .slice au nu cu, .slice av nv cv, .bool done, .bool gone, .bool false, .bool shut, .int .i64 how] 63) := by rw [← hW]; exact heap_alloc_new' w _
  have hs : sW (org, num) := by
    have e1 : org ≤ 4611686018427387903 := ho.2.1
    have e2 : num < 4611686018427387903 := hn.2
    exact ⟨iW_iff.mpr ⟨by show _ ≤ org; omega, by show org ≤ _; omega⟩, iW_iff.mpr ⟨by show _ ≤ num; omega, by show num ≤ _; omega⟩⟩
  obtain ⟨c0, c1, c2, c3, c4, c5⟩ := (h.below hbx).c
  have i0 : W.cell? ⟨w.heap.size, 0, none⟩ = some (.int .i64 org) := (cell_of_row _ _ _ _ _ _ hp).trans rfl
  have i1 : W.cell? ⟨w.heap.size, 1, none⟩ = some (.int .i64 num) := (cell_of_row _ _ _ _ _ _ hp).trans rfl
  have i2 : W.cell? ⟨w.heap.size, 2, none⟩ = some (.int .i64 srv) := (cell_of_row _ _ _ _ _ _ hp).trans rfl
  have i3 : W.cell? ⟨w.heap.size, 3, none⟩ = some (.int .i64 red) := (cell_of_row _ _ _ _ _ _ hp).trans rfl
  have i4 : W.cell? ⟨w.heap.size, 4, none⟩ = some (.int .i64 size) := (cell_of_row _ _ _ _ _ _ hp).trans rfl
  have i5 : W.cell? ⟨w.heap.size, 5, none⟩ = some (.slice au nu cu) := (cell_of_row _ _ _ _ _ _ hp).trans rfl
  have i6 : W.cell? ⟨w.heap.size, 6, none⟩ = some (.slice av nv cv) := (cell_of_row _ _ _ _ _ _ hp).trans rfl
  have i7 : W.cell? ⟨w.heap.size, 7, none⟩ = some (.bool done) := (cell_of_row _ _ _ _ _ _ hp).trans rfl
  have i8 : W.cell? ⟨w.heap.size, 8, none⟩ = some (.bool gone) := (cell_of_row _ _ _ _ _ _ hp).trans rfl
  have i9 : W.cell? ⟨w.heap.size, 9, none⟩ = some (.bool false) := (cell_of_row _ _ _ _ _ _ hp).trans rfl
  have i10 : W.cell? ⟨w.heap.size, 10, none⟩ = some (.bool shut) := (cell_of_row _ _ _ _ _ _ hp).trans rfl
  have i11 : W.cell? ⟨w.heap.size, 11, none⟩ = some (.int .i64 how) := (cell_of_row _ _ _ _ _ _ hp).trans rfl
  obtain ⟨w2, z', hrun, hT2, hU2⟩ := h.putI (o := (⟨org, num, srv, red, size, hvl, data, done, gone, false, shut, how⟩ : Ic)) (hv := .slice au nu cu) (dv := .slice av nv cv) (Kl.of_below hbd) hs (own_at hrd (fun x hx => hbd.block x (own_lt hrd hx))) (own_at hrh (fun x hx => hbd.block x (own_lt hrh hx))) hd he
  have hrun : (Instr.mapUpdate 69 (.map (some z.m2)) (.agg #[.int .i64 org, .int .i64 num]) (.agg #[.int .i64 org, .int .i64 num, .int .i64 srv, .int .i64 red, .int .i64 size, .slice au nu cu, .slice av nv cv, .bool done, .bool gone, .bool false, .bool shut, .int .i64 how])).run Tryz.prog W.drew = .ok () w2 := hrun
  have HT : Hid (Tw w2 z' (T.putI (⟨org, num, srv, red, size, hvl, data, done, gone, false, shut, how⟩ : Ic)) ∧ Up z z' w w2) := ⟨hT2, hU2⟩
  clear h hok h0 ho hn hrd hrh hd he hW hbx hbd hp hs hT2 hU2
  go_enter Tryz.func141, Tryz.ntmps141
  go_wp2
  rw [HW.out]
  go_region
  all_goals go_wp2
  all_goals first | go_end0 | refine bodyPost_ret (results_none rfl _ _ _) rfl ?_
  all_goals exact ⟨rfl, z', HT.out⟩
set_option maxRecDepth 8000 in
set_option maxHeartbeats 4000000 in
theorem settle_c {w : World} {z : Tz} {T : T8} (h : Tw w z T) (hok : T.Ok) (h0 : T.id ≠ 0) (org num srv red size how : Int) (hvl : List Sp) (data : List Int) (done shut : Bool) (au av : Option Addr) (nu nv cu cv : Nat) (ho : 1 ≤ org ∧ org ≤ mxN ∧ org ≠ T.id) (hn : 1 ≤ num ∧ num < mxN) (hrd : BO w (.slice av nv cv) data) (hrh : SO w (.slice au nu cu) hvl) (hd : ∀ g, (Value.slice av nv cv).ownBlock = some g → (∃ e ∈ z.I, e.i.s = (org, num) ∧ e.dv.ownBlock = some g) ∨ w.heap.size ≤ g) (he : ∀ g, (Value.slice au nu cu).ownBlock = some g → (∃ e ∈ z.I, e.i.s = (org, num) ∧ e.hv.ownBlock = some g) ∨ w.heap.size ≤ g) : Calls Tryz.prog 141 #[tP z, .agg #[.int .i64 org, .int .i64 num, .int .i64 srv, .int .i64 red, .int .i64 size, .slice au nu cu, .slice av nv cv, .bool done, .bool true, .bool true, .bool shut, .int .i64 how]] w (ThP z (({ T with im := rm Ic.s (org, num) T.im } : T8).bury org [(num, num + 1)]) w) := by
  obtain ⟨W, hW⟩ : ∃ W, w.alloc (.cells #[.int .i64 org, .int .i64 num, .int .i64 srv, .int .i64 red, .int .i64 size, .slice au nu cu, .slice av nv cv, .bool done, .bool true, .bool true, .bool shut, .int .i64 how] 63) = W := ⟨_, rfl⟩
  have HW : Hid (w.alloc (.cells #[.int .i64 org, .int .i64 num, .int .i64 srv, .int .i64 red, .int .i64 size, .slice au nu cu, .slice av nv cv, .bool done, .bool true, .bool true, .bool shut, .int .i64 how] 63) = W) := hW
  have hbx : Below w.heap.size w W := by rw [← hW]; exact (Below.refl _ _).alloc (Nat.le_refl _) _
  have hbd : Below w.heap.size w W.drew := hbx.drew
  have hp : W.heap[w.heap.size]? = some (.cells #[.int .i64 org, .int .i64 num, .int .i64 srv, .int .i64 red, .int .i64 size, .slice au nu cu, .slice av nv cv, .bool done, .bool true, .bool true, .bool shut, .int .i64 how] 63) := by rw [← hW]; exact heap_alloc_new' w _
  have hs : sW (org, num) := by
    have e1 : org ≤ 4611686018427387903 := ho.2.1
    have e2 : num < 4611686018427387903 := hn.2
    exact ⟨iW_iff.mpr ⟨by show _ ≤ org; omega, by show org ≤ _; omega⟩, iW_iff.mpr ⟨by show _ ≤ num; omega, by show num ≤ _; omega⟩⟩
  obtain ⟨c0, c1, c2, c3, c4, c5⟩ := (h.below hbx).c
  have i0 : W.cell? ⟨w.heap.size, 0, none⟩ = some (.int .i64 org) := (cell_of_row _ _ _ _ _ _ hp).trans rfl
  have i1 : W.cell? ⟨w.heap.size, 1, none⟩ = some (.int .i64 num) := (cell_of_row _ _ _ _ _ _ hp).trans rfl
  obtain ⟨w2, z2, hrun, hT2, hU2⟩ := (h.below hbd).remI (s := (org, num)) hs 0
  have hrun : (Builtin.delete_ #[69, 31] 0 #[.map (some z.m2), .agg #[.int .i64 org, .int .i64 num]]).run Tryz.prog W.drew = .ok (.tuple #[]) w2 := hrun
  have hok2 : ({ T with im := rm Ic.s (org, num) T.im } : T8).Ok := ok_rmI hok h0
  have hgW : w.heap.size < W.heap.size := (Array.getElem?_eq_some_iff.1 hp).1
  have hFg : ¬ z.F w.heap.size := fun q => by have := h.lt _ q; omega
  have hp2 : w2.heap[w.heap.size]? = some (.cells #[.int .i64 org, .int .i64 num, .int .i64 srv, .int .i64 red, .int .i64 size, .slice au nu cu, .slice av nv cv, .bool done, .bool true, .bool true, .bool shut, .int .i64 how] 63) := (hU2.k.block _ hgW hFg).trans hp
  have hF2 : ¬ z2.F w.heap.size := fun q => by rcases hU2.f _ q with q | q; exact hFg q; exact absurd q (by show ¬ W.heap.size ≤ w.heap.size; omega)
  have hg2 : w.heap.size < w2.heap.size := (Array.getElem?_eq_some_iff.1 hp2).1
  have hmx : num < 4611686018427387903 := hn.2
  have HK : Hid (∀ V : World, Below w2.heap.size w2 V → V.cell? ⟨w.heap.size, 0, none⟩ = some (.int .i64 org) ∧ V.cell? ⟨w.heap.size, 1, none⟩ = some (.int .i64 num)) := fun V hV => ⟨(cell_of_row _ _ _ _ _ _ ((hV.block _ hg2).trans hp2)).trans rfl, (cell_of_row _ _ _ _ _ _ ((hV.block _ hg2).trans hp2)).trans rfl⟩
  have hw64 : wrap64 (num + 1) = num + 1 := by unfold wrap64; omega
  have HS : Hid (∀ V : World, Below w2.heap.size w2 V → Calls Tryz.prog 47 #[.int .i64 num] V fun e w' => e = .returned (.agg #[.int .i64 num, .int .i64 (num + 1)]) ∧ Below w2.heap.size w2 w') := fun V hV => (single_any num V).mono fun e w' q => ⟨by rw [q.1, hw64], bt hV (Nat.le_refl _) q.2⟩
  have HBu : Hid (∀ V : World, Below w2.heap.size w2 V → Calls Tryz.prog 142 #[tP z, .int .i64 org, .slice (some ⟨V.heap.size, 0, none⟩) 1 1] (V.alloc (.cells #[.int .i64 num, .int .i64 (num + 1)] 90)) fun e w' => e = .returned (.tuple #[]) ∧ (∃ z', Tw w' z' (({ T with im := rm Ic.s (org, num) T.im } : T8).bury org [(num, num + 1)]) ∧ Up z z' w w') ∧ w'.cell? ⟨w.heap.size, 0, none⟩ = some (.int .i64 org) ∧ w'.cell? ⟨w.heap.size, 1, none⟩ = some (.int .i64 num)) := fun V hV => by
    have hbV : Below w2.heap.size w2 (V.alloc (.cells #[.int .i64 num, .int .i64 (num + 1)] 90)) := hV.alloc hV.size _
    have hB := bury_any (hT2.below hbV) hok2 org (some ⟨V.heap.size, 0, none⟩) 1 1 (ls_box V num (num + 1) V.heap.size rfl) ⟨hn.1, by simp only; omega, by simp only; omega, trivial⟩ (by simp)
    have hx2 : z2.x = z.x := hU2.x
    have etp : tP z2 = tP z := by unfold tP; rw [hx2]
    rw [etp] at hB
    refine hB.mono ?_
    rintro e w' ⟨rfl, z', q1, q2⟩
    have hblk : w'.heap[w.heap.size]? = some (.cells #[.int .i64 org, .int .i64 num, .int .i64 srv, .int .i64 red, .int .i64 size, .slice au nu cu, .slice av nv cv, .bool done, .bool true, .bool true, .bool shut, .int .i64 how] 63) := ((q2.k.block _ (by have := hbV.size; omega) hF2).trans (hbV.block _ hg2)).trans hp2
    exact ⟨rfl, ⟨z', q1, (Up.below hbd).trans (hU2.trans ((Up.below hbV).trans q2))⟩, (cell_of_row _ _ _ _ _ _ hblk).trans rfl, (cell_of_row _ _ _ _ _ _ hblk).trans rfl⟩
  have i8 : W.cell? ⟨w.heap.size, 8, none⟩ = some (.bool true) := (cell_of_row _ _ _ _ _ _ hp).trans rfl
  have i9 : W.cell? ⟨w.heap.size, 9, none⟩ = some (.bool true) := (cell_of_row _ _ _ _ _ _ hp).trans rfl
  have i10 : W.cell? ⟨w.heap.size, 10, none⟩ = some (.bool shut) := (cell_of_row _ _ _ _ _ _ hp).trans rfl
  clear h hok h0 ho hn hrd hrh hd he hW hbx hbd hp hs hT2 hU2 hok2 hgW hFg hp2 hF2 hg2 hmx hw64
  go_enter Tryz.func141, Tryz.ntmps141
  go_wp2
  rw [HW.out]
  go_region
  all_goals go_wp2
  all_goals (
    have hS := HK.out _ (Below.refl _ _)
    go_region_held3 (fun V => V.cell? ⟨w.heap.size, 0, none⟩ = some (.int .i64 org) ∧ V.cell? ⟨w.heap.size, 1, none⟩ = some (.int .i64 num)) (first | assumption | exact ⟨d0, d1⟩ | exact HK.out _ hb3 | exact HK.out _ (hb3.alloc hb3.size _) | exact HK.out _ (Below.refl _ _).drew) (first
      | (go_at_call 47; refine (HS.out _ (Below.refl _ _).drew).mono ?_; rintro e w3 ⟨rfl, hb3⟩)
      | (go_at_call 142; refine (HBu.out w3 hb3).mono ?_; rintro e w5 ⟨rfl, HT, d0, d1⟩)))
  all_goals go_wp2
  all_goals first | go_end0 | refine bodyPost_ret (results_none rfl _ _ _) rfl ?_
  all_goals exact ⟨rfl, HT⟩
end Go.Proofs.YtillgoegiplmkaaGreatDoor.B

namespace Go.Proofs.YtillgoegiplmkaaGreatDoor.B
open C
open Go.RowKit Go.Maps
set_option linter.unusedVariables false
set_option linter.unusedSimpArgs false

set_option maxRecDepth 8000 in
set_option maxHeartbeats 4000000 in
theorem settle_b {w : World} {z : Tz} {T : T8} (h : Tw w z T) (hok : T.Ok) (h0 : T.id ≠ 0) (org num srv red size how : Int) (hvl : List Sp) (data : List Int) (done : Bool) (au av : Option Addr) (nu nv cu cv : Nat) (ho : 1 ≤ org ∧ org ≤ mxN ∧ org ≠ T.id) (hn : 1 ≤ num ∧ num < mxN) (hrd : BO w (.slice av nv cv) data) (hrh : SO w (.slice au nu cu) hvl) (hd : ∀ g, (Value.slice av nv cv).ownBlock = some g → (∃ e ∈ z.I, e.i.s = (org, num) ∧ e.dv.ownBlock = some g) ∨ w.heap.size ≤ g) (he : ∀ g, (Value.slice au nu cu).ownBlock = some g → (∃ e ∈ z.I, e.i.s = (org, num) ∧ e.hv.ownBlock = some g) ∨ w.heap.size ≤ g) : Calls Tryz.prog 141 #[tP z, .agg #[.int .i64 org, .int .i64 num, .int .i64 srv, .int .i64 red, .int .i64 size, .slice au nu cu, .slice av nv cv, .bool done, .bool false, .bool true, .bool false, .int .i64 how]] w (ThP z (T.putI (⟨org, num, srv, red, size, hvl, data, done, false, true, false, how⟩ : Ic)) w) := by
  obtain ⟨W, hW⟩ : ∃ W, w.alloc (.cells #[.int .i64 org, .int .i64 num, .int .i64 srv, .int .i64 red, .int .i64 size, .slice au nu cu, .slice av nv cv, .bool done, .bool false, .bool true, .bool false, .int .i64 how] 63) = W := ⟨_, rfl⟩
  have HW : Hid (w.alloc (.cells #[.int .i64 org, .int .i64 num, .int .i64 srv, .int .i64 red, .int .i64 size, .slice au nu cu, .slice av nv cv, .bool done, .bool false, .bool true, .bool false, .int .i64 how] 63) = W) := hW
  have hbx : Below w.heap.size w W := by rw [← hW]; exact (Below.refl _ _).alloc (Nat.le_refl _) _
  have hbd : Below w.heap.size w W.drew := hbx.drew
  have hp : W.heap[w.heap.size]? = some (.cells #[.int .i64 org, .int .i64 num, .int .i64 srv, .int .i64 red, .int .i64 size, .slice au nu cu, .slice av nv cv, .bool done, .bool false, .bool true, .bool false, .int .i64 how] 63) := by rw [← hW]; exact heap_alloc_new' w _
  have hs : sW (org, num) := by
    have e1 : org ≤ 4611686018427387903 := ho.2.1
    have e2 : num < 4611686018427387903 := hn.2
    exact ⟨iW_iff.mpr ⟨by show _ ≤ org; omega, by show org ≤ _; omega⟩, iW_iff.mpr ⟨by show _ ≤ num; omega, by show num ≤ _; omega⟩⟩
  obtain ⟨c0, c1, c2, c3, c4, c5⟩ := (h.below hbx).c
  have i0 : W.cell? ⟨w.heap.size, 0, none⟩ = some (.int .i64 org) := (cell_of_row _ _ _ _ _ _ hp).trans rfl
  have i1 : W.cell? ⟨w.heap.size, 1, none⟩ = some (.int .i64 num) := (cell_of_row _ _ _ _ _ _ hp).trans rfl
  have i2 : W.cell? ⟨w.heap.size, 2, none⟩ = some (.int .i64 srv) := (cell_of_row _ _ _ _ _ _ hp).trans rfl
  have i3 : W.cell? ⟨w.heap.size, 3, none⟩ = some (.int .i64 red) := (cell_of_row _ _ _ _ _ _ hp).trans rfl
  have i4 : W.cell? ⟨w.heap.size, 4, none⟩ = some (.int .i64 size) := (cell_of_row _ _ _ _ _ _ hp).trans rfl
  have i5 : W.cell? ⟨w.heap.size, 5, none⟩ = some (.slice au nu cu) := (cell_of_row _ _ _ _ _ _ hp).trans rfl
  have i6 : W.cell? ⟨w.heap.size, 6, none⟩ = some (.slice av nv cv) := (cell_of_row _ _ _ _ _ _ hp).trans rfl
  have i7 : W.cell? ⟨w.heap.size, 7, none⟩ = some (.bool done) := (cell_of_row _ _ _ _ _ _ hp).trans rfl
  have i8 : W.cell? ⟨w.heap.size, 8, none⟩ = some (.bool false) := (cell_of_row _ _ _ _ _ _ hp).trans rfl
  have i9 : W.cell? ⟨w.heap.size, 9, none⟩ = some (.bool true) := (cell_of_row _ _ _ _ _ _ hp).trans rfl
  have i10 : W.cell? ⟨w.heap.size, 10, none⟩ = some (.bool false) := (cell_of_row _ _ _ _ _ _ hp).trans rfl
  have i11 : W.cell? ⟨w.heap.size, 11, none⟩ = some (.int .i64 how) := (cell_of_row _ _ _ _ _ _ hp).trans rfl
  obtain ⟨w2, z', hrun, hT2, hU2⟩ := h.putI (o := (⟨org, num, srv, red, size, hvl, data, done, false, true, false, how⟩ : Ic)) (hv := .slice au nu cu) (dv := .slice av nv cv) (Kl.of_below hbd) hs (own_at hrd (fun x hx => hbd.block x (own_lt hrd hx))) (own_at hrh (fun x hx => hbd.block x (own_lt hrh hx))) hd he
  have hrun : (Instr.mapUpdate 69 (.map (some z.m2)) (.agg #[.int .i64 org, .int .i64 num]) (.agg #[.int .i64 org, .int .i64 num, .int .i64 srv, .int .i64 red, .int .i64 size, .slice au nu cu, .slice av nv cv, .bool done, .bool false, .bool true, .bool false, .int .i64 how])).run Tryz.prog W.drew = .ok () w2 := hrun
  have HT : Hid (Tw w2 z' (T.putI (⟨org, num, srv, red, size, hvl, data, done, false, true, false, how⟩ : Ic)) ∧ Up z z' w w2) := ⟨hT2, hU2⟩
  clear h hok h0 ho hn hrd hrh hd he hW hbx hbd hp hs hT2 hU2
  go_enter Tryz.func141, Tryz.ntmps141
  go_wp2
  rw [HW.out]
  go_region
  all_goals go_wp2
  all_goals first | go_end0 | refine bodyPost_ret (results_none rfl _ _ _) rfl ?_
  all_goals exact ⟨rfl, z', HT.out⟩
set_option maxRecDepth 8000 in
set_option maxHeartbeats 4000000 in
theorem settle_d {w : World} {z : Tz} {T : T8} (h : Tw w z T) (hok : T.Ok) (h0 : T.id ≠ 0) (org num srv red size how : Int) (hvl : List Sp) (data : List Int) (done : Bool) (au av : Option Addr) (nu nv cu cv : Nat) (ho : 1 ≤ org ∧ org ≤ mxN ∧ org ≠ T.id) (hn : 1 ≤ num ∧ num < mxN) (hrd : BO w (.slice av nv cv) data) (hrh : SO w (.slice au nu cu) hvl) (hd : ∀ g, (Value.slice av nv cv).ownBlock = some g → (∃ e ∈ z.I, e.i.s = (org, num) ∧ e.dv.ownBlock = some g) ∨ w.heap.size ≤ g) (he : ∀ g, (Value.slice au nu cu).ownBlock = some g → (∃ e ∈ z.I, e.i.s = (org, num) ∧ e.hv.ownBlock = some g) ∨ w.heap.size ≤ g) : Calls Tryz.prog 141 #[tP z, .agg #[.int .i64 org, .int .i64 num, .int .i64 srv, .int .i64 red, .int .i64 size, .slice au nu cu, .slice av nv cv, .bool done, .bool false, .bool true, .bool true, .int .i64 how]] w (ThP z (({ T with im := rm Ic.s (org, num) T.im } : T8).bury org [(num, num + 1)]) w) := by
  obtain ⟨W, hW⟩ : ∃ W, w.alloc (.cells #[.int .i64 org, .int .i64 num, .int .i64 srv, .int .i64 red, .int .i64 size, .slice au nu cu, .slice av nv cv, .bool done, .bool false, .bool true, .bool true, .int .i64 how] 63) = W := ⟨_, rfl⟩
  have HW : Hid (w.alloc (.cells #[.int .i64 org, .int .i64 num, .int .i64 srv, .int .i64 red, .int .i64 size, .slice au nu cu, .slice av nv cv, .bool done, .bool false, .bool true, .bool true, .int .i64 how] 63) = W) := hW
  have hbx : Below w.heap.size w W := by rw [← hW]; exact (Below.refl _ _).alloc (Nat.le_refl _) _
  have hbd : Below w.heap.size w W.drew := hbx.drew
  have hp : W.heap[w.heap.size]? = some (.cells #[.int .i64 org, .int .i64 num, .int .i64 srv, .int .i64 red, .int .i64 size, .slice au nu cu, .slice av nv cv, .bool done, .bool false, .bool true, .bool true, .int .i64 how] 63) := by rw [← hW]; exact heap_alloc_new' w _
  have hs : sW (org, num) := by
    have e1 : org ≤ 4611686018427387903 := ho.2.1
    have e2 : num < 4611686018427387903 := hn.2
    exact ⟨iW_iff.mpr ⟨by show _ ≤ org; omega, by show org ≤ _; omega⟩, iW_iff.mpr ⟨by show _ ≤ num; omega, by show num ≤ _; omega⟩⟩
  obtain ⟨c0, c1, c2, c3, c4, c5⟩ := (h.below hbx).c
  have i0 : W.cell? ⟨w.heap.size, 0, none⟩ = some (.int .i64 org) := (cell_of_row _ _ _ _ _ _ hp).trans rfl
  have i1 : W.cell? ⟨w.heap.size, 1, none⟩ = some (.int .i64 num) := (cell_of_row _ _ _ _ _ _ hp).trans rfl
  obtain ⟨w2, z2, hrun, hT2, hU2⟩ := (h.below hbd).remI (s := (org, num)) hs 0
  have hrun : (Builtin.delete_ #[69, 31] 0 #[.map (some z.m2), .agg #[.int .i64 org, .int .i64 num]]).run Tryz.prog W.drew = .ok (.tuple #[]) w2 := hrun
  have hok2 : ({ T with im := rm Ic.s (org, num) T.im } : T8).Ok := ok_rmI hok h0
  have hgW : w.heap.size < W.heap.size := (Array.getElem?_eq_some_iff.1 hp).1
  have hFg : ¬ z.F w.heap.size := fun q => by have := h.lt _ q; omega
  have hp2 : w2.heap[w.heap.size]? = some (.cells #[.int .i64 org, .int .i64 num, .int .i64 srv, .int .i64 red, .int .i64 size, .slice au nu cu, .slice av nv cv, .bool done, .bool false, .bool true, .bool true, .int .i64 how] 63) := (hU2.k.block _ hgW hFg).trans hp
  have hF2 : ¬ z2.F w.heap.size := fun q => by rcases hU2.f _ q with q | q; exact hFg q; exact absurd q (by show ¬ W.heap.size ≤ w.heap.size; omega)
  have hg2 : w.heap.size < w2.heap.size := (Array.getElem?_eq_some_iff.1 hp2).1
  have hmx : num < 4611686018427387903 := hn.2
  have HK : Hid (∀ V : World, Below w2.heap.size w2 V → V.cell? ⟨w.heap.size, 0, none⟩ = some (.int .i64 org) ∧ V.cell? ⟨w.heap.size, 1, none⟩ = some (.int .i64 num)) := fun V hV => ⟨(cell_of_row _ _ _ _ _ _ ((hV.block _ hg2).trans hp2)).trans rfl, (cell_of_row _ _ _ _ _ _ ((hV.block _ hg2).trans hp2)).trans rfl⟩
  have hw64 : wrap64 (num + 1) = num + 1 := by unfold wrap64; omega
  have HS : Hid (∀ V : World, Below w2.heap.size w2 V → Calls Tryz.prog 47 #[.int .i64 num] V fun e w' => e = .returned (.agg #[.int .i64 num, .int .i64 (num + 1)]) ∧ Below w2.heap.size w2 w') := fun V hV => (single_any num V).mono fun e w' q => ⟨by rw [q.1, hw64], bt hV (Nat.le_refl _) q.2⟩
  have HBu : Hid (∀ V : World, Below w2.heap.size w2 V → Calls Tryz.prog 142 #[tP z, .int .i64 org, .slice (some ⟨V.heap.size, 0, none⟩) 1 1] (V.alloc (.cells #[.int .i64 num, .int .i64 (num + 1)] 90)) fun e w' => e = .returned (.tuple #[]) ∧ (∃ z', Tw w' z' (({ T with im := rm Ic.s (org, num) T.im } : T8).bury org [(num, num + 1)]) ∧ Up z z' w w') ∧ w'.cell? ⟨w.heap.size, 0, none⟩ = some (.int .i64 org) ∧ w'.cell? ⟨w.heap.size, 1, none⟩ = some (.int .i64 num)) := fun V hV => by
    have hbV : Below w2.heap.size w2 (V.alloc (.cells #[.int .i64 num, .int .i64 (num + 1)] 90)) := hV.alloc hV.size _
    have hB := bury_any (hT2.below hbV) hok2 org (some ⟨V.heap.size, 0, none⟩) 1 1 (ls_box V num (num + 1) V.heap.size rfl) ⟨hn.1, by simp only; omega, by simp only; omega, trivial⟩ (by simp)
    have hx2 : z2.x = z.x := hU2.x
    have etp : tP z2 = tP z := by unfold tP; rw [hx2]
    rw [etp] at hB
    refine hB.mono ?_
    rintro e w' ⟨rfl, z', q1, q2⟩
    have hblk : w'.heap[w.heap.size]? = some (.cells #[.int .i64 org, .int .i64 num, .int .i64 srv, .int .i64 red, .int .i64 size, .slice au nu cu, .slice av nv cv, .bool done, .bool false, .bool true, .bool true, .int .i64 how] 63) := ((q2.k.block _ (by have := hbV.size; omega) hF2).trans (hbV.block _ hg2)).trans hp2
    exact ⟨rfl, ⟨z', q1, (Up.below hbd).trans (hU2.trans ((Up.below hbV).trans q2))⟩, (cell_of_row _ _ _ _ _ _ hblk).trans rfl, (cell_of_row _ _ _ _ _ _ hblk).trans rfl⟩
  have i8 : W.cell? ⟨w.heap.size, 8, none⟩ = some (.bool false) := (cell_of_row _ _ _ _ _ _ hp).trans rfl
  have i9 : W.cell? ⟨w.heap.size, 9, none⟩ = some (.bool true) := (cell_of_row _ _ _ _ _ _ hp).trans rfl
  have i10 : W.cell? ⟨w.heap.size, 10, none⟩ = some (.bool true) := (cell_of_row _ _ _ _ _ _ hp).trans rfl
  clear h hok h0 ho hn hrd hrh hd he hW hbx hbd hp hs hT2 hU2 hok2 hgW hFg hp2 hF2 hg2 hmx hw64
  go_enter Tryz.func141, Tryz.ntmps141
  go_wp2
  rw [HW.out]
  go_region
  all_goals go_wp2
  all_goals (
    have hS := HK.out _ (Below.refl _ _)
    go_region_held3 (fun V => V.cell? ⟨w.heap.size, 0, none⟩ = some (.int .i64 org) ∧ V.cell? ⟨w.heap.size, 1, none⟩ = some (.int .i64 num)) (first | assumption | exact ⟨d0, d1⟩ | exact HK.out _ hb3 | exact HK.out _ (hb3.alloc hb3.size _) | exact HK.out _ (Below.refl _ _).drew) (first
      | (go_at_call 47; refine (HS.out _ (Below.refl _ _).drew).mono ?_; rintro e w3 ⟨rfl, hb3⟩)
      | (go_at_call 142; refine (HBu.out w3 hb3).mono ?_; rintro e w5 ⟨rfl, HT, d0, d1⟩)))
  all_goals go_wp2
  all_goals first | go_end0 | refine bodyPost_ret (results_none rfl _ _ _) rfl ?_
  all_goals exact ⟨rfl, HT⟩
end Go.Proofs.YtillgoegiplmkaaGreatDoor.B
