import Derived.Test.YtcfodcioeefbeaaDoorXpK
namespace Go.Proofs.YtcfodcioeefbeaaDoor.X
open Go.RowKit Go.Maps
set_option linter.unusedVariables false
set_option linter.unusedSimpArgs false

set_option maxRecDepth 100000 in
set_option maxHeartbeats 4000000 in
theorem pending_any {w : World} {e m rm c : Nat} {s : Xs} {O : List Oc} (h : Xm w e m rm c s O) (hn : O.length ≤ 1000000) : Calls Tryd.prog 9 #[.pointer (some ⟨e, 0, none⟩)] w fun r w' => r = .returned (.int .i64 O.length) ∧ Below w.heap.size w w' := by
  obtain ⟨x0, x1, x2, x3, x4, x5, x6, x7, x8, x9, x10, x11, x12, x13, x14, x15, x16, x17, x18, x19, x20, x21⟩ := xp_cells h.box
  have hm := h.mp.blk
  have hl : (Builtin.len_ #[60] 3 #[.map (some m)]).run Tryd.prog w = .ok (.int .i64 O.length) w := by
    simp [Builtin.len_, run_underlying Tryd.underlying60, MapKept.run_getObj_map hm, Result.andThen, goInt]
  go_enter Tryd.func9, Tryd.ntmps9
  clear hm h
  go_wp2
  go_ret
  exact ⟨rfl, Below.refl _ _⟩
set_option maxRecDepth 100000 in
set_option maxHeartbeats 8000000 in
theorem awake12_any {w : World} (hT : Tab w) : Calls Tryd.prog 4 #[] w fun e w' => e = .returned (.bool true) ∧ Below w.heap.size w w' := by
  obtain ⟨V1, hV1⟩ : ∃ V, w.alloc (.cells #[.int .u8 9] 5) = V := ⟨_, rfl⟩
  obtain ⟨b, hb⟩ : ∃ b, w.heap.size = b := ⟨_, rfl⟩
  have h00 : 0 < w.heap.size := World.block_lt_of_cell? w ⟨0, 0, none⟩ (hT 0 (by omega))
  have hB1 : Below w.heap.size w V1 := by rw [← hV1]; exact (Below.refl _ _).alloc (Nat.le_refl _) _
  have g1 : V1.heap[b]? = some (.cells #[.int .u8 9] 5) := by rw [← hV1, ← hb]; exact heap_alloc_new' w _
  have hLi : Lies .u8 V1 (some ⟨b, 0, none⟩) [9] := .inr ⟨b, 0, rfl, fun i hi => by
    have e : i = 0 := by simpa using hi
    subst e
    exact (cell_of_row _ _ _ _ _ _ g1).trans rfl⟩
  have hO : Calls Tryd.prog 5 #[.agg #[.int .i64 1, .int .i64 5], .agg #[.int .i64 7, .int .i64 1, .int .i64 1, .int .i64 80, .int .i64 0], .slice (some ⟨b, 0, none⟩) 1 1, .agg #[.int .i64 1, .int .i64 1], .int .i64 0, .bool false] V1 (OpP V1 ⟨1, 5, 7, 1, 1, 80, 0⟩ [9] 1 1 0 false) := open_any (hT.below hB1 h00) ⟨1, 5, 7, 1, 1, 80, 0⟩ (some ⟨b, 0, none⟩) [9] 1 1 rfl (Nat.le_refl _) hLi (fun e => by cases e) 1 1 0 false
  have HB : Hid (Below w.heap.size w V1) := hB1
  have HV : Hid (w.alloc (.cells #[.int .u8 9] 5) = V1) := hV1
  clear hT h00 hB1 g1 hLi hV1
  go_enter Tryd.func4, Tryd.ntmps4
  go_upto_region 2 with (go_at_call 5; rw [HV.out]; (try rw [hb]); refine hO.mono ?_; intro e' w2 hop
                         have hop2 : OpS V1 ⟨1, 5, 7, 1, 1, 80, 0⟩ [9] 1 1 0 false e' w2 := hop.elim (fun q => absurd (awk_P rfl).1 q.1) (fun q => q.2)
                         obtain ⟨e, m, rm, c, P, last, O, Y, bv, v, rfl, hPL, hla, hX, hxf, hOp, hOw, hS, hY, hbr, hb2⟩ := hop2
                         obtain ⟨p, rfl, ht, hc, hfr, hto⟩ := (awk_P rfl).2 P hPL
                         obtain ⟨va, vc, rfl⟩ := own_sl hS.row
                         have hYl : Y.length = 1 := by { have q := congrArg List.length hY; simpa using q }
                         have H2 : Hid (Xm w2 e m rm c ⟨⟨1, 5, 7, 1, 1, 80, 0⟩, bv, 1, 1, last, false, lstC 0 [p], .slice none 0 0, 0, false⟩ O ∧ O.length = 1 ∧ Sgs w2 V1.heap.size (.slice va 1 vc) Y ∧ Y.map Prod.fst = [(mk ⟨1, 5, 7, 1, 1, 80, 0⟩ p [9]).1] ∧ (mk ⟨1, 5, 7, 1, 1, 80, 0⟩ p [9]).1 = sgP ⟨1, 5, 7, 1, 1, 80, 0⟩ p (dat [9] p) ∧ (p.typ = 3 ∧ p.chk = 1 ∧ p.frm = 0 ∧ p.to = 1) ∧ Below V1.heap.size V1 w2) := by
                           { refine ⟨hX, ?_, by rw [hYl] at hS; exact hS, hY, opl_mk (awk_P rfl).1 hPL rfl p (by simp), ⟨ht, hc, hfr, hto⟩, hb2⟩
                             have q := congrArg List.length hOp
                             rw [List.length_map] at q
                             rw [q, ckp_cons, if_pos (by omega)]
                             rfl }
                         rw [hYl]
                         unfold mvC
                         clear hop hPL hla hX hxf hOp hOw hS hY hbr hb2 ht hc hfr hto hO hYl)
  obtain ⟨V3, hV3⟩ : ∃ V, w2.alloc (.cells #[.slice none 0 0, .slice va 1 vc, .slice none 0 0, .bool false, .bool false, .bool false, .int .i64 0] 37) = V := ⟨_, rfl⟩
  obtain ⟨b3, hb3⟩ : ∃ b, w2.heap.size = b := ⟨_, rfl⟩
  have B3 : Below w2.heap.size w2 V3 := by rw [← hV3]; exact (Below.refl _ _).alloc (Nat.le_refl _) _
  have g3 : V3.heap[b3]? = some (mvO (.slice none 0 0) (.slice va 1 vc) (.slice none 0 0) false false false 0) := by rw [← hV3, ← hb3]; exact heap_alloc_new' w2 _
  have H3 : Hid (Xm V3 e m rm c ⟨⟨1, 5, 7, 1, 1, 80, 0⟩, bv, 1, 1, last, false, lstC 0 [p], .slice none 0 0, 0, false⟩ O ∧ Sgs V3 V1.heap.size (.slice va 1 vc) Y ∧ V3.heap[b3]? = some (mvO (.slice none 0 0) (.slice va 1 vc) (.slice none 0 0) false false false 0) ∧ Below V1.heap.size V1 V3) := ⟨H2.out.1.below B3, H2.out.2.2.1.below B3, g3, H2.out.2.2.2.2.2.2.trans (B3.mono H2.out.2.2.2.2.2.2.size)⟩
  rw [hV3]
  try rw [hb3]
  obtain ⟨m0, m1, m2, m3, m4, m5, m6⟩ := mv_cells g3
  have hPe := pending_any H3.out.1 (by have := H2.out.2.1; omega)
  rw [H2.out.2.1] at hPe
  clear hV3 hb3 B3 g3 hb
  go_upto_region 5 with (go_at_call 9; refine hPe.mono ?_; rintro e5 w5 ⟨rfl, hb5⟩; have H5 : Hid (Below V3.heap.size V3 w5) := hb5; clear hb5 hPe)
  clear m0 m1 m2 m3 m4 m5 m6
  obtain ⟨⟨g, dv⟩, rfl⟩ : ∃ y, Y = [y] := by
    have q := congrArg List.length H2.out.2.2.2.1
    rw [List.length_map] at q
    match Y, q with
    | [y], _ => exact ⟨y, rfl⟩
  have hg : g = sgP ⟨1, 5, 7, 1, 1, 80, 0⟩ p (dat [9] p) := by
    have q := H2.out.2.2.2.1
    rw [H2.out.2.2.2.2.1] at q
    simpa using q
  have hp := H2.out.2.2.2.2.2.1
  have hd : dat [9] p = [9] := by unfold dat; rw [hp.2.2.1, hp.2.2.2]; rfl
  rw [hd] at hg
  have hS5 := H3.out.2.1.below H5.out
  obtain ⟨sg, scp, eg, _, _⟩ := World.ownsRow.form hS5.row (by simp)
  simp only [Value.slice.injEq] at eg
  obtain ⟨rfl, -, rfl⟩ := eg
  have hc : ∀ j, j < 14 → w5.cell? ⟨sg, 0 * 14 + j, none⟩ = (sgL (g, dv))[j]? := fun j hj => row_cell (f := sgL) (z := 14) (fun _ => rfl) hS5.row rfl (i := 0) rfl hj
  have hdr := hS5.el (g, dv) (by simp)
  subst hg
  simp only [sgP] at hdr hc
  obtain ⟨dg, dcp, ed, _, _⟩ := World.ownsRow.form hdr (by simp)
  subst ed
  have k0 : w5.cell? ⟨sg, 0, none⟩ = some (.int .i64 3) := by have q := hc 0 (by omega); rw [show (0 * 14 + 0 : Nat) = 0 from rfl] at q; rw [q]; show some (Value.int .i64 p.typ) = _; rw [hp.1]
  have k8 : w5.cell? ⟨sg, 8, none⟩ = some (.int .i64 1) := by have q := hc 8 (by omega); rw [show (0 * 14 + 8 : Nat) = 8 from rfl] at q; rw [q]; show some (Value.int .i64 p.chk) = _; rw [hp.2.1]
  have k7 : w5.cell? ⟨sg, 7, none⟩ = some (.slice (some ⟨dg, 0, none⟩) 1 dcp) := by have q := hc 7 (by omega); rw [show (0 * 14 + 7 : Nat) = 7 from rfl] at q; exact q
  have d0 : w5.cell? ⟨dg, 0, none⟩ = some (.int .u8 9) := World.ownsRow.cellAt hdr 0 (by simp)
  obtain ⟨m0, m1, m2, m3, m4, m5, m6⟩ := mv_cells ((H5.out.block b3 (Array.getElem?_eq_some_iff.1 H3.out.2.2.1).1).trans H3.out.2.2.1)
  have HF : Hid (Below w.heap.size w w5) := HB.out.trans ((H3.out.2.2.2.trans (H5.out.mono H3.out.2.2.2.size)).mono HB.out.size)
  clear hp hd hS5 hc hdr H3 H5 H2
  go_wp2
  go_ret
  exact ⟨rfl, HF.out⟩
end Go.Proofs.YtcfodcioeefbeaaDoor.X
