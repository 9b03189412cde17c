import Derived.Test.YtkkmoplijicmpaeDoorRg6
import Derived.Deep.CutRange
namespace Go.Proofs.YtkkmoplijicmpaeDoor
open Go.RowKit
set_option linter.unusedVariables false
set_option linter.unusedSimpArgs false
attribute [local go_sem ↓] wp_store2
attribute [local go_sem] pBlk2_ptr pAgg2_agg

theorem sin_sg (o m : Int) (r : Rr) {w : World} {cv : Value} (h : CIn w cv (sgR o m r).clm) : SIn w (sgR o m r) nl nl nl cv [] [] := by
  have e1 : (sgR o m r).head = [] := by unfold sgR; split <;> rfl
  have e2 : (sgR o m r).tail = [] := by unfold sgR; split <;> rfl
  have e3 : (sgR o m r).data = [] := by unfold sgR; split <;> rfl
  exact ⟨xin_nil w, by rw [e1]; rfl, xin_nil w, by rw [e2]; rfl, by rw [e3]; exact bin_nil w, h⟩
theorem sg_few (o m : Int) (r : Rr) (h : r.clm.length ≤ 1048576) : (sgR o m r).clm.length ≤ 1048576 := by unfold sgR; split; exact h; exact Nat.zero_le _
theorem of_few (s : Sg) (hx tx : List Xr) (h : s.clm.length ≤ 1048576) : (ofR s hx tx).clm.length ≤ 1048576 := by unfold ofR; split; exact h; exact Nat.zero_le _
def stamps (l : List Nat) (j : Nat) : Nat := l.getD j (l.getLastD 0)

set_option maxRecDepth 100000 in
set_option maxHeartbeats 32000000 in
theorem segs_walk (o m : Int) (r : Rr) (a : Option Addr) (n c : Nat) (hn : r.clm.length = n) (x : Sg) (hv tv dv cv : Value) (hx tx : List Xr) (w : World) (hT : Tab w) (hC : CIn w (.slice a n c) r.clm) (hS : SIn w x hv tv dv cv hx tx) :
    Calls Tryd.prog 7 #[.agg #[.int .i64 o, .int .i64 m], .agg (rpA r n a c), .agg (svC x hv tv dv cv)] w fun e W' => e = .returned (.bool true) ∧ Below w.heap.size w W' := by
  have h00 : 0 < w.heap.size := World.block_lt_of_cell? w ⟨0, 0, none⟩ (hT 0 (by omega))
  obtain ⟨ah, ch, rfl, _⟩ := hS.head.shape
  obtain ⟨at1, ct, rfl, _⟩ := hS.tail.shape
  obtain ⟨ad, cd, rfl, _⟩ := hS.data.shape
  obtain ⟨ac, cc, rfl, _⟩ := hS.clm.shape
  have H1 : Hid (SIn w x (.slice ah hx.length ch) (.slice at1 tx.length ct) (.slice ad x.data.length cd) (.slice ac x.clm.length cc) hx tx) := hS
  obtain ⟨nh, hnh⟩ : ∃ n, hx.length = n := ⟨_, rfl⟩
  obtain ⟨nt, hnt⟩ : ∃ n, tx.length = n := ⟨_, rfl⟩
  obtain ⟨nd, hnd⟩ : ∃ n, x.data.length = n := ⟨_, rfl⟩
  obtain ⟨nc, hnc⟩ : ∃ n, x.clm.length = n := ⟨_, rfl⟩
  have HNs : Hid (hx.length = nh ∧ tx.length = nt ∧ x.data.length = nd ∧ x.clm.length = nc) := ⟨hnh, hnt, hnd, hnc⟩
  have hnm : n ≤ 1048576 := by rw [← hn]; exact hC.small
  have HN : Hid (r.clm.length = n) := hn
  rw [hnh, hnt, hnd, hnc] at hS ⊢
  obtain ⟨E, hE⟩ : ∃ E, sgE o m r = E := ⟨_, rfl⟩
  obtain ⟨F, hF⟩ : ∃ F, ofE x hx tx = F := ⟨_, rfl⟩
  obtain ⟨R, hR⟩ : ∃ R, ofR x hx tx = R := ⟨_, rfl⟩
  obtain ⟨S, hSg⟩ : ∃ S, sgR o m r = S := ⟨_, rfl⟩
  obtain ⟨ns, hns⟩ : ∃ n, S.clm.length = n := ⟨_, rfl⟩
  obtain ⟨nr, hnr⟩ : ∃ n, R.clm.length = n := ⟨_, rfl⟩
  have HSr : Hid (sgE o m r = E ∧ sgR o m r = S ∧ S.clm.length = ns) := ⟨hE, hSg, hns⟩
  have HOr : Hid (ofE x hx tx = F ∧ ofR x hx tx = R ∧ R.clm.length = nr) := ⟨hF, hR, hnr⟩
  have HSf : Hid (ns ≤ 1048576 ∧ nr ≤ 1048576 ∧ nc ≤ 1048576) := ⟨by rw [← hns, ← hSg]; exact sg_few o m r (by rw [hn]; exact hnm), by rw [← hnr, ← hR]; exact of_few x hx tx hS.clm.small, by rw [← hnc]; exact hS.clm.small⟩
  have HT : Hid (∀ V, Below w.heap.size w V → Tab V) := fun V hV => hT.below hV h00
  have HC0 : Hid (∀ V, Below w.heap.size w V → CIn V (.slice a n c) r.clm) := fun V hV => hC.below hV
  have HX0 : Hid (∀ V, Below w.heap.size w V → SIn V x (.slice ah nh ch) (.slice at1 nt ct) (.slice ad nd cd) (.slice ac nc cc) hx tx) := fun V hV => hS.below hV
  have HSa : Hid (∀ V cv, CIn V cv S.clm → SIn V S nl nl nl cv [] []) := fun V cv h => by rw [← hSg] at h ⊢; exact sin_sg o m r h
  have HQs : Hid (∀ V, Below w.heap.size w V → Calls Tryd.prog 34 #[.agg #[.int .i64 o, .int .i64 m], .agg (rpA r n a c)] V fun e w' => ∃ a' c', e = .returned (.tuple #[.agg (svC S nl nl nl (.slice a' ns c')), .int .i64 E]) ∧ CIn w' (.slice a' ns c') S.clm ∧ Below V.heap.size V w') := fun V hV => (rqSegment_any o m r a n c hn V (hC.below hV)).mono fun e w' h => by rw [hE, hSg] at h; unfold Sgq at h; rw [hns] at h; exact h
  have HQo : Hid (∀ V, Below w.heap.size w V → Calls Tryd.prog 35 #[.agg (svC x (.slice ah nh ch) (.slice at1 nt ct) (.slice ad nd cd) (.slice ac nc cc))] V fun e w' => ∃ a' c', e = .returned (.tuple #[.agg (rpA R nr a' c'), .int .i64 F]) ∧ C.SOwn w' V.heap.size (.slice a' nr c') R.clm ∧ Below V.heap.size V w') := fun V hV => (rqOf_any x _ _ _ _ hx tx V (hS.below hV)).mono fun e w' h => by rw [hF, hR] at h; unfold Ofp at h; rw [hnr] at h; exact h
  have HLs : Hid (∀ V, Below w.heap.size w V → Calls Tryd.prog 25 #[.slice a n c] V fun e w' => e = .returned (lV V.heap.size n) ∧ C.SOwn w' V.heap.size (.slice (some ⟨V.heap.size, 0, none⟩) (n + 2) (n + 2)) (C.mkL r.clm) ∧ Below V.heap.size V w') := fun V hV => by
    obtain ⟨a', c', e', hsp⟩ := (hC.below hV).shape
    simp only [Value.slice.injEq] at e'
    obtain ⟨rfl, _, rfl⟩ := e'
    have := C.lentSpa_any (v := .slice a n c) (c := c) (by rw [hn]) hsp (by rw [hn]; exact hnm)
    rw [hn] at this
    exact this
  have HLe : Hid (∀ V, Below w.heap.size w V → Calls Tryd.prog 36 #[.agg (svC x (.slice ah nh ch) (.slice at1 nt ct) (.slice ad nd cd) (.slice ac nc cc))] V (LentP x hx tx V)) := fun V hV => lent_seg x _ _ _ _ hx tx V (hS.below hV)
  obtain ⟨W, hW⟩ : ∃ W, ((w.alloc (.cells #[.int .i64 o, .int .i64 m] 23)).alloc (.cells (rpA r n a c) 75)).alloc (.cells (svC x (.slice ah nh ch) (.slice at1 nt ct) (.slice ad nd cd) (.slice ac nc cc)) 81) = W := ⟨_, rfl⟩
  have HWe : Hid (_ = W) := hW
  have hbW : Below w.heap.size w W := by rw [← hW]; exact (((Below.refl _ _).alloc (Nat.le_refl _) _).alloc (by simp) _).alloc (by simp; omega) _
  have r0 : W.heap[w.heap.size]? = some (.cells #[.int .i64 o, .int .i64 m] 23 (0, 0)) := by rw [← hW]; exact al_old (al_old (al_new _ _))
  have r1 : W.heap[w.heap.size + 1]? = some (.cells (rpA r n a c) 75 (0, 0)) := by
    rw [← hW]
    have := al_new (w.alloc (.cells #[.int .i64 o, .int .i64 m] 23)) (.cells (rpA r n a c) 75)
    rw [World.size_alloc] at this
    exact al_old this
  have r2 : W.heap[w.heap.size + 1 + 1]? = some (.cells (svC x (.slice ah nh ch) (.slice at1 nt ct) (.slice ad nd cd) (.slice ac nc cc)) 81 (0, 0)) := by
    rw [← hW]
    have := al_new ((w.alloc (.cells #[.int .i64 o, .int .i64 m] 23)).alloc (.cells (rpA r n a c) 75)) (.cells (svC x (.slice ah nh ch) (.slice at1 nt ct) (.slice ad nd cd) (.slice ac nc cc)) 81)
    rw [World.size_alloc, World.size_alloc] at this
    exact this
  have HR0 : Hid (∀ V, Below W.heap.size W V → V.cell? ⟨w.heap.size, 0, none⟩ = some (.int .i64 o) ∧ V.cell? ⟨w.heap.size, 1, none⟩ = some (.int .i64 m)) := fun V hV => by
    have s0 := (hV.block _ (Array.getElem?_eq_some_iff.1 r0).1).trans r0
    exact ⟨(cell_of_row _ _ _ _ _ _ s0).trans rfl, (cell_of_row _ _ _ _ _ _ s0).trans rfl⟩
  have HR1 : Hid (∀ V, Below W.heap.size W V → V.heap[w.heap.size + 1]? = some (.cells (rpA r n a c) 75 (0, 0))) := fun V hV => (hV.block _ (Array.getElem?_eq_some_iff.1 r1).1).trans r1
  have HR2 : Hid (∀ V, Below W.heap.size W V → V.heap[w.heap.size + 1 + 1]? = some (.cells (svC x (.slice ah nh ch) (.slice at1 nt ct) (.slice ad nd cd) (.slice ac nc cc)) 81 (0, 0))) := fun V hV => (hV.block _ (Array.getElem?_eq_some_iff.1 r2).1).trans r2
  have HWs : Hid (W.heap.size = w.heap.size + 1 + 1 + 1) := by show _ = _; rw [← hW]; simp
  have HBW : Hid (Below w.heap.size w W) := hbW
  have hA := awake5_any W (hT.below hbW h00)
  clear hC hS hT hW hbW hnh hnt hnd hnc hn hE hF hR hSg hns hnr r0 r1 r2
  go_enter Tryd.func7, Tryd.ntmps7
  go_wp2_with fail
  rw [HWe.out]
  refine hA.mono ?_
  rintro e w1 ⟨rfl, hb⟩
  have HB1 : Hid (Below W.heap.size W w1) := hb
  clear hb hA
  obtain ⟨s0, s1⟩ := HR0.out w1 HB1.out
  obtain ⟨k0, k1, k2, k3, k4⟩ := r5_cells (HR1.out w1 HB1.out)
  go_wp2_with fail
  refine (HQs.out w1 (btr2 HBW.out HB1.out)).mono ?_
  rintro e w2 ⟨aw, cw, rfl, hci, hb⟩
  have HB2 : Hid (Below W.heap.size W w2) := btr2 HB1.out hb
  have HCw : Hid (CIn w2 (.slice aw ns cw) S.clm) := hci
  clear hb hci HQs s0 s1 k0 k1 k2 k3 k4
  have hst : Stor2 Tryd.prog 81 (w2.alloc (.cells zsC 81)) (.pointer (some ⟨w2.heap.size, 0, none⟩)) (.agg (svC S nl nl nl (.slice aw ns cw))) := ⟨w2.heap.size, _, _, _, rfl, rfl, al_new _ _, rfl, size_sg2, by simp [Value.oneCell']⟩
  go_upto_region 3 with fail
  obtain ⟨w2', hw2'⟩ : ∃ x, (w2.alloc (.cells zsC 81)).setRow w2.heap.size (svC S nl nl nl (.slice aw ns cw)) = x := ⟨_, rfl⟩
  obtain ⟨q1, q2, q3⟩ := box_s w2 (svC S nl nl nl (.slice aw ns cw)) rfl
  rw [hw2'] at q1 q2 q3
  have HB2' : Hid (Below W.heap.size W w2') := btr2 HB2.out q1
  have HXw : Hid (w2'.heap[w2.heap.size]? = some (.cells (svC S nl nl nl (.slice aw ns cw)) 81 (0, 0))) := q2
  have HCw' : Hid (CIn w2' (.slice aw ns cw) S.clm) := HCw.out.below q1
  have HZ2 : Hid (w2'.heap.size = w2.heap.size + 1 ∧ W.heap.size ≤ w2.heap.size) := ⟨q3, HB2.out.size⟩
  rw [hw2']
  clear hw2' q1 q2 q3 hst HCw
  obtain ⟨y0, y1, y2, y3, y4, y5, y6, y7, y8, y9, y10, y11, y12, y13⟩ := s14_cells (HR2.out w2' HB2'.out)
  go_wp2_with fail
  refine (HQo.out w2' (btr2 HBW.out HB2'.out)).mono ?_
  rintro e w3 ⟨at3, c3, rfl, ho, hb⟩
  have HO3 : Hid (C.SOwn w3 w2'.heap.size (.slice at3 nr c3) R.clm) := ho
  have HB23 : Hid (Below w2'.heap.size w2' w3) := hb
  have HB3 : Hid (Below W.heap.size W w3) := btr2 HB2'.out hb
  clear hb ho HQo y0 y1 y2 y3 y4 y5 y6 y7 y8 y9 y10 y11 y12 y13
  have hst : Stor2 Tryd.prog 75 (w3.alloc (.cells zrC 75)) (.pointer (some ⟨w3.heap.size, 0, none⟩)) (.agg (rpA R nr at3 c3)) := ⟨w3.heap.size, _, _, _, rfl, rfl, al_new _ _, rfl, size_rp2, by simp [Value.oneCell']⟩
  go_upto_region 4 with fail
  obtain ⟨w3', hw3'⟩ : ∃ x, (w3.alloc (.cells zrC 75)).setRow w3.heap.size (rpA R nr at3 c3) = x := ⟨_, rfl⟩
  obtain ⟨q1, q2, q3⟩ := box_r w3 (rpA R nr at3 c3) rfl
  rw [hw3'] at q1 q2 q3
  have HB33 : Hid (Below w3.heap.size w3 w3') := q1
  have HB3' : Hid (Below W.heap.size W w3') := btr2 HB3.out q1
  have HXt : Hid (w3'.heap[w3.heap.size]? = some (.cells (rpA R nr at3 c3) 75 (0, 0))) := q2
  have HZ3 : Hid (w3'.heap.size = w3.heap.size + 1) := q3
  rw [hw3']
  clear hw3' q1 q2 q3 hst
  obtain ⟨k0, k1, k2, k3, k4⟩ := r5_cells (HR1.out w3' HB3'.out)
  have hst : Stor2 Tryd.prog 75 (w3'.alloc (.cells zrC 75)) (.pointer (some ⟨w3'.heap.size, 0, none⟩)) (.agg (rpA r n a c)) := ⟨w3'.heap.size, _, _, _, rfl, rfl, al_new _ _, rfl, size_rp2, by simp [Value.oneCell']⟩
  go_upto_region 5 with fail
  obtain ⟨w4, hw4⟩ : ∃ x, (w3'.alloc (.cells zrC 75)).setRow w3'.heap.size (rpA r n a c) = x := ⟨_, rfl⟩
  obtain ⟨q1, q2, q3⟩ := box_r w3' (rpA r n a c) rfl
  rw [hw4] at q1 q2 q3
  have HB34 : Hid (Below w3'.heap.size w3' w4) := q1
  have HB4 : Hid (Below W.heap.size W w4) := btr2 HB3'.out q1
  have HXq4 : Hid (w4.heap[w3'.heap.size]? = some (.cells (rpA r n a c) 75 (0, 0))) := q2
  have HZ4 : Hid (w4.heap.size = w3'.heap.size + 1) := q3
  rw [hw4]
  clear hw4 q1 q2 q3 hst k0 k1 k2 k3 k4
  obtain ⟨k0, k1, k2, k3, k4⟩ := r5_cells (HR1.out w4 HB4.out)
  go_wp2_with fail
  refine (HLs.out w4 (btr2 HBW.out HB4.out)).mono ?_
  rintro e w5 ⟨rfl, ho, hb⟩
  have HO5 : Hid (C.SOwn w5 w4.heap.size (.slice (some ⟨w4.heap.size, 0, none⟩) (n + 2) (n + 2)) (C.mkL r.clm)) := ho
  have HB45 : Hid (Below w4.heap.size w4 w5) := hb
  have HXq5 : Hid (w5.heap[w3'.heap.size]? = some (.cells (rpA r n a c) 75 (0, 0))) := (hb.block _ (by have := HZ4.out; omega)).trans HXq4.out
  clear hb ho HLs k0 k1 k2 k3 k4
  have fz := frozen_of_row _ _ 4 _ _ HXq5.out
  obtain ⟨k0, k1, k2, k3, k4⟩ := r5_cells HXq5.out
  go_upto_region 6 with fail
  obtain ⟨w6, hw6⟩ : ∃ x, w5.setCell ⟨w3'.heap.size, 4, none⟩ (lV w4.heap.size n) = x := ⟨_, rfl⟩
  have HB56 : Hid (∀ b, b ≤ w3'.heap.size → ∀ V, Below b V w5 → Below b V w6) := fun b hb V hV => by rw [← hw6]; exact hV.setCell (p := ⟨w3'.heap.size, 4, none⟩) hb _
  have HXq : Hid (w6.heap[w3'.heap.size]? = some (.cells (rpA r n (some ⟨w4.heap.size, 0, none⟩) (n + 2)) 75 (0, 0))) := by show _ = _; rw [← hw6]; exact heap_setCell_same _ _ _ _ _ _ HXq5.out
  have HO6 : Hid (C.SOwn w6 w4.heap.size (.slice (some ⟨w4.heap.size, 0, none⟩) (n + 2) (n + 2)) (C.mkL r.clm)) := by show C.SOwn _ _ _ _; rw [← hw6]; exact HO5.out.blk2 (fun g hg => heap_setCell_other _ _ _ _ (by have h1 := (HO5.out.lt g hg).1; have := HZ4.out; show g ≠ w3'.heap.size; omega))
  have HS6 : Hid (w6.heap.size = w5.heap.size) := by show _ = _; rw [← hw6]; simp
  rw [hw6]
  clear hw6 fz k0 k1 k2 k3 k4
  have HS5 : Hid (w4.heap.size ≤ w5.heap.size) := HB45.out.size
  have HL5 : Hid (w4.heap.size < w5.heap.size) := (HO5.out.lt w4.heap.size rfl).2
  have HB6 : Hid (Below W.heap.size W w6) := HB56.out _ HB3'.out.size _ (btr2 HB4.out HB45.out)
  have HB26 : Hid (Below w2'.heap.size w2' w6) := HB56.out _ (Nat.le_trans HB23.out.size HB33.out.size) _ (btr2 HB23.out (btr2 HB33.out (btr2 HB34.out HB45.out)))
  have HB36 : Hid (Below w3.heap.size w3 w6) := HB56.out _ HB33.out.size _ (btr2 HB33.out (btr2 HB34.out HB45.out))
  have HB36' : Hid (Below w3'.heap.size w3' w6) := HB56.out _ (Nat.le_refl _) _ (btr2 HB34.out HB45.out)
  have GXq : Hid (∀ V, Below w6.heap.size w6 V → V.heap[w3'.heap.size]? = some (.cells (rpA r n (some ⟨w4.heap.size, 0, none⟩) (n + 2)) 75 (0, 0))) := fun V hV => (hV.block _ (Array.getElem?_eq_some_iff.1 HXq.out).1).trans HXq.out
  have GXw : Hid (∀ V, Below w6.heap.size w6 V → V.heap[w2.heap.size]? = some (.cells (svC S nl nl nl (.slice aw ns cw)) 81 (0, 0))) := fun V hV => ((btr2 HB26.out hV).block _ (Array.getElem?_eq_some_iff.1 HXw.out).1).trans HXw.out
  have GXt : Hid (∀ V, Below w6.heap.size w6 V → V.heap[w3.heap.size]? = some (.cells (rpA R nr at3 c3) 75 (0, 0))) := fun V hV => ((btr2 HB36'.out hV).block _ (Array.getElem?_eq_some_iff.1 HXt.out).1).trans HXt.out
  have GCw : Hid (∀ V, Below w6.heap.size w6 V → CIn V (.slice aw ns cw) S.clm) := fun V hV => HCw'.out.below (btr2 HB26.out hV)
  have GCt : Hid (∀ V, Below w6.heap.size w6 V → CIn V (.slice at3 nr c3) R.clm) := fun V hV => by
    have h := cin_own (l := R.clm) HO3.out (by rw [HOr.out.2.2]; exact HSf.out.2.1)
    exact h.below (btr2 HB36.out hV)
  have GLq : Hid (∀ V, Below w6.heap.size w6 V → C.SOwn V w4.heap.size (.slice (some ⟨w4.heap.size, 0, none⟩) (n + 2) (n + 2)) (C.mkL r.clm)) := fun V hV => HO6.out.below hV
  have GCq : Hid (∀ V, Below w6.heap.size w6 V → CIn V (lV w4.heap.size n) r.clm) := fun V hV => cin_own (lent_row2 (HO6.out.below hV) HN.out) (by rw [HN.out]; exact hnm)
  clear HXw HXt HCw' HO3 HXq HO6 HB26 HB36 HB36' HXq4 HXq5 HO5
  obtain ⟨y0, y1, y2, y3, y4, y5, y6, y7, y8, y9, y10, y11, y12, y13⟩ := s14_cells (HR2.out w6 HB6.out)
  go_wp2_with fail
  refine (HLe.out w6 (btr2 HBW.out HB6.out)).mono ?_
  rintro e w7 ⟨B1, B2, B3, hR, tR, gh, gt, gd, gc, he, hLS, hb⟩
  rw [HNs.out.1, HNs.out.2.1, HNs.out.2.2.1, HNs.out.2.2.2] at he
  subst he
  have HLS : Hid (LS w7 w6.heap.size B1 B2 B3 x hx tx hR tR gh gt gd gc) := hLS
  have HD7 : Hid (Below w6.heap.size w6 w7) := hb
  clear hb hLS y0 y1 y2 y3 y4 y5 y6 y7 y8 y9 y10 y11 y12 y13 HLe
  have HGU : Hid (∀ V, Below w7.heap.size w7 V → SIn V x (lV gh nh) (lV gt nt) (lV gd nd) (lV gc nc) (hR.take hx.length) (tR.take tx.length)) := fun V hV => by
    have h := (HLS.out.below hV).sin H1.out
    rw [HNs.out.1, HNs.out.2.1, HNs.out.2.2.1, HNs.out.2.2.2] at h
    rw [HNs.out.1, HNs.out.2.1]
    exact h
  have HEx : Hid (∀ q : Sg, prt q (hR.take hx.length) (tR.take tx.length) = prt q hx tx) := fun q => prt_ex (LX.ex (w0 := w) (v := nl) HLS.out.head) (LX.ex (w0 := w) (v := nl) HLS.out.tail)
  have HPo : Hid (∀ V, Below w7.heap.size w7 V → Calls Tryd.prog 38 #[.agg (svC x (lV gh nh) (lV gt nt) (lV gd nd) (lV gc nc))] V fun e w' => ∃ a' c', e = .returned (.tuple #[.agg (rpA R nr a' c'), .int .i64 F]) ∧ C.SOwn w' V.heap.size (.slice a' nr c') R.clm ∧ Below V.heap.size V w') := fun V hV => (of5_any x _ _ _ _ _ _ V (HGU.out V hV) (HT.out V (btr2 HBW.out (btr2 HB6.out (btr2 HD7.out hV))))).mono fun e w' h => by
    have e1 : ofE x (hR.take hx.length) (tR.take tx.length) = F := by unfold ofE; rw [HEx.out]; exact HOr.out.1
    have e2 : ofR x (hR.take hx.length) (tR.take tx.length) = R := by unfold ofR; rw [HEx.out]; exact HOr.out.2.1
    rw [e1, e2] at h
    unfold Ofp at h
    rw [HOr.out.2.2] at h
    exact h
  have HPs : Hid (∀ V, Below w6.heap.size w6 V → Calls Tryd.prog 37 #[.agg #[.int .i64 o, .int .i64 m], .agg (rpA r n (some ⟨w4.heap.size, 0, none⟩) (n + 2))] V fun e w' => ∃ a' c', e = .returned (.tuple #[.agg (svC S nl nl nl (.slice a' ns c')), .int .i64 E]) ∧ C.SOwn w' V.heap.size (.slice a' ns c') S.clm ∧ Below V.heap.size V w') := fun V hV => (segment5_any o m r _ n (n + 2) HN.out (by omega) (by omega) V (GCq.out V hV)).mono fun e w' h => by
    rw [HSr.out.1, HSr.out.2.1] at h
    unfold Sgp at h
    rw [HSr.out.2.2] at h
    exact h
  have hst : Stor2 Tryd.prog 81 (w7.alloc (.cells zsC 81)) (.pointer (some ⟨w7.heap.size, 0, none⟩)) (.agg (svC x (lV gh nh) (lV gt nt) (lV gd nd) (lV gc nc))) := ⟨w7.heap.size, _, _, _, rfl, rfl, al_new _ _, rfl, size_sg2, by simp [Value.oneCell']⟩
  go_upto_region 7 with fail
  obtain ⟨w7', hw7'⟩ : ∃ zz, (w7.alloc (.cells zsC 81)).setRow w7.heap.size (svC x (lV gh nh) (lV gt nt) (lV gd nd) (lV gc nc)) = zz := ⟨_, rfl⟩
  obtain ⟨q1, q2, q3⟩ := box_s w7 (svC x (lV gh nh) (lV gt nt) (lV gd nd) (lV gc nc)) rfl
  rw [hw7'] at q1 q2 q3
  have HB77 : Hid (Below w7.heap.size w7 w7') := q1
  have HD7' : Hid (Below w6.heap.size w6 w7') := btr2 HD7.out q1
  have GXu : Hid (∀ V, Below w7'.heap.size w7' V → V.heap[w7.heap.size]? = some (.cells (svC x (lV gh nh) (lV gt nt) (lV gd nd) (lV gc nc)) 81 (0, 0))) := by have h := q2; exact fun V hV => (hV.block _ (Array.getElem?_eq_some_iff.1 h).1).trans h
  have HZ7 : Hid (w7'.heap.size = w7.heap.size + 1) := q3
  rw [hw7']
  clear hw7' q1 q2 q3 hst
  obtain ⟨s0, s1⟩ := HR0.out w7' (btr2 HB6.out HD7'.out)
  obtain ⟨k0, k1, k2, k3, k4⟩ := r5_cells (GXq.out w7' HD7'.out)
  go_wp2_with fail
  refine (HPs.out w7' HD7'.out).mono ?_
  rintro e w8 ⟨a8, c8, rfl, ho, hb⟩
  have HO8 : Hid (C.SOwn w8 w7'.heap.size (.slice a8 ns c8) S.clm) := ho
  have HT8 : Hid (∀ g, (Value.slice a8 ns c8).ownBlock = some g → g < w8.heap.size) := fun g hg => (ho.lt g hg).2
  have HB8a : Hid (Below w7'.heap.size w7' w8) := hb
  have HD8 : Hid (Below w6.heap.size w6 w8) := btr2 HD7'.out hb
  clear hb ho s0 s1 k0 k1 k2 k3 k4
  have hst : Stor2 Tryd.prog 81 (w8.alloc (.cells zsC 81)) (.pointer (some ⟨w8.heap.size, 0, none⟩)) (.agg (svC S nl nl nl (.slice a8 ns c8))) := ⟨w8.heap.size, _, _, _, rfl, rfl, al_new _ _, rfl, size_sg2, by simp [Value.oneCell']⟩
  go_upto_region 8 with fail
  obtain ⟨w8', hwx⟩ : ∃ x, (w8.alloc (.cells zsC 81)).setRow w8.heap.size (svC S nl nl nl (.slice a8 ns c8)) = x := ⟨_, rfl⟩
  obtain ⟨q1, q2, q3⟩ := box_s w8 (svC S nl nl nl (.slice a8 ns c8)) rfl
  rw [hwx] at q1 q2 q3
  have HB8b : Hid (Below w8.heap.size w8 w8') := q1
  have HD8' : Hid (Below w6.heap.size w6 w8') := btr2 HD8.out q1
  have GX8 : Hid (∀ V, Below w8'.heap.size w8' V → V.heap[w8.heap.size]? = some (.cells (svC S nl nl nl (.slice a8 ns c8)) 81 (0, 0))) := by have h := q2; exact fun V hV => (hV.block _ (Array.getElem?_eq_some_iff.1 h).1).trans h
  have GC8 : Hid (∀ V, Below w8'.heap.size w8' V → C.SOwn V w7'.heap.size (.slice a8 ns c8) S.clm) := by have h := HO8.out.below q1; exact fun V hV => h.below hV
  have HZ8 : Hid (w8'.heap.size = w8.heap.size + 1) := q3
  rw [hwx]
  clear hwx q1 q2 q3 hst
  have K78 : Hid (Below w7'.heap.size w7' w8') := btr2 HB8a.out HB8b.out
  obtain ⟨y0, y1, y2, y3, y4, y5, y6, y7, y8, y9, y10, y11, y12, y13⟩ := s14_cells (GXu.out w8' (K78.out))
  go_wp2_with fail
  refine (HPo.out w8' (btr2 HB77.out (K78.out))).mono ?_
  rintro e w9 ⟨a9, c9, rfl, ho, hb⟩
  have HO9 : Hid (C.SOwn w9 w8'.heap.size (.slice a9 nr c9) R.clm) := ho
  have HT9 : Hid (∀ g, (Value.slice a9 nr c9).ownBlock = some g → g < w9.heap.size) := fun g hg => (ho.lt g hg).2
  have HB9a : Hid (Below w8'.heap.size w8' w9) := hb
  have HD9 : Hid (Below w6.heap.size w6 w9) := btr2 HD8'.out hb
  clear hb ho y0 y1 y2 y3 y4 y5 y6 y7 y8 y9 y10 y11 y12 y13
  have hst : Stor2 Tryd.prog 75 (w9.alloc (.cells zrC 75)) (.pointer (some ⟨w9.heap.size, 0, none⟩)) (.agg (rpA R nr a9 c9)) := ⟨w9.heap.size, _, _, _, rfl, rfl, al_new _ _, rfl, size_rp2, by simp [Value.oneCell']⟩
  go_upto_region 9 with fail
  obtain ⟨w9', hwx⟩ : ∃ x, (w9.alloc (.cells zrC 75)).setRow w9.heap.size (rpA R nr a9 c9) = x := ⟨_, rfl⟩
  obtain ⟨q1, q2, q3⟩ := box_r w9 (rpA R nr a9 c9) rfl
  rw [hwx] at q1 q2 q3
  have HB9b : Hid (Below w9.heap.size w9 w9') := q1
  have HD9' : Hid (Below w6.heap.size w6 w9') := btr2 HD9.out q1
  have GX9 : Hid (∀ V, Below w9'.heap.size w9' V → V.heap[w9.heap.size]? = some (.cells (rpA R nr a9 c9) 75 (0, 0))) := by have h := q2; exact fun V hV => (hV.block _ (Array.getElem?_eq_some_iff.1 h).1).trans h
  have GC9 : Hid (∀ V, Below w9'.heap.size w9' V → C.SOwn V w8'.heap.size (.slice a9 nr c9) R.clm) := by have h := HO9.out.below q1; exact fun V hV => h.below hV
  have HZ9 : Hid (w9'.heap.size = w9.heap.size + 1) := q3
  rw [hwx]
  clear hwx q1 q2 q3 hst
  have K89 : Hid (Below w8'.heap.size w8' w9') := btr2 HB9a.out HB9b.out
  obtain ⟨s0, s1⟩ := HR0.out w9' (btr2 HB6.out HD9'.out)
  obtain ⟨k0, k1, k2, k3, k4⟩ := r5_cells (GXq.out w9' HD9'.out)
  go_wp2_with fail
  refine (HPs.out w9' HD9'.out).mono ?_
  rintro e w10 ⟨a10, c10, rfl, ho, hb⟩
  have HO10 : Hid (C.SOwn w10 w9'.heap.size (.slice a10 ns c10) S.clm) := ho
  have HT10 : Hid (∀ g, (Value.slice a10 ns c10).ownBlock = some g → g < w10.heap.size) := fun g hg => (ho.lt g hg).2
  have HB10a : Hid (Below w9'.heap.size w9' w10) := hb
  have HD10 : Hid (Below w6.heap.size w6 w10) := btr2 HD9'.out hb
  clear hb ho s0 s1 k0 k1 k2 k3 k4
  have hst : Stor2 Tryd.prog 81 (w10.alloc (.cells zsC 81)) (.pointer (some ⟨w10.heap.size, 0, none⟩)) (.agg (svC S nl nl nl (.slice a10 ns c10))) := ⟨w10.heap.size, _, _, _, rfl, rfl, al_new _ _, rfl, size_sg2, by simp [Value.oneCell']⟩
  go_upto_region 10 with fail
  obtain ⟨w10', hwx⟩ : ∃ x, (w10.alloc (.cells zsC 81)).setRow w10.heap.size (svC S nl nl nl (.slice a10 ns c10)) = x := ⟨_, rfl⟩
  obtain ⟨q1, q2, q3⟩ := box_s w10 (svC S nl nl nl (.slice a10 ns c10)) rfl
  rw [hwx] at q1 q2 q3
  have HB10b : Hid (Below w10.heap.size w10 w10') := q1
  have HD10' : Hid (Below w6.heap.size w6 w10') := btr2 HD10.out q1
  have GX10 : Hid (∀ V, Below w10'.heap.size w10' V → V.heap[w10.heap.size]? = some (.cells (svC S nl nl nl (.slice a10 ns c10)) 81 (0, 0))) := by have h := q2; exact fun V hV => (hV.block _ (Array.getElem?_eq_some_iff.1 h).1).trans h
  have GC10 : Hid (∀ V, Below w10'.heap.size w10' V → C.SOwn V w9'.heap.size (.slice a10 ns c10) S.clm) := by have h := HO10.out.below q1; exact fun V hV => h.below hV
  have HZ10 : Hid (w10'.heap.size = w10.heap.size + 1) := q3
  rw [hwx]
  clear hwx q1 q2 q3 hst
  have K90 : Hid (Below w9'.heap.size w9' w10') := btr2 HB10a.out HB10b.out
  obtain ⟨y0, y1, y2, y3, y4, y5, y6, y7, y8, y9, y10, y11, y12, y13⟩ := s14_cells (GXu.out w10' (btr2 K78.out (btr2 K89.out K90.out)))
  go_wp2_with fail
  refine (HPo.out w10' (btr2 HB77.out (btr2 K78.out (btr2 K89.out K90.out)))).mono ?_
  rintro e w11 ⟨a11, c11, rfl, ho, hb⟩
  have HO11 : Hid (C.SOwn w11 w10'.heap.size (.slice a11 nr c11) R.clm) := ho
  have HT11 : Hid (∀ g, (Value.slice a11 nr c11).ownBlock = some g → g < w11.heap.size) := fun g hg => (ho.lt g hg).2
  have HB11a : Hid (Below w10'.heap.size w10' w11) := hb
  have HD11 : Hid (Below w6.heap.size w6 w11) := btr2 HD10'.out hb
  clear hb ho y0 y1 y2 y3 y4 y5 y6 y7 y8 y9 y10 y11 y12 y13
  have hst : Stor2 Tryd.prog 75 (w11.alloc (.cells zrC 75)) (.pointer (some ⟨w11.heap.size, 0, none⟩)) (.agg (rpA R nr a11 c11)) := ⟨w11.heap.size, _, _, _, rfl, rfl, al_new _ _, rfl, size_rp2, by simp [Value.oneCell']⟩
  go_upto_region 11 with fail
  obtain ⟨w11', hwx⟩ : ∃ x, (w11.alloc (.cells zrC 75)).setRow w11.heap.size (rpA R nr a11 c11) = x := ⟨_, rfl⟩
  obtain ⟨q1, q2, q3⟩ := box_r w11 (rpA R nr a11 c11) rfl
  rw [hwx] at q1 q2 q3
  have HB11b : Hid (Below w11.heap.size w11 w11') := q1
  have HD11' : Hid (Below w6.heap.size w6 w11') := btr2 HD11.out q1
  have GX11 : Hid (∀ V, Below w11'.heap.size w11' V → V.heap[w11.heap.size]? = some (.cells (rpA R nr a11 c11) 75 (0, 0))) := by have h := q2; exact fun V hV => (hV.block _ (Array.getElem?_eq_some_iff.1 h).1).trans h
  have GC11 : Hid (∀ V, Below w11'.heap.size w11' V → C.SOwn V w10'.heap.size (.slice a11 nr c11) R.clm) := by have h := HO11.out.below q1; exact fun V hV => h.below hV
  have HZ11 : Hid (w11'.heap.size = w11.heap.size + 1) := q3
  rw [hwx]
  clear hwx q1 q2 q3 hst
  have K01 : Hid (Below w10'.heap.size w10' w11') := btr2 HB11a.out HB11b.out
  have K7 : Hid (Below w7'.heap.size w7' w11') := btr2 K78.out (btr2 K89.out (btr2 K90.out K01.out))
  have K8 : Hid (Below w8'.heap.size w8' w11') := btr2 K89.out (btr2 K90.out K01.out)
  have K9 : Hid (Below w9'.heap.size w9' w11') := btr2 K90.out K01.out
  have K6 : Hid (Below w6.heap.size w6 w11') := HD11'.out
  have HSn : Hid (S.clm.length ≤ 1048576 ∧ R.clm.length ≤ 1048576) := ⟨by rw [HSr.out.2.2]; exact HSf.out.1, by rw [HOr.out.2.2]; exact HSf.out.2.1⟩
  have HSame : Hid (∀ V cv cu, CIn V cv S.clm → CIn V cu S.clm → Calls Tryd.prog 39 #[.agg (svC S nl nl nl cv), .agg (svC S nl nl nl cu)] V fun e w' => e = .returned (.bool true) ∧ Below V.heap.size V w') := fun V cv cu h1 h2 => (same_gen2 S S _ _ _ _ _ _ _ _ _ _ _ _ V (HSa.out V cv h1) (HSa.out V cu h2)).mono fun e w' h => by
    obtain ⟨q, rfl, hq, hb⟩ := h
    rw [hq rfl]
    exact ⟨rfl, hb⟩
  have HSam5 : Hid (∀ V a1 b1 d1 d2, CIn V (.slice a1 nr d1) R.clm → CIn V (.slice b1 nr d2) R.clm → Calls Tryd.prog 40 #[.agg (rpA R nr a1 d1), .agg (rpA R nr b1 d2)] V fun e w' => e = .returned (.bool true) ∧ Below V.heap.size V w') := fun V a1 b1 d1 d2 h1 h2 => (same5_gen R R a1 b1 nr nr d1 d2 V HOr.out.2.2 HOr.out.2.2 h1 h2).mono fun e w' h => by
    obtain ⟨q, rfl, hq, hb⟩ := h
    rw [hq rfl]
    exact ⟨rfl, hb⟩
  have HKs : Hid (∀ V, Below w6.heap.size w6 V → Calls Tryd.prog 28 #[lV w4.heap.size n, .slice a n c] V fun e w' => e = .returned (.bool true) ∧ Below V.heap.size V w') := fun V hV => by
    obtain ⟨a', c', e', hsp⟩ := (HC0.out V (btr2 HBW.out (btr2 HB6.out hV))).shape
    simp only [Value.slice.injEq] at e'
    obtain ⟨rfl, _, rfl⟩ := e'
    have := C.keptSpa_any (v := .slice a n c) (c := c) (by rw [HN.out]) hsp (by rw [HN.out]; exact hnm) (by rw [HN.out]; exact GLq.out V hV)
    rw [HN.out] at this
    exact this
  have HKe : Hid (∀ V, Below w7'.heap.size w7' V → Calls Tryd.prog 41 #[.agg (svC x (lV gh nh) (lV gt nt) (lV gd nd) (lV gc nc)), .agg (svC x (.slice ah nh ch) (.slice at1 nt ct) (.slice ad nd cd) (.slice ac nc cc))] V fun e w' => e = .returned (.bool true) ∧ Below V.heap.size V w') := fun V hV => by
    have := kept_seg x _ _ _ _ hx tx hR tR V _ _ _ _ _ _ _ _ (HLS.out.below (btr2 HB77.out hV)) (HX0.out V (btr2 HBW.out (btr2 HB6.out (btr2 HD7'.out hV))))
    rw [HNs.out.1, HNs.out.2.1, HNs.out.2.2.1, HNs.out.2.2.2] at this
    exact this
  have J11 : Hid (Below w11'.heap.size w11' w11') := Below.refl _ _
  obtain ⟨y0, y1, y2, y3, y4, y5, y6, y7, y8, y9, y10, y11, y12, y13⟩ := s14_cells (GX8.out w11' K8.out)
  obtain ⟨v0, v1, v2, v3, v4, v5, v6, v7, v8, v9, v10, v11, v12, v13⟩ := s14_cells (GXw.out w11' K6.out)
  go_wp2_with fail
  refine (HSame.out w11' _ _ (cin_own (GC8.out w11' K8.out) HSn.out.1) (GCw.out w11' K6.out)).mono ?_
  rintro e w12 ⟨rfl, hb⟩
  have J12 : Hid (Below w11'.heap.size w11' w12) := btr2 J11.out hb
  clear hb
  clear y0 y1 y2 y3 y4 y5 y6 y7 y8 y9 y10 y11 y12 y13 v0 v1 v2 v3 v4 v5 v6 v7 v8 v9 v10 v11 v12 v13
  obtain ⟨k0, k1, k2, k3, k4⟩ := r5_cells (GX9.out w12 (btr2 K9.out J12.out))
  obtain ⟨l0, l1, l2, l3, l4⟩ := r5_cells (GXt.out w12 (btr2 K6.out J12.out))
  go_wp2_with fail
  refine (HSam5.out w12 _ _ _ _ (cin_own (GC9.out w12 (btr2 K9.out J12.out)) HSn.out.2) (GCt.out w12 (btr2 K6.out J12.out))).mono ?_
  rintro e w13 ⟨rfl, hb⟩
  have J13 : Hid (Below w11'.heap.size w11' w13) := btr2 J12.out hb
  clear hb
  clear k0 k1 k2 k3 k4 l0 l1 l2 l3 l4
  obtain ⟨y0, y1, y2, y3, y4, y5, y6, y7, y8, y9, y10, y11, y12, y13⟩ := s14_cells (GX10.out w13 (btr2 K01.out J13.out))
  obtain ⟨v0, v1, v2, v3, v4, v5, v6, v7, v8, v9, v10, v11, v12, v13⟩ := s14_cells (GXw.out w13 (btr2 K6.out J13.out))
  go_wp2_with fail
  refine (HSame.out w13 _ _ (cin_own (GC10.out w13 (btr2 K01.out J13.out)) HSn.out.1) (GCw.out w13 (btr2 K6.out J13.out))).mono ?_
  rintro e w14 ⟨rfl, hb⟩
  have J14 : Hid (Below w11'.heap.size w11' w14) := btr2 J13.out hb
  clear hb
  clear y0 y1 y2 y3 y4 y5 y6 y7 y8 y9 y10 y11 y12 y13 v0 v1 v2 v3 v4 v5 v6 v7 v8 v9 v10 v11 v12 v13
  obtain ⟨k0, k1, k2, k3, k4⟩ := r5_cells (GX11.out w14 J14.out)
  obtain ⟨l0, l1, l2, l3, l4⟩ := r5_cells (GXt.out w14 (btr2 K6.out J14.out))
  go_wp2_with fail
  refine (HSam5.out w14 _ _ _ _ (cin_own (GC11.out w14 J14.out) HSn.out.2) (GCt.out w14 (btr2 K6.out J14.out))).mono ?_
  rintro e w15 ⟨rfl, hb⟩
  have J15 : Hid (Below w11'.heap.size w11' w15) := btr2 J14.out hb
  clear hb
  clear k0 k1 k2 k3 k4 l0 l1 l2 l3 l4
  obtain ⟨k0, k1, k2, k3, k4⟩ := r5_cells (GXq.out w15 (btr2 K6.out J15.out))
  obtain ⟨l0, l1, l2, l3, l4⟩ := r5_cells (HR1.out w15 (btr2 HB6.out (btr2 K6.out J15.out)))
  go_wp2_with fail
  refine (HKs.out w15 (btr2 K6.out J15.out)).mono ?_
  rintro e w16 ⟨rfl, hb⟩
  have J16 : Hid (Below w11'.heap.size w11' w16) := btr2 J15.out hb
  clear hb
  clear k0 k1 k2 k3 k4 l0 l1 l2 l3 l4
  obtain ⟨y0, y1, y2, y3, y4, y5, y6, y7, y8, y9, y10, y11, y12, y13⟩ := s14_cells (GXu.out w16 (btr2 K7.out J16.out))
  obtain ⟨v0, v1, v2, v3, v4, v5, v6, v7, v8, v9, v10, v11, v12, v13⟩ := s14_cells (HR2.out w16 (btr2 HB6.out (btr2 K6.out J16.out)))
  go_wp2_with fail
  refine (HKe.out w16 (btr2 K7.out J16.out)).mono ?_
  rintro e w17 ⟨rfl, hb⟩
  have J17 : Hid (Below w11'.heap.size w11' w17) := btr2 J16.out hb
  clear hb
  clear y0 y1 y2 y3 y4 y5 y6 y7 y8 y9 y10 y11 y12 y13 v0 v1 v2 v3 v4 v5 v6 v7 v8 v9 v10 v11 v12 v13
  have e1 : (E != E) = false := by simp
  have e2 : (F != F) = false := by simp
  have e3 : (E == E) = true := by simp
  obtain ⟨F2, hF2⟩ : ∃ F, ofE S [] [] = F := ⟨_, rfl⟩
  obtain ⟨R2, hR2⟩ : ∃ F, ofR S [] [] = F := ⟨_, rfl⟩
  obtain ⟨n2, hn2⟩ : ∃ n, R2.clm.length = n := ⟨_, rfl⟩
  have HO2 : Hid (ofE S [] [] = F2 ∧ ofR S [] [] = R2 ∧ R2.clm.length = n2) := ⟨hF2, hR2, hn2⟩
  have HN2 : Hid (n2 ≤ 1048576) := by show _ ≤ _; rw [← hn2, ← hR2]; exact of_few S [] [] HSn.out.1
  have HPb : Hid (∀ V, Below w11'.heap.size w11' V → Calls Tryd.prog 38 #[.agg (svC S nl nl nl (.slice a8 ns c8))] V fun e w' => ∃ a' c', e = .returned (.tuple #[.agg (rpA R2 n2 a' c'), .int .i64 F2]) ∧ C.SOwn w' V.heap.size (.slice a' n2 c') R2.clm ∧ Below V.heap.size V w') := fun V hV => (of5_any S _ _ _ _ [] [] V (HSa.out V _ (cin_own (GC8.out V (btr2 K8.out hV)) HSn.out.1)) (HT.out V (btr2 HBW.out (btr2 HB6.out (btr2 K6.out hV))))).mono fun e w' h => by rw [hF2, hR2] at h; unfold Ofp at h; rw [hn2] at h; exact h
  have HOk : Hid (E = 0 → F2 = 0 ∧ R2 = r) := fun h => by
    have := prt_sg (HSr.out.1.trans h)
    rw [HSr.out.2.1] at this
    exact ⟨hF2.symm.trans this.2.2.2, hR2.symm.trans this.2.2.1⟩
  clear hF2 hR2 hn2
  obtain ⟨y0, y1, y2, y3, y4, y5, y6, y7, y8, y9, y10, y11, y12, y13⟩ := s14_cells (GX8.out w17 (btr2 K8.out J17.out))
  go_wp2_with fail
  refine (HPb.out w17 J17.out).mono ?_
  rintro e w18 ⟨a18, c18, rfl, ho, hb⟩
  have HO18 : Hid (C.SOwn w18 w17.heap.size (.slice a18 n2 c18) R2.clm) := ho
  have HT18 : Hid (∀ g, (Value.slice a18 n2 c18).ownBlock = some g → g < w18.heap.size) := fun g hg => (ho.lt g hg).2
  have J18 : Hid (Below w11'.heap.size w11' w18) := btr2 J17.out hb
  have HS18 : Hid (w17.heap.size ≤ w18.heap.size) := hb.size
  clear hb ho y0 y1 y2 y3 y4 y5 y6 y7 y8 y9 y10 y11 y12 y13
  have hst : Stor2 Tryd.prog 75 (w18.alloc (.cells zrC 75)) (.pointer (some ⟨w18.heap.size, 0, none⟩)) (.agg (rpA R2 n2 a18 c18)) := ⟨w18.heap.size, _, _, _, rfl, rfl, al_new _ _, rfl, size_rp2, by simp [Value.oneCell']⟩
  go_upto_region 20 with fail
  obtain ⟨w18', hwx⟩ : ∃ x, (w18.alloc (.cells zrC 75)).setRow w18.heap.size (rpA R2 n2 a18 c18) = x := ⟨_, rfl⟩
  obtain ⟨q1, q2, q3⟩ := box_r w18 (rpA R2 n2 a18 c18) rfl
  rw [hwx] at q1 q2 q3
  have J18' : Hid (Below w11'.heap.size w11' w18') := btr2 J18.out q1
  have GX18 : Hid (∀ V, Below w18'.heap.size w18' V → V.heap[w18.heap.size]? = some (.cells (rpA R2 n2 a18 c18) 75 (0, 0))) := by have h := q2; exact fun V hV => (hV.block _ (Array.getElem?_eq_some_iff.1 h).1).trans h
  have GC18 : Hid (∀ V, Below w18'.heap.size w18' V → C.SOwn V w17.heap.size (.slice a18 n2 c18) R2.clm) := by have h := HO18.out.below q1; exact fun V hV => h.below hV
  have HZ18 : Hid (w18'.heap.size = w18.heap.size + 1) := q3
  rw [hwx]
  clear hwx q1 q2 q3 hst
  obtain ⟨k0, k1, k2, k3, k4⟩ := r5_cells (GX18.out w18' (Below.refl _ _))
  obtain ⟨l0, l1, l2, l3, l4⟩ := r5_cells (HR1.out w18' (btr2 HB6.out (btr2 K6.out J18'.out)))
  have hSm := same5_gen R2 r a18 a n2 n c18 c w18' HO2.out.2.2 HN.out (cin_own (GC18.out w18' (Below.refl _ _)) (by rw [HO2.out.2.2]; exact HN2.out)) (HC0.out w18' (btr2 HBW.out (btr2 HB6.out (btr2 K6.out J18'.out))))
  go_wp2_with fail
  refine hSm.mono ?_
  rintro e w19 ⟨qb, rfl, hqb, hb⟩
  have HQb : Hid (R2 = r → qb = true) := hqb
  have M19 : Hid (Below w18'.heap.size w18' w19) := hb
  clear hqb hb hSm k0 k1 k2 k3 k4 l0 l1 l2 l3 l4
  have HQE : Hid (E = 0 → F2 = 0 ∧ qb = true) := fun h => ⟨(HOk.out h).1, HQb.out (HOk.out h).2⟩
  have N19 : Hid (Below w11'.heap.size w11' w19) := btr2 J18'.out M19.out
  go_upto_region 21 with fail
  go_cut [156] from 147 to 156 (fun q wx => q = .bool false ∧ wx = w19)
  case first =>
    by_cases hE0 : E = 0
    · have f1 : (E == 0) = true := by simp [hE0]
      obtain ⟨hf, hq⟩ := HQE.out hE0
      subst hq
      have f2 : (F2 != 0) = false := by rw [hf]; rfl
      clear hE0 hf
      go_wp2
      go_meet
      exact ⟨rfl, rfl⟩
    · have f1 : (E == 0) = false := by simp [hE0]
      clear hE0
      go_wp2
      go_meet
      exact ⟨rfl, rfl⟩
  case rest =>
  obtain ⟨rfl, hwc⟩ := hcut
  subst hwc
  clear e1 e2 e3
  obtain ⟨_, _, _, _, k4⟩ := r5_cells (GX9.out _ (btr2 K9.out N19.out))
  obtain ⟨_, _, _, _, l4⟩ := r5_cells (GX11.out _ N19.out)
  obtain ⟨_, _, _, _, m4⟩ := r5_cells (GX18.out _ M19.out)
  obtain ⟨_, _, _, _, q4⟩ := r5_cells (GXq.out _ (btr2 K6.out N19.out))
  obtain ⟨y0, y1, y2, y3, y4, y5, y6, y7, y8, y9, y10, y11, y12, y13⟩ := s14_cells (GXu.out _ (btr2 K7.out N19.out))
  obtain ⟨w9z, hw9z⟩ : ∃ z, z = wc := ⟨_, rfl⟩
  subst hw9z
  go_upto_region 24 with fail
  clear k4 l4 m4 q4 y0 y1 y2 y3 y4 y5 y6 y7 y8 y9 y10 y11 y12 y13
  obtain ⟨w20, hw20⟩ : ∃ z, (w9z.alloc (.cells #[.slice a9 nr c9, .slice a11 nr c11, .slice a18 n2 c18, lV w4.heap.size n, lV gc nc] 26)).alloc (.cells #[nl, .slice (some ⟨w9z.heap.size, 0, none⟩) 5 5, nl] 73) = z := ⟨_, rfl⟩
  have b0 : w20.heap[w9z.heap.size]? = some (.cells #[.slice a9 nr c9, .slice a11 nr c11, .slice a18 n2 c18, lV w4.heap.size n, lV gc nc] 26 (0, 0)) := by rw [← hw20]; exact al_old (al_new _ _)
  have b1 : w20.heap[w9z.heap.size + 1]? = some (.cells #[nl, .slice (some ⟨w9z.heap.size, 0, none⟩) 5 5, nl] 73 (0, 0)) := by
    rw [← hw20]
    have := al_new (w9z.alloc (.cells #[.slice a9 nr c9, .slice a11 nr c11, .slice a18 n2 c18, lV w4.heap.size n, lV gc nc] 26)) (.cells #[nl, .slice (some ⟨w9z.heap.size, 0, none⟩) 5 5, nl] 73)
    rwa [World.size_alloc] at this
  have HB20 : Hid (Below w9z.heap.size w9z w20) := by show Below _ _ _; rw [← hw20]; exact ((Below.refl _ _).alloc (Nat.le_refl _) _).alloc (by simp) _
  have HS20 : Hid (w20.heap.size = w9z.heap.size + 2) := by show _ = _; rw [← hw20]; simp
  have Hb0 : Hid (w20.heap[w9z.heap.size]? = some (.cells #[.slice a9 nr c9, .slice a11 nr c11, .slice a18 n2 c18, lV w4.heap.size n, lV gc nc] 26 (0, 0)) ∧ w20.heap[w9z.heap.size + 1]? = some (.cells #[nl, .slice (some ⟨w9z.heap.size, 0, none⟩) 5 5, nl] 73 (0, 0))) := ⟨b0, b1⟩
  rw [hw20]
  clear hw20 b0 b1
  have N20 : Hid (Below w11'.heap.size w11' w20) := btr2 N19.out HB20.out
  obtain ⟨y0, y1, y2, y3, y4, y5, y6, y7, y8, y9, y10, y11, y12, y13⟩ := s14_cells (GX8.out w20 (btr2 K8.out N20.out))
  obtain ⟨v0, v1, v2, v3, v4, v5, v6, v7, v8, v9, v10, v11, v12, v13⟩ := s14_cells (GX10.out w20 (btr2 K01.out N20.out))
  obtain ⟨w21, hw21⟩ : ∃ z, w20.alloc (.cells #[.int .i64 S.typ, .int .i64 S.org, .int .i64 S.num, nl, nl, .int .i64 S.srv, .int .i64 S.off, nl, .int .i64 S.chk, .int .i64 S.rep, .int .i64 S.upp, .int .i64 S.low, .slice a8 ns c8, .int .i64 S.rsn, .int .i64 S.typ, .int .i64 S.org, .int .i64 S.num, nl, nl, .int .i64 S.srv, .int .i64 S.off, nl, .int .i64 S.chk, .int .i64 S.rep, .int .i64 S.upp, .int .i64 S.low, .slice a10 ns c10, .int .i64 S.rsn] 81) = z := ⟨_, rfl⟩
  have HB21 : Hid (Below w20.heap.size w20 w21) := by show Below _ _ _; rw [← hw21]; exact (Below.refl _ _).alloc (Nat.le_refl _) _
  have HW21 : Hid (w20.alloc (.cells #[.int .i64 S.typ, .int .i64 S.org, .int .i64 S.num, nl, nl, .int .i64 S.srv, .int .i64 S.off, nl, .int .i64 S.chk, .int .i64 S.rep, .int .i64 S.upp, .int .i64 S.low, .slice a8 ns c8, .int .i64 S.rsn, .int .i64 S.typ, .int .i64 S.org, .int .i64 S.num, nl, nl, .int .i64 S.srv, .int .i64 S.off, nl, .int .i64 S.chk, .int .i64 S.rep, .int .i64 S.upp, .int .i64 S.low, .slice a10 ns c10, .int .i64 S.rsn] 81) = w21) := hw21
  have g28 : w21.heap[w20.heap.size]? = some (.cells #[.int .i64 S.typ, .int .i64 S.org, .int .i64 S.num, nl, nl, .int .i64 S.srv, .int .i64 S.off, nl, .int .i64 S.chk, .int .i64 S.rep, .int .i64 S.upp, .int .i64 S.low, .slice a8 ns c8, .int .i64 S.rsn, .int .i64 S.typ, .int .i64 S.org, .int .i64 S.num, nl, nl, .int .i64 S.srv, .int .i64 S.off, nl, .int .i64 S.chk, .int .i64 S.rep, .int .i64 S.upp, .int .i64 S.low, .slice a10 ns c10, .int .i64 S.rsn] 81 (0, 0)) := by rw [← hw21]; exact al_new _ _
  have b0 : w21.heap[w9z.heap.size]? = some (.cells #[.slice a9 nr c9, .slice a11 nr c11, .slice a18 n2 c18, lV w4.heap.size n, lV gc nc] 26 (0, 0)) := (HB21.out.block _ (by have := HS20.out; omega)).trans Hb0.out.1
  have b1 : w21.heap[w9z.heap.size + 1]? = some (.cells #[nl, .slice (some ⟨w9z.heap.size, 0, none⟩) 5 5, nl] 73 (0, 0)) := (HB21.out.block _ (by have := HS20.out; omega)).trans Hb0.out.2
  have hTk := take_claims (w9z.heap.size + 1) w20.heap.size (.slice (some ⟨w9z.heap.size, 0, none⟩) 5 5) [.slice a9 nr c9, .slice a11 nr c11, .slice a18 n2 c18, lV w4.heap.size n, lV gc nc] [.slice a8 ns c8, .slice a10 ns c10] 2 w21 b1 ⟨rfl, .inr ⟨w9z.heap.size, 5, _, rfl, Nat.zero_le _, b0, Nat.le_refl _, by unfold maxLen; omega, rfl, rfl⟩⟩ rfl (by omega) (by simp) (by intro cv hcv; simp at hcv; rcases hcv with rfl | rfl; exact ⟨_, _, _, rfl⟩; exact ⟨_, _, _, rfl⟩) (Array.getElem?_eq_some_iff.1 g28).1 (by have := HS20.out; omega) (by have := HS20.out; simp [Value.ownBlock]; omega) (fun k cv hk => by
    match k, hk with
    | 0, hk => simp at hk; subst hk; exact ⟨(cell_of_row _ _ _ _ _ _ g28).trans rfl, (cell_of_row _ _ _ _ _ _ g28).trans rfl, (cell_of_row _ _ _ _ _ _ g28).trans rfl, (cell_of_row _ _ _ _ _ _ g28).trans rfl⟩
    | 1, hk => simp at hk; subst hk; exact ⟨(cell_of_row _ _ _ _ _ _ g28).trans rfl, (cell_of_row _ _ _ _ _ _ g28).trans rfl, (cell_of_row _ _ _ _ _ _ g28).trans rfl, (cell_of_row _ _ _ _ _ _ g28).trans rfl⟩
    | k + 2, hk => simp at hk)
  clear hw21 g28 b0 b1
  go_wp2_with fail
  rw [HW21.out]
  refine hTk.mono ?_
  rintro e w22 ⟨rfl, bv, sv, ev, hT22⟩
  have HT22 : Hid (TkS w21 w22 (w9z.heap.size + 1) (.slice (some ⟨w9z.heap.size, 0, none⟩) 5 5) [.slice a9 nr c9, .slice a11 nr c11, .slice a18 n2 c18, lV w4.heap.size n, lV gc nc] 2 2 (2 * 2) [.slice a8 ns c8, .slice a10 ns c10] bv sv ev) := hT22
  clear hTk hT22 y0 y1 y2 y3 y4 y5 y6 y7 y8 y9 y10 y11 y12 y13 v0 v1 v2 v3 v4 v5 v6 v7 v8 v9 v10 v11 v12 v13
  have N21 : Hid (Below w11'.heap.size w11' w21) := btr2 N20.out HB21.out
  have HSz : Hid (w4.heap.size ≤ w6.heap.size ∧ w6.heap.size ≤ w7'.heap.size ∧ w7'.heap.size ≤ w8'.heap.size ∧ w8'.heap.size ≤ w9'.heap.size ∧ w9'.heap.size ≤ w10'.heap.size ∧ w10'.heap.size ≤ w17.heap.size ∧ w17.heap.size ≤ w18.heap.size ∧ w18.heap.size ≤ w9z.heap.size ∧ w.heap.size ≤ w4.heap.size) := by
    have z1 := HS5.out; have z2 := HS6.out; have z3 := HD7'.out.size; have z4 := K78.out.size; have z5 := K89.out.size; have z6 := K90.out.size; have z7 := K01.out.size; have z8 := J17.out.size; have z9 := HS18.out; have z10 := HZ18.out; have z11 := M19.out.size; have z12 := HBW.out.size; have z13 := HB4.out.size
    refine ⟨by omega, by omega, by omega, by omega, by omega, by omega, by omega, by omega, by omega⟩
  have HKp : Hid (∀ b v (l : List (Int × Int)), C.SOwn w21 b v l → (∀ g, v.ownBlock = some g → g < w9z.heap.size) → C.SOwn w22 0 v l) := fun b v l h hlt => own_low5 (h.blk2 (fun g hg => HT22.out.block g (h.lt g hg).2 (by have := hlt g hg; omega) (by have := hlt g hg; simp [Value.ownBlock]; omega))) (Nat.zero_le _)
  have hgcl := HLS.out.clm.lt gc rfl
  have HGc : Hid (w6.heap.size ≤ gc ∧ gc < w7.heap.size) := by have q1 := HLS.out.head.g0; have q2 := HLS.out.tail.g0; have q3 := HLS.out.gdb; exact ⟨by omega, hgcl.2⟩
  clear hgcl
  have HRow : Hid (∀ (j : Nat) v, ([.slice a9 nr c9, .slice a11 nr c11, .slice a18 n2 c18, lV w4.heap.size n, lV gc nc] ++ [.slice a8 ns c8, .slice a10 ns c10] : List Value)[j]? = some v → C.SOwn w22 0 v ([R.clm, R.clm, R2.clm, r.clm, x.clm, S.clm, S.clm].getD j []) ∧ ∀ g, v.ownBlock = some g → [w4.heap.size, w6.heap.size, w7'.heap.size, w8'.heap.size, w9'.heap.size, w10'.heap.size, w17.heap.size].getD ([3, 5, 6, 0, 1, 2, 4].getD j 0) w18.heap.size ≤ g ∧ g < [w4.heap.size, w6.heap.size, w7'.heap.size, w8'.heap.size, w9'.heap.size, w10'.heap.size, w17.heap.size].getD ([3, 5, 6, 0, 1, 2, 4].getD j 0 + 1) w18.heap.size) := fun j v hj => by
    have sz := HSz.out
    have z9 := HZ9.out; have z8 := HZ8.out; have z10 := HZ10.out; have z11 := HZ11.out; have z17 := J17.out.size; have gcc := HGc.out; have z7 := HZ7.out
    match j, hj with
    | 0, hj =>
      simp at hj; subst hj
      have h := GC9.out w21 (btr2 K9.out N21.out)
      exact ⟨HKp.out _ _ _ h (fun g hg => by have := HT9.out g hg; omega), fun g hg => by have a1 := (h.lt g hg).1; have a2 := HT9.out g hg; show w8'.heap.size ≤ g ∧ g < w9'.heap.size; omega⟩
    | 1, hj =>
      simp at hj; subst hj
      have h := GC11.out w21 N21.out
      exact ⟨HKp.out _ _ _ h (fun g hg => by have := HT11.out g hg; omega), fun g hg => by have a1 := (h.lt g hg).1; have a2 := HT11.out g hg; show w10'.heap.size ≤ g ∧ g < w17.heap.size; omega⟩
    | 2, hj =>
      simp at hj; subst hj
      have h := GC18.out w21 (btr2 M19.out (btr2 HB20.out HB21.out))
      exact ⟨HKp.out _ _ _ h (fun g hg => by have := HT18.out g hg; omega), fun g hg => by have a1 := (h.lt g hg).1; have a2 := HT18.out g hg; show w17.heap.size ≤ g ∧ g < w18.heap.size; omega⟩
    | 3, hj =>
      simp at hj; subst hj
      have h := lent_row2 (GLq.out w21 (btr2 K6.out N21.out)) HN.out
      have hz := HZ4.out; have hs6 := HS6.out
      have hlt : w4.heap.size < w6.heap.size := by have h5 := (HL5.out); omega
      exact ⟨HKp.out _ _ _ h (fun g hg => by have e : w4.heap.size = g := Option.some.inj hg; omega), fun g hg => by have e : w4.heap.size = g := Option.some.inj hg; show w4.heap.size ≤ g ∧ g < w6.heap.size; omega⟩
    | 4, hj =>
      simp at hj; subst hj
      have h := lent_row2 (by have := (HLS.out.below (btr2 HB77.out (btr2 K7.out N21.out))).clm; rw [HNs.out.2.2.2] at this; exact this) HNs.out.2.2.2
      exact ⟨HKp.out _ _ _ h (fun g hg => by have e : gc = g := Option.some.inj hg; omega), fun g hg => by have e : gc = g := Option.some.inj hg; show w6.heap.size ≤ g ∧ g < w7'.heap.size; omega⟩
    | 5, hj =>
      simp at hj; subst hj
      have h := GC8.out w21 (btr2 K8.out N21.out)
      exact ⟨HKp.out _ _ _ h (fun g hg => by have := HT8.out g hg; omega), fun g hg => by have a1 := (h.lt g hg).1; have a2 := HT8.out g hg; show w7'.heap.size ≤ g ∧ g < w8'.heap.size; omega⟩
    | 6, hj =>
      simp at hj; subst hj
      have h := GC10.out w21 (btr2 K01.out N21.out)
      exact ⟨HKp.out _ _ _ h (fun g hg => by have := HT10.out g hg; omega), fun g hg => by have a1 := (h.lt g hg).1; have a2 := HT10.out g hg; show w9'.heap.size ≤ g ∧ g < w10'.heap.size; omega⟩
    | j + 7, hj => simp at hj
  obtain ⟨oS, ab, asp, ae, cb, cS, ce, hRw, hz0⟩ := rws_spans HT22.out rfl (fun j => [R.clm, R.clm, R2.clm, r.clm, x.clm, S.clm, S.clm].getD j []) (fun j => [w4.heap.size, w6.heap.size, w7'.heap.size, w8'.heap.size, w9'.heap.size, w10'.heap.size, w17.heap.size].getD j w18.heap.size) (fun j => [3, 5, 6, 0, 1, 2, 4].getD j 0) (fun i j hi hj he => by
      have key : ∀ i : Fin 7, ∀ j : Fin 7, ([3, 5, 6, 0, 1, 2, 4] : List Nat).getD i.val 0 = ([3, 5, 6, 0, 1, 2, 4] : List Nat).getD j.val 0 → i = j := by decide
      exact congrArg Fin.val (key ⟨i, hi⟩ ⟨j, hj⟩ he)) (fun j => by
      have sz := HSz.out
      match j with
      | 0 => show w4.heap.size ≤ w6.heap.size; omega
      | 1 => show w6.heap.size ≤ w7'.heap.size; omega
      | 2 => show w7'.heap.size ≤ w8'.heap.size; omega
      | 3 => show w8'.heap.size ≤ w9'.heap.size; omega
      | 4 => show w9'.heap.size ≤ w10'.heap.size; omega
      | 5 => show w10'.heap.size ≤ w17.heap.size; omega
      | 6 => show w17.heap.size ≤ w18.heap.size; omega
      | j + 7 => exact Nat.le_refl _) HRow.out rfl (by simp) (by simp) (by omega) (by omega) (fun j => by
      have s1 := HSf.out; have s2 := HN2.out; have s3 := HSr.out.2.2; have s4 := HOr.out.2.2; have s5 := HO2.out.2.2; have s6 := HN.out; have s7 := HNs.out.2.2.2
      match j with
      | 0 => show R.clm.length ≤ _; omega
      | 1 => show R.clm.length ≤ _; omega
      | 2 => show R2.clm.length ≤ _; omega
      | 3 => show r.clm.length ≤ _; omega
      | 4 => show x.clm.length ≤ _; omega
      | 5 => show S.clm.length ≤ _; omega
      | 6 => show S.clm.length ≤ _; omega
      | j + 7 => exact Nat.zero_le _)
  have hOw := ownedRows_any hRw
  have HZ0 : Hid (∀ g, g < w.heap.size → oS g = 0) := fun g hg => hz0 g fun j v hj hv => by
    have h1 := ((HRow.out j v hj).2 g hv).1
    have sz := HSz.out
    have : w4.heap.size ≤ [w4.heap.size, w6.heap.size, w7'.heap.size, w8'.heap.size, w9'.heap.size, w10'.heap.size, w17.heap.size].getD ([3, 5, 6, 0, 1, 2, 4].getD j 0) w18.heap.size := by
      match j with
      | 0 => show w4.heap.size ≤ w8'.heap.size; omega
      | 1 => show w4.heap.size ≤ w10'.heap.size; omega
      | 2 => show w4.heap.size ≤ w17.heap.size; omega
      | 3 => show w4.heap.size ≤ w4.heap.size; omega
      | 4 => show w4.heap.size ≤ w6.heap.size; omega
      | 5 => show w4.heap.size ≤ w7'.heap.size; omega
      | 6 => show w4.heap.size ≤ w9'.heap.size; omega
      | j + 7 => show w4.heap.size ≤ w4.heap.size; omega
    omega
  have HFin : Hid (Below w.heap.size w w21) := btr2 HBW.out (btr2 HB6.out (btr2 K6.out N21.out))
  clear hRw hz0
  go_wp2_with fail
  refine hOw.mono ?_
  rintro e wq ⟨rfl, hk⟩
  have HEnd : Hid (Below w.heap.size w wq) := by
    have hb := HFin.out
    have ht := HT22.out
    have sz := HSz.out
    exact ⟨hk.os.trans (ht.os.trans hb.os), hk.tape.trans (ht.tape.trans hb.tape), hk.output.trans (ht.output.trans hb.output), Nat.le_trans hb.size (Nat.le_trans ht.size hk.size), fun g hg => (hk.block g (Nat.lt_of_lt_of_le hg (Nat.le_trans hb.size ht.size)) (by show 0 + oS g + 0 = 0; rw [HZ0.out g hg])).trans ((ht.block g (Nat.lt_of_lt_of_le hg hb.size) (by omega) (by simp [Value.ownBlock]; omega)).trans (hb.block g hg))⟩
  clear hOw hk
  go_wp2
  first | exact ⟨rfl, HEnd.out⟩ | (go_ret; exact ⟨rfl, HEnd.out⟩)

end Go.Proofs.YtkkmoplijicmpaeDoor
