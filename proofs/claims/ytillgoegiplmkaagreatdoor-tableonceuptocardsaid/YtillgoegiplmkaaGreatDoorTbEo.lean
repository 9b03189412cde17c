import Derived.Test.YtillgoegiplmkaaGreatDoorTbK
import Derived.Test.YtillgoegiplmkaaGreatDoorTbEf
import Derived.Test.YtillgoegiplmkaaGreatDoorTbFb
import Derived.Deep.RegionHeld3
namespace Go.Proofs.YtillgoegiplmkaaGreatDoor.B
open C
open Go.RowKit Go.Maps
set_option linter.unusedVariables false
set_option linter.unusedSimpArgs false

/-- What Snapshot leaves. -/
def SnP (T : T8) (w : World) (e : Ending) (w' : World) : Prop := ∃ a n c L, e = .returned (.slice a n c) ∧ L.map Prod.fst = T.snap ∧ RJ w L (.slice a n c) w'
/-- What Concat leaves of the beginning. -/
def CoP (T : T8) (P : List (Og × Value)) (w : World) (e : Ending) (w' : World) : Prop := ∃ a n c, e = .returned (.slice a n c) ∧ RrR w' w.heap.size (.slice a n c) (btV T ++ xrs T.next P) ∧ Below w.heap.size w w'
set_option maxRecDepth 8000 in
set_option maxHeartbeats 8000000 in
/-- SNAPSHOT OF ANY TABLE. -/
theorem snapshot_any {w : World} {z : Tz} {T : T8} (h : Tw w z T) (hok : T.Ok) (hf : T.Few 1048576) : Calls Tryz.prog 17 #[tP z] w (SnP T w) := by
  obtain ⟨i0, hi, hz0, hz1, hz2⟩ := info_parts Tryz.info_rec
  have HT : Hid (T.Ok ∧ T.Few 1048576) := ⟨hok, hf⟩
  have HSt : Hid (Calls Tryz.prog 26 #[tP z] w (StP T w)) := state_any h hok (by have := hf.ex; omega) (by have := hf.im; omega) (by have := hf.tb; omega)
  clear h hok hf
  go_enter Tryz.func17, Tryz.ntmps17
  go_upto_region 2 with (go_at_call 26; refine HSt.out.mono ?_; rintro e w1 ⟨vo, vi, vt, P, Q, R, rfl, eP, eQ, eR, st, b1⟩; obtain ⟨ao, no, co, rfl⟩ := own_sl8 st.ro; obtain ⟨ai, ni, ci, rfl⟩ := own_sl8 st.ri; obtain ⟨«at», nt, ct, rfl⟩ := own_sl8 st.rt; have H1 : Hid (P.map Prod.fst = T.ex ∧ Q.map Prod.fst = T.im ∧ R.map Prod.fst = T.tb ∧ StR w.heap.size (.slice ao no co) (.slice ai ni ci) (.slice «at» nt ct) P Q R w1 ∧ Below w.heap.size w w1) := ⟨eP, eQ, eR, st, b1⟩; clear eP eQ eR st b1)
  clear HSt
  obtain ⟨x, hx⟩ : ∃ x, w1.heap.size = x := ⟨_, rfl⟩
  obtain ⟨V1, hV1⟩ : ∃ V1, w1.alloc (.cells #[.int .i64 T.id, .int .i64 T.boots, .int .i64 T.next, .slice ao no co, .slice ai ni ci, .slice «at» nt ct] 58) = V1 := ⟨_, rfl⟩
  rw [hV1, hx]
  have hq1 : V1.heap[x]? = some (.cells #[.int .i64 T.id, .int .i64 T.boots, .int .i64 T.next, .slice ao no co, .slice ai ni ci, .slice «at» nt ct] 58) := by rw [← hV1, ← hx]; exact heap_alloc_new' w1 _
  have hb1 : Below w1.heap.size w1 V1 := by rw [← hV1]; exact (Below.refl _ _).alloc (Nat.le_refl _) _
  have hlx : w.heap.size ≤ x := by rw [← hx]; exact H1.out.2.2.2.2.size
  obtain ⟨eP, eQ, eR, st0, bw⟩ := H1.out
  have st := st0.below hb1
  have bV := bw.trans (hb1.mono bw.size)
  have HV : Hid (V1.heap[x]? = some (.cells #[.int .i64 T.id, .int .i64 T.boots, .int .i64 T.next, .slice ao no co, .slice ai ni ci, .slice «at» nt ct] 58) ∧ StR w.heap.size (.slice ao no co) (.slice ai ni ci) (.slice «at» nt ct) P Q R V1 ∧ Below w.heap.size w V1 ∧ x < V1.heap.size) := ⟨hq1, st, bV, (Array.getElem?_eq_some_iff.1 hq1).1⟩
  have HE : Hid (P.map Prod.fst = T.ex ∧ Q.map Prod.fst = T.im ∧ R.map Prod.fst = T.tb) := ⟨eP, eQ, eR⟩
  have HC : Hid (∀ V : World, V.heap[x]? = some (.cells #[.int .i64 T.id, .int .i64 T.boots, .int .i64 T.next, .slice ao no co, .slice ai ni ci, .slice «at» nt ct] 58) → V.cell? ⟨x, 0, none⟩ = some (.int .i64 T.id) ∧ V.cell? ⟨x, 1, none⟩ = some (.int .i64 T.boots) ∧ V.cell? ⟨x, 2, none⟩ = some (.int .i64 T.next) ∧ V.cell? ⟨x, 3, none⟩ = some (.slice ao no co) ∧ V.cell? ⟨x, 4, none⟩ = some (.slice ai ni ci) ∧ V.cell? ⟨x, 5, none⟩ = some (.slice «at» nt ct)) := fun V q => by
    refine ⟨?_, ?_, ?_, ?_, ?_, ?_⟩ <;> exact (cell_of_row _ _ _ _ _ _ q).trans rfl
  have HP : Hid (∀ p ∈ P, (∃ a n c, p.2 = .slice a n c) ∧ 0 ≤ p.1.num ∧ p.1.num ≤ mxN) := fun p hp => by
    obtain ⟨a, n, c, e⟩ := own_sl8 (st.po p hp)
    have hm : p.1 ∈ T.ex := by rw [← eP]; exact List.mem_map.mpr ⟨p, hp, rfl⟩
    have := (HT.out.1.ex p.1 hm).num
    exact ⟨⟨a, n, c, e⟩, by omega, by omega⟩
  have HPl : Hid (P.length ≤ 1048576) := by show P.length ≤ 1048576; have := HT.out.2.ex; rw [← eP, List.length_map] at this; exact this
  have HBo : Hid (∀ U, Calls Tryz.prog 51 #[.agg #[.int .i64 T.id, .int .i64 T.boots, .int .i64 T.next, .slice ao no co, .slice ai ni ci, .slice «at» nt ct]] U fun e w' => ∃ a n c, e = .returned (.slice a n c) ∧ RrR w' U.heap.size (.slice a n c) (btV T) ∧ Below U.heap.size U w') := fun U => bootOf_any _ _ _ _ _ _ _ _ _ _ _ _ U
  have HXo : Hid (∀ U, Below V1.heap.size V1 U → Calls Tryz.prog 52 #[.agg #[.int .i64 T.id, .int .i64 T.boots, .int .i64 T.next, .slice ao no co, .slice ai ni ci, .slice «at» nt ct]] U (XoP T.next P U)) := fun U hU => exportsOf_any _ _ _ _ _ _ _ _ _ _ _ _ P U w.heap.size (own_at HV.out.2.1.ro (fun g hg => hU.block g (World.ownsRow.lt HV.out.2.1.ro g hg).2)) (fun p hp => (HP.out p hp).1) (fun p hp => (HP.out p hp).2) (by have := HPl.out; omega)
  have HC0 := HC.out V1 hq1
  clear hV1 hq1 hb1 st0 bw st bV eP eQ eR H1 hx
  go_wp2_with fail
  go_cut [4] from 11 to 16 (fun q wx => Hid (RrR wx V1.heap.size q (btV T ++ xrs T.next P) ∧ Below V1.heap.size V1 wx))
  case first =>
    go_region_held3 (fun V => V.cell? ⟨x, 0, none⟩ = some (.int .i64 T.id) ∧ V.cell? ⟨x, 1, none⟩ = some (.int .i64 T.boots) ∧ V.cell? ⟨x, 2, none⟩ = some (.int .i64 T.next) ∧ V.cell? ⟨x, 3, none⟩ = some (.slice ao no co) ∧ V.cell? ⟨x, 4, none⟩ = some (.slice ai ni ci) ∧ V.cell? ⟨x, 5, none⟩ = some (.slice «at» nt ct))
      (first | exact HC0 | exact HC3.out | exact HC4.out | exact HC5.out | exact HC6.out)
      (first
        | (go_at_call 50
           refine HCo.out.mono ?_
           rintro e w5 ⟨a5, n5, c5, rfl, r5, b5⟩
           have HR5 : Hid (RrR w5 V1.heap.size (.slice a5 n5 c5) (btV T ++ xrs T.next P) ∧ Below V1.heap.size V1 w5) := ⟨own_base8 r5 HB4.out.size, HB4.out.trans (b5.mono HB4.out.size)⟩
           have HC6 : Hid (w5.cell? ⟨x, 0, none⟩ = some (.int .i64 T.id) ∧ w5.cell? ⟨x, 1, none⟩ = some (.int .i64 T.boots) ∧ w5.cell? ⟨x, 2, none⟩ = some (.int .i64 T.next) ∧ w5.cell? ⟨x, 3, none⟩ = some (.slice ao no co) ∧ w5.cell? ⟨x, 4, none⟩ = some (.slice ai ni ci) ∧ w5.cell? ⟨x, 5, none⟩ = some (.slice «at» nt ct)) := HC.out w5 ((HR5.out.2.block x HV.out.2.2.2).trans HV.out.1)
           clear r5 b5)
        | (go_at_call 52
           refine (HXo.out _ HB3.out).mono ?_
           rintro e w4 ⟨a4, n4, c4, rfl, r4, b4⟩
           have hb4 : Below V1.heap.size V1 w4 := HB3.out.trans (b4.mono HB3.out.size)
           have HC4 : Hid (w4.cell? ⟨x, 0, none⟩ = some (.int .i64 T.id) ∧ w4.cell? ⟨x, 1, none⟩ = some (.int .i64 T.boots) ∧ w4.cell? ⟨x, 2, none⟩ = some (.int .i64 T.next) ∧ w4.cell? ⟨x, 3, none⟩ = some (.slice ao no co) ∧ w4.cell? ⟨x, 4, none⟩ = some (.slice ai ni ci) ∧ w4.cell? ⟨x, 5, none⟩ = some (.slice «at» nt ct)) := HC.out w4 ((hb4.block x HV.out.2.2.2).trans HV.out.1)
           have r3' : RrR w4 V1.heap.size (.slice a3 n3 c3) (btV T) := own_at HR3.out (fun g hg => b4.block g (World.ownsRow.lt HR3.out g hg).2)
           have HCo : Hid (Calls Tryz.prog 50 #[.slice (some ⟨w4.heap.size, 0, none⟩) 2 2] (w4.alloc (.cells #[.slice a3 n3 c3, .slice a4 n4 c4] 43)) fun e w' => ∃ a n c, e = .returned (.slice a n c) ∧ RrR w' (w4.alloc (.cells #[.slice a3 n3 c3, .slice a4 n4 c4] 43)).heap.size (.slice a n c) (btV T ++ xrs T.next P) ∧ Below (w4.alloc (.cells #[.slice a3 n3 c3, .slice a4 n4 c4] 43)).heap.size (w4.alloc (.cells #[.slice a3 n3 c3, .slice a4 n4 c4] 43)) w') := by
             have hbl : Below w4.heap.size w4 (w4.alloc (.cells #[.slice a3 n3 c3, .slice a4 n4 c4] 43)) := (Below.refl _ _).alloc (Nat.le_refl _) _
             have r4' : RrR w4 V1.heap.size (.slice a4 n4 c4) (xrs T.next P) := own_base8 r4 HB3.out.size
             have hh : (w4.alloc (.cells #[.slice a3 n3 c3, .slice a4 n4 c4] 43)).heap[w4.heap.size]? = some (.cells #[.slice a3 n3 c3, .slice a4 n4 c4] 43) := heap_alloc_new' w4 _
             have hPl := HPl.out
             have hlen := beg_len T P
             rw [List.length_append] at hlen
             have hbt : (btV T).length ≤ 1 := by unfold btV; split <;> simp
             exact concat_any _ V1.heap.size w4.heap.size a3 a4 n3 n4 c3 c4 (btV T) (xrs T.next P) ((cell_of_row _ _ _ _ _ _ hh).trans rfl) ((cell_of_row _ _ _ _ _ _ hh).trans rfl) (own_at r3' (fun g hg => hbl.block g (World.ownsRow.lt r3' g hg).2)) (own_at r4' (fun g hg => hbl.block g (World.ownsRow.lt r4' g hg).2)) (one_bt T) (one_beg T P (fun p hp => by obtain ⟨a, n, c, e⟩ := (HP.out p hp).1; rw [e]; rfl)) (by omega) (by omega)
           have HB4 : Hid (Below V1.heap.size V1 (w4.alloc (.cells #[.slice a3 n3 c3, .slice a4 n4 c4] 43))) := hb4.alloc hb4.size _
           have HC5 : Hid ((w4.alloc (.cells #[.slice a3 n3 c3, .slice a4 n4 c4] 43)).cell? ⟨x, 0, none⟩ = some (.int .i64 T.id) ∧ (w4.alloc (.cells #[.slice a3 n3 c3, .slice a4 n4 c4] 43)).cell? ⟨x, 1, none⟩ = some (.int .i64 T.boots) ∧ (w4.alloc (.cells #[.slice a3 n3 c3, .slice a4 n4 c4] 43)).cell? ⟨x, 2, none⟩ = some (.int .i64 T.next) ∧ (w4.alloc (.cells #[.slice a3 n3 c3, .slice a4 n4 c4] 43)).cell? ⟨x, 3, none⟩ = some (.slice ao no co) ∧ (w4.alloc (.cells #[.slice a3 n3 c3, .slice a4 n4 c4] 43)).cell? ⟨x, 4, none⟩ = some (.slice ai ni ci) ∧ (w4.alloc (.cells #[.slice a3 n3 c3, .slice a4 n4 c4] 43)).cell? ⟨x, 5, none⟩ = some (.slice «at» nt ct)) := HC.out _ ((Below.heap_alloc _ _ _ (Nat.lt_of_lt_of_le HV.out.2.2.2 hb4.size)).trans ((hb4.block x HV.out.2.2.2).trans HV.out.1))
           clear r4 b4 hb4 r3')
        | (go_at_call 51
           refine (HBo.out _).mono ?_
           rintro e w3 ⟨a3, n3, c3, rfl, r3, b3⟩
           have HB3 : Hid (Below V1.heap.size V1 w3) := ⟨b3.os, b3.tape, b3.output, b3.size, b3.block⟩
           have HC3 : Hid (w3.cell? ⟨x, 0, none⟩ = some (.int .i64 T.id) ∧ w3.cell? ⟨x, 1, none⟩ = some (.int .i64 T.boots) ∧ w3.cell? ⟨x, 2, none⟩ = some (.int .i64 T.next) ∧ w3.cell? ⟨x, 3, none⟩ = some (.slice ao no co) ∧ w3.cell? ⟨x, 4, none⟩ = some (.slice ai ni ci) ∧ w3.cell? ⟨x, 5, none⟩ = some (.slice «at» nt ct)) := HC.out w3 ((HB3.out.block x HV.out.2.2.2).trans HV.out.1)
           have HR3 : Hid (RrR w3 V1.heap.size (.slice a3 n3 c3) (btV T)) := r3
           clear r3 b3))
    all_goals (
      go_wp2_with fail
      go_meet
      exact HR5)
  case rest =>
    obtain ⟨r0, b0⟩ := hcut.out
    obtain ⟨wx, rfl⟩ : ∃ W4, W4 = wc := ⟨_, rfl⟩
    obtain ⟨v0, rfl⟩ : ∃ v, v = u4 := ⟨_, rfl⟩
    clear HC0 hcut HBo HXo
    have hnd : (rbl (btV T ++ xrs T.next P) ++ tbl (R.drop 0)).Nodup := nd_beg HV.out.2.1.nd
    have HJ0 : Hid (SnJ w x #[.int .i64 T.id, .int .i64 T.boots, .int .i64 T.next, .slice ao no co, .slice ai ni ci, .slice «at» nt ct] (.slice ao no co) (.slice ai ni ci) (.slice «at» nt ct) P Q R 0 (btV T ++ xrs T.next P) v0 wx) := ⟨HV.out.2.2.1.trans (b0.mono HV.out.2.2.1.size), own_base8 r0 HV.out.2.2.1.size, els_beg (fun p hp => own_at (HV.out.2.1.po p hp) (fun g hg => b0.block g (World.ownsRow.lt (HV.out.2.1.po p hp) g hg).2)), hnd, HV.out.2.1.below b0, (b0.block x HV.out.2.2.2).trans HV.out.1⟩
    have HQn : Hid (ni = T.im.length ∧ nt = T.tb.length) := ⟨by have := own_len8 HV.out.2.1.ri; rw [this, ← HE.out.2.1, List.length_map], by have := own_len8 HV.out.2.1.rt; rw [this, ← HE.out.2.2, List.length_map]⟩
    have hni : ni ≤ 1048576 := by have := HQn.out.1; have := HT.out.2.im; omega
    have hnt : nt ≤ 1048576 := by have := HQn.out.2; have := HT.out.2.tb; omega
    have HL0 : Hid ((btV T ++ xrs T.next P).length ≤ 2097154) := by show (btV T ++ xrs T.next P).length ≤ 2097154; have := beg_len T P; have := HPl.out; omega
    obtain ⟨L0, hL0⟩ : ∃ L0, btV T ++ xrs T.next P = L0 := ⟨_, rfl⟩
    have HLe : Hid (btV T ++ xrs T.next P = L0) := hL0
    rw [hL0] at HJ0 HL0
    have c4 : wx.cell? ⟨x, 4, none⟩ = some (.slice ai ni ci) := (HC.out wx HJ0.out.bx).2.2.2.2.1
    clear hL0 r0 b0 hnd HV HP HPl
    go_wp2_with fail
    clear c4
    go_loopw [4, 20] (fun q j wr => ∃ k : Nat, j = .int .i64 k ∧ Hid (k ≤ ni ∧ ∃ I : List Rv, I.map Prod.fst = (T.im.take k).flatMap imR ∧ I.length ≤ 2002 * k ∧ SnJ w x #[.int .i64 T.id, .int .i64 T.boots, .int .i64 T.next, .slice ao no co, .slice ai ni ci, .slice «at» nt ct] (.slice ao no co) (.slice ai ni ci) (.slice «at» nt ct) P Q R 0 (L0 ++ I) q wr)) (fun _ j _ => ni - (intOf j).toNat)
    case atStart => exact ⟨0, rfl, Nat.zero_le _, [], rfl, by simp, by rw [List.append_nil]; exact HJ0.out⟩
    case round =>
      obtain ⟨k, rfl, hh⟩ := hrel
      clear HJ0
      by_cases hlt : k < ni
      · have hlt' : (k : Int) < (ni : Int) := by omega
        obtain ⟨hk, I, eI, lI, hJ⟩ := hh.out
        clear hh
        have hQl : Q.length = ni := by rw [HQn.out.1, ← HE.out.2.1, List.length_map]
        obtain ⟨⟨i, vu, vv⟩, hQk⟩ := get_some Q k (by omega)
        have hmem := List.mem_of_getElem? hQk
        have hiT : T.im[k]? = some i := by rw [← HE.out.2.1, List.getElem?_map, hQk]; rfl
        have hio := HT.out.1.im i (List.mem_of_getElem? hiT)
        have hpi := hJ.st.pi _ hmem
        obtain ⟨au, nu, cu, e1⟩ := own_sl8 hpi.1
        obtain ⟨av, nv, cv, e2⟩ := own_sl8 hpi.2
        simp only at e1 e2
        subst e1
        subst e2
        have hri := hJ.st.ri
        rw [hQl] at hri
        obtain ⟨gs, cp, e3, _, _⟩ := World.ownsRow.form hri (by omega)
        cases e3
        have p0 : wr.cell? ⟨gs, k * 12, none⟩ = some (.int .i64 i.org) := own_cell12 hri hQk (j := 0) (by decide) rfl
        have p1 : wr.cell? ⟨gs, k * 12 + 1, none⟩ = some (.int .i64 i.num) := own_cell12 hri hQk (j := 1) (by decide) rfl
        have p2 : wr.cell? ⟨gs, k * 12 + 2, none⟩ = some (.int .i64 i.srv) := own_cell12 hri hQk (j := 2) (by decide) rfl
        have p3 : wr.cell? ⟨gs, k * 12 + 3, none⟩ = some (.int .i64 i.red) := own_cell12 hri hQk (j := 3) (by decide) rfl
        have p4 : wr.cell? ⟨gs, k * 12 + 4, none⟩ = some (.int .i64 i.size) := own_cell12 hri hQk (j := 4) (by decide) rfl
        have p5 : wr.cell? ⟨gs, k * 12 + 5, none⟩ = some (.slice au nu cu) := own_cell12 hri hQk (j := 5) (by decide) rfl
        have p6 : wr.cell? ⟨gs, k * 12 + 6, none⟩ = some (.slice av nv cv) := own_cell12 hri hQk (j := 6) (by decide) rfl
        have p7 : wr.cell? ⟨gs, k * 12 + 7, none⟩ = some (.bool i.done) := own_cell12 hri hQk (j := 7) (by decide) rfl
        have p8 : wr.cell? ⟨gs, k * 12 + 8, none⟩ = some (.bool i.gone) := own_cell12 hri hQk (j := 8) (by decide) rfl
        have p9 : wr.cell? ⟨gs, k * 12 + 9, none⟩ = some (.bool i.heard) := own_cell12 hri hQk (j := 9) (by decide) rfl
        have p10 : wr.cell? ⟨gs, k * 12 + 10, none⟩ = some (.bool i.shut) := own_cell12 hri hQk (j := 10) (by decide) rfl
        have p11 : wr.cell? ⟨gs, k * 12 + 11, none⟩ = some (.int .i64 i.how) := own_cell12 hri hQk (j := 11) (by decide) rfl
        obtain ⟨V2, hV2⟩ : ∃ V2, wr.alloc (.cells #[.int .i64 i.org, .int .i64 i.num, .int .i64 i.srv, .int .i64 i.red, .int .i64 i.size, .slice au nu cu, .slice av nv cv, .bool i.done, .bool i.gone, .bool i.heard, .bool i.shut, .int .i64 i.how] 63) = V2 := ⟨_, rfl⟩
        have HV2 : Hid (wr.alloc (.cells #[.int .i64 i.org, .int .i64 i.num, .int .i64 i.srv, .int .i64 i.red, .int .i64 i.size, .slice au nu cu, .slice av nv cv, .bool i.done, .bool i.gone, .bool i.heard, .bool i.shut, .int .i64 i.how] 63) = V2) := hV2
        have hb2 : Below wr.heap.size wr V2 := by rw [← hV2]; exact (Below.refl _ _).alloc (Nat.le_refl _) _
        have hx2 : V2.heap[wr.heap.size]? = some (.cells #[.int .i64 i.org, .int .i64 i.num, .int .i64 i.srv, .int .i64 i.red, .int .i64 i.size, .slice au nu cu, .slice av nv cv, .bool i.done, .bool i.gone, .bool i.heard, .bool i.shut, .int .i64 i.how] 63) := by rw [← hV2]; exact heap_alloc_new' wr _
        have hX2 := hJ.below hb2
        have hpi2 := hX2.st.pi _ hmem
        have HIm : Hid (Calls Tryz.prog 53 #[iV i (.slice au nu cu) (.slice av nv cv)] V2 (ImP i V2)) := importOf_ok hio hpi2.1 hpi2.2
        obtain ⟨L, hL⟩ : ∃ L, L0 ++ I = L := ⟨_, rfl⟩
        rw [hL] at hX2
        have HX : Hid (SnJ w x _ _ _ _ P Q R 0 L u4 V2 ∧ L.length ≤ 2097154 + 2002 * k ∧ (imR i).length ≤ 2002 ∧ L0 ++ I = L ∧ I.map Prod.fst = (T.im.take k).flatMap imR ∧ I.length ≤ 2002 * k ∧ T.im[k]? = some i ∧ k < ni) := ⟨hX2, by have := HL0.out; rw [← hL, List.length_append]; omega, by have := im_len i; have := hio.few; omega, hL, eI, lI, hiT, hlt⟩
        have y0 : V2.cell? ⟨wr.heap.size, 0, none⟩ = some (.int .i64 i.org) := (cell_of_row _ _ _ _ _ _ hx2).trans rfl
        have y1 : V2.cell? ⟨wr.heap.size, 1, none⟩ = some (.int .i64 i.num) := (cell_of_row _ _ _ _ _ _ hx2).trans rfl
        have y2 : V2.cell? ⟨wr.heap.size, 2, none⟩ = some (.int .i64 i.srv) := (cell_of_row _ _ _ _ _ _ hx2).trans rfl
        have y3 : V2.cell? ⟨wr.heap.size, 3, none⟩ = some (.int .i64 i.red) := (cell_of_row _ _ _ _ _ _ hx2).trans rfl
        have y4 : V2.cell? ⟨wr.heap.size, 4, none⟩ = some (.int .i64 i.size) := (cell_of_row _ _ _ _ _ _ hx2).trans rfl
        have y5 : V2.cell? ⟨wr.heap.size, 5, none⟩ = some (.slice au nu cu) := (cell_of_row _ _ _ _ _ _ hx2).trans rfl
        have y6 : V2.cell? ⟨wr.heap.size, 6, none⟩ = some (.slice av nv cv) := (cell_of_row _ _ _ _ _ _ hx2).trans rfl
        have y7 : V2.cell? ⟨wr.heap.size, 7, none⟩ = some (.bool i.done) := (cell_of_row _ _ _ _ _ _ hx2).trans rfl
        have y8 : V2.cell? ⟨wr.heap.size, 8, none⟩ = some (.bool i.gone) := (cell_of_row _ _ _ _ _ _ hx2).trans rfl
        have y9 : V2.cell? ⟨wr.heap.size, 9, none⟩ = some (.bool i.heard) := (cell_of_row _ _ _ _ _ _ hx2).trans rfl
        have y10 : V2.cell? ⟨wr.heap.size, 10, none⟩ = some (.bool i.shut) := (cell_of_row _ _ _ _ _ _ hx2).trans rfl
        have y11 : V2.cell? ⟨wr.heap.size, 11, none⟩ = some (.int .i64 i.how) := (cell_of_row _ _ _ _ _ _ hx2).trans rfl
        clear hV2 hb2 hx2 hX2 hpi hpi2 hJ hri hQl hQk hmem hiT hio eI lI hk hL
        go_upto_region 6 with fail
        rw [HV2.out]
        go_upto_region 7 with (first
          | (go_at_call 53
             refine HIm.out.mono ?_
             rintro e3 w3 ⟨a3, n3, c3, S, rfl, eS, hS⟩
             have hq3 := HX.out.1.below hS.low
             have hn3 : n3 = S.length := rr_len hS.row
             have hSl : S.length ≤ 2002 := by have := congrArg List.length eS; rw [List.length_map] at this; have := HX.out.2.2.1; omega
             have hsrc : w3.ownsRow 0 35 11 (.slice a3 n3 c3) n3 (S.flatMap rcc) := by
               have h := own_base8 hS.row (Nat.zero_le _)
               rw [← hn3] at h
               exact h
             have ho := rcc_one (els_one hS.el)
             have hrow3 := hq3.row
             have hnb3 : L.length + n3 ≤ maxLen := by have := HX.out.2.1; unfold maxLen; omega
             have hnc3 : (L.length + n3) * 120 ≤ 140737488355328 := by have := HX.out.2.1; omega
             have hwl3 : w.heap.size ≤ w3.heap.size := hq3.low.size
             have H3 : Hid (SnJ w x _ _ _ _ P Q R 0 L u4 w3 ∧ n3 = S.length ∧ Els w.heap.size S w3 ∧ (rbl (L ++ S) ++ tbl (R.drop 0)).Nodup ∧ S.map Prod.fst = imR i ∧ S.length ≤ 2002) := ⟨hq3, hn3, hS.el.base HX.out.1.low.size, HX.out.1.fresh hS, eS, hSl⟩
             clear hq3 hS eS hn3 hSl)
          | (at_builtin; refine wpl_row8 _ rfl _ _ 43 rfl w.heap.size 35 i0 _ 11 120 Tryz.underlying43 hi hz0 hz1 hz2 rfl (by decide) _ _ _ rfl hrow3 _ n3 (S.flatMap rcc) rfl hsrc ho hnb3 hnc3 hwl3 ?_
             intro v6 w6 hown6 hgrow6 _
             have HN : Hid (SnJ w x _ _ _ _ P Q R 0 (L ++ S) v6 w6) := H3.out.1.push H3.out.2.1 hgrow6 hown6 H3.out.2.2.1 H3.out.2.2.2.1
             clear hown6 hgrow6 hrow3 hsrc ho hnb3 hnc3 hwl3))
        have HRel : Hid (k + 1 ≤ ni ∧ ∃ I : List Rv, I.map Prod.fst = (T.im.take (k + 1)).flatMap imR ∧ I.length ≤ 2002 * (k + 1) ∧ SnJ w x #[.int .i64 T.id, .int .i64 T.boots, .int .i64 T.next, .slice ao no co, .slice (some ⟨gs, 0, none⟩) ni ci, .slice «at» nt ct] (.slice ao no co) (.slice (some ⟨gs, 0, none⟩) ni ci) (.slice «at» nt ct) P Q R 0 (L0 ++ I) v6 w6) := by
          obtain ⟨_, _, _, q4, q5, q6, q7, q8⟩ := HX.out
          obtain ⟨_, _, _, _, r5, r6⟩ := H3.out
          refine ⟨q8, I ++ S, ?_, ?_, ?_⟩
          · rw [List.map_append, q5, r5, take_one q7, List.flatMap_append]; simp
          · rw [List.length_append]; omega
          · rw [← List.append_assoc, q4]; exact HN.out
        obtain ⟨a6, n6, c6, rfl⟩ := own_sl8 HN.out.row
        clear HIm HX H3 HN HV2 p0 p1 p2 p3 p4 p5 p6 p7 p8 p9 p10 p11 y0 y1 y2 y3 y4 y5 y6 y7 y8 y9 y10 y11
        go_wp2
        go_roundw
        case rel => exact ⟨k + 1, by go_num, HRel.out⟩
        case measure => simp [intOf]; omega
      · obtain ⟨hk, I, eI, lI, hJ⟩ := hh.out
        clear hh
        have hkn : k = ni := by omega
        subst hkn
        have hlt' : ¬ (k : Int) < (k : Int) := by omega
        have eI2 : I.map Prod.fst = T.im.flatMap imR := by rw [eI, HQn.out.1, List.take_length]
        obtain ⟨L, hL⟩ : ∃ L, L0 ++ I = L := ⟨_, rfl⟩
        rw [hL] at hJ
        have HX : Hid (L0 ++ I = L ∧ I.map Prod.fst = T.im.flatMap imR ∧ L.length ≤ 2103308290) := ⟨hL, eI2, by have := HL0.out; rw [← hL, List.length_append]; omega⟩
        have HJ1 : Hid (SnJ w x _ _ _ _ P Q R 0 L u4 wr) := hJ
        have c5 : wr.cell? ⟨x, 5, none⟩ = some (.slice «at» nt ct) := (HC.out wr hJ.bx).2.2.2.2.2
        clear eI lI hk hJ eI2 hL
        go_upto_region 9 with fail
        clear c5
        go_loopw [4, 32] (fun q j wr => ∃ m : Nat, j = .int .i64 m ∧ Hid (m ≤ nt ∧ SnJ w x #[.int .i64 T.id, .int .i64 T.boots, .int .i64 T.next, .slice ao no co, .slice ai k ci, .slice «at» nt ct] (.slice ao no co) (.slice ai k ci) (.slice «at» nt ct) P Q R m (L ++ (R.take m).map tbV) q wr)) (fun _ j _ => nt - (intOf j).toNat)
        case atStart => exact ⟨0, rfl, Nat.zero_le _, by simp only [List.take_zero, List.map_nil, List.append_nil]; exact HJ1.out⟩
        case round =>
          obtain ⟨m, rfl, hh⟩ := hrel
          clear HJ1
          have hRl : R.length = nt := by rw [HQn.out.2, ← HE.out.2.2, List.length_map]
          by_cases hmt : m < nt
          · have hmt' : (m : Int) < (nt : Int) := by omega
            obtain ⟨hm, hJ⟩ := hh.out
            clear hh
            obtain ⟨⟨t, vu⟩, hRk⟩ := get_some R m (by omega)
            have hmem := List.mem_of_getElem? hRk
            have hpt := hJ.st.pt _ hmem
            obtain ⟨au, nu, cu, e1⟩ := own_sl8 hpt
            simp only at e1
            subst e1
            have hrt := hJ.st.rt
            rw [hRl] at hrt
            obtain ⟨gs, cp, e3, _, _⟩ := World.ownsRow.form hrt (by omega)
            cases e3
            have p0 : wr.cell? ⟨gs, m * 2, none⟩ = some (.int .i64 t.1) := own_cell2 hrt hRk (j := 0) (by decide) rfl
            have p1 : wr.cell? ⟨gs, m * 2 + 1, none⟩ = some (.slice au nu cu) := own_cell2 hrt hRk (j := 1) (by decide) rfl
            obtain ⟨V2, hV2⟩ : ∃ V2, wr.alloc (.cells #[.int .i64 t.1, .slice au nu cu] 99) = V2 := ⟨_, rfl⟩
            have HV2 : Hid (wr.alloc (.cells #[.int .i64 t.1, .slice au nu cu] 99) = V2) := hV2
            have hb2 : Below wr.heap.size wr V2 := by rw [← hV2]; exact (Below.refl _ _).alloc (Nat.le_refl _) _
            have hx2 : V2.heap[wr.heap.size]? = some (.cells #[.int .i64 t.1, .slice au nu cu] 99) := by rw [← hV2]; exact heap_alloc_new' wr _
            have y0 : V2.cell? ⟨wr.heap.size, 0, none⟩ = some (.int .i64 t.1) := (cell_of_row _ _ _ _ _ _ hx2).trans rfl
            have y1 : V2.cell? ⟨wr.heap.size, 1, none⟩ = some (.slice au nu cu) := (cell_of_row _ _ _ _ _ _ hx2).trans rfl
            have hX3 := (hJ.below hb2).below (W' := V2.alloc (.cells #[.int .i64 11, .int .i64 0, .int .i64 0, .int .i64 0, .int .i64 0, .int .i64 0, .int .i64 0, .int .i64 t.1, .int .i64 0, .slice au nu cu, .slice none 0 0] 35)) ((Below.refl _ _).alloc (Nat.le_refl _) _)
            have hsrc : (V2.alloc (.cells #[.int .i64 11, .int .i64 0, .int .i64 0, .int .i64 0, .int .i64 0, .int .i64 0, .int .i64 0, .int .i64 t.1, .int .i64 0, .slice au nu cu, .slice none 0 0] 35)).ownsRow 0 35 11 (.slice (some ⟨V2.heap.size, 0, none⟩) 1 1) 1 ([tbV (t, .slice au nu cu)].flatMap rcc) := rr_new V2 [tbV (t, .slice au nu cu)] 1 rfl (by omega) (by omega) (Nat.zero_le _)
            obtain ⟨M, hM⟩ : ∃ M, L ++ (R.take m).map tbV = M := ⟨_, rfl⟩
            rw [hM] at hX3
            have HX3 : Hid (SnJ w x _ _ _ _ P Q R m M u4 (V2.alloc (.cells #[.int .i64 11, .int .i64 0, .int .i64 0, .int .i64 0, .int .i64 0, .int .i64 0, .int .i64 0, .int .i64 t.1, .int .i64 0, .slice au nu cu, .slice none 0 0] 35)) ∧ R[m]? = some (t, .slice au nu cu) ∧ (t, Value.slice au nu cu) ∈ R ∧ m < nt ∧ L ++ (R.take m).map tbV = M) := ⟨hX3, hRk, hmem, hmt, hM⟩
            have ho : ∀ u ∈ [tbV (t, .slice au nu cu)].flatMap rcc, u.oneCell' = true := rcc_one (fun y hy => by simp only [List.mem_singleton] at hy; subst hy; exact ⟨rfl, rfl⟩)
            have hrow := hX3.row
            have hMl : M.length ≤ 2104356866 := by have := HX.out.2.2; rw [← hM, List.length_append, List.length_map, List.length_take]; omega
            have hnb : M.length + 1 ≤ maxLen := by unfold maxLen; omega
            have hnc : (M.length + 1) * 120 ≤ 140737488355328 := by omega
            have hwl : w.heap.size ≤ (V2.alloc (.cells #[.int .i64 11, .int .i64 0, .int .i64 0, .int .i64 0, .int .i64 0, .int .i64 0, .int .i64 0, .int .i64 t.1, .int .i64 0, .slice au nu cu, .slice none 0 0] 35)).heap.size := hX3.low.size
            clear hV2 hb2 hx2 hX3 hJ hpt hrt hRk hmem hM hMl hm
            go_upto_region 11 with fail
            rw [HV2.out]
            go_upto_region 12 with (at_builtin; refine wpl_row8 _ rfl _ _ 43 rfl w.heap.size 35 i0 _ 11 120 Tryz.underlying43 hi hz0 hz1 hz2 rfl (by decide) _ _ _ rfl hrow _ 1 ([tbV (t, .slice au nu cu)].flatMap rcc) rfl hsrc ho hnb hnc hwl ?_
                                    intro v6 w6 hown6 hgrow6 _
                                    have HN : Hid (SnJ w x _ _ _ _ P Q R (m + 1) (M ++ [tbV (t, .slice au nu cu)]) v6 w6) := HX3.out.1.push rfl hgrow6 hown6 (tbV_els HX3.out.1.st HX3.out.2.2.1) (HX3.out.1.over HX3.out.2.1)
                                    clear hown6 hgrow6 hrow hsrc ho hnb hnc hwl)
            have HRel : Hid (m + 1 ≤ nt ∧ SnJ w x #[.int .i64 T.id, .int .i64 T.boots, .int .i64 T.next, .slice ao no co, .slice ai k ci, .slice (some ⟨gs, 0, none⟩) nt ct] (.slice ao no co) (.slice ai k ci) (.slice (some ⟨gs, 0, none⟩) nt ct) P Q R (m + 1) (L ++ (R.take (m + 1)).map tbV) v6 w6) := by
              obtain ⟨_, q2, _, q4, q5⟩ := HX3.out
              refine ⟨q4, ?_⟩
              rw [take_one q2, List.map_append, ← List.append_assoc, q5]
              exact HN.out
            obtain ⟨a6, n6, c6, rfl⟩ := own_sl8 HN.out.row
            clear HX3 HN HV2 p0 p1 y0 y1
            go_wp2
            go_roundw
            case rel => exact ⟨m + 1, by go_num, HRel.out⟩
            case measure => simp [intOf]; omega
          · obtain ⟨hm, hJ⟩ := hh.out
            clear hh
            have hmn : m = nt := by omega
            subst hmn
            have hmt' : ¬ (m : Int) < (m : Int) := by omega
            have hT2 : R.take m = R := by rw [← hRl]; exact List.take_length
            rw [hT2] at hJ
            have HF : Hid ((L ++ R.map tbV).map Prod.fst = T.snap ∧ RJ w (L ++ R.map tbV) u4 wr) := ⟨by rw [← HX.out.1, ← HLe.out]; exact fst_snap HT.out.1 HE.out.1 HX.out.2.1 HE.out.2.2, hJ.low, hJ.row, hJ.el, (List.nodup_append.mp hJ.nd).1⟩
            obtain ⟨a6, n6, c6, rfl⟩ := own_sl8 hJ.row
            clear hJ
            go_wp2
            go_ret
            exact ⟨_, _, _, _, rfl, HF.out⟩
end Go.Proofs.YtillgoegiplmkaaGreatDoor.B
