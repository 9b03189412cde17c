import Derived.Test.YtcfodcioeefbeaaDoorXpF
import Derived.Deep.AppendLies
namespace Go.Proofs.YtcfodcioeefbeaaDoor.X
open Go.RowKit Go.Maps
set_option linter.unusedVariables false
set_option linter.unusedSimpArgs false

/-- What put leaves. -/
def PtP (w : World) (e m rm : Nat) (s : Xs) (O : List Oc) (k : Pk) (zs : List Int) (P : List Pc) (r : Ending) (w' : World) : Prop := ∃ v, r = .returned v ∧ PtI w e m rm s O k zs P P.length v w'
/-- What a round knows of its piece. -/
structure PtR (w : World) (e m rm c' : Nat) (s : Xs) (O N : List Oc) (Y : List (Sg × Value)) (lv : Value) (ch : Int) (p : Pc) (bx : Nat) (W : World) : Prop where
  sg : Sgs W w.heap.size lv Y
  xm : Xm W e m rm c' { s with chk := ch } (O ++ N)
  nn : ∀ o ∈ N, o.wt = true ∧ o.ag = 0 ∧ w.heap.size ≤ o.x
  kl : Kl (XF e m O) w W
  bx : W.heap[bx]? = some (.cells (pcC p) 56)
theorem xf_app {e m : Nat} {O N : List Oc} {g : Nat} (h : XF e m O g) : XF e m (O ++ N) g := by
  rcases h with h | h | h
  · exact .inl h
  · exact .inr (.inl h)
  · exact .inr (.inr (by rw [List.map_append]; exact List.mem_append_left _ h))
theorem flat_at {α : Type} (f : α → List Value) (s : Nat) (hs : ∀ x, (f x).length = s) : ∀ (L : List α) (k : Nat) (x : α) (j : Nat), L[k]? = some x → j < s → (L.flatMap f)[k * s + j]? = (f x)[j]?
  | [], k, x, j, h, _ => by simp at h
  | y :: r, 0, x, j, h, hj => by
    simp only [List.getElem?_cons_zero, Option.some.injEq] at h
    subst h
    rw [List.flatMap_cons, Nat.zero_mul, Nat.zero_add, List.getElem?_append_left (by rw [hs]; exact hj)]
  | y :: r, k + 1, x, j, h, hj => by
    rw [List.getElem?_cons_succ] at h
    rw [List.flatMap_cons, List.getElem?_append_right (by rw [hs, Nat.add_mul]; omega), hs, show (k + 1) * s + j - s = k * s + j by rw [Nat.add_mul]; omega]
    exact flat_at f s hs r k x j h hj
/-- A cell of a row's element. -/
theorem row_cell {α : Type} {f : α → List Value} {z : Nat} (hs : ∀ x, (f x).length = z) {w : World} {b g c n : Nat} {e : TypeId} {L : List α} (h : w.ownsRow b e z (.slice (some ⟨g, 0, none⟩) n c) n (L.flatMap f)) (hn : L.length = n) {i : Nat} {x : α} (hx : L[i]? = some x) {j : Nat} (hj : j < z) : w.cell? ⟨g, i * z + j, none⟩ = (f x)[j]? := by
  have hi : i < n := by rw [← hn]; exact (List.getElem?_eq_some_iff.mp hx).1
  rw [World.ownsRow.cellAt h (i * z + j) (by have := Nat.mul_le_mul_right z (show i + 1 ≤ n from hi); rw [Nat.add_mul] at this; omega)]
  exact flat_at f z hs L i x j hx hj
theorem frs_new {O N : List Oc} {P : List Pc} {i : Nat} {p : Pc} (h : Frs O P) (hp : P[i]? = some p) (hc : 0 < p.chk) (hN : N.map Oc.p = ckp (P.take i)) : ∀ o ∈ O ++ N, o.p.chk ≠ p.chk := by
  have e : P = P.take i ++ p :: P.drop (i + 1) := by
    obtain ⟨hi, hx⟩ := List.getElem?_eq_some_iff.mp hp
    conv => lhs; rw [← List.take_append_drop i P, List.drop_eq_getElem_cons hi, hx]
  have e2 : ckp P = ckp (P.take i) ++ p :: ckp (P.drop (i + 1)) := by
    conv => lhs; rw [e]
    unfold ckp
    rw [List.filter_append, List.filter_cons_of_pos (by simpa using hc)]
  unfold Frs at h
  rw [e2, ← hN, List.map_append, List.map_cons, ← List.append_assoc] at h
  have h2 := (List.nodup_append.mp h).2.2
  intro o ho q
  refine h2 o.p.chk ?_ p.chk List.mem_cons_self q
  rcases List.mem_append.mp ho with ho | ho
  · exact List.mem_append_left _ (List.mem_map.mpr ⟨o, ho, rfl⟩)
  · exact List.mem_append_right _ (List.mem_map.mpr ⟨o.p, List.mem_map.mpr ⟨o, ho, rfl⟩, rfl⟩)
/-- No row's block is an export's. -/
theorem Xm.row {w : World} {e m rm c : Nat} {s : Xs} {O : List Oc} (h : Xm w e m rm c s O) {b z n : Nat} {t : TypeId} {v : Value} {xs : List Value} (hr : w.ownsRow b t z v n xs) (h1 : t ≠ 63) (h2 : t ≠ 69) {g : Nat} (hg : v.ownBlock = some g) : ¬ XF e m O g := by
  rintro (q | q | q)
  · exact apart_of hr hg h.box h1 q
  · obtain ⟨_, ⟨q1, _⟩ | ⟨g', cap, cur, q1, _, hh, _⟩⟩ := hr
    · rw [q1] at hg; cases hg
    · rw [q1] at hg
      simp only [Value.ownBlock, Option.some.injEq] at hg
      subst hg
      rw [q, h.mp.blk] at hh
      cases hh
  · obtain ⟨o, ho, rfl⟩ := List.mem_map.mp q
    exact apart_of hr hg (h.ck o ho) h2 rfl
theorem row_ne {w : World} {b1 b2 z1 z2 n1 n2 : Nat} {t1 t2 : TypeId} {v1 v2 : Value} {x1 x2 : List Value} (h1 : w.ownsRow b1 t1 z1 v1 n1 x1) (h2 : w.ownsRow b2 t2 z2 v2 n2 x2) (ht : t1 ≠ t2) {g : Nat} (hg : v1.ownBlock = some g) : v2.ownBlock ≠ some g := fun hg2 => by
  obtain ⟨_, ⟨q1, _⟩ | ⟨g', cap, cur, q1, _, hh, _⟩⟩ := h2
  · rw [q1] at hg2; cases hg2
  · rw [q1] at hg2
    simp only [Value.ownBlock, Option.some.injEq] at hg2
    subst hg2
    exact apart_of h1 hg hh ht rfl
theorem pti_next {w W U w6 : World} {e m rm c' i bx : Nat} {s : Xs} {O N : List Oc} {k : Pk} {zs : List Int} {P : List Pc} {Y : List (Sg × Value)} {lv v6 dv : Value} {ch : Int} {p : Pc} {g : Sg} {ob : Obj} (hR : PtR w e m rm c' s O N Y lv ch p bx W) (hY : Y.map Prod.fst = (P.take i).map (fun p => (mk k p zs).1)) (hp : P[i]? = some p) (hNp : N.map Oc.p = ckp (P.take (i + 1))) (hch : ch = lstC s.chk (P.take (i + 1))) (hU : Below W.heap.size W U) (hd : U.ownsRow W.heap.size 5 1 dv g.data.length (g.data.map (Value.int .u8))) (hg : (mk k p zs).1 = g) (hgr : (U.alloc ob).grownBy w6 lv.ownBlock) (hown : w6.ownsRow w.heap.size 45 14 v6 (Y.length + 1) (Y.flatMap sgL ++ sgL (g, dv))) :
    PtI w e m rm s O k zs P (i + 1) v6 w6 := by
  have hb : Below U.heap.size U (U.alloc ob) := (Below.refl _ _).alloc (Nat.le_refl _) _
  have hb2 : Below W.heap.size W (U.alloc ob) := hU.trans (hb.mono hU.size)
  have hS := hR.sg.below hb2
  have hX := hR.xm.below hb2
  have hd2 := own_at hd (fun y hy => hb.block y (World.ownsRow.lt hd y hy).2)
  have hw : w.heap.size ≤ W.heap.size := hR.kl.size
  have kg : Kl (fun y => lv.ownBlock = some y) (U.alloc ob) w6 := ⟨hgr.os, hgr.tape, hgr.output, hgr.size, fun y hl hn => hgr.block y hl (fun q => hn q.symm)⟩
  refine ⟨Y ++ [(g, dv)], N, c', ?_, ⟨?_, fun y hy => ?_⟩, ?_, hNp, hR.nn, ?_⟩
  · rw [List.map_append, hY, take_snoc hp, List.map_append, List.map_cons, List.map_nil, List.map_cons, List.map_nil, hg]
  · rw [List.length_append, List.flatMap_append]
    simpa using hown
  · have one : ∀ {v' : Value} {n' : Nat} {xs' : List Value} {lo' : Nat}, (U.alloc ob).ownsRow lo' 5 1 v' n' xs' → w6.ownsRow lo' 5 1 v' n' xs' := fun {v' n' xs' lo'} q => own_at q (fun y hy => kg.block y (World.ownsRow.lt q y hy).2 (fun q2 => row_ne q hS.row (by decide) hy q2))
    rcases List.mem_append.mp hy with q | q
    · exact one (hS.el y q)
    · rw [List.mem_singleton.mp q]
      exact own_low (one hd2) hw
  · rw [← hch]
    exact hX.keep kg (fun y hy q => hX.row hS.row (by decide) (by decide) q hy)
  · exact (hR.kl.below hb2).grown hgr (fun y q => .inr (World.ownsRow.lt hS.row y q).1)
set_option maxRecDepth 100000 in
set_option maxHeartbeats 16000000 in
theorem put_any {w : World} {e m rm c : Nat} {s : Xs} {O : List Oc} (h : Xm w e m rm c s O) (k : Pk) {a : Option Addr} {len cap : Nat} (zs : List Int) (hl : zs.length = len) (hlc : len ≤ cap) (hn : a = none → len = 0 ∧ cap = 0) (hz : ∀ V, Kl (XF e m O) w V → Lies .u8 V a zs) {lo : Nat} {pa : Option Addr} {pn pc : Nat} (P : List Pc) (hP : POwn w lo (.slice pa pn pc) P) (hPn : P.length = pn) (hPb : pn ≤ 262144) (hfr : Frs O P) (hap : ∀ g, pa.map Addr.block = some g → ¬ XF e m O g) :
    Calls Tryd.prog 15 #[.pointer (some ⟨e, 0, none⟩), .slice pa pn pc, .func (.func 16) #[.agg (srC k (.slice a len cap))] #[]] w (PtP w e m rm s O k zs P) := by
  obtain ⟨i0, hi, hz0, hz1, hz2⟩ := info_parts seg_info
  have HH : Hid (Xm w e m rm c s O ∧ zs.length = len ∧ len ≤ cap ∧ (a = none → len = 0 ∧ cap = 0) ∧ (∀ V, Kl (XF e m O) w V → Lies .u8 V a zs) ∧ POwn w lo (.slice pa pn pc) P ∧ P.length = pn ∧ pn ≤ 262144 ∧ Frs O P ∧ (∀ g, pa.map Addr.block = some g → ¬ XF e m O g)) := ⟨h, hl, hlc, hn, hz, hP, hPn, hPb, hfr, hap⟩
  clear h hl hlc hn hz hP hPn hfr hap
  go_enter Tryd.func15, Tryd.ntmps15
  go_upto_region 2 with (at_make; refine wpList_make_own _ rfl _ _ 35 rfl w.heap.size 45 i0 _ 14 Tryd.underlying35 hi hz0 hz1 .i64 .i64 _ pn rfl rfl rfl (by rw [hz2]; omega) (by unfold maxLen; omega) (Nat.le_refl _) ?_; intro w1 hown1 hgrow1)
  have HI : Hid (PtI w e m rm s O k zs P 0 (.slice (some ⟨w.heap.size, 0, none⟩) 0 pn) w1) := by
    have hb1 : Below w.heap.size w w1 := (Below.refl _ _).grown hgrow1 (Nat.le_refl _) (by intro j hj; cases hj)
    exact ⟨[], [], c, rfl, ⟨hown1, fun y hy => by cases hy⟩, by rw [List.append_nil]; exact HH.out.1.below hb1, rfl, (fun o ho => by cases ho), Kl.of_below hb1⟩
  clear hown1 hgrow1
  go_upto_region 3 with fail
  go_loopw [7, 15] (fun lv iv wr => ∃ i : Nat, iv = .int .i64 i ∧ Hid (i ≤ pn ∧ PtI w e m rm s O k zs P i lv wr)) (fun _ iv _ => pn - (intOf iv).toNat)
  case atStart => exact ⟨0, rfl, Nat.zero_le _, HI.out⟩
  case round =>
    obtain ⟨i, rfl, hh⟩ := hrel
    have HK := hh.out
    clear hh HI
    by_cases hlt : i < pn
    · have hlt' : (i : Int) < (pn : Int) := by omega
      have h0i : 0 ≤ (i : Int) := by omega
      obtain ⟨hi', Y, N, c', hY, hS, hX, hNp, hN, hK⟩ := HK
      obtain ⟨p, hp⟩ : ∃ p, P[i]? = some p := ⟨P[i]'(by rw [HH.out.2.2.2.2.2.2.1]; exact hlt), List.getElem?_eq_getElem _⟩
      have hpo : w.ownsRow lo 56 5 (.slice pa pn pc) pn (P.flatMap pcL) := by
        have q := HH.out.2.2.2.2.2.1
        unfold POwn at q
        rw [HH.out.2.2.2.2.2.2.1] at q
        exact q
      obtain ⟨pg, cp, epa, _, _⟩ := World.ownsRow.form hpo (by omega)
      simp only [Value.slice.injEq] at epa
      obtain ⟨rfl, -, rfl⟩ := epa
      have hpw := own_at hpo (fun y hy => hK.block y (World.ownsRow.lt hpo y hy).2 (HH.out.2.2.2.2.2.2.2.2.2 y (by simpa [Value.ownBlock] using hy)))
      have hc : ∀ j, j < 5 → wr.cell? ⟨pg, i * 5 + j, none⟩ = (pcL p)[j]? := fun j hj => row_cell (f := pcL) (z := 5) (fun _ => rfl) hpw HH.out.2.2.2.2.2.2.1 hp hj
      have p0 : wr.cell? ⟨pg, i * 5, none⟩ = some (.int .i64 p.typ) := hc 0 (by omega)
      have p1 : wr.cell? ⟨pg, i * 5 + 1, none⟩ = some (.int .i64 p.frm) := hc 1 (by omega)
      have p2 : wr.cell? ⟨pg, i * 5 + 2, none⟩ = some (.int .i64 p.to) := hc 2 (by omega)
      have p3 : wr.cell? ⟨pg, i * 5 + 3, none⟩ = some (.int .i64 p.chk) := hc 3 (by omega)
      have p4 : wr.cell? ⟨pg, i * 5 + 4, none⟩ = some (.int .i64 p.rep) := hc 4 (by omega)
      obtain ⟨va, vc, rfl⟩ := own_sl hS.row
      obtain ⟨ny, hny⟩ : ∃ n, Y.length = n := ⟨_, rfl⟩
      have HY : Hid (Y.map Prod.fst = (P.take i).map (fun p => (mk k p zs).1) ∧ P[i]? = some p ∧ N.map Oc.p = ckp (P.take i) ∧ Y.length = ny ∧ (∀ o ∈ N, o.wt = true ∧ o.ag = 0 ∧ w.heap.size ≤ o.x)) := ⟨hY, hp, hNp, hny, hN⟩
      obtain ⟨V1, hV1⟩ : ∃ V, wr.alloc (.cells (pcC p) 56) = V := ⟨_, rfl⟩
      have hB1 : Below wr.heap.size wr V1 := by rw [← hV1]; exact (Below.refl _ _).alloc (Nat.le_refl _) _
      obtain ⟨b1, hb1⟩ : ∃ b, wr.heap.size = b := ⟨_, rfl⟩
      have g1 : V1.heap[b1]? = some (.cells (pcC p) 56) := by rw [← hV1, ← hb1]; exact heap_alloc_new' wr _
      rw [hny]
      have hX1 := hX.below hB1
      have H1 : Hid (Sgs V1 w.heap.size (.slice va ny vc) Y ∧ Xm V1 e m rm c' { s with chk := lstC s.chk (P.take i) } (O ++ N) ∧ Kl (XF e m O) w V1 ∧ V1.heap[b1]? = some (.cells (pcC p) 56) ∧ w.heap.size ≤ b1) := ⟨by have q := hS.below hB1; rw [hny] at q; exact q, hX1, hK.below hB1, g1, by rw [← hb1]; exact hK.size⟩
      clear hY hS hX hNp hN hK hpo hpw hc hp hB1 hny hX1 hi'
      go_upto_region 5 with fail
      try rw [hV1]
      try rw [hb1]
      clear hV1 p0 p1 p2 p3 p4 hb1
      obtain ⟨p0, p1, p2, p3, p4, _⟩ := box5 H1.out.2.2.2.1
      go_upto_if 21 with fail
      go_cut [7] from 19 to 35 (fun q wx => q = .slice va ny vc ∧ Hid (∃ N' c'', PtR w e m rm c'' s O N' Y (.slice va ny vc) (lstC s.chk (P.take (i + 1))) p b1 wx ∧ N'.map Oc.p = ckp (P.take (i + 1))))
      case first =>
        by_cases hc : 0 < p.chk
        · have HC : Hid (0 < p.chk) := hc
          have hc' : p.chk > 0 := hc
          clear hc
          obtain ⟨x0, x1, x2, x3, x4, x5, x6, x7, x8, x9, x10, x11, x12, x13, x14, x15, x16, x17, x18, x19, x20, x21⟩ := xp_cells H1.out.2.1.box
          have f17 := xp_frozen H1.out.2.1.box 17
          obtain ⟨V2, hV2⟩ : ∃ V, V1.setCell ⟨e, 17, none⟩ (.int .i64 p.chk) = V := ⟨_, rfl⟩
          have q2 : Kl (fun g => g = e) V1 V2 := by rw [← hV2]; exact (Kl.refl _ _).grown (grown_set' _ _ _ _) (fun k q => .inl (Option.some.inj q).symm)
          have X2 : Xm V2 e m rm c' { s with chk := p.chk } (O ++ N) := H1.out.2.1.boxed q2 (by rw [← hV2]; exact (heap_setCell_same _ _ _ _ _ _ H1.out.2.1.box).trans rfl)
          have S2 := H1.out.1.kl q2 H1.out.2.1.box (by decide) (by decide)
          have heb : e ≠ b1 := by have := HH.out.1.lt e (.inl rfl); have := H1.out.2.2.2.2; omega
          have H2 : Hid (Sgs V2 w.heap.size (.slice va ny vc) Y ∧ Xm V2 e m rm c' { s with chk := p.chk } (O ++ N) ∧ Kl (XF e m O) w V2 ∧ V2.heap[b1]? = some (.cells (pcC p) 56)) := ⟨S2, X2, H1.out.2.2.1.then q2 (fun y _ q => .inl q), (q2.block b1 (Array.getElem?_eq_some_iff.1 H1.out.2.2.2.1).1 (fun q => heb q.symm)).trans H1.out.2.2.2.1⟩
          clear q2 X2 S2 heb
          go_upto_region 7 with fail
          try rw [hV2]
          clear hV2 x0 x1 x2 x3 x4 x5 x6 x7 x8 x9 x10 x11 x12 x13 x14 x15 x16 x17 x18 x19 x20 x21 f17 p0 p1 p2 p3 p4
          obtain ⟨p0, p1, p2, p3, p4, _⟩ := box5 H2.out.2.2.2
          obtain ⟨x0, x1, x2, x3, x4, x5, x6, x7, x8, x9, x10, x11, x12, x13, x14, x15, x16, x17, x18, x19, x20, x21⟩ := xp_cells H2.out.2.1.box
          have hnew : ∀ o ∈ O ++ N, o.p.chk ≠ p.chk := frs_new HH.out.2.2.2.2.2.2.2.2.1 HY.out.2.1 HC.out HY.out.2.2.1
          obtain ⟨V3, hV3⟩ : ∃ V, V2.drew.alloc (.cells #[.int .i64 p.typ, .int .i64 p.frm, .int .i64 p.to, .int .i64 p.chk, .int .i64 p.rep, .bool true, .int .i64 0] 69) = V := ⟨_, rfl⟩
          have hd : Below V2.heap.size V2 V2.drew := ⟨rfl, rfl, rfl, Nat.le_refl _, fun _ _ => rfl⟩
          obtain ⟨V4, hV4⟩ : ∃ V, setO V3 m (.map (((O ++ N).map Oc.en ++ [(⟨p.chk, V2.drew.heap.size, c'⟩ : En)]).map me).toArray (c' + 1)) = V := ⟨_, rfl⟩
          have hpush := (H2.out.2.1.below hd).push p hnew (V := V3) (W := V4) hV3.symm hV4.symm
          have hB3 : Below V2.drew.heap.size V2.drew V3 := by rw [← hV3]; exact (Below.refl _ _).alloc (Nat.le_refl _) _
          have hmu : (Instr.mapUpdate 60 (.map (some m)) (.int .i64 p.chk) (.pointer (some ⟨V2.heap.size, 0, none⟩))).run Tryd.prog V3 = .ok () V4 := by
            have q := updG0 ((H2.out.2.1.below hd).below hB3).mp p.chk V2.drew.heap.size (fun en hen => by obtain ⟨o, ho', rfl⟩ := List.mem_map.mp hen; exact hnew o ho')
            rw [hV4] at q
            exact q
          obtain ⟨w0, w1', w2, w3, w4, _⟩ := box5 ((hB3.block b1 (Array.getElem?_eq_some_iff.1 H2.out.2.2.2).1).trans H2.out.2.2.2)
          obtain ⟨y0, y1, y2, y3, y4, y5, y6, y7, y8, y9, y10, y11, y12, y13, y14, y15, y16, y17, y18, y19, y20, y21⟩ := xp_cells ((H2.out.2.1.below hd).below hB3).box
          have HPu : Hid (Xm V4 e m rm (c' + 1) { s with chk := p.chk } ((O ++ N) ++ [⟨c', V2.heap.size, p, true, 0⟩]) ∧ Kl (fun g => g = m) V3 V4 ∧ Below V2.heap.size V2 V3) := ⟨hpush.1, hpush.2, hd.trans (hB3.mono hd.size)⟩
          clear hpush hnew hd hB3
          go_region
          go_wp2_with fail
          go_meet
          refine ⟨rfl, N ++ [⟨c', V2.heap.size, p, true, 0⟩], c' + 1, ?_, ?_⟩
          · have hX3 := H2.out.2.1.below HPu.out.2.2
            have hS3 := H2.out.1.below HPu.out.2.2
            have hb3 := (HPu.out.2.2.block b1 (Array.getElem?_eq_some_iff.1 H2.out.2.2.2).1).trans H2.out.2.2.2
            refine ⟨hS3.klm HPu.out.2.1 hX3.mp.blk, ?_, fun o ho => ?_, ?_, ?_⟩
            · rw [take_snoc HY.out.2.1, lstC_app, if_pos HC.out, ← List.append_assoc]
              exact HPu.out.1
            · rcases List.mem_append.mp ho with q | q
              · exact HY.out.2.2.2.2 o q
              · rw [List.mem_singleton.mp q]
                exact ⟨rfl, rfl, H2.out.2.2.1.size⟩
            · exact (H2.out.2.2.1.below HPu.out.2.2).then HPu.out.2.1 (fun y _ q => .inr (.inl q))
            · exact (HPu.out.2.1.block b1 (Array.getElem?_eq_some_iff.1 hb3).1 (fun q => by rw [q, hX3.mp.blk] at hb3; cases hb3)).trans hb3
          · rw [List.map_append, take_snoc HY.out.2.1, ckp_app, if_pos HC.out, HY.out.2.2.1]
            rfl
        · have HC : Hid (¬ 0 < p.chk) := hc
          have hc' : ¬ p.chk > 0 := hc
          clear hc
          go_wp2_with fail
          go_meet
          refine ⟨rfl, N, c', ⟨H1.out.1, ?_, HY.out.2.2.2.2, H1.out.2.2.1, H1.out.2.2.2.1⟩, ?_⟩
          · rw [take_snoc HY.out.2.1, lstC_app, if_neg (show ¬ 0 < p.chk by have := HC.out; omega)]
            exact H1.out.2.1
          · rw [take_snoc HY.out.2.1, ckp_app, if_neg (show ¬ 0 < p.chk by have := HC.out; omega), List.append_nil]
            exact HY.out.2.2.1
      case rest =>
        obtain ⟨rfl, HW⟩ := hcut
        obtain ⟨W5, rfl⟩ : ∃ W, W = wc := ⟨_, rfl⟩
        obtain ⟨N', c'', hR, hN'⟩ := HW.out
        obtain ⟨g, hg⟩ : ∃ g, (mk k p zs).1 = g := ⟨_, rfl⟩
        have hSg := seg_any k p a zs len cap W5 HH.out.2.1 HH.out.2.2.1 (HH.out.2.2.2.2.1 W5 hR.kl) HH.out.2.2.2.1
        rw [hg] at hSg
        have HR : Hid (PtR w e m rm c'' s O N' Y (.slice va ny vc) (lstC s.chk (P.take (i + 1))) p b1 W5 ∧ N'.map Oc.p = ckp (P.take (i + 1)) ∧ (mk k p zs).1 = g ∧ ny ≤ 262144) := ⟨hR, hN', hg, by have := HY.out.2.2.2.1; have h2 := congrArg List.length HY.out.1; rw [List.length_map, List.length_map, List.length_take] at h2; omega⟩
        clear HW hg hN' p0 p1 p2 p3 p4 H1
        obtain ⟨p0, p1, p2, p3, p4, _⟩ := box5 hR.bx
        clear hR
        go_upto_region 9 with (first
          | (go_at_call 16
             refine hSg.mono ?_
             rintro e' U ⟨ad, cd, rfl, hown, hU⟩
             have HU : Hid (Below W5.heap.size W5 U ∧ U.ownsRow W5.heap.size 5 1 (.slice ad g.data.length cd) g.data.length (g.data.map (Value.int .u8))) := ⟨hU, hown⟩
             have hbU : Below U.heap.size U (U.alloc (.cells #[.int .i64 g.typ, .int .i64 g.org, .int .i64 g.num, .slice none 0 0, .slice none 0 0, .int .i64 g.srv, .int .i64 g.off, .slice ad g.data.length cd, .int .i64 g.chk, .int .i64 g.rep, .int .i64 g.upp, .int .i64 g.low, .slice none 0 0, .int .i64 g.rsn] 45)) := (Below.refl _ _).alloc (Nat.le_refl _) _
             have hrow : (U.alloc (.cells #[.int .i64 g.typ, .int .i64 g.org, .int .i64 g.num, .slice none 0 0, .slice none 0 0, .int .i64 g.srv, .int .i64 g.off, .slice ad g.data.length cd, .int .i64 g.chk, .int .i64 g.rep, .int .i64 g.upp, .int .i64 g.low, .slice none 0 0, .int .i64 g.rsn] 45)).ownsRow w.heap.size 45 14 (.slice va ny vc) ny (Y.flatMap sgL) := by { have q := (HR.out.1.sg.below (hU.trans (hbU.mono hU.size))).row; rw [HY.out.2.2.2.1] at q; exact q }
             have hsrc : (U.alloc (.cells #[.int .i64 g.typ, .int .i64 g.org, .int .i64 g.num, .slice none 0 0, .slice none 0 0, .int .i64 g.srv, .int .i64 g.off, .slice ad g.data.length cd, .int .i64 g.chk, .int .i64 g.rep, .int .i64 g.upp, .int .i64 g.low, .slice none 0 0, .int .i64 g.rsn] 45)).ownsRow 0 45 14 (.slice (some ⟨U.heap.size, 0, none⟩) 1 1) 1 (sgL (g, .slice ad g.data.length cd)) := ⟨rfl, .inr ⟨_, 1, _, rfl, Nat.zero_le _, heap_alloc_new' U _, Nat.le_refl _, by unfold maxLen; omega, rfl, rfl⟩⟩
             have hone : ∀ u ∈ sgL (g, .slice ad g.data.length cd), u.oneCell' = true := by { intro u hu; simp only [sgL, List.mem_cons, List.not_mem_nil, or_false] at hu; rcases hu with rfl | rfl | rfl | rfl | rfl | rfl | rfl | rfl | rfl | rfl | rfl | rfl | rfl | rfl <;> rfl }
             have hm1 : ny + 1 ≤ maxLen := by { have := HR.out.2.2.2; unfold maxLen; omega }
             have hm2 : (ny + 1) * 176 ≤ 140737488355328 := by { have := HR.out.2.2.2; omega }
             have hwl : w.heap.size ≤ (U.alloc (.cells #[.int .i64 g.typ, .int .i64 g.org, .int .i64 g.num, .slice none 0 0, .slice none 0 0, .int .i64 g.srv, .int .i64 g.off, .slice ad g.data.length cd, .int .i64 g.chk, .int .i64 g.rep, .int .i64 g.upp, .int .i64 g.low, .slice none 0 0, .int .i64 g.rsn] 45)).heap.size := Nat.le_trans HR.out.1.kl.size (Nat.le_trans hU.size hbU.size)
             clear hown hU hbU hSg)
          | (at_builtin
             refine wpl_row _ rfl _ _ 35 rfl w.heap.size 45 i0 _ 14 176 Tryd.underlying35 hi hz0 hz1 hz2 rfl (by decide) _ _ _ rfl hrow _ 1 _ rfl hsrc hone hm1 hm2 hwl ?_
             intro v6 w6 hown6 hgrow6 _
             have HN : Hid (PtI w e m rm s O k zs P (i + 1) v6 w6) := pti_next HR.out.1 HY.out.1 HY.out.2.1 HR.out.2.1 rfl HU.out.1 HU.out.2 HR.out.2.2.1 hgrow6 (by rw [HY.out.2.2.2.1]; exact hown6)
             obtain ⟨be, ce, rfl⟩ := own_sl hown6
             clear hown6 hgrow6 hrow hsrc hone hm1 hm2 hwl))
        clear p0 p1 p2 p3 p4
        go_wp2
        go_roundw
        case rel => exact ⟨i + 1, by go_num, by omega, HN.out⟩
        case measure => simp [intOf]; omega
    · have hlt' : ¬ (i : Int) < (pn : Int) := by omega
      have hin : i = pn := by have := HK.1; omega
      obtain ⟨h1, Y, N, c', a1, hS, a3⟩ := HK
      obtain ⟨va, vc, rfl⟩ := own_sl hS.row
      have HE : Hid (PtP w e m rm s O k zs P (.returned (.slice va Y.length vc)) wr) := ⟨_, rfl, by rw [HH.out.2.2.2.2.2.2.1, ← hin]; exact ⟨Y, N, c', a1, hS, a3⟩⟩
      clear hin hS a1 a3 h1
      go_wp2
      go_ret
      exact HE.out
end Go.Proofs.YtcfodcioeefbeaaDoor.X
