import Derived.Test.YtdfdaambfihjaaaDoorRx3
namespace Go.Proofs.YtdfdaambfihjaaaDoor
open Go.RowKit
set_option linter.unusedVariables false
set_option linter.unusedSimpArgs false

set_option maxRecDepth 100000 in
set_option maxHeartbeats 32000000 in
theorem rqL_17 (s : Sg) (ah at2 ad ac : Option Addr) (nh ch nt ct nd cd nc cc : Nat) (hx tx : List Xr) (w : World) (hs : SIn w s (.slice ah nh ch) (.slice at2 nt ct) (.slice ad nd cd) (.slice ac nc cc) hx tx) (hnh : hx.length = nh) (hnt : tx.length = nt) (hnd : s.data.length = nd) (hnc : s.clm.length = nc) (ht : s.typ = 9) (hw : Wr 17 s hx tx) :
    Calls Tryd.prog 72 #[.agg (svC s (.slice ah nh ch) (.slice at2 nt ct) (.slice ad nd cd) (.slice ac nc cc))] w (FormP (layB 17 s) w) := by
  obtain ⟨i0, hi, hz0, hz1, hz2⟩ := info_parts Tryd.info_u8
  obtain ⟨W, hW⟩ : ∃ W, w.alloc (.cells (svC s (.slice ah nh ch) (.slice at2 nt ct) (.slice ad nd cd) (.slice ac nc cc)) 37) = W := ⟨_, rfl⟩
  have HWe : Hid (w.alloc (.cells (svC s (.slice ah nh ch) (.slice at2 nt ct) (.slice ad nd cd) (.slice ac nc cc)) 37) = W) := hW
  have hws : W.heap.size = w.heap.size + 1 := by rw [← hW, World.size_alloc]
  have HWs : Hid (W.heap.size = w.heap.size + 1) := hws
  have hbW : Below w.heap.size w W := by rw [← hW]; exact (Below.refl _ _).alloc (Nat.le_refl _) _
  have HBW : Hid (Below w.heap.size w W) := hbW
  have HR : Hid (∀ V, Below W.heap.size W V → V.heap[w.heap.size]? = some (.cells (svC s (.slice ah nh ch) (.slice at2 nt ct) (.slice ad nd cd) (.slice ac nc cc)) 37 (0, 0))) := fun V hV => by
    have h1 : W.heap[w.heap.size]? = some (.cells (svC s (.slice ah nh ch) (.slice at2 nt ct) (.slice ad nd cd) (.slice ac nc cc)) 37 (0, 0)) := by rw [← hW]; exact al_new _ _
    exact (hV.block _ (Array.getElem?_eq_some_iff.1 h1).1).trans h1
  have HXh : Hid (XIn W (.slice ah nh ch) hx ∧ XsIn hx ∧ hx.length ≤ 15) := ⟨hs.head.below hbW, hw.head, hw.headL⟩
  have HXt : Hid (XIn W (.slice at2 nt ct) tx ∧ XsIn tx ∧ tx.length ≤ 15) := ⟨hs.tail.below hbW, hw.tail, hw.tailL⟩
  have HDt : Hid (∀ V, Below W.heap.size W V → BIn V (.slice ad nd cd) s.data) := fun V hV => (hs.data.below hbW).below hV
  have HCt : Hid (∀ V, Below W.heap.size W V → CIn V (.slice ac nc cc) s.clm) := fun V hV => (hs.clm.below hbW).below hV
  have HNs : Hid (hx.length = nh ∧ tx.length = nt ∧ s.data.length = nd ∧ s.clm.length = nc) := ⟨hnh, hnt, hnd, hnc⟩
  have HBd : Hid ((0 ≤ s.org ∧ s.org ≤ 4611686018427387903) ∧ (0 ≤ s.num ∧ s.num ≤ 4611686018427387903) ∧ (0 ≤ s.srv ∧ s.srv ≤ 4611686018427387903) ∧ (0 ≤ s.off ∧ s.off ≤ 4611686018427387903) ∧ (0 ≤ s.chk ∧ s.chk ≤ 4611686018427387903) ∧ (0 ≤ s.rep ∧ s.rep ≤ 4611686018427387903) ∧ (0 ≤ s.upp ∧ s.upp ≤ 65536) ∧ (0 ≤ s.low ∧ s.low ≤ 65536)) := ⟨hw.org, hw.num, hw.srv, hw.off, hw.chk, hw.rep, hw.upp, hw.low⟩
  have hnd7 : nd ≤ 70000 := by rw [← hnd]; exact hw.data
  have hnc1 : nc ≤ 1000 := by rw [← hnc]; exact hw.clm
  have hnh1 : nh ≤ 15 := by rw [← hnh]; exact hw.headL
  have hnt1 : nt ≤ 15 := by rw [← hnt]; exact hw.tailL
  have hD : ∀ V, Calls Tryd.prog 85 #[.int .i64 s.typ] V fun e w' => e = .returned (.bool false) ∧ V = w' := fun V => by
    exact rqDa_4 _ V (by omega)
  have hK : ∀ V, Calls Tryd.prog 86 #[.int .i64 s.typ] V fun e w' => e = .returned (.bool false) ∧ V = w' := fun V => by
    exact rqCh_2 _ V (by omega)
  have t8 : (s.typ == 8) = false := by simp; omega
  have t9 : (s.typ == 9) = true := by simp; omega
  have t12 : (s.typ == 12) = false := by simp; omega
  have t14 : (s.typ == 14) = false := by simp; omega
  have hwt : s.typ % 256 = s.typ := by omega
  have hw16 : IntKind.i64.wrap (16 * (nh : Int)) = 16 * (nh : Int) := by rw [IntKind.wrap_i64]; omega
  have hwsm : IntKind.i64.wrap (16 * (nh : Int) + (nt : Int)) = 16 * (nh : Int) + (nt : Int) := by rw [IntKind.wrap_i64]; omega
  have hwb : (16 * (nh : Int) + (nt : Int)) % 256 = 16 * (nh : Int) + (nt : Int) := by omega
  have HLay : Hid (layB 17 s = [s.typ] ++ enc s.org ++ enc s.num ++ [16 * (nh : Int) + (nt : Int)] ++ encXs (hx.map Xr.ex) ++ enc s.rep ++ encXs (tx.map Xr.ex)) := by show _ = _; rw [lay_sh17 s hx tx hs.headEq hs.tailEq, hnh, hnt]
  obtain ⟨P, hP⟩ : ∃ P, FormP (layB 17 s) w = P := ⟨_, rfl⟩
  have HP : Hid (FormP (layB 17 s) w = P) := hP
  have HL0 : Hid (Ly W (W.alloc (.cells #[.int .u8 s.typ] 5)) (.slice (some ⟨w.heap.size + 1, 0, none⟩) 1 1) 1 [s.typ]) := by
    refine ⟨rfl, ⟨rfl, .inr ⟨w.heap.size + 1, 1, #[.int .u8 s.typ], rfl, by omega, ?_, Nat.le_refl _, by unfold maxLen; omega, rfl, rfl⟩⟩, (Below.refl _ _).alloc (Nat.le_refl _) _⟩
    rw [← hws]
    exact al_new _ _
  rw [hP]
  obtain ⟨y0, y1, y2, y3, y4, y5, y6, y7, y8, y9, y10, y11, y12, y13⟩ := s14_cells (HR.out W (Below.refl _ _))
  clear hW hbW hs hw hnh hnt hnd hnc hP hws ht
  go_enter Tryd.func72, Tryd.ntmps72
  have hX := HL0.out.calls s.org (by have := HBd.out; omega) (by have := HBd.out; omega) (by omega)
  go_wp2_with fail
  rw [HWe.out]
  refine hX.mono ?_
  rintro e w1 ⟨a1, m1, c1, rfl, hm1, hl1⟩
  clear hX
  obtain ⟨b1, hb1⟩ : ∃ l, [s.typ] ++ enc s.org = l := ⟨_, rfl⟩
  rw [hb1] at hl1
  have HE1 : Hid ([s.typ] ++ enc s.org = b1) := hb1
  have HL1 : Hid (Ly W w1 (.slice a1 m1 c1) m1 b1) := hl1
  clear y0 y1 y2 y3 y4 y5 y6 y7 y8 y9 y10 y11 y12 y13
  obtain ⟨y0, y1, y2, y3, y4, y5, y6, y7, y8, y9, y10, y11, y12, y13⟩ := s14_cells (HR.out w1 hl1.bel)
  clear hl1 hb1 HL0
  have hX := HL1.out.calls s.num (by have := HBd.out; omega) (by have := HBd.out; omega) (by omega)
  go_wp2_with fail
  refine hX.mono ?_
  rintro e w2 ⟨a2, m2, c2, rfl, hm2, hl2⟩
  clear hX
  obtain ⟨b2, hb2⟩ : ∃ l, b1 ++ enc s.num = l := ⟨_, rfl⟩
  rw [hb2] at hl2
  have HE2 : Hid (b1 ++ enc s.num = b2) := hb2
  have HL2 : Hid (Ly W w2 (.slice a2 m2 c2) m2 b2) := hl2
  clear y0 y1 y2 y3 y4 y5 y6 y7 y8 y9 y10 y11 y12 y13
  obtain ⟨y0, y1, y2, y3, y4, y5, y6, y7, y8, y9, y10, y11, y12, y13⟩ := s14_cells (HR.out w2 hl2.bel)
  clear hl2 hb2 HL1
  have HO3 : Hid ((w2.alloc (.cells #[.int .u8 (16 * (nh : Int) + (nt : Int))] 5)).ownsRow W.heap.size 5 1 (.slice a2 m2 c2) m2 (b2.map (Value.int .u8))) := HL2.out.own1 _
  have hwz : W.heap.size ≤ w2.heap.size := HL2.out.bel.size
  go_wp2_with (at_builtin; refine wpList_append_own_at _ rfl _ _ 34 rfl W.heap.size 5 i0 (.int .u8 0) 1 1 Tryd.underlying34 hi hz0 hz1 hz2 rfl (by decide) _ _ _ rfl HO3.out ⟨w2.heap.size, 0, none⟩ 1 1 [.int .u8 (16 * (nh : Int) + (nt : Int))] rfl rfl (one_litb w2 _) (by intro u hu; simp at hu; subst hu; rfl) (by unfold maxLen; omega) (by omega) (by simp; omega) ?_; intro v3 w3 o3 g3 _ t3; obtain ⟨a3, m3, c3, rfl, hm3, hl3⟩ := HL2.out.byte o3 g3; clear o3 g3 t3 hwz HO3 y0 y1 y2 y3 y4 y5 y6 y7 y8 y9 y10 y11 y12 y13; obtain ⟨y0, y1, y2, y3, y4, y5, y6, y7, y8, y9, y10, y11, y12, y13⟩ := s14_cells (HR.out w3 hl3.bel))
  obtain ⟨b3, hb3⟩ : ∃ l, b2 ++ [16 * (nh : Int) + (nt : Int)] = l := ⟨_, rfl⟩
  rw [hb3] at hl3
  have HE3 : Hid (b2 ++ [16 * (nh : Int) + (nt : Int)] = b3) := hb3
  have HL3 : Hid (Ly W w3 (.slice a3 m3 c3) m3 b3) := hl3
  clear y0 y1 y2 y3 y4 y5 y6 y7 y8 y9 y10 y11 y12 y13
  obtain ⟨y0, y1, y2, y3, y4, y5, y6, y7, y8, y9, y10, y11, y12, y13⟩ := s14_cells (HR.out w3 hl3.bel)
  clear hl3 hb3 HL2
  have hX := rqLayExts_any HL3.out (.slice ah nh ch) hx HXh.out.1 HXh.out.2.1 HXh.out.2.2 (by omega)
  go_wp2_with fail
  refine hX.mono ?_
  rintro e w4 ⟨a4, m4, c4, rfl, hm4, hl4⟩
  clear hX
  obtain ⟨b4, hb4⟩ : ∃ l, b3 ++ encXs (hx.map Xr.ex) = l := ⟨_, rfl⟩
  rw [hb4] at hl4
  have HE4 : Hid (b3 ++ encXs (hx.map Xr.ex) = b4) := hb4
  have HL4 : Hid (Ly W w4 (.slice a4 m4 c4) m4 b4) := hl4
  clear y0 y1 y2 y3 y4 y5 y6 y7 y8 y9 y10 y11 y12 y13
  obtain ⟨y0, y1, y2, y3, y4, y5, y6, y7, y8, y9, y10, y11, y12, y13⟩ := s14_cells (HR.out w4 hl4.bel)
  clear hl4 hb4 HL3
  go_wp2_with fail
  refine (hD _).mono ?_
  rintro e w' ⟨rfl, hw1⟩
  subst hw1
  go_wp2_with fail
  refine (hK _).mono ?_
  rintro e w' ⟨rfl, hw1⟩
  subst hw1
  have hX := HL4.out.calls s.rep (by have := HBd.out; omega) (by have := HBd.out; omega) (by omega)
  go_wp2_with fail
  refine hX.mono ?_
  rintro e w5 ⟨a5, m5, c5, rfl, hm5, hl5⟩
  clear hX
  obtain ⟨b5, hb5⟩ : ∃ l, b4 ++ enc s.rep = l := ⟨_, rfl⟩
  rw [hb5] at hl5
  have HE5 : Hid (b4 ++ enc s.rep = b5) := hb5
  have HL5 : Hid (Ly W w5 (.slice a5 m5 c5) m5 b5) := hl5
  clear y0 y1 y2 y3 y4 y5 y6 y7 y8 y9 y10 y11 y12 y13
  obtain ⟨y0, y1, y2, y3, y4, y5, y6, y7, y8, y9, y10, y11, y12, y13⟩ := s14_cells (HR.out w5 hl5.bel)
  clear hl5 hb5 HL4
  have hX := rqLayExts_any HL5.out (.slice at2 nt ct) tx HXt.out.1 HXt.out.2.1 HXt.out.2.2 (by omega)
  go_wp2_with fail
  refine hX.mono ?_
  rintro e w6 ⟨a6, m6, c6, rfl, hm6, hl6⟩
  clear hX
  obtain ⟨b6, hb6⟩ : ∃ l, b5 ++ encXs (tx.map Xr.ex) = l := ⟨_, rfl⟩
  rw [hb6] at hl6
  have HE6 : Hid (b5 ++ encXs (tx.map Xr.ex) = b6) := hb6
  have HL6 : Hid (Ly W w6 (.slice a6 m6 c6) m6 b6) := hl6
  clear y0 y1 y2 y3 y4 y5 y6 y7 y8 y9 y10 y11 y12 y13
  obtain ⟨y0, y1, y2, y3, y4, y5, y6, y7, y8, y9, y10, y11, y12, y13⟩ := s14_cells (HR.out w6 hl6.bel)
  clear hl6 hb6 HL5
  have HEnd : Hid (P (.returned (.slice a6 m6 c6)) w6) := by
    show P _ _
    rw [← HP.out]
    have hlz := HL6.out
    have he : b6 = layB 17 s := by rw [HLay.out, ← HE6.out, ← HE5.out, ← HE4.out, ← HE3.out, ← HE2.out, ← HE1.out]
    rw [he] at hlz
    have hlen := hlz.len
    refine ⟨_, rfl, ?_, HBW.out.trans (hlz.bel.mono HBW.out.size)⟩
    rw [hlen]
    exact own_low5 hlz.own (by rw [HWs.out]; omega)
  go_wp2
  first | exact HEnd.out | (go_ret; exact HEnd.out)

end Go.Proofs.YtdfdaambfihjaaaDoor

namespace Go.Proofs.YtdfdaambfihjaaaDoor
open Go.RowKit
set_option linter.unusedVariables false
set_option linter.unusedSimpArgs false

set_option maxRecDepth 100000 in
set_option maxHeartbeats 32000000 in
theorem rqL_33a (s : Sg) (ah at2 ad ac : Option Addr) (nh ch nt ct nd cd nc cc : Nat) (hx tx : List Xr) (w : World) (hs : SIn w s (.slice ah nh ch) (.slice at2 nt ct) (.slice ad nd cd) (.slice ac nc cc) hx tx) (hnh : hx.length = nh) (hnt : tx.length = nt) (hnd : s.data.length = nd) (hnc : s.clm.length = nc) (ht : s.typ = 12) (hw : Wr 33 s hx tx) :
    Calls Tryd.prog 72 #[.agg (svC s (.slice ah nh ch) (.slice at2 nt ct) (.slice ad nd cd) (.slice ac nc cc))] w (FormP (layB 33 s) w) := by
  obtain ⟨i0, hi, hz0, hz1, hz2⟩ := info_parts Tryd.info_u8
  obtain ⟨W, hW⟩ : ∃ W, w.alloc (.cells (svC s (.slice ah nh ch) (.slice at2 nt ct) (.slice ad nd cd) (.slice ac nc cc)) 37) = W := ⟨_, rfl⟩
  have HWe : Hid (w.alloc (.cells (svC s (.slice ah nh ch) (.slice at2 nt ct) (.slice ad nd cd) (.slice ac nc cc)) 37) = W) := hW
  have hws : W.heap.size = w.heap.size + 1 := by rw [← hW, World.size_alloc]
  have HWs : Hid (W.heap.size = w.heap.size + 1) := hws
  have hbW : Below w.heap.size w W := by rw [← hW]; exact (Below.refl _ _).alloc (Nat.le_refl _) _
  have HBW : Hid (Below w.heap.size w W) := hbW
  have HR : Hid (∀ V, Below W.heap.size W V → V.heap[w.heap.size]? = some (.cells (svC s (.slice ah nh ch) (.slice at2 nt ct) (.slice ad nd cd) (.slice ac nc cc)) 37 (0, 0))) := fun V hV => by
    have h1 : W.heap[w.heap.size]? = some (.cells (svC s (.slice ah nh ch) (.slice at2 nt ct) (.slice ad nd cd) (.slice ac nc cc)) 37 (0, 0)) := by rw [← hW]; exact al_new _ _
    exact (hV.block _ (Array.getElem?_eq_some_iff.1 h1).1).trans h1
  have HXh : Hid (XIn W (.slice ah nh ch) hx ∧ XsIn hx ∧ hx.length ≤ 15) := ⟨hs.head.below hbW, hw.head, hw.headL⟩
  have HXt : Hid (XIn W (.slice at2 nt ct) tx ∧ XsIn tx ∧ tx.length ≤ 15) := ⟨hs.tail.below hbW, hw.tail, hw.tailL⟩
  have HDt : Hid (∀ V, Below W.heap.size W V → BIn V (.slice ad nd cd) s.data) := fun V hV => (hs.data.below hbW).below hV
  have HCt : Hid (∀ V, Below W.heap.size W V → CIn V (.slice ac nc cc) s.clm) := fun V hV => (hs.clm.below hbW).below hV
  have HNs : Hid (hx.length = nh ∧ tx.length = nt ∧ s.data.length = nd ∧ s.clm.length = nc) := ⟨hnh, hnt, hnd, hnc⟩
  have HBd : Hid ((0 ≤ s.org ∧ s.org ≤ 4611686018427387903) ∧ (0 ≤ s.num ∧ s.num ≤ 4611686018427387903) ∧ (0 ≤ s.srv ∧ s.srv ≤ 4611686018427387903) ∧ (0 ≤ s.off ∧ s.off ≤ 4611686018427387903) ∧ (0 ≤ s.chk ∧ s.chk ≤ 4611686018427387903) ∧ (0 ≤ s.rep ∧ s.rep ≤ 4611686018427387903) ∧ (0 ≤ s.upp ∧ s.upp ≤ 65536) ∧ (0 ≤ s.low ∧ s.low ≤ 65536)) := ⟨hw.org, hw.num, hw.srv, hw.off, hw.chk, hw.rep, hw.upp, hw.low⟩
  have hnd7 : nd ≤ 70000 := by rw [← hnd]; exact hw.data
  have hnc1 : nc ≤ 1000 := by rw [← hnc]; exact hw.clm
  have hnh1 : nh ≤ 15 := by rw [← hnh]; exact hw.headL
  have hnt1 : nt ≤ 15 := by rw [← hnt]; exact hw.tailL
  have hD : ∀ V, Calls Tryd.prog 85 #[.int .i64 s.typ] V fun e w' => e = .returned (.bool false) ∧ V = w' := fun V => by
    exact rqDa_4 _ V (by omega)
  have hK : ∀ V, Calls Tryd.prog 86 #[.int .i64 s.typ] V fun e w' => e = .returned (.bool false) ∧ V = w' := fun V => by
    exact rqCh_2 _ V (by omega)
  have t8 : (s.typ == 8) = false := by simp; omega
  have t9 : (s.typ == 9) = false := by simp; omega
  have t12 : (s.typ == 12) = true := by simp; omega
  have t14 : (s.typ == 14) = false := by simp; omega
  have hwt : s.typ % 256 = s.typ := by omega
  have hw16 : IntKind.i64.wrap (16 * (nh : Int)) = 16 * (nh : Int) := by rw [IntKind.wrap_i64]; omega
  have hwsm : IntKind.i64.wrap (16 * (nh : Int) + (nt : Int)) = 16 * (nh : Int) + (nt : Int) := by rw [IntKind.wrap_i64]; omega
  have hwb : (16 * (nh : Int) + (nt : Int)) % 256 = 16 * (nh : Int) + (nt : Int) := by omega
  have hwr : s.rsn % 256 = s.rsn := by have := hw.rsn; omega
  have HLay : Hid (layB 33 s = [s.typ] ++ enc s.org ++ enc s.num ++ [16 * (nh : Int) + (nt : Int)] ++ encXs (hx.map Xr.ex) ++ [s.rsn] ++ encXs (tx.map Xr.ex)) := by show _ = _; rw [lay_sh33 s hx tx hs.headEq hs.tailEq, hnh, hnt]
  obtain ⟨P, hP⟩ : ∃ P, FormP (layB 33 s) w = P := ⟨_, rfl⟩
  have HP : Hid (FormP (layB 33 s) w = P) := hP
  have HL0 : Hid (Ly W (W.alloc (.cells #[.int .u8 s.typ] 5)) (.slice (some ⟨w.heap.size + 1, 0, none⟩) 1 1) 1 [s.typ]) := by
    refine ⟨rfl, ⟨rfl, .inr ⟨w.heap.size + 1, 1, #[.int .u8 s.typ], rfl, by omega, ?_, Nat.le_refl _, by unfold maxLen; omega, rfl, rfl⟩⟩, (Below.refl _ _).alloc (Nat.le_refl _) _⟩
    rw [← hws]
    exact al_new _ _
  rw [hP]
  obtain ⟨y0, y1, y2, y3, y4, y5, y6, y7, y8, y9, y10, y11, y12, y13⟩ := s14_cells (HR.out W (Below.refl _ _))
  clear hW hbW hs hw hnh hnt hnd hnc hP hws ht
  go_enter Tryd.func72, Tryd.ntmps72
  have hX := HL0.out.calls s.org (by have := HBd.out; omega) (by have := HBd.out; omega) (by omega)
  go_wp2_with fail
  rw [HWe.out]
  refine hX.mono ?_
  rintro e w1 ⟨a1, m1, c1, rfl, hm1, hl1⟩
  clear hX
  obtain ⟨b1, hb1⟩ : ∃ l, [s.typ] ++ enc s.org = l := ⟨_, rfl⟩
  rw [hb1] at hl1
  have HE1 : Hid ([s.typ] ++ enc s.org = b1) := hb1
  have HL1 : Hid (Ly W w1 (.slice a1 m1 c1) m1 b1) := hl1
  clear y0 y1 y2 y3 y4 y5 y6 y7 y8 y9 y10 y11 y12 y13
  obtain ⟨y0, y1, y2, y3, y4, y5, y6, y7, y8, y9, y10, y11, y12, y13⟩ := s14_cells (HR.out w1 hl1.bel)
  clear hl1 hb1 HL0
  have hX := HL1.out.calls s.num (by have := HBd.out; omega) (by have := HBd.out; omega) (by omega)
  go_wp2_with fail
  refine hX.mono ?_
  rintro e w2 ⟨a2, m2, c2, rfl, hm2, hl2⟩
  clear hX
  obtain ⟨b2, hb2⟩ : ∃ l, b1 ++ enc s.num = l := ⟨_, rfl⟩
  rw [hb2] at hl2
  have HE2 : Hid (b1 ++ enc s.num = b2) := hb2
  have HL2 : Hid (Ly W w2 (.slice a2 m2 c2) m2 b2) := hl2
  clear y0 y1 y2 y3 y4 y5 y6 y7 y8 y9 y10 y11 y12 y13
  obtain ⟨y0, y1, y2, y3, y4, y5, y6, y7, y8, y9, y10, y11, y12, y13⟩ := s14_cells (HR.out w2 hl2.bel)
  clear hl2 hb2 HL1
  have HO3 : Hid ((w2.alloc (.cells #[.int .u8 (16 * (nh : Int) + (nt : Int))] 5)).ownsRow W.heap.size 5 1 (.slice a2 m2 c2) m2 (b2.map (Value.int .u8))) := HL2.out.own1 _
  have hwz : W.heap.size ≤ w2.heap.size := HL2.out.bel.size
  go_wp2_with (at_builtin; refine wpList_append_own_at _ rfl _ _ 34 rfl W.heap.size 5 i0 (.int .u8 0) 1 1 Tryd.underlying34 hi hz0 hz1 hz2 rfl (by decide) _ _ _ rfl HO3.out ⟨w2.heap.size, 0, none⟩ 1 1 [.int .u8 (16 * (nh : Int) + (nt : Int))] rfl rfl (one_litb w2 _) (by intro u hu; simp at hu; subst hu; rfl) (by unfold maxLen; omega) (by omega) (by simp; omega) ?_; intro v3 w3 o3 g3 _ t3; obtain ⟨a3, m3, c3, rfl, hm3, hl3⟩ := HL2.out.byte o3 g3; clear o3 g3 t3 hwz HO3 y0 y1 y2 y3 y4 y5 y6 y7 y8 y9 y10 y11 y12 y13; obtain ⟨y0, y1, y2, y3, y4, y5, y6, y7, y8, y9, y10, y11, y12, y13⟩ := s14_cells (HR.out w3 hl3.bel))
  obtain ⟨b3, hb3⟩ : ∃ l, b2 ++ [16 * (nh : Int) + (nt : Int)] = l := ⟨_, rfl⟩
  rw [hb3] at hl3
  have HE3 : Hid (b2 ++ [16 * (nh : Int) + (nt : Int)] = b3) := hb3
  have HL3 : Hid (Ly W w3 (.slice a3 m3 c3) m3 b3) := hl3
  clear y0 y1 y2 y3 y4 y5 y6 y7 y8 y9 y10 y11 y12 y13
  obtain ⟨y0, y1, y2, y3, y4, y5, y6, y7, y8, y9, y10, y11, y12, y13⟩ := s14_cells (HR.out w3 hl3.bel)
  clear hl3 hb3 HL2
  have hX := rqLayExts_any HL3.out (.slice ah nh ch) hx HXh.out.1 HXh.out.2.1 HXh.out.2.2 (by omega)
  go_wp2_with fail
  refine hX.mono ?_
  rintro e w4 ⟨a4, m4, c4, rfl, hm4, hl4⟩
  clear hX
  obtain ⟨b4, hb4⟩ : ∃ l, b3 ++ encXs (hx.map Xr.ex) = l := ⟨_, rfl⟩
  rw [hb4] at hl4
  have HE4 : Hid (b3 ++ encXs (hx.map Xr.ex) = b4) := hb4
  have HL4 : Hid (Ly W w4 (.slice a4 m4 c4) m4 b4) := hl4
  clear y0 y1 y2 y3 y4 y5 y6 y7 y8 y9 y10 y11 y12 y13
  obtain ⟨y0, y1, y2, y3, y4, y5, y6, y7, y8, y9, y10, y11, y12, y13⟩ := s14_cells (HR.out w4 hl4.bel)
  clear hl4 hb4 HL3
  go_wp2_with fail
  refine (hD _).mono ?_
  rintro e w' ⟨rfl, hw1⟩
  subst hw1
  go_wp2_with fail
  refine (hK _).mono ?_
  rintro e w' ⟨rfl, hw1⟩
  subst hw1
  have HO5 : Hid ((w4.alloc (.cells #[.int .u8 (s.rsn)] 5)).ownsRow W.heap.size 5 1 (.slice a4 m4 c4) m4 (b4.map (Value.int .u8))) := HL4.out.own1 _
  have hwz : W.heap.size ≤ w4.heap.size := HL4.out.bel.size
  go_wp2_with (at_builtin; refine wpList_append_own_at _ rfl _ _ 34 rfl W.heap.size 5 i0 (.int .u8 0) 1 1 Tryd.underlying34 hi hz0 hz1 hz2 rfl (by decide) _ _ _ rfl HO5.out ⟨w4.heap.size, 0, none⟩ 1 1 [.int .u8 (s.rsn)] rfl rfl (one_litb w4 _) (by intro u hu; simp at hu; subst hu; rfl) (by unfold maxLen; omega) (by omega) (by simp; omega) ?_; intro v5 w5 o5 g5 _ t5; obtain ⟨a5, m5, c5, rfl, hm5, hl5⟩ := HL4.out.byte o5 g5; clear o5 g5 t5 hwz HO5 y0 y1 y2 y3 y4 y5 y6 y7 y8 y9 y10 y11 y12 y13; obtain ⟨y0, y1, y2, y3, y4, y5, y6, y7, y8, y9, y10, y11, y12, y13⟩ := s14_cells (HR.out w5 hl5.bel))
  obtain ⟨b5, hb5⟩ : ∃ l, b4 ++ [s.rsn] = l := ⟨_, rfl⟩
  rw [hb5] at hl5
  have HE5 : Hid (b4 ++ [s.rsn] = b5) := hb5
  have HL5 : Hid (Ly W w5 (.slice a5 m5 c5) m5 b5) := hl5
  clear y0 y1 y2 y3 y4 y5 y6 y7 y8 y9 y10 y11 y12 y13
  obtain ⟨y0, y1, y2, y3, y4, y5, y6, y7, y8, y9, y10, y11, y12, y13⟩ := s14_cells (HR.out w5 hl5.bel)
  clear hl5 hb5 HL4
  have hX := rqLayExts_any HL5.out (.slice at2 nt ct) tx HXt.out.1 HXt.out.2.1 HXt.out.2.2 (by omega)
  go_wp2_with fail
  refine hX.mono ?_
  rintro e w6 ⟨a6, m6, c6, rfl, hm6, hl6⟩
  clear hX
  obtain ⟨b6, hb6⟩ : ∃ l, b5 ++ encXs (tx.map Xr.ex) = l := ⟨_, rfl⟩
  rw [hb6] at hl6
  have HE6 : Hid (b5 ++ encXs (tx.map Xr.ex) = b6) := hb6
  have HL6 : Hid (Ly W w6 (.slice a6 m6 c6) m6 b6) := hl6
  clear y0 y1 y2 y3 y4 y5 y6 y7 y8 y9 y10 y11 y12 y13
  obtain ⟨y0, y1, y2, y3, y4, y5, y6, y7, y8, y9, y10, y11, y12, y13⟩ := s14_cells (HR.out w6 hl6.bel)
  clear hl6 hb6 HL5
  have HEnd : Hid (P (.returned (.slice a6 m6 c6)) w6) := by
    show P _ _
    rw [← HP.out]
    have hlz := HL6.out
    have he : b6 = layB 33 s := by rw [HLay.out, ← HE6.out, ← HE5.out, ← HE4.out, ← HE3.out, ← HE2.out, ← HE1.out]
    rw [he] at hlz
    have hlen := hlz.len
    refine ⟨_, rfl, ?_, HBW.out.trans (hlz.bel.mono HBW.out.size)⟩
    rw [hlen]
    exact own_low5 hlz.own (by rw [HWs.out]; omega)
  go_wp2
  first | exact HEnd.out | (go_ret; exact HEnd.out)

end Go.Proofs.YtdfdaambfihjaaaDoor
