import Derived.Test.YtdfdaambfihjaaaDoorRx3
import Derived.Test.YtdfdaambfihjaaaDoorRx1
namespace Go.Proofs.YtdfdaambfihjaaaDoor
open Go.RowKit
set_option linter.unusedVariables false
set_option linter.unusedSimpArgs false

set_option maxRecDepth 100000 in
set_option maxHeartbeats 32000000 in
theorem rqL_33b (s : Sg) (ah at2 ad ac : Option Addr) (nh ch nt ct nd cd nc cc : Nat) (hx tx : List Xr) (w : World) (hs : SIn w s (.slice ah nh ch) (.slice at2 nt ct) (.slice ad nd cd) (.slice ac nc cc) hx tx) (hnh : hx.length = nh) (hnt : tx.length = nt) (hnd : s.data.length = nd) (hnc : s.clm.length = nc) (ht : s.typ = 14) (hw : Wr 33 s hx tx) :
    Calls Tryd.prog 72 #[.agg (svC s (.slice ah nh ch) (.slice at2 nt ct) (.slice ad nd cd) (.slice ac nc cc))] w (FormP (layB 33 s) w) := by
  obtain ⟨i0, hi, hz0, hz1, hz2⟩ := info_parts Tryd.info_u8
  obtain ⟨W, hW⟩ : ∃ W, w.alloc (.cells (svC s (.slice ah nh ch) (.slice at2 nt ct) (.slice ad nd cd) (.slice ac nc cc)) 37) = W := ⟨_, rfl⟩
  have HWe : Hid (w.alloc (.cells (svC s (.slice ah nh ch) (.slice at2 nt ct) (.slice ad nd cd) (.slice ac nc cc)) 37) = W) := hW
  have hws : W.heap.size = w.heap.size + 1 := by rw [← hW, World.size_alloc]
  have HWs : Hid (W.heap.size = w.heap.size + 1) := hws
  have hbW : Below w.heap.size w W := by rw [← hW]; exact (Below.refl _ _).alloc (Nat.le_refl _) _
  have HBW : Hid (Below w.heap.size w W) := hbW
  have HR : Hid (∀ V, Below W.heap.size W V → V.heap[w.heap.size]? = some (.cells (svC s (.slice ah nh ch) (.slice at2 nt ct) (.slice ad nd cd) (.slice ac nc cc)) 37 (0, 0))) := fun V hV => by
    have h1 : W.heap[w.heap.size]? = some (.cells (svC s (.slice ah nh ch) (.slice at2 nt ct) (.slice ad nd cd) (.slice ac nc cc)) 37 (0, 0)) := by rw [← hW]; exact al_new _ _
    exact (hV.block _ (Array.getElem?_eq_some_iff.1 h1).1).trans h1
  have HXh : Hid (XIn W (.slice ah nh ch) hx ∧ XsIn hx ∧ hx.length ≤ 15) := ⟨hs.head.below hbW, hw.head, hw.headL⟩
  have HXt : Hid (XIn W (.slice at2 nt ct) tx ∧ XsIn tx ∧ tx.length ≤ 15) := ⟨hs.tail.below hbW, hw.tail, hw.tailL⟩
  have HDt : Hid (∀ V, Below W.heap.size W V → BIn V (.slice ad nd cd) s.data) := fun V hV => (hs.data.below hbW).below hV
  have HCt : Hid (∀ V, Below W.heap.size W V → CIn V (.slice ac nc cc) s.clm) := fun V hV => (hs.clm.below hbW).below hV
  have HNs : Hid (hx.length = nh ∧ tx.length = nt ∧ s.data.length = nd ∧ s.clm.length = nc) := ⟨hnh, hnt, hnd, hnc⟩
  have HBd : Hid ((0 ≤ s.org ∧ s.org ≤ 4611686018427387903) ∧ (0 ≤ s.num ∧ s.num ≤ 4611686018427387903) ∧ (0 ≤ s.srv ∧ s.srv ≤ 4611686018427387903) ∧ (0 ≤ s.off ∧ s.off ≤ 4611686018427387903) ∧ (0 ≤ s.chk ∧ s.chk ≤ 4611686018427387903) ∧ (0 ≤ s.rep ∧ s.rep ≤ 4611686018427387903) ∧ (0 ≤ s.upp ∧ s.upp ≤ 65536) ∧ (0 ≤ s.low ∧ s.low ≤ 65536)) := ⟨hw.org, hw.num, hw.srv, hw.off, hw.chk, hw.rep, hw.upp, hw.low⟩
  have hnd7 : nd ≤ 70000 := by rw [← hnd]; exact hw.data
  have hnc1 : nc ≤ 1000 := by rw [← hnc]; exact hw.clm
  have hnh1 : nh ≤ 15 := by rw [← hnh]; exact hw.headL
  have hnt1 : nt ≤ 15 := by rw [← hnt]; exact hw.tailL
  have hD : ∀ V, Calls Tryd.prog 85 #[.int .i64 s.typ] V fun e w' => e = .returned (.bool false) ∧ V = w' := fun V => by
    exact rqDa_4 _ V (by omega)
  have hK : ∀ V, Calls Tryd.prog 86 #[.int .i64 s.typ] V fun e w' => e = .returned (.bool false) ∧ V = w' := fun V => by
    exact rqCh_2 _ V (by omega)
  have t8 : (s.typ == 8) = false := by simp; omega
  have t9 : (s.typ == 9) = false := by simp; omega
  have t12 : (s.typ == 12) = false := by simp; omega
  have t14 : (s.typ == 14) = true := by simp; omega
  have hwt : s.typ % 256 = s.typ := by omega
  have hw16 : IntKind.i64.wrap (16 * (nh : Int)) = 16 * (nh : Int) := by rw [IntKind.wrap_i64]; omega
  have hwsm : IntKind.i64.wrap (16 * (nh : Int) + (nt : Int)) = 16 * (nh : Int) + (nt : Int) := by rw [IntKind.wrap_i64]; omega
  have hwb : (16 * (nh : Int) + (nt : Int)) % 256 = 16 * (nh : Int) + (nt : Int) := by omega
  have hwr : s.rsn % 256 = s.rsn := by have := hw.rsn; omega
  have HLay : Hid (layB 33 s = [s.typ] ++ enc s.org ++ enc s.num ++ [16 * (nh : Int) + (nt : Int)] ++ encXs (hx.map Xr.ex) ++ [s.rsn] ++ encXs (tx.map Xr.ex)) := by show _ = _; rw [lay_sh33 s hx tx hs.headEq hs.tailEq, hnh, hnt]
  obtain ⟨P, hP⟩ : ∃ P, FormP (layB 33 s) w = P := ⟨_, rfl⟩
  have HP : Hid (FormP (layB 33 s) w = P) := hP
  have HL0 : Hid (Ly W (W.alloc (.cells #[.int .u8 s.typ] 5)) (.slice (some ⟨w.heap.size + 1, 0, none⟩) 1 1) 1 [s.typ]) := by
    refine ⟨rfl, ⟨rfl, .inr ⟨w.heap.size + 1, 1, #[.int .u8 s.typ], rfl, by omega, ?_, Nat.le_refl _, by unfold maxLen; omega, rfl, rfl⟩⟩, (Below.refl _ _).alloc (Nat.le_refl _) _⟩
    rw [← hws]
    exact al_new _ _
  rw [hP]
  obtain ⟨y0, y1, y2, y3, y4, y5, y6, y7, y8, y9, y10, y11, y12, y13⟩ := s14_cells (HR.out W (Below.refl _ _))
  clear hW hbW hs hw hnh hnt hnd hnc hP hws ht
  go_enter Tryd.func72, Tryd.ntmps72
  have hX := HL0.out.calls s.org (by have := HBd.out; omega) (by have := HBd.out; omega) (by omega)
  go_wp2_with fail
  rw [HWe.out]
  refine hX.mono ?_
  rintro e w1 ⟨a1, m1, c1, rfl, hm1, hl1⟩
  clear hX
  obtain ⟨b1, hb1⟩ : ∃ l, [s.typ] ++ enc s.org = l := ⟨_, rfl⟩
  rw [hb1] at hl1
  have HE1 : Hid ([s.typ] ++ enc s.org = b1) := hb1
  have HL1 : Hid (Ly W w1 (.slice a1 m1 c1) m1 b1) := hl1
  clear y0 y1 y2 y3 y4 y5 y6 y7 y8 y9 y10 y11 y12 y13
  obtain ⟨y0, y1, y2, y3, y4, y5, y6, y7, y8, y9, y10, y11, y12, y13⟩ := s14_cells (HR.out w1 hl1.bel)
  clear hl1 hb1 HL0
  have hX := HL1.out.calls s.num (by have := HBd.out; omega) (by have := HBd.out; omega) (by omega)
  go_wp2_with fail
  refine hX.mono ?_
  rintro e w2 ⟨a2, m2, c2, rfl, hm2, hl2⟩
  clear hX
  obtain ⟨b2, hb2⟩ : ∃ l, b1 ++ enc s.num = l := ⟨_, rfl⟩
  rw [hb2] at hl2
  have HE2 : Hid (b1 ++ enc s.num = b2) := hb2
  have HL2 : Hid (Ly W w2 (.slice a2 m2 c2) m2 b2) := hl2
  clear y0 y1 y2 y3 y4 y5 y6 y7 y8 y9 y10 y11 y12 y13
  obtain ⟨y0, y1, y2, y3, y4, y5, y6, y7, y8, y9, y10, y11, y12, y13⟩ := s14_cells (HR.out w2 hl2.bel)
  clear hl2 hb2 HL1
  have HO3 : Hid ((w2.alloc (.cells #[.int .u8 (16 * (nh : Int) + (nt : Int))] 5)).ownsRow W.heap.size 5 1 (.slice a2 m2 c2) m2 (b2.map (Value.int .u8))) := HL2.out.own1 _
  have hwz : W.heap.size ≤ w2.heap.size := HL2.out.bel.size
  go_wp2_with (at_builtin; refine wpList_append_own_at _ rfl _ _ 34 rfl W.heap.size 5 i0 (.int .u8 0) 1 1 Tryd.underlying34 hi hz0 hz1 hz2 rfl (by decide) _ _ _ rfl HO3.out ⟨w2.heap.size, 0, none⟩ 1 1 [.int .u8 (16 * (nh : Int) + (nt : Int))] rfl rfl (one_litb w2 _) (by intro u hu; simp at hu; subst hu; rfl) (by unfold maxLen; omega) (by omega) (by simp; omega) ?_; intro v3 w3 o3 g3 _ t3; obtain ⟨a3, m3, c3, rfl, hm3, hl3⟩ := HL2.out.byte o3 g3; clear o3 g3 t3 hwz HO3 y0 y1 y2 y3 y4 y5 y6 y7 y8 y9 y10 y11 y12 y13; obtain ⟨y0, y1, y2, y3, y4, y5, y6, y7, y8, y9, y10, y11, y12, y13⟩ := s14_cells (HR.out w3 hl3.bel))
  obtain ⟨b3, hb3⟩ : ∃ l, b2 ++ [16 * (nh : Int) + (nt : Int)] = l := ⟨_, rfl⟩
  rw [hb3] at hl3
  have HE3 : Hid (b2 ++ [16 * (nh : Int) + (nt : Int)] = b3) := hb3
  have HL3 : Hid (Ly W w3 (.slice a3 m3 c3) m3 b3) := hl3
  clear y0 y1 y2 y3 y4 y5 y6 y7 y8 y9 y10 y11 y12 y13
  obtain ⟨y0, y1, y2, y3, y4, y5, y6, y7, y8, y9, y10, y11, y12, y13⟩ := s14_cells (HR.out w3 hl3.bel)
  clear hl3 hb3 HL2
  have hX := rqLayExts_any HL3.out (.slice ah nh ch) hx HXh.out.1 HXh.out.2.1 HXh.out.2.2 (by omega)
  go_wp2_with fail
  refine hX.mono ?_
  rintro e w4 ⟨a4, m4, c4, rfl, hm4, hl4⟩
  clear hX
  obtain ⟨b4, hb4⟩ : ∃ l, b3 ++ encXs (hx.map Xr.ex) = l := ⟨_, rfl⟩
  rw [hb4] at hl4
  have HE4 : Hid (b3 ++ encXs (hx.map Xr.ex) = b4) := hb4
  have HL4 : Hid (Ly W w4 (.slice a4 m4 c4) m4 b4) := hl4
  clear y0 y1 y2 y3 y4 y5 y6 y7 y8 y9 y10 y11 y12 y13
  obtain ⟨y0, y1, y2, y3, y4, y5, y6, y7, y8, y9, y10, y11, y12, y13⟩ := s14_cells (HR.out w4 hl4.bel)
  clear hl4 hb4 HL3
  go_wp2_with fail
  refine (hD _).mono ?_
  rintro e w' ⟨rfl, hw1⟩
  subst hw1
  go_wp2_with fail
  refine (hK _).mono ?_
  rintro e w' ⟨rfl, hw1⟩
  subst hw1
  have HO5 : Hid ((w4.alloc (.cells #[.int .u8 (s.rsn)] 5)).ownsRow W.heap.size 5 1 (.slice a4 m4 c4) m4 (b4.map (Value.int .u8))) := HL4.out.own1 _
  have hwz : W.heap.size ≤ w4.heap.size := HL4.out.bel.size
  go_wp2_with (at_builtin; refine wpList_append_own_at _ rfl _ _ 34 rfl W.heap.size 5 i0 (.int .u8 0) 1 1 Tryd.underlying34 hi hz0 hz1 hz2 rfl (by decide) _ _ _ rfl HO5.out ⟨w4.heap.size, 0, none⟩ 1 1 [.int .u8 (s.rsn)] rfl rfl (one_litb w4 _) (by intro u hu; simp at hu; subst hu; rfl) (by unfold maxLen; omega) (by omega) (by simp; omega) ?_; intro v5 w5 o5 g5 _ t5; obtain ⟨a5, m5, c5, rfl, hm5, hl5⟩ := HL4.out.byte o5 g5; clear o5 g5 t5 hwz HO5 y0 y1 y2 y3 y4 y5 y6 y7 y8 y9 y10 y11 y12 y13; obtain ⟨y0, y1, y2, y3, y4, y5, y6, y7, y8, y9, y10, y11, y12, y13⟩ := s14_cells (HR.out w5 hl5.bel))
  obtain ⟨b5, hb5⟩ : ∃ l, b4 ++ [s.rsn] = l := ⟨_, rfl⟩
  rw [hb5] at hl5
  have HE5 : Hid (b4 ++ [s.rsn] = b5) := hb5
  have HL5 : Hid (Ly W w5 (.slice a5 m5 c5) m5 b5) := hl5
  clear y0 y1 y2 y3 y4 y5 y6 y7 y8 y9 y10 y11 y12 y13
  obtain ⟨y0, y1, y2, y3, y4, y5, y6, y7, y8, y9, y10, y11, y12, y13⟩ := s14_cells (HR.out w5 hl5.bel)
  clear hl5 hb5 HL4
  have hX := rqLayExts_any HL5.out (.slice at2 nt ct) tx HXt.out.1 HXt.out.2.1 HXt.out.2.2 (by omega)
  go_wp2_with fail
  refine hX.mono ?_
  rintro e w6 ⟨a6, m6, c6, rfl, hm6, hl6⟩
  clear hX
  obtain ⟨b6, hb6⟩ : ∃ l, b5 ++ encXs (tx.map Xr.ex) = l := ⟨_, rfl⟩
  rw [hb6] at hl6
  have HE6 : Hid (b5 ++ encXs (tx.map Xr.ex) = b6) := hb6
  have HL6 : Hid (Ly W w6 (.slice a6 m6 c6) m6 b6) := hl6
  clear y0 y1 y2 y3 y4 y5 y6 y7 y8 y9 y10 y11 y12 y13
  obtain ⟨y0, y1, y2, y3, y4, y5, y6, y7, y8, y9, y10, y11, y12, y13⟩ := s14_cells (HR.out w6 hl6.bel)
  clear hl6 hb6 HL5
  have HEnd : Hid (P (.returned (.slice a6 m6 c6)) w6) := by
    show P _ _
    rw [← HP.out]
    have hlz := HL6.out
    have he : b6 = layB 33 s := by rw [HLay.out, ← HE6.out, ← HE5.out, ← HE4.out, ← HE3.out, ← HE2.out, ← HE1.out]
    rw [he] at hlz
    have hlen := hlz.len
    refine ⟨_, rfl, ?_, HBW.out.trans (hlz.bel.mono HBW.out.size)⟩
    rw [hlen]
    exact own_low5 hlz.own (by rw [HWs.out]; omega)
  go_wp2
  first | exact HEnd.out | (go_ret; exact HEnd.out)

end Go.Proofs.YtdfdaambfihjaaaDoor

namespace Go.Proofs.YtdfdaambfihjaaaDoor
open Go.RowKit
set_option linter.unusedVariables false
set_option linter.unusedSimpArgs false

set_option maxRecDepth 100000 in
set_option maxHeartbeats 32000000 in
theorem rqL_1 (s : Sg) (ah at2 ad ac : Option Addr) (nh ch nt ct nd cd nc cc : Nat) (hx tx : List Xr) (w : World) (hs : SIn w s (.slice ah nh ch) (.slice at2 nt ct) (.slice ad nd cd) (.slice ac nc cc) hx tx) (hnh : hx.length = nh) (hnt : tx.length = nt) (hnd : s.data.length = nd) (hnc : s.clm.length = nc) (ht : s.typ = 13 ∨ s.typ = 15) (hw : Wr 1 s hx tx) :
    Calls Tryd.prog 72 #[.agg (svC s (.slice ah nh ch) (.slice at2 nt ct) (.slice ad nd cd) (.slice ac nc cc))] w (FormP (layB 1 s) w) := by
  obtain ⟨i0, hi, hz0, hz1, hz2⟩ := info_parts Tryd.info_u8
  obtain ⟨W, hW⟩ : ∃ W, w.alloc (.cells (svC s (.slice ah nh ch) (.slice at2 nt ct) (.slice ad nd cd) (.slice ac nc cc)) 37) = W := ⟨_, rfl⟩
  have HWe : Hid (w.alloc (.cells (svC s (.slice ah nh ch) (.slice at2 nt ct) (.slice ad nd cd) (.slice ac nc cc)) 37) = W) := hW
  have hws : W.heap.size = w.heap.size + 1 := by rw [← hW, World.size_alloc]
  have HWs : Hid (W.heap.size = w.heap.size + 1) := hws
  have hbW : Below w.heap.size w W := by rw [← hW]; exact (Below.refl _ _).alloc (Nat.le_refl _) _
  have HBW : Hid (Below w.heap.size w W) := hbW
  have HR : Hid (∀ V, Below W.heap.size W V → V.heap[w.heap.size]? = some (.cells (svC s (.slice ah nh ch) (.slice at2 nt ct) (.slice ad nd cd) (.slice ac nc cc)) 37 (0, 0))) := fun V hV => by
    have h1 : W.heap[w.heap.size]? = some (.cells (svC s (.slice ah nh ch) (.slice at2 nt ct) (.slice ad nd cd) (.slice ac nc cc)) 37 (0, 0)) := by rw [← hW]; exact al_new _ _
    exact (hV.block _ (Array.getElem?_eq_some_iff.1 h1).1).trans h1
  have HXh : Hid (XIn W (.slice ah nh ch) hx ∧ XsIn hx ∧ hx.length ≤ 15) := ⟨hs.head.below hbW, hw.head, hw.headL⟩
  have HXt : Hid (XIn W (.slice at2 nt ct) tx ∧ XsIn tx ∧ tx.length ≤ 15) := ⟨hs.tail.below hbW, hw.tail, hw.tailL⟩
  have HDt : Hid (∀ V, Below W.heap.size W V → BIn V (.slice ad nd cd) s.data) := fun V hV => (hs.data.below hbW).below hV
  have HCt : Hid (∀ V, Below W.heap.size W V → CIn V (.slice ac nc cc) s.clm) := fun V hV => (hs.clm.below hbW).below hV
  have HNs : Hid (hx.length = nh ∧ tx.length = nt ∧ s.data.length = nd ∧ s.clm.length = nc) := ⟨hnh, hnt, hnd, hnc⟩
  have HBd : Hid ((0 ≤ s.org ∧ s.org ≤ 4611686018427387903) ∧ (0 ≤ s.num ∧ s.num ≤ 4611686018427387903) ∧ (0 ≤ s.srv ∧ s.srv ≤ 4611686018427387903) ∧ (0 ≤ s.off ∧ s.off ≤ 4611686018427387903) ∧ (0 ≤ s.chk ∧ s.chk ≤ 4611686018427387903) ∧ (0 ≤ s.rep ∧ s.rep ≤ 4611686018427387903) ∧ (0 ≤ s.upp ∧ s.upp ≤ 65536) ∧ (0 ≤ s.low ∧ s.low ≤ 65536)) := ⟨hw.org, hw.num, hw.srv, hw.off, hw.chk, hw.rep, hw.upp, hw.low⟩
  have hnd7 : nd ≤ 70000 := by rw [← hnd]; exact hw.data
  have hnc1 : nc ≤ 1000 := by rw [← hnc]; exact hw.clm
  have hnh1 : nh ≤ 15 := by rw [← hnh]; exact hw.headL
  have hnt1 : nt ≤ 15 := by rw [← hnt]; exact hw.tailL
  have hD : ∀ V, Calls Tryd.prog 85 #[.int .i64 s.typ] V fun e w' => e = .returned (.bool false) ∧ V = w' := fun V => by
    exact rqDa_4 _ V (by omega)
  have hK : ∀ V, Calls Tryd.prog 86 #[.int .i64 s.typ] V fun e w' => e = .returned (.bool false) ∧ V = w' := fun V => by
    exact rqCh_2 _ V (by omega)
  have t8 : (s.typ == 8) = false := by simp; omega
  have t9 : (s.typ == 9) = false := by simp; omega
  have t12 : (s.typ == 12) = false := by simp; omega
  have t14 : (s.typ == 14) = false := by simp; omega
  have hwt : s.typ % 256 = s.typ := by omega
  have hw16 : IntKind.i64.wrap (16 * (nh : Int)) = 16 * (nh : Int) := by rw [IntKind.wrap_i64]; omega
  have hwsm : IntKind.i64.wrap (16 * (nh : Int) + (nt : Int)) = 16 * (nh : Int) + (nt : Int) := by rw [IntKind.wrap_i64]; omega
  have hwb : (16 * (nh : Int) + (nt : Int)) % 256 = 16 * (nh : Int) + (nt : Int) := by omega
  have HLay : Hid (layB 1 s = [s.typ] ++ enc s.org ++ enc s.num ++ [16 * (nh : Int) + (nt : Int)] ++ encXs (hx.map Xr.ex) ++ encXs (tx.map Xr.ex)) := by show _ = _; rw [lay_sh1 s hx tx hs.headEq hs.tailEq, hnh, hnt]
  obtain ⟨P, hP⟩ : ∃ P, FormP (layB 1 s) w = P := ⟨_, rfl⟩
  have HP : Hid (FormP (layB 1 s) w = P) := hP
  have HL0 : Hid (Ly W (W.alloc (.cells #[.int .u8 s.typ] 5)) (.slice (some ⟨w.heap.size + 1, 0, none⟩) 1 1) 1 [s.typ]) := by
    refine ⟨rfl, ⟨rfl, .inr ⟨w.heap.size + 1, 1, #[.int .u8 s.typ], rfl, by omega, ?_, Nat.le_refl _, by unfold maxLen; omega, rfl, rfl⟩⟩, (Below.refl _ _).alloc (Nat.le_refl _) _⟩
    rw [← hws]
    exact al_new _ _
  rw [hP]
  obtain ⟨y0, y1, y2, y3, y4, y5, y6, y7, y8, y9, y10, y11, y12, y13⟩ := s14_cells (HR.out W (Below.refl _ _))
  clear hW hbW hs hw hnh hnt hnd hnc hP hws ht
  go_enter Tryd.func72, Tryd.ntmps72
  have hX := HL0.out.calls s.org (by have := HBd.out; omega) (by have := HBd.out; omega) (by omega)
  go_wp2_with fail
  rw [HWe.out]
  refine hX.mono ?_
  rintro e w1 ⟨a1, m1, c1, rfl, hm1, hl1⟩
  clear hX
  obtain ⟨b1, hb1⟩ : ∃ l, [s.typ] ++ enc s.org = l := ⟨_, rfl⟩
  rw [hb1] at hl1
  have HE1 : Hid ([s.typ] ++ enc s.org = b1) := hb1
  have HL1 : Hid (Ly W w1 (.slice a1 m1 c1) m1 b1) := hl1
  clear y0 y1 y2 y3 y4 y5 y6 y7 y8 y9 y10 y11 y12 y13
  obtain ⟨y0, y1, y2, y3, y4, y5, y6, y7, y8, y9, y10, y11, y12, y13⟩ := s14_cells (HR.out w1 hl1.bel)
  clear hl1 hb1 HL0
  have hX := HL1.out.calls s.num (by have := HBd.out; omega) (by have := HBd.out; omega) (by omega)
  go_wp2_with fail
  refine hX.mono ?_
  rintro e w2 ⟨a2, m2, c2, rfl, hm2, hl2⟩
  clear hX
  obtain ⟨b2, hb2⟩ : ∃ l, b1 ++ enc s.num = l := ⟨_, rfl⟩
  rw [hb2] at hl2
  have HE2 : Hid (b1 ++ enc s.num = b2) := hb2
  have HL2 : Hid (Ly W w2 (.slice a2 m2 c2) m2 b2) := hl2
  clear y0 y1 y2 y3 y4 y5 y6 y7 y8 y9 y10 y11 y12 y13
  obtain ⟨y0, y1, y2, y3, y4, y5, y6, y7, y8, y9, y10, y11, y12, y13⟩ := s14_cells (HR.out w2 hl2.bel)
  clear hl2 hb2 HL1
  have HO3 : Hid ((w2.alloc (.cells #[.int .u8 (16 * (nh : Int) + (nt : Int))] 5)).ownsRow W.heap.size 5 1 (.slice a2 m2 c2) m2 (b2.map (Value.int .u8))) := HL2.out.own1 _
  have hwz : W.heap.size ≤ w2.heap.size := HL2.out.bel.size
  go_wp2_with (at_builtin; refine wpList_append_own_at _ rfl _ _ 34 rfl W.heap.size 5 i0 (.int .u8 0) 1 1 Tryd.underlying34 hi hz0 hz1 hz2 rfl (by decide) _ _ _ rfl HO3.out ⟨w2.heap.size, 0, none⟩ 1 1 [.int .u8 (16 * (nh : Int) + (nt : Int))] rfl rfl (one_litb w2 _) (by intro u hu; simp at hu; subst hu; rfl) (by unfold maxLen; omega) (by omega) (by simp; omega) ?_; intro v3 w3 o3 g3 _ t3; obtain ⟨a3, m3, c3, rfl, hm3, hl3⟩ := HL2.out.byte o3 g3; clear o3 g3 t3 hwz HO3 y0 y1 y2 y3 y4 y5 y6 y7 y8 y9 y10 y11 y12 y13; obtain ⟨y0, y1, y2, y3, y4, y5, y6, y7, y8, y9, y10, y11, y12, y13⟩ := s14_cells (HR.out w3 hl3.bel))
  obtain ⟨b3, hb3⟩ : ∃ l, b2 ++ [16 * (nh : Int) + (nt : Int)] = l := ⟨_, rfl⟩
  rw [hb3] at hl3
  have HE3 : Hid (b2 ++ [16 * (nh : Int) + (nt : Int)] = b3) := hb3
  have HL3 : Hid (Ly W w3 (.slice a3 m3 c3) m3 b3) := hl3
  clear y0 y1 y2 y3 y4 y5 y6 y7 y8 y9 y10 y11 y12 y13
  obtain ⟨y0, y1, y2, y3, y4, y5, y6, y7, y8, y9, y10, y11, y12, y13⟩ := s14_cells (HR.out w3 hl3.bel)
  clear hl3 hb3 HL2
  have hX := rqLayExts_any HL3.out (.slice ah nh ch) hx HXh.out.1 HXh.out.2.1 HXh.out.2.2 (by omega)
  go_wp2_with fail
  refine hX.mono ?_
  rintro e w4 ⟨a4, m4, c4, rfl, hm4, hl4⟩
  clear hX
  obtain ⟨b4, hb4⟩ : ∃ l, b3 ++ encXs (hx.map Xr.ex) = l := ⟨_, rfl⟩
  rw [hb4] at hl4
  have HE4 : Hid (b3 ++ encXs (hx.map Xr.ex) = b4) := hb4
  have HL4 : Hid (Ly W w4 (.slice a4 m4 c4) m4 b4) := hl4
  clear y0 y1 y2 y3 y4 y5 y6 y7 y8 y9 y10 y11 y12 y13
  obtain ⟨y0, y1, y2, y3, y4, y5, y6, y7, y8, y9, y10, y11, y12, y13⟩ := s14_cells (HR.out w4 hl4.bel)
  clear hl4 hb4 HL3
  go_wp2_with fail
  refine (hD _).mono ?_
  rintro e w' ⟨rfl, hw1⟩
  subst hw1
  go_wp2_with fail
  refine (hK _).mono ?_
  rintro e w' ⟨rfl, hw1⟩
  subst hw1
  have hX := rqLayExts_any HL4.out (.slice at2 nt ct) tx HXt.out.1 HXt.out.2.1 HXt.out.2.2 (by omega)
  go_wp2_with fail
  refine hX.mono ?_
  rintro e w5 ⟨a5, m5, c5, rfl, hm5, hl5⟩
  clear hX
  obtain ⟨b5, hb5⟩ : ∃ l, b4 ++ encXs (tx.map Xr.ex) = l := ⟨_, rfl⟩
  rw [hb5] at hl5
  have HE5 : Hid (b4 ++ encXs (tx.map Xr.ex) = b5) := hb5
  have HL5 : Hid (Ly W w5 (.slice a5 m5 c5) m5 b5) := hl5
  clear y0 y1 y2 y3 y4 y5 y6 y7 y8 y9 y10 y11 y12 y13
  obtain ⟨y0, y1, y2, y3, y4, y5, y6, y7, y8, y9, y10, y11, y12, y13⟩ := s14_cells (HR.out w5 hl5.bel)
  clear hl5 hb5 HL4
  have HEnd : Hid (P (.returned (.slice a5 m5 c5)) w5) := by
    show P _ _
    rw [← HP.out]
    have hlz := HL5.out
    have he : b5 = layB 1 s := by rw [HLay.out, ← HE5.out, ← HE4.out, ← HE3.out, ← HE2.out, ← HE1.out]
    rw [he] at hlz
    have hlen := hlz.len
    refine ⟨_, rfl, ?_, HBW.out.trans (hlz.bel.mono HBW.out.size)⟩
    rw [hlen]
    exact own_low5 hlz.own (by rw [HWs.out]; omega)
  go_wp2
  first | exact HEnd.out | (go_ret; exact HEnd.out)

end Go.Proofs.YtdfdaambfihjaaaDoor

namespace Go.Proofs.YtdfdaambfihjaaaDoor
open Go.RowKit
set_option linter.unusedVariables false
set_option linter.unusedSimpArgs false

set_option maxRecDepth 100000 in
set_option maxHeartbeats 16000000 in
theorem rqF_3 (s : Sg) (ah at2 ad ac : Option Addr) (nh ch nt ct nd cd nc cc : Nat) (hx tx : List Xr) (w : World) (hs : SIn w s (.slice ah nh ch) (.slice at2 nt ct) (.slice ad nd cd) (.slice ac nc cc) hx tx) (hnd : s.data.length = nd) (hnc : s.clm.length = nc) (ht : s.typ = 0 ∨ s.typ = 4 ∨ s.typ = 7) :
    Calls Tryd.prog 71 #[.agg (svC s (.slice ah nh ch) (.slice at2 nt ct) (.slice ad nd cd) (.slice ac nc cc))] w fun e w' => e = .returned (.bool (may 3 s hx tx)) ∧ Below w.heap.size w w' := by
  obtain ⟨qm, hqm⟩ : ∃ q, may 3 s hx tx = q := ⟨_, rfl⟩
  have HM : Hid (qm = true ↔ ((1 ≤ s.org ∧ s.org ≤ 4611686018427387903) ∧ (1 ≤ s.num ∧ s.num ≤ 4611686018427387902) ∧ xsOk hx = true ∧ xsOk tx = true ∧ (0 ≤ s.srv ∧ s.srv ≤ 4611686018427387903) ∧ (1 ≤ (s.data.length : Int) ∧ (s.data.length : Int) ≤ 65536) ∧ (0 ≤ s.off ∧ s.off ≤ 65536 - (s.data.length : Int)) ∧ s.chk = 0 ∧ s.rep = 0 ∧ s.upp = 0 ∧ s.low = 0 ∧ (s.clm.length : Int) = 0 ∧ clOk s.upp s.low s.clm = true ∧ s.rsn = 0)) := by show _ ↔ _; rw [← hqm]; exact may_sh3 s hx tx
  rw [hqm]
  have HND : Hid (s.data.length = nd) := hnd
  have HNC : Hid (s.clm.length = nc) := hnc
  have hdm : nd ≤ 1048576 := by rw [← hnd]; exact hs.data.small
  have hcm : nc ≤ 1048576 := by rw [← hnc]; exact hs.clm.small
  obtain ⟨W, hW⟩ : ∃ W, w.alloc (.cells (svC s (.slice ah nh ch) (.slice at2 nt ct) (.slice ad nd cd) (.slice ac nc cc)) 37) = W := ⟨_, rfl⟩
  have HWe : Hid (w.alloc (.cells (svC s (.slice ah nh ch) (.slice at2 nt ct) (.slice ad nd cd) (.slice ac nc cc)) 37) = W) := hW
  have hbW : Below w.heap.size w W := by rw [← hW]; exact (Below.refl _ _).alloc (Nat.le_refl _) _
  have HBW : Hid (Below w.heap.size w W) := hbW
  have HR : Hid (∀ V, Below W.heap.size W V → V.heap[w.heap.size]? = some (.cells (svC s (.slice ah nh ch) (.slice at2 nt ct) (.slice ad nd cd) (.slice ac nc cc)) 37 (0, 0))) := fun V hV => by
    have h1 : W.heap[w.heap.size]? = some (.cells (svC s (.slice ah nh ch) (.slice at2 nt ct) (.slice ad nd cd) (.slice ac nc cc)) 37 (0, 0)) := by rw [← hW]; exact al_new _ _
    exact (hV.block _ (Array.getElem?_eq_some_iff.1 h1).1).trans h1
  obtain ⟨qs, hqs⟩ : ∃ q, decide ((1 ≤ s.org ∧ s.org ≤ 4611686018427387903) ∧ (1 ≤ s.num ∧ s.num ≤ 4611686018427387902)) = q := ⟨_, rfl⟩
  have HQS : Hid (qs = true ↔ ((1 ≤ s.org ∧ s.org ≤ 4611686018427387903) ∧ (1 ≤ s.num ∧ s.num ≤ 4611686018427387902))) := by show _ ↔ _; rw [← hqs, decide_eq_true_eq]
  have hSe := rqSession_any s.org s.num W
  rw [hqs] at hSe
  obtain ⟨qh, hqh⟩ : ∃ q, xsOk hx = q := ⟨_, rfl⟩
  have HQH : Hid (xsOk hx = qh) := hqh
  have HEh : Hid (∀ V, Below W.heap.size W V → Calls Tryd.prog 84 #[(.slice ah nh ch)] V fun e w' => e = .returned (.bool qh) ∧ V = w') := fun V hV => rqExts_any _ hx V ((hs.head.below hbW).below hV) qh hqh
  obtain ⟨qt, hqt⟩ : ∃ q, xsOk tx = q := ⟨_, rfl⟩
  have HQT : Hid (xsOk tx = qt) := hqt
  have HEt : Hid (∀ V, Below W.heap.size W V → Calls Tryd.prog 84 #[(.slice at2 nt ct)] V fun e w' => e = .returned (.bool qt) ∧ V = w') := fun V hV => rqExts_any _ tx V ((hs.tail.below hbW).below hV) qt hqt
  have hD : ∀ V, Calls Tryd.prog 85 #[.int .i64 s.typ] V fun e w' => e = .returned (.bool true) ∧ V = w' := fun V => by
    rcases ht with h | h | h <;> rw [h]
    · exact rqDa_1 _ V (by omega) (by omega)
    · exact rqDa_1 _ V (by omega) (by omega)
    · exact rqDa_3 _ V (by omega) (by omega)
  have hK : ∀ V, Calls Tryd.prog 86 #[.int .i64 s.typ] V fun e w' => e = .returned (.bool false) ∧ V = w' := fun V => by
    rcases ht with h | h | h <;> rw [h]
    · exact rqCh_0 _ V (by omega)
    · exact rqCh_2 _ V (by omega)
    · exact rqCh_2 _ V (by omega)
  obtain ⟨qv, hqv⟩ : ∃ q, decide (0 ≤ s.srv ∧ s.srv ≤ 4611686018427387903) = q := ⟨_, rfl⟩
  have HQv : Hid (qv = true ↔ (0 ≤ s.srv ∧ s.srv ≤ 4611686018427387903)) := by show _ ↔ _; rw [← hqv, decide_eq_true_eq]
  have hNv : ∀ V, Calls Tryd.prog 87 #[.int .i64 s.srv] V fun e w' => e = .returned (.bool qv) ∧ V = w' := fun V => rqNumber_v _ V _ hqv
  obtain ⟨qc, hqc⟩ : ∃ q, decide (0 ≤ s.chk ∧ s.chk ≤ 4611686018427387903) = q := ⟨_, rfl⟩
  have HQc : Hid (qc = true ↔ (0 ≤ s.chk ∧ s.chk ≤ 4611686018427387903)) := by show _ ↔ _; rw [← hqc, decide_eq_true_eq]
  have hNc : ∀ V, Calls Tryd.prog 87 #[.int .i64 s.chk] V fun e w' => e = .returned (.bool qc) ∧ V = w' := fun V => rqNumber_v _ V _ hqc
  obtain ⟨qr, hqr⟩ : ∃ q, decide (0 ≤ s.rep ∧ s.rep ≤ 4611686018427387903) = q := ⟨_, rfl⟩
  have HQr : Hid (qr = true ↔ (0 ≤ s.rep ∧ s.rep ≤ 4611686018427387903)) := by show _ ↔ _; rw [← hqr, decide_eq_true_eq]
  have hNr : ∀ V, Calls Tryd.prog 87 #[.int .i64 s.rep] V fun e w' => e = .returned (.bool qr) ∧ V = w' := fun V => rqNumber_v _ V _ hqr
  have t8 : (s.typ == 8) = false := by simp; omega
  have u8 : (s.typ != 8) = true := by simp; omega
  have t9 : (s.typ == 9) = false := by simp; omega
  have u9 : (s.typ != 9) = true := by simp; omega
  have t12 : (s.typ == 12) = false := by simp; omega
  have u12 : (s.typ != 12) = true := by simp; omega
  have t14 : (s.typ == 14) = false := by simp; omega
  have u14 : (s.typ != 14) = true := by simp; omega
  have HBad : Hid ((qm = true → False) → qm = false) := fun h => Bool.eq_false_iff.mpr h
  obtain ⟨y0, y1, y2, y3, y4, y5, y6, y7, y8, y9, y10, y11, y12, y13⟩ := s14_cells (HR.out W (Below.refl _ _))
  clear hW hbW hqm hqs hqh hqt hqc hqr hnd hnc hqv hs ht
  go_enter Tryd.func71, Tryd.ntmps71
  go_wp2_with fail
  rw [HWe.out]
  refine hSe.mono ?_
  rintro e w1 ⟨rfl, hb1⟩
  clear y0 y1 y2 y3 y4 y5 y6 y7 y8 y9 y10 y11 y12 y13 hSe
  obtain ⟨y0, y1, y2, y3, y4, y5, y6, y7, y8, y9, y10, y11, y12, y13⟩ := s14_cells (HR.out w1 hb1)
  have HB1 : Hid (Below W.heap.size W w1) := hb1
  have HF1 : Hid (Below w.heap.size w w1) := HBW.out.trans (hb1.mono HBW.out.size)
  clear hb1
  go_wp2_with fail
  refine (HEh.out w1 HB1.out).mono ?_
  rintro e w1' ⟨rfl, hw1⟩
  subst hw1
  go_wp2_with fail
  refine (HEt.out w1 HB1.out).mono ?_
  rintro e w1' ⟨rfl, hw1⟩
  subst hw1
  cases qs with
  | false =>
    have HV : Hid (qm = false) := HBad.out fun hm => by
      obtain ⟨p0, p1, p2, p3, p4, p5, p6, p7, p8, p9, p10, p11, p12, p13⟩ := HM.out.mp hm
      have := HQS.out.mpr ⟨p0, p1⟩; cases this
    go_wp2
    go_ret
    exact ⟨retB HV.out, HF1.out⟩
  | true =>
  cases qh with
  | false =>
    have HV : Hid (qm = false) := HBad.out fun hm => by
      obtain ⟨p0, p1, p2, p3, p4, p5, p6, p7, p8, p9, p10, p11, p12, p13⟩ := HM.out.mp hm
      rw [HQH.out] at p2; cases p2
    go_wp2
    go_ret
    exact ⟨retB HV.out, HF1.out⟩
  | true =>
  cases qt with
  | false =>
    have HV : Hid (qm = false) := HBad.out fun hm => by
      obtain ⟨p0, p1, p2, p3, p4, p5, p6, p7, p8, p9, p10, p11, p12, p13⟩ := HM.out.mp hm
      rw [HQT.out] at p3; cases p3
    go_wp2
    go_ret
    exact ⟨retB HV.out, HF1.out⟩
  | true =>
  go_wp2_with fail
  refine (hD _).mono ?_
  rintro e w1' ⟨rfl, hw1⟩
  subst hw1
  go_wp2_with fail
  refine (hK _).mono ?_
  rintro e w1' ⟨rfl, hw1⟩
  subst hw1
  go_wp2_with fail
  refine (hNv _).mono ?_
  rintro e w1' ⟨rfl, hw1⟩
  subst hw1
  cases qv with
  | false =>
    have HV : Hid (qm = false) := HBad.out fun hm => by
      obtain ⟨p0, p1, p2, p3, p4, p5, p6, p7, p8, p9, p10, p11, p12, p13⟩ := HM.out.mp hm
      have := HQv.out.mpr p4; cases this
    go_wp2
    go_ret
    exact ⟨retB HV.out, HF1.out⟩
  | true =>
  by_cases c5 : (nd : Int) < 1
  · have c5' : decide ((nd : Int) < 1) = true := by simp [c5]
    have HV : Hid (qm = false) := HBad.out fun hm => by
      obtain ⟨p0, p1, p2, p3, p4, p5, p6, p7, p8, p9, p10, p11, p12, p13⟩ := HM.out.mp hm
      have := HND.out; omega
    go_wp2
    go_ret
    exact ⟨retB HV.out, HF1.out⟩
  have c5' : decide ((nd : Int) < 1) = false := decide_eq_false c5
  by_cases c6 : s.off < 0
  · have c6' : decide (s.off < 0) = true := by simp [c6]
    have HV : Hid (qm = false) := HBad.out fun hm => by
      obtain ⟨p0, p1, p2, p3, p4, p5, p6, p7, p8, p9, p10, p11, p12, p13⟩ := HM.out.mp hm
      have := HND.out; omega
    go_wp2
    go_ret
    exact ⟨retB HV.out, HF1.out⟩
  have c6' : decide (s.off < 0) = false := decide_eq_false c6
  by_cases c7 : (65536 : Int) < s.off
  · have c7' : decide ((65536 : Int) < s.off) = true := by simp [c7]
    have HV : Hid (qm = false) := HBad.out fun hm => by
      obtain ⟨p0, p1, p2, p3, p4, p5, p6, p7, p8, p9, p10, p11, p12, p13⟩ := HM.out.mp hm
      have := HND.out; omega
    go_wp2
    go_ret
    exact ⟨retB HV.out, HF1.out⟩
  have c7' : decide ((65536 : Int) < s.off) = false := decide_eq_false c7
  have hwo : IntKind.i64.wrap (s.off + (nd : Int)) = s.off + (nd : Int) := by rw [IntKind.wrap_i64]; omega
  by_cases c8 : (65536 : Int) < s.off + (nd : Int)
  · have c8' : decide ((65536 : Int) < s.off + (nd : Int)) = true := by simp [c8]
    have HV : Hid (qm = false) := HBad.out fun hm => by
      obtain ⟨p0, p1, p2, p3, p4, p5, p6, p7, p8, p9, p10, p11, p12, p13⟩ := HM.out.mp hm
      have := HND.out; omega
    go_wp2
    go_ret
    exact ⟨retB HV.out, HF1.out⟩
  have c8' : decide ((65536 : Int) < s.off + (nd : Int)) = false := decide_eq_false c8
  have K5 : Hid (1 ≤ nd ∧ 0 ≤ s.off ∧ s.off + (nd : Int) ≤ 65536) := by show _ ∧ _ ∧ _; omega
  go_upto_region 14 with fail
  clear c5 c5' c6 c6' c7 c7' c8 c8' hwo
  go_wp2_with fail
  refine (hNc _).mono ?_
  rintro e w1' ⟨rfl, hw1⟩
  subst hw1
  go_wp2_with fail
  refine (hNr _).mono ?_
  rintro e w1' ⟨rfl, hw1⟩
  subst hw1
  cases qc with
  | false =>
    have HV : Hid (qm = false) := HBad.out fun hm => by
      obtain ⟨p0, p1, p2, p3, p4, p5, p6, p7, p8, p9, p10, p11, p12, p13⟩ := HM.out.mp hm
      have := HQc.out.mpr (by omega); cases this
    go_wp2
    go_ret
    exact ⟨retB HV.out, HF1.out⟩
  | true =>
  cases qr with
  | false =>
    have HV : Hid (qm = false) := HBad.out fun hm => by
      obtain ⟨p0, p1, p2, p3, p4, p5, p6, p7, p8, p9, p10, p11, p12, p13⟩ := HM.out.mp hm
      have := HQr.out.mpr (by omega); cases this
    go_wp2
    go_ret
    exact ⟨retB HV.out, HF1.out⟩
  | true =>
  by_cases k9 : s.chk = 0
  rotate_left
  · have k9' : (s.chk != 0) = true := bne_iff_ne.mpr k9
    have HV : Hid (qm = false) := HBad.out fun hm => by
      obtain ⟨p0, p1, p2, p3, p4, p5, p6, p7, p8, p9, p10, p11, p12, p13⟩ := HM.out.mp hm
      omega
    go_wp2
    go_ret
    exact ⟨retB HV.out, HF1.out⟩
  have k9' : (s.chk != 0) = false := by rw [k9]; rfl
  by_cases k10 : s.rep = 0
  rotate_left
  · have k10' : (s.rep != 0) = true := bne_iff_ne.mpr k10
    have HV : Hid (qm = false) := HBad.out fun hm => by
      obtain ⟨p0, p1, p2, p3, p4, p5, p6, p7, p8, p9, p10, p11, p12, p13⟩ := HM.out.mp hm
      omega
    go_wp2
    go_ret
    exact ⟨retB HV.out, HF1.out⟩
  have k10' : (s.rep != 0) = false := by rw [k10]; rfl
  by_cases a1 : s.upp = 0
  rotate_left
  · have a1' : (s.upp != 0) = true := bne_iff_ne.mpr a1
    have HV : Hid (qm = false) := HBad.out fun hm => by
      obtain ⟨p0, p1, p2, p3, p4, p5, p6, p7, p8, p9, p10, p11, p12, p13⟩ := HM.out.mp hm
      omega
    go_wp2
    go_ret
    exact ⟨retB HV.out, HF1.out⟩
  have a1' : (s.upp != 0) = false := by rw [a1]; rfl
  by_cases a2 : s.low = 0
  rotate_left
  · have a2' : (s.low != 0) = true := bne_iff_ne.mpr a2
    have HV : Hid (qm = false) := HBad.out fun hm => by
      obtain ⟨p0, p1, p2, p3, p4, p5, p6, p7, p8, p9, p10, p11, p12, p13⟩ := HM.out.mp hm
      omega
    go_wp2
    go_ret
    exact ⟨retB HV.out, HF1.out⟩
  have a2' : (s.low != 0) = false := by rw [a2]; rfl
  by_cases a3 : (nc : Int) = 0
  rotate_left
  · have a3' : ((nc : Int) != 0) = true := bne_iff_ne.mpr a3
    have HV : Hid (qm = false) := HBad.out fun hm => by
      obtain ⟨p0, p1, p2, p3, p4, p5, p6, p7, p8, p9, p10, p11, p12, p13⟩ := HM.out.mp hm
      have := HNC.out; omega
    go_wp2
    go_ret
    exact ⟨retB HV.out, HF1.out⟩
  have a3' : ((nc : Int) != 0) = false := by rw [a3]; rfl
  by_cases z : s.rsn = 0
  rotate_left
  · have z' : (s.rsn == 0) = false := by simp [z]
    have HV : Hid (qm = false) := HBad.out fun hm => by
      obtain ⟨p0, p1, p2, p3, p4, p5, p6, p7, p8, p9, p10, p11, p12, p13⟩ := HM.out.mp hm
      omega
    go_wp2
    go_ret
    exact ⟨retB HV.out, HF1.out⟩
  have z' : (s.rsn == 0) = true := by simp [z]
  have HV : Hid (qm = true) := by
    have k0 := HQS.out.mp (by trivial)
    have k5 := K5.out
    have kc := HQc.out.mp (by trivial)
    have kr := HQr.out.mp (by trivial)
    have knd := HND.out
    exact HM.out.mpr ⟨k0.1, k0.2, HQH.out, HQT.out, HQv.out.mp (by trivial), by omega, by omega, by omega, by omega, by omega, by omega, by have := HNC.out; omega, by rw [List.eq_nil_of_length_eq_zero (l := s.clm) (by rw [HNC.out]; omega)]; rfl, by omega⟩
  go_wp2
  go_ret
  exact ⟨retB HV.out, HF1.out⟩

end Go.Proofs.YtdfdaambfihjaaaDoor
