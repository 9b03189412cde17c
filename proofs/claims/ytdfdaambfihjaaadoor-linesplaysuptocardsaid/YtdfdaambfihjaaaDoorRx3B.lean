import Derived.Test.YtdfdaambfihjaaaDoorRx3
namespace Go.Proofs.YtdfdaambfihjaaaDoor
open Go.RowKit
set_option linter.unusedVariables false
set_option linter.unusedSimpArgs false

set_option maxRecDepth 100000 in
set_option maxHeartbeats 32000000 in
theorem rqL_7 (s : Sg) (ah at2 ad ac : Option Addr) (nh ch nt ct nd cd nc cc : Nat) (hx tx : List Xr) (w : World) (hs : SIn w s (.slice ah nh ch) (.slice at2 nt ct) (.slice ad nd cd) (.slice ac nc cc) hx tx) (hnh : hx.length = nh) (hnt : tx.length = nt) (hnd : s.data.length = nd) (hnc : s.clm.length = nc) (ht : s.typ = 1 ∨ s.typ = 2 ∨ s.typ = 3) (hw : Wr 7 s hx tx) :
    Calls Tryd.prog 72 #[.agg (svC s (.slice ah nh ch) (.slice at2 nt ct) (.slice ad nd cd) (.slice ac nc cc))] w (FormP (layB 7 s) w) := by
  obtain ⟨i0, hi, hz0, hz1, hz2⟩ := info_parts Tryd.info_u8
  obtain ⟨W, hW⟩ : ∃ W, w.alloc (.cells (svC s (.slice ah nh ch) (.slice at2 nt ct) (.slice ad nd cd) (.slice ac nc cc)) 37) = W := ⟨_, rfl⟩
  have HWe : Hid (w.alloc (.cells (svC s (.slice ah nh ch) (.slice at2 nt ct) (.slice ad nd cd) (.slice ac nc cc)) 37) = W) := hW
  have hws : W.heap.size = w.heap.size + 1 := by rw [← hW, World.size_alloc]
  have HWs : Hid (W.heap.size = w.heap.size + 1) := hws
  have hbW : Below w.heap.size w W := by rw [← hW]; exact (Below.refl _ _).alloc (Nat.le_refl _) _
  have HBW : Hid (Below w.heap.size w W) := hbW
  have HR : Hid (∀ V, Below W.heap.size W V → V.heap[w.heap.size]? = some (.cells (svC s (.slice ah nh ch) (.slice at2 nt ct) (.slice ad nd cd) (.slice ac nc cc)) 37 (0, 0))) := fun V hV => by
    have h1 : W.heap[w.heap.size]? = some (.cells (svC s (.slice ah nh ch) (.slice at2 nt ct) (.slice ad nd cd) (.slice ac nc cc)) 37 (0, 0)) := by rw [← hW]; exact al_new _ _
    exact (hV.block _ (Array.getElem?_eq_some_iff.1 h1).1).trans h1
  have HXh : Hid (XIn W (.slice ah nh ch) hx ∧ XsIn hx ∧ hx.length ≤ 15) := ⟨hs.head.below hbW, hw.head, hw.headL⟩
  have HXt : Hid (XIn W (.slice at2 nt ct) tx ∧ XsIn tx ∧ tx.length ≤ 15) := ⟨hs.tail.below hbW, hw.tail, hw.tailL⟩
  have HDt : Hid (∀ V, Below W.heap.size W V → BIn V (.slice ad nd cd) s.data) := fun V hV => (hs.data.below hbW).below hV
  have HCt : Hid (∀ V, Below W.heap.size W V → CIn V (.slice ac nc cc) s.clm) := fun V hV => (hs.clm.below hbW).below hV
  have HNs : Hid (hx.length = nh ∧ tx.length = nt ∧ s.data.length = nd ∧ s.clm.length = nc) := ⟨hnh, hnt, hnd, hnc⟩
  have HBd : Hid ((0 ≤ s.org ∧ s.org ≤ 4611686018427387903) ∧ (0 ≤ s.num ∧ s.num ≤ 4611686018427387903) ∧ (0 ≤ s.srv ∧ s.srv ≤ 4611686018427387903) ∧ (0 ≤ s.off ∧ s.off ≤ 4611686018427387903) ∧ (0 ≤ s.chk ∧ s.chk ≤ 4611686018427387903) ∧ (0 ≤ s.rep ∧ s.rep ≤ 4611686018427387903) ∧ (0 ≤ s.upp ∧ s.upp ≤ 65536) ∧ (0 ≤ s.low ∧ s.low ≤ 65536)) := ⟨hw.org, hw.num, hw.srv, hw.off, hw.chk, hw.rep, hw.upp, hw.low⟩
  have hnd7 : nd ≤ 70000 := by rw [← hnd]; exact hw.data
  have hnc1 : nc ≤ 1000 := by rw [← hnc]; exact hw.clm
  have hnh1 : nh ≤ 15 := by rw [← hnh]; exact hw.headL
  have hnt1 : nt ≤ 15 := by rw [← hnt]; exact hw.tailL
  have hD : ∀ V, Calls Tryd.prog 85 #[.int .i64 s.typ] V fun e w' => e = .returned (.bool true) ∧ V = w' := fun V => by
    exact rqDa_1 _ V (by omega) (by omega)
  have hK : ∀ V, Calls Tryd.prog 86 #[.int .i64 s.typ] V fun e w' => e = .returned (.bool true) ∧ V = w' := fun V => by
    exact rqCh_1 _ V (by omega) (by omega)
  have t8 : (s.typ == 8) = false := by simp; omega
  have t9 : (s.typ == 9) = false := by simp; omega
  have t12 : (s.typ == 12) = false := by simp; omega
  have t14 : (s.typ == 14) = false := by simp; omega
  have hwt : s.typ % 256 = s.typ := by omega
  have hw16 : IntKind.i64.wrap (16 * (nh : Int)) = 16 * (nh : Int) := by rw [IntKind.wrap_i64]; omega
  have hwsm : IntKind.i64.wrap (16 * (nh : Int) + (nt : Int)) = 16 * (nh : Int) + (nt : Int) := by rw [IntKind.wrap_i64]; omega
  have hwb : (16 * (nh : Int) + (nt : Int)) % 256 = 16 * (nh : Int) + (nt : Int) := by omega
  have HLay : Hid (layB 7 s = [s.typ] ++ enc s.org ++ enc s.num ++ [16 * (nh : Int) + (nt : Int)] ++ encXs (hx.map Xr.ex) ++ enc s.srv ++ enc s.off ++ enc (nd : Int) ++ enc s.chk ++ enc s.rep ++ s.data ++ encXs (tx.map Xr.ex)) := by show _ = _; rw [lay_sh7 s hx tx hs.headEq hs.tailEq, hnh, hnt, hnd]
  obtain ⟨P, hP⟩ : ∃ P, FormP (layB 7 s) w = P := ⟨_, rfl⟩
  have HP : Hid (FormP (layB 7 s) w = P) := hP
  have HL0 : Hid (Ly W (W.alloc (.cells #[.int .u8 s.typ] 5)) (.slice (some ⟨w.heap.size + 1, 0, none⟩) 1 1) 1 [s.typ]) := by
    refine ⟨rfl, ⟨rfl, .inr ⟨w.heap.size + 1, 1, #[.int .u8 s.typ], rfl, by omega, ?_, Nat.le_refl _, by unfold maxLen; omega, rfl, rfl⟩⟩, (Below.refl _ _).alloc (Nat.le_refl _) _⟩
    rw [← hws]
    exact al_new _ _
  rw [hP]
  obtain ⟨y0, y1, y2, y3, y4, y5, y6, y7, y8, y9, y10, y11, y12, y13⟩ := s14_cells (HR.out W (Below.refl _ _))
  clear hW hbW hs hw hnh hnt hnd hnc hP hws ht
  go_enter Tryd.func72, Tryd.ntmps72
  have hX := HL0.out.calls s.org (by have := HBd.out; omega) (by have := HBd.out; omega) (by omega)
  go_wp2_with fail
  rw [HWe.out]
  refine hX.mono ?_
  rintro e w1 ⟨a1, m1, c1, rfl, hm1, hl1⟩
  clear hX
  obtain ⟨b1, hb1⟩ : ∃ l, [s.typ] ++ enc s.org = l := ⟨_, rfl⟩
  rw [hb1] at hl1
  have HE1 : Hid ([s.typ] ++ enc s.org = b1) := hb1
  have HL1 : Hid (Ly W w1 (.slice a1 m1 c1) m1 b1) := hl1
  clear y0 y1 y2 y3 y4 y5 y6 y7 y8 y9 y10 y11 y12 y13
  obtain ⟨y0, y1, y2, y3, y4, y5, y6, y7, y8, y9, y10, y11, y12, y13⟩ := s14_cells (HR.out w1 hl1.bel)
  clear hl1 hb1 HL0
  have hX := HL1.out.calls s.num (by have := HBd.out; omega) (by have := HBd.out; omega) (by omega)
  go_wp2_with fail
  refine hX.mono ?_
  rintro e w2 ⟨a2, m2, c2, rfl, hm2, hl2⟩
  clear hX
  obtain ⟨b2, hb2⟩ : ∃ l, b1 ++ enc s.num = l := ⟨_, rfl⟩
  rw [hb2] at hl2
  have HE2 : Hid (b1 ++ enc s.num = b2) := hb2
  have HL2 : Hid (Ly W w2 (.slice a2 m2 c2) m2 b2) := hl2
  clear y0 y1 y2 y3 y4 y5 y6 y7 y8 y9 y10 y11 y12 y13
  obtain ⟨y0, y1, y2, y3, y4, y5, y6, y7, y8, y9, y10, y11, y12, y13⟩ := s14_cells (HR.out w2 hl2.bel)
  clear hl2 hb2 HL1
  have HO3 : Hid ((w2.alloc (.cells #[.int .u8 (16 * (nh : Int) + (nt : Int))] 5)).ownsRow W.heap.size 5 1 (.slice a2 m2 c2) m2 (b2.map (Value.int .u8))) := HL2.out.own1 _
  have hwz : W.heap.size ≤ w2.heap.size := HL2.out.bel.size
  go_wp2_with (at_builtin; refine wpList_append_own_at _ rfl _ _ 34 rfl W.heap.size 5 i0 (.int .u8 0) 1 1 Tryd.underlying34 hi hz0 hz1 hz2 rfl (by decide) _ _ _ rfl HO3.out ⟨w2.heap.size, 0, none⟩ 1 1 [.int .u8 (16 * (nh : Int) + (nt : Int))] rfl rfl (one_litb w2 _) (by intro u hu; simp at hu; subst hu; rfl) (by unfold maxLen; omega) (by omega) (by simp; omega) ?_; intro v3 w3 o3 g3 _ t3; obtain ⟨a3, m3, c3, rfl, hm3, hl3⟩ := HL2.out.byte o3 g3; clear o3 g3 t3 hwz HO3 y0 y1 y2 y3 y4 y5 y6 y7 y8 y9 y10 y11 y12 y13; obtain ⟨y0, y1, y2, y3, y4, y5, y6, y7, y8, y9, y10, y11, y12, y13⟩ := s14_cells (HR.out w3 hl3.bel))
  obtain ⟨b3, hb3⟩ : ∃ l, b2 ++ [16 * (nh : Int) + (nt : Int)] = l := ⟨_, rfl⟩
  rw [hb3] at hl3
  have HE3 : Hid (b2 ++ [16 * (nh : Int) + (nt : Int)] = b3) := hb3
  have HL3 : Hid (Ly W w3 (.slice a3 m3 c3) m3 b3) := hl3
  clear y0 y1 y2 y3 y4 y5 y6 y7 y8 y9 y10 y11 y12 y13
  obtain ⟨y0, y1, y2, y3, y4, y5, y6, y7, y8, y9, y10, y11, y12, y13⟩ := s14_cells (HR.out w3 hl3.bel)
  clear hl3 hb3 HL2
  have hX := rqLayExts_any HL3.out (.slice ah nh ch) hx HXh.out.1 HXh.out.2.1 HXh.out.2.2 (by omega)
  go_wp2_with fail
  refine hX.mono ?_
  rintro e w4 ⟨a4, m4, c4, rfl, hm4, hl4⟩
  clear hX
  obtain ⟨b4, hb4⟩ : ∃ l, b3 ++ encXs (hx.map Xr.ex) = l := ⟨_, rfl⟩
  rw [hb4] at hl4
  have HE4 : Hid (b3 ++ encXs (hx.map Xr.ex) = b4) := hb4
  have HL4 : Hid (Ly W w4 (.slice a4 m4 c4) m4 b4) := hl4
  clear y0 y1 y2 y3 y4 y5 y6 y7 y8 y9 y10 y11 y12 y13
  obtain ⟨y0, y1, y2, y3, y4, y5, y6, y7, y8, y9, y10, y11, y12, y13⟩ := s14_cells (HR.out w4 hl4.bel)
  clear hl4 hb4 HL3
  go_wp2_with fail
  refine (hD _).mono ?_
  rintro e w' ⟨rfl, hw1⟩
  subst hw1
  go_wp2_with fail
  refine (hK _).mono ?_
  rintro e w' ⟨rfl, hw1⟩
  subst hw1
  have hX := HL4.out.calls s.srv (by have := HBd.out; omega) (by have := HBd.out; omega) (by omega)
  go_wp2_with fail
  refine hX.mono ?_
  rintro e w5 ⟨a5, m5, c5, rfl, hm5, hl5⟩
  clear hX
  obtain ⟨b5, hb5⟩ : ∃ l, b4 ++ enc s.srv = l := ⟨_, rfl⟩
  rw [hb5] at hl5
  have HE5 : Hid (b4 ++ enc s.srv = b5) := hb5
  have HL5 : Hid (Ly W w5 (.slice a5 m5 c5) m5 b5) := hl5
  clear y0 y1 y2 y3 y4 y5 y6 y7 y8 y9 y10 y11 y12 y13
  obtain ⟨y0, y1, y2, y3, y4, y5, y6, y7, y8, y9, y10, y11, y12, y13⟩ := s14_cells (HR.out w5 hl5.bel)
  clear hl5 hb5 HL4
  have hX := HL5.out.calls s.off (by have := HBd.out; omega) (by have := HBd.out; omega) (by omega)
  go_wp2_with fail
  refine hX.mono ?_
  rintro e w6 ⟨a6, m6, c6, rfl, hm6, hl6⟩
  clear hX
  obtain ⟨b6, hb6⟩ : ∃ l, b5 ++ enc s.off = l := ⟨_, rfl⟩
  rw [hb6] at hl6
  have HE6 : Hid (b5 ++ enc s.off = b6) := hb6
  have HL6 : Hid (Ly W w6 (.slice a6 m6 c6) m6 b6) := hl6
  clear y0 y1 y2 y3 y4 y5 y6 y7 y8 y9 y10 y11 y12 y13
  obtain ⟨y0, y1, y2, y3, y4, y5, y6, y7, y8, y9, y10, y11, y12, y13⟩ := s14_cells (HR.out w6 hl6.bel)
  clear hl6 hb6 HL5
  have hX := HL6.out.calls (nd : Int) (by omega) (by omega) (by omega)
  go_wp2_with fail
  refine hX.mono ?_
  rintro e w7 ⟨a7, m7, c7, rfl, hm7, hl7⟩
  clear hX
  obtain ⟨b7, hb7⟩ : ∃ l, b6 ++ enc (nd : Int) = l := ⟨_, rfl⟩
  rw [hb7] at hl7
  have HE7 : Hid (b6 ++ enc (nd : Int) = b7) := hb7
  have HL7 : Hid (Ly W w7 (.slice a7 m7 c7) m7 b7) := hl7
  clear y0 y1 y2 y3 y4 y5 y6 y7 y8 y9 y10 y11 y12 y13
  obtain ⟨y0, y1, y2, y3, y4, y5, y6, y7, y8, y9, y10, y11, y12, y13⟩ := s14_cells (HR.out w7 hl7.bel)
  clear hl7 hb7 HL6
  have hX := HL7.out.calls s.chk (by have := HBd.out; omega) (by have := HBd.out; omega) (by omega)
  go_wp2_with fail
  refine hX.mono ?_
  rintro e w8 ⟨a8, m8, c8, rfl, hm8, hl8⟩
  clear hX
  obtain ⟨b8, hb8⟩ : ∃ l, b7 ++ enc s.chk = l := ⟨_, rfl⟩
  rw [hb8] at hl8
  have HE8 : Hid (b7 ++ enc s.chk = b8) := hb8
  have HL8 : Hid (Ly W w8 (.slice a8 m8 c8) m8 b8) := hl8
  clear y0 y1 y2 y3 y4 y5 y6 y7 y8 y9 y10 y11 y12 y13
  obtain ⟨y0, y1, y2, y3, y4, y5, y6, y7, y8, y9, y10, y11, y12, y13⟩ := s14_cells (HR.out w8 hl8.bel)
  clear hl8 hb8 HL7
  have hX := HL8.out.calls s.rep (by have := HBd.out; omega) (by have := HBd.out; omega) (by omega)
  go_wp2_with fail
  refine hX.mono ?_
  rintro e w9 ⟨a9, m9, c9, rfl, hm9, hl9⟩
  clear hX
  obtain ⟨b9, hb9⟩ : ∃ l, b8 ++ enc s.rep = l := ⟨_, rfl⟩
  rw [hb9] at hl9
  have HE9 : Hid (b8 ++ enc s.rep = b9) := hb9
  have HL9 : Hid (Ly W w9 (.slice a9 m9 c9) m9 b9) := hl9
  clear y0 y1 y2 y3 y4 y5 y6 y7 y8 y9 y10 y11 y12 y13
  obtain ⟨y0, y1, y2, y3, y4, y5, y6, y7, y8, y9, y10, y11, y12, y13⟩ := s14_cells (HR.out w9 hl9.bel)
  clear hl9 hb9 HL8
  obtain ⟨ad2, cd2, hdv, hli, hni, _⟩ := (HDt.out w9 HL9.out.bel).shape
  have HNI : Hid ((ad = none → s.data.length = 0 ∧ cd = 0) ∧ Lies .u8 w9 ad s.data) := by simp only [Value.slice.injEq] at hdv; obtain ⟨rfl, _, rfl⟩ := hdv; exact ⟨hni, hli⟩
  have HNd : Hid (s.data.length = nd) := HNs.out.2.2.1
  have hwz : W.heap.size ≤ w9.heap.size := HL9.out.bel.size
  clear hdv hli hni
  go_wp2_with (at_builtin; refine append_at _ rfl _ _ 34 rfl W.heap.size 5 i0 (.int .u8 0) 1 Tryd.underlying34 hi hz0 hz1 hz2 rfl _ _ _ rfl HL9.out.own .u8 ad nd cd s.data rfl (fun e => by have := HNI.out.1 e; rw [HNd.out] at this; exact this) HNd.out HNI.out.2 (by unfold maxLen; omega) (by omega) hwz ?_; intro v10 w10 o10 g10 t10; obtain ⟨a10, m10, c10, rfl, hm10, hl10⟩ := HL9.out.app HNd.out o10 g10; clear o10 g10 t10 hwz y0 y1 y2 y3 y4 y5 y6 y7 y8 y9 y10 y11 y12 y13; obtain ⟨y0, y1, y2, y3, y4, y5, y6, y7, y8, y9, y10, y11, y12, y13⟩ := s14_cells (HR.out w10 hl10.bel))
  obtain ⟨b10, hb10⟩ : ∃ l, b9 ++ s.data = l := ⟨_, rfl⟩
  rw [hb10] at hl10
  have HE10 : Hid (b9 ++ s.data = b10) := hb10
  have HL10 : Hid (Ly W w10 (.slice a10 m10 c10) m10 b10) := hl10
  clear y0 y1 y2 y3 y4 y5 y6 y7 y8 y9 y10 y11 y12 y13
  obtain ⟨y0, y1, y2, y3, y4, y5, y6, y7, y8, y9, y10, y11, y12, y13⟩ := s14_cells (HR.out w10 hl10.bel)
  clear hl10 hb10 HL9
  have hX := rqLayExts_any HL10.out (.slice at2 nt ct) tx HXt.out.1 HXt.out.2.1 HXt.out.2.2 (by omega)
  go_wp2_with fail
  refine hX.mono ?_
  rintro e w11 ⟨a11, m11, c11, rfl, hm11, hl11⟩
  clear hX
  obtain ⟨b11, hb11⟩ : ∃ l, b10 ++ encXs (tx.map Xr.ex) = l := ⟨_, rfl⟩
  rw [hb11] at hl11
  have HE11 : Hid (b10 ++ encXs (tx.map Xr.ex) = b11) := hb11
  have HL11 : Hid (Ly W w11 (.slice a11 m11 c11) m11 b11) := hl11
  clear y0 y1 y2 y3 y4 y5 y6 y7 y8 y9 y10 y11 y12 y13
  obtain ⟨y0, y1, y2, y3, y4, y5, y6, y7, y8, y9, y10, y11, y12, y13⟩ := s14_cells (HR.out w11 hl11.bel)
  clear hl11 hb11 HL10
  have HEnd : Hid (P (.returned (.slice a11 m11 c11)) w11) := by
    show P _ _
    rw [← HP.out]
    have hlz := HL11.out
    have he : b11 = layB 7 s := by rw [HLay.out, ← HE11.out, ← HE10.out, ← HE9.out, ← HE8.out, ← HE7.out, ← HE6.out, ← HE5.out, ← HE4.out, ← HE3.out, ← HE2.out, ← HE1.out]
    rw [he] at hlz
    have hlen := hlz.len
    refine ⟨_, rfl, ?_, HBW.out.trans (hlz.bel.mono HBW.out.size)⟩
    rw [hlen]
    exact own_low5 hlz.own (by rw [HWs.out]; omega)
  go_wp2
  first | exact HEnd.out | (go_ret; exact HEnd.out)

end Go.Proofs.YtdfdaambfihjaaaDoor

namespace Go.Proofs.YtdfdaambfihjaaaDoor
open Go.RowKit
set_option linter.unusedVariables false
set_option linter.unusedSimpArgs false

set_option maxRecDepth 100000 in
set_option maxHeartbeats 32000000 in
theorem rqL_9 (s : Sg) (ah at2 ad ac : Option Addr) (nh ch nt ct nd cd nc cc : Nat) (hx tx : List Xr) (w : World) (hs : SIn w s (.slice ah nh ch) (.slice at2 nt ct) (.slice ad nd cd) (.slice ac nc cc) hx tx) (hnh : hx.length = nh) (hnt : tx.length = nt) (hnd : s.data.length = nd) (hnc : s.clm.length = nc) (ht : s.typ = 8) (hw : Wr 9 s hx tx) :
    Calls Tryd.prog 72 #[.agg (svC s (.slice ah nh ch) (.slice at2 nt ct) (.slice ad nd cd) (.slice ac nc cc))] w (FormP (layB 9 s) w) := by
  obtain ⟨i0, hi, hz0, hz1, hz2⟩ := info_parts Tryd.info_u8
  obtain ⟨W, hW⟩ : ∃ W, w.alloc (.cells (svC s (.slice ah nh ch) (.slice at2 nt ct) (.slice ad nd cd) (.slice ac nc cc)) 37) = W := ⟨_, rfl⟩
  have HWe : Hid (w.alloc (.cells (svC s (.slice ah nh ch) (.slice at2 nt ct) (.slice ad nd cd) (.slice ac nc cc)) 37) = W) := hW
  have hws : W.heap.size = w.heap.size + 1 := by rw [← hW, World.size_alloc]
  have HWs : Hid (W.heap.size = w.heap.size + 1) := hws
  have hbW : Below w.heap.size w W := by rw [← hW]; exact (Below.refl _ _).alloc (Nat.le_refl _) _
  have HBW : Hid (Below w.heap.size w W) := hbW
  have HR : Hid (∀ V, Below W.heap.size W V → V.heap[w.heap.size]? = some (.cells (svC s (.slice ah nh ch) (.slice at2 nt ct) (.slice ad nd cd) (.slice ac nc cc)) 37 (0, 0))) := fun V hV => by
    have h1 : W.heap[w.heap.size]? = some (.cells (svC s (.slice ah nh ch) (.slice at2 nt ct) (.slice ad nd cd) (.slice ac nc cc)) 37 (0, 0)) := by rw [← hW]; exact al_new _ _
    exact (hV.block _ (Array.getElem?_eq_some_iff.1 h1).1).trans h1
  have HXh : Hid (XIn W (.slice ah nh ch) hx ∧ XsIn hx ∧ hx.length ≤ 15) := ⟨hs.head.below hbW, hw.head, hw.headL⟩
  have HXt : Hid (XIn W (.slice at2 nt ct) tx ∧ XsIn tx ∧ tx.length ≤ 15) := ⟨hs.tail.below hbW, hw.tail, hw.tailL⟩
  have HDt : Hid (∀ V, Below W.heap.size W V → BIn V (.slice ad nd cd) s.data) := fun V hV => (hs.data.below hbW).below hV
  have HCt : Hid (∀ V, Below W.heap.size W V → CIn V (.slice ac nc cc) s.clm) := fun V hV => (hs.clm.below hbW).below hV
  have HNs : Hid (hx.length = nh ∧ tx.length = nt ∧ s.data.length = nd ∧ s.clm.length = nc) := ⟨hnh, hnt, hnd, hnc⟩
  have HBd : Hid ((0 ≤ s.org ∧ s.org ≤ 4611686018427387903) ∧ (0 ≤ s.num ∧ s.num ≤ 4611686018427387903) ∧ (0 ≤ s.srv ∧ s.srv ≤ 4611686018427387903) ∧ (0 ≤ s.off ∧ s.off ≤ 4611686018427387903) ∧ (0 ≤ s.chk ∧ s.chk ≤ 4611686018427387903) ∧ (0 ≤ s.rep ∧ s.rep ≤ 4611686018427387903) ∧ (0 ≤ s.upp ∧ s.upp ≤ 65536) ∧ (0 ≤ s.low ∧ s.low ≤ 65536)) := ⟨hw.org, hw.num, hw.srv, hw.off, hw.chk, hw.rep, hw.upp, hw.low⟩
  have hnd7 : nd ≤ 70000 := by rw [← hnd]; exact hw.data
  have hnc1 : nc ≤ 1000 := by rw [← hnc]; exact hw.clm
  have hnh1 : nh ≤ 15 := by rw [← hnh]; exact hw.headL
  have hnt1 : nt ≤ 15 := by rw [← hnt]; exact hw.tailL
  have hD : ∀ V, Calls Tryd.prog 85 #[.int .i64 s.typ] V fun e w' => e = .returned (.bool false) ∧ V = w' := fun V => by
    exact rqDa_4 _ V (by omega)
  have hK : ∀ V, Calls Tryd.prog 86 #[.int .i64 s.typ] V fun e w' => e = .returned (.bool false) ∧ V = w' := fun V => by
    exact rqCh_2 _ V (by omega)
  have t8 : (s.typ == 8) = true := by simp; omega
  have t9 : (s.typ == 9) = false := by simp; omega
  have t12 : (s.typ == 12) = false := by simp; omega
  have t14 : (s.typ == 14) = false := by simp; omega
  have hwt : s.typ % 256 = s.typ := by omega
  have hw16 : IntKind.i64.wrap (16 * (nh : Int)) = 16 * (nh : Int) := by rw [IntKind.wrap_i64]; omega
  have hwsm : IntKind.i64.wrap (16 * (nh : Int) + (nt : Int)) = 16 * (nh : Int) + (nt : Int) := by rw [IntKind.wrap_i64]; omega
  have hwb : (16 * (nh : Int) + (nt : Int)) % 256 = 16 * (nh : Int) + (nt : Int) := by omega
  have HCO : Hid (ClIn s.low s.clm) := hw.cls
  have HLay : Hid (layB 9 s = [s.typ] ++ enc s.org ++ enc s.num ++ [16 * (nh : Int) + (nt : Int)] ++ encXs (hx.map Xr.ex) ++ enc s.rep ++ enc s.chk ++ enc s.upp ++ enc s.low ++ enc (nc : Int) ++ clmB s.low s.clm ++ encXs (tx.map Xr.ex)) := by show _ = _; rw [lay_sh9 s hx tx hs.headEq hs.tailEq, hnh, hnt, hnc]
  obtain ⟨P, hP⟩ : ∃ P, FormP (layB 9 s) w = P := ⟨_, rfl⟩
  have HP : Hid (FormP (layB 9 s) w = P) := hP
  have HL0 : Hid (Ly W (W.alloc (.cells #[.int .u8 s.typ] 5)) (.slice (some ⟨w.heap.size + 1, 0, none⟩) 1 1) 1 [s.typ]) := by
    refine ⟨rfl, ⟨rfl, .inr ⟨w.heap.size + 1, 1, #[.int .u8 s.typ], rfl, by omega, ?_, Nat.le_refl _, by unfold maxLen; omega, rfl, rfl⟩⟩, (Below.refl _ _).alloc (Nat.le_refl _) _⟩
    rw [← hws]
    exact al_new _ _
  rw [hP]
  obtain ⟨y0, y1, y2, y3, y4, y5, y6, y7, y8, y9, y10, y11, y12, y13⟩ := s14_cells (HR.out W (Below.refl _ _))
  clear hW hbW hs hw hnh hnt hnd hnc hP hws ht
  go_enter Tryd.func72, Tryd.ntmps72
  have hX := HL0.out.calls s.org (by have := HBd.out; omega) (by have := HBd.out; omega) (by omega)
  go_wp2_with fail
  rw [HWe.out]
  refine hX.mono ?_
  rintro e w1 ⟨a1, m1, c1, rfl, hm1, hl1⟩
  clear hX
  obtain ⟨b1, hb1⟩ : ∃ l, [s.typ] ++ enc s.org = l := ⟨_, rfl⟩
  rw [hb1] at hl1
  have HE1 : Hid ([s.typ] ++ enc s.org = b1) := hb1
  have HL1 : Hid (Ly W w1 (.slice a1 m1 c1) m1 b1) := hl1
  clear y0 y1 y2 y3 y4 y5 y6 y7 y8 y9 y10 y11 y12 y13
  obtain ⟨y0, y1, y2, y3, y4, y5, y6, y7, y8, y9, y10, y11, y12, y13⟩ := s14_cells (HR.out w1 hl1.bel)
  clear hl1 hb1 HL0
  have hX := HL1.out.calls s.num (by have := HBd.out; omega) (by have := HBd.out; omega) (by omega)
  go_wp2_with fail
  refine hX.mono ?_
  rintro e w2 ⟨a2, m2, c2, rfl, hm2, hl2⟩
  clear hX
  obtain ⟨b2, hb2⟩ : ∃ l, b1 ++ enc s.num = l := ⟨_, rfl⟩
  rw [hb2] at hl2
  have HE2 : Hid (b1 ++ enc s.num = b2) := hb2
  have HL2 : Hid (Ly W w2 (.slice a2 m2 c2) m2 b2) := hl2
  clear y0 y1 y2 y3 y4 y5 y6 y7 y8 y9 y10 y11 y12 y13
  obtain ⟨y0, y1, y2, y3, y4, y5, y6, y7, y8, y9, y10, y11, y12, y13⟩ := s14_cells (HR.out w2 hl2.bel)
  clear hl2 hb2 HL1
  have HO3 : Hid ((w2.alloc (.cells #[.int .u8 (16 * (nh : Int) + (nt : Int))] 5)).ownsRow W.heap.size 5 1 (.slice a2 m2 c2) m2 (b2.map (Value.int .u8))) := HL2.out.own1 _
  have hwz : W.heap.size ≤ w2.heap.size := HL2.out.bel.size
  go_wp2_with (at_builtin; refine wpList_append_own_at _ rfl _ _ 34 rfl W.heap.size 5 i0 (.int .u8 0) 1 1 Tryd.underlying34 hi hz0 hz1 hz2 rfl (by decide) _ _ _ rfl HO3.out ⟨w2.heap.size, 0, none⟩ 1 1 [.int .u8 (16 * (nh : Int) + (nt : Int))] rfl rfl (one_litb w2 _) (by intro u hu; simp at hu; subst hu; rfl) (by unfold maxLen; omega) (by omega) (by simp; omega) ?_; intro v3 w3 o3 g3 _ t3; obtain ⟨a3, m3, c3, rfl, hm3, hl3⟩ := HL2.out.byte o3 g3; clear o3 g3 t3 hwz HO3 y0 y1 y2 y3 y4 y5 y6 y7 y8 y9 y10 y11 y12 y13; obtain ⟨y0, y1, y2, y3, y4, y5, y6, y7, y8, y9, y10, y11, y12, y13⟩ := s14_cells (HR.out w3 hl3.bel))
  obtain ⟨b3, hb3⟩ : ∃ l, b2 ++ [16 * (nh : Int) + (nt : Int)] = l := ⟨_, rfl⟩
  rw [hb3] at hl3
  have HE3 : Hid (b2 ++ [16 * (nh : Int) + (nt : Int)] = b3) := hb3
  have HL3 : Hid (Ly W w3 (.slice a3 m3 c3) m3 b3) := hl3
  clear y0 y1 y2 y3 y4 y5 y6 y7 y8 y9 y10 y11 y12 y13
  obtain ⟨y0, y1, y2, y3, y4, y5, y6, y7, y8, y9, y10, y11, y12, y13⟩ := s14_cells (HR.out w3 hl3.bel)
  clear hl3 hb3 HL2
  have hX := rqLayExts_any HL3.out (.slice ah nh ch) hx HXh.out.1 HXh.out.2.1 HXh.out.2.2 (by omega)
  go_wp2_with fail
  refine hX.mono ?_
  rintro e w4 ⟨a4, m4, c4, rfl, hm4, hl4⟩
  clear hX
  obtain ⟨b4, hb4⟩ : ∃ l, b3 ++ encXs (hx.map Xr.ex) = l := ⟨_, rfl⟩
  rw [hb4] at hl4
  have HE4 : Hid (b3 ++ encXs (hx.map Xr.ex) = b4) := hb4
  have HL4 : Hid (Ly W w4 (.slice a4 m4 c4) m4 b4) := hl4
  clear y0 y1 y2 y3 y4 y5 y6 y7 y8 y9 y10 y11 y12 y13
  obtain ⟨y0, y1, y2, y3, y4, y5, y6, y7, y8, y9, y10, y11, y12, y13⟩ := s14_cells (HR.out w4 hl4.bel)
  clear hl4 hb4 HL3
  go_wp2_with fail
  refine (hD _).mono ?_
  rintro e w' ⟨rfl, hw1⟩
  subst hw1
  go_wp2_with fail
  refine (hK _).mono ?_
  rintro e w' ⟨rfl, hw1⟩
  subst hw1
  have hX := HL4.out.calls s.rep (by have := HBd.out; omega) (by have := HBd.out; omega) (by omega)
  go_wp2_with fail
  refine hX.mono ?_
  rintro e w5 ⟨a5, m5, c5, rfl, hm5, hl5⟩
  clear hX
  obtain ⟨b5, hb5⟩ : ∃ l, b4 ++ enc s.rep = l := ⟨_, rfl⟩
  rw [hb5] at hl5
  have HE5 : Hid (b4 ++ enc s.rep = b5) := hb5
  have HL5 : Hid (Ly W w5 (.slice a5 m5 c5) m5 b5) := hl5
  clear y0 y1 y2 y3 y4 y5 y6 y7 y8 y9 y10 y11 y12 y13
  obtain ⟨y0, y1, y2, y3, y4, y5, y6, y7, y8, y9, y10, y11, y12, y13⟩ := s14_cells (HR.out w5 hl5.bel)
  clear hl5 hb5 HL4
  have hX := HL5.out.calls s.chk (by have := HBd.out; omega) (by have := HBd.out; omega) (by omega)
  go_wp2_with fail
  refine hX.mono ?_
  rintro e w6 ⟨a6, m6, c6, rfl, hm6, hl6⟩
  clear hX
  obtain ⟨b6, hb6⟩ : ∃ l, b5 ++ enc s.chk = l := ⟨_, rfl⟩
  rw [hb6] at hl6
  have HE6 : Hid (b5 ++ enc s.chk = b6) := hb6
  have HL6 : Hid (Ly W w6 (.slice a6 m6 c6) m6 b6) := hl6
  clear y0 y1 y2 y3 y4 y5 y6 y7 y8 y9 y10 y11 y12 y13
  obtain ⟨y0, y1, y2, y3, y4, y5, y6, y7, y8, y9, y10, y11, y12, y13⟩ := s14_cells (HR.out w6 hl6.bel)
  clear hl6 hb6 HL5
  have hX := HL6.out.calls s.upp (by have := HBd.out; omega) (by have := HBd.out; omega) (by omega)
  go_wp2_with fail
  refine hX.mono ?_
  rintro e w7 ⟨a7, m7, c7, rfl, hm7, hl7⟩
  clear hX
  obtain ⟨b7, hb7⟩ : ∃ l, b6 ++ enc s.upp = l := ⟨_, rfl⟩
  rw [hb7] at hl7
  have HE7 : Hid (b6 ++ enc s.upp = b7) := hb7
  have HL7 : Hid (Ly W w7 (.slice a7 m7 c7) m7 b7) := hl7
  clear y0 y1 y2 y3 y4 y5 y6 y7 y8 y9 y10 y11 y12 y13
  obtain ⟨y0, y1, y2, y3, y4, y5, y6, y7, y8, y9, y10, y11, y12, y13⟩ := s14_cells (HR.out w7 hl7.bel)
  clear hl7 hb7 HL6
  have hX := HL7.out.calls s.low (by have := HBd.out; omega) (by have := HBd.out; omega) (by omega)
  go_wp2_with fail
  refine hX.mono ?_
  rintro e w8 ⟨a8, m8, c8, rfl, hm8, hl8⟩
  clear hX
  obtain ⟨b8, hb8⟩ : ∃ l, b7 ++ enc s.low = l := ⟨_, rfl⟩
  rw [hb8] at hl8
  have HE8 : Hid (b7 ++ enc s.low = b8) := hb8
  have HL8 : Hid (Ly W w8 (.slice a8 m8 c8) m8 b8) := hl8
  clear y0 y1 y2 y3 y4 y5 y6 y7 y8 y9 y10 y11 y12 y13
  obtain ⟨y0, y1, y2, y3, y4, y5, y6, y7, y8, y9, y10, y11, y12, y13⟩ := s14_cells (HR.out w8 hl8.bel)
  clear hl8 hb8 HL7
  have hX := HL8.out.calls (nc : Int) (by omega) (by omega) (by omega)
  go_wp2_with fail
  refine hX.mono ?_
  rintro e w9 ⟨a9, m9, c9, rfl, hm9, hl9⟩
  clear hX
  obtain ⟨b9, hb9⟩ : ∃ l, b8 ++ enc (nc : Int) = l := ⟨_, rfl⟩
  rw [hb9] at hl9
  have HE9 : Hid (b8 ++ enc (nc : Int) = b9) := hb9
  have HL9 : Hid (Ly W w9 (.slice a9 m9 c9) m9 b9) := hl9
  clear y0 y1 y2 y3 y4 y5 y6 y7 y8 y9 y10 y11 y12 y13
  obtain ⟨y0, y1, y2, y3, y4, y5, y6, y7, y8, y9, y10, y11, y12, y13⟩ := s14_cells (HR.out w9 hl9.bel)
  clear hl9 hb9 HL8
  have HPre : Hid (layB 9 s = b9 ++ clmB s.low s.clm ++ encXs (tx.map Xr.ex)) := by show _ = _; rw [HLay.out, ← HE9.out, ← HE8.out, ← HE7.out, ← HE6.out, ← HE5.out, ← HE4.out, ← HE3.out, ← HE2.out, ← HE1.out]
  have HL : Hid (Ly W w9 (.slice a9 m9 c9) m9 (b9 ++ clmB s.low (s.clm.take 0))) := by show Ly _ _ _ _ _; simpa [clmB] using HL9.out
  go_wp2_with fail
  go_loopw [3, 6] (fun b i wv => ∃ (k : Nat) (a : Option Addr) (m c : Nat), k ≤ nc ∧ b = .slice a m c ∧ i = .int .i64 k ∧ m ≤ m9 + 20 * k ∧ Hid (Ly W wv (.slice a m c) m (b9 ++ clmB s.low (s.clm.take k)))) (fun _ i _ => nc - (intOf i).toNat)
  case atStart => exact ⟨0, a9, m9, c9, by omega, rfl, rfl, by omega, HL⟩
  case round =>
    obtain ⟨j, a', m', c', hj, rfl, rfl, hm', HL⟩ := hrel
    clear y0 y1 y2 y3 y4 y5 y6 y7 y8 y9 y10 y11 y12 y13
    obtain ⟨y0, y1, y2, y3, y4, y5, y6, y7, y8, y9, y10, y11, y12, y13⟩ := s14_cells (HR.out wr HL.out.bel)
    by_cases hlt : j < nc
    · have hlt' : (j : Int) < (nc : Int) := by omega
      obtain ⟨p, hp⟩ := get_one s.clm j (by rw [HNs.out.2.2.2]; exact hlt)
      obtain ⟨g, off, rfl, x0, x1⟩ := (HCt.out wr HL.out.bel).at hp
      obtain ⟨p1, p2, p3⟩ := HCO.out p (List.mem_of_getElem? hp)
      have HGx : Hid (∀ V, Below W.heap.size W V → V.cell? ⟨g, off + j * 2, none⟩ = some (.int .i64 p.1) ∧ V.cell? ⟨g, off + j * 2 + 1, none⟩ = some (.int .i64 p.2)) := fun V hV => by
        obtain ⟨g', off', he, h1, h2⟩ := (HCt.out V hV).at hp
        cases he
        exact ⟨h1, h2⟩
      have HSt : Hid (clmB s.low (s.clm.take (j + 1)) = clmB s.low (s.clm.take j) ++ enc (p.1 - s.low) ++ enc (p.2 - p.1)) := clmB_step _ _ _ _ hp
      have HP1 : Hid (0 ≤ p.1 - s.low ∧ p.1 - s.low ≤ 4611686018427387903) := by have := HBd.out; show _ ∧ _; omega
      have HP2 : Hid (0 ≤ p.2 - p.1 ∧ p.2 - p.1 ≤ 4611686018427387903) := by have := HBd.out; show _ ∧ _; omega
      have w1 : IntKind.i64.wrap (p.1 - s.low) = p.1 - s.low := by have := HBd.out; rw [IntKind.wrap_i64]; omega
      have w2 : IntKind.i64.wrap (p.2 - p.1) = p.2 - p.1 := by have := HBd.out; rw [IntKind.wrap_i64]; omega
      have hwk : IntKind.i64.wrap ((j : Int) + 1) = (j : Int) + 1 := by rw [IntKind.wrap_i64]; omega
      obtain ⟨pre, hpre⟩ : ∃ l, b9 ++ clmB s.low (s.clm.take j) = l := ⟨_, rfl⟩
      have HPr : Hid (b9 ++ clmB s.low (s.clm.take j) = pre) := hpre
      rw [hpre] at HL
      have HX1 : Hid (∀ V, Below wr.heap.size wr V → Calls Tryd.prog 90 #[.slice a' m' c', .int .i64 (p.1 - s.low)] V fun e w' => ∃ a m c, e = .returned (.slice a m c) ∧ m ≤ m' + 9 ∧ Ly W w' (.slice a m c) m (pre ++ enc (p.1 - s.low))) := fun V hV => (HL.out.same hV).calls (p.1 - s.low) HP1.out.1 HP1.out.2 (by omega)
      clear hp p1 p2 p3 hpre
      go_wp2_with fail
      go_region_held3 (fun V => V.cell? ⟨w.heap.size, 12, none⟩ = some (.slice (some ⟨g, off, none⟩) nc cc) ∧ V.cell? ⟨w.heap.size, 11, none⟩ = some (.int .i64 s.low) ∧ V.cell? ⟨g, off + j * 2, none⟩ = some (.int .i64 p.1) ∧ V.cell? ⟨g, off + j * 2 + 1, none⟩ = some (.int .i64 p.2))
        (first | (exact ⟨d12, d11, t0, t1⟩) | (exact ⟨y12, y11, x0, x1⟩))
        (first
          | (go_at_call 90
             refine (HX1.out _ (Below.refl _ _).drew).mono ?_
             rintro e v1 ⟨ap, mp, cp, rfl, hmp, hlp⟩
             obtain ⟨d0, d1, d2, d3, d4, d5, d6, d7, d8, d9, d10, d11, d12, d13⟩ := s14_cells (HR.out v1 hlp.bel)
             obtain ⟨t0, t1⟩ := HGx.out v1 hlp.bel))
      all_goals (
        have HL9 : Hid (Ly W v1 (.slice ap mp cp) mp (pre ++ enc (p.1 - s.low))) := hlp
        clear y0 y1 y2 y3 y4 y5 y6 y7 y8 y9 y10 y11 y12 y13 x0 x1 hlp d0 d1 d2 d3 d4 d5 d6 d7 d8 d9 d10 d11 d12 d13 t0 t1 HX1
        obtain ⟨y0, y1, y2, y3, y4, y5, y6, y7, y8, y9, y10, y11, y12, y13⟩ := s14_cells (HR.out v1 HL9.out.bel)
        obtain ⟨x0, x1⟩ := HGx.out v1 HL9.out.bel
        have HX2 : Hid (∀ V, Below v1.heap.size v1 V → Calls Tryd.prog 90 #[.slice ap mp cp, .int .i64 (p.2 - p.1)] V fun e w' => ∃ a m c, e = .returned (.slice a m c) ∧ m ≤ mp + 9 ∧ Ly W w' (.slice a m c) m (pre ++ enc (p.1 - s.low) ++ enc (p.2 - p.1))) := fun V hV => (HL9.out.same hV).calls (p.2 - p.1) HP2.out.1 HP2.out.2 (by omega)
        go_wp2_with fail
        go_region_held3 (fun V => V.cell? ⟨w.heap.size, 12, none⟩ = some (.slice (some ⟨g, off, none⟩) nc cc) ∧ V.cell? ⟨g, off + j * 2, none⟩ = some (.int .i64 p.1) ∧ V.cell? ⟨g, off + j * 2 + 1, none⟩ = some (.int .i64 p.2))
          (first | (exact ⟨d12, t0, t1⟩) | (exact ⟨y12, x0, x1⟩))
          (first
            | (go_at_call 90
               refine (HX2.out _ (Below.refl _ _).drew).mono ?_
               rintro e v2 ⟨aq, mq, cq, rfl, hmq, hlq⟩
               obtain ⟨d0, d1, d2, d3, d4, d5, d6, d7, d8, d9, d10, d11, d12, d13⟩ := s14_cells (HR.out v2 hlq.bel)
               obtain ⟨t0, t1⟩ := HGx.out v2 hlq.bel)))
      all_goals (
        have HLq : Hid (Ly W v2 (.slice aq mq cq) mq (b9 ++ clmB s.low (s.clm.take (j + 1)))) := by
          show Ly _ _ _ _ _
          rw [HSt.out, ← List.append_assoc, ← List.append_assoc, HPr.out]
          exact hlq
        clear y0 y1 y2 y3 y4 y5 y6 y7 y8 y9 y10 y11 y12 y13 x0 x1 hlq d0 d1 d2 d3 d4 d5 d6 d7 d8 d9 d10 d11 d12 d13 t0 t1 HX2
        go_wp2
        go_roundw
        case rel => exact ⟨j + 1, aq, mq, cq, by omega, rfl, by go_num, by omega, HLq⟩
        case measure => simp [intOf]; omega)
    · obtain rfl : j = nc := by omega
      have hlt' : ¬ (j : Int) < (j : Int) := by omega
      have HLc : Hid (Ly W wr (.slice a' m' c') m' (b9 ++ clmB s.low s.clm)) := by
        have h := HL.out
        rw [List.take_of_length_le (by rw [HNs.out.2.2.2]; exact Nat.le_refl _)] at h
        exact h
      have hX := rqLayExts_any HLc.out (.slice at2 nt ct) tx HXt.out.1 HXt.out.2.1 HXt.out.2.2 (by omega)
      clear HL
      go_wp2_with fail
      refine hX.mono ?_
      rintro e wz ⟨az, mz, cz, rfl, hmz, hlz⟩
      rw [← HPre.out] at hlz
      have HEnd : Hid (P (.returned (.slice az mz cz)) wz) := by
        show P _ _
        rw [← HP.out]
        have hlen := hlz.len
        refine ⟨_, rfl, ?_, HBW.out.trans (hlz.bel.mono HBW.out.size)⟩
        rw [hlen]
        exact own_low5 hlz.own (by rw [HWs.out]; omega)
      clear hX hlz hmz
      go_wp2
      first | exact HEnd.out | (go_ret; exact HEnd.out)

end Go.Proofs.YtdfdaambfihjaaaDoor
