import Derived.Test.YthbkabehjeidjaeDoorRpS5
namespace Go.Proofs.YthbkabehjeidjaeDoor
open Go.RowKit
set_option linter.unusedVariables false
set_option linter.unusedSimpArgs false
attribute [local go_sem ↓] wp_store6
attribute [local go_sem] pBlk6_ptr pAgg6_agg

set_option maxRecDepth 100000 in
set_option maxHeartbeats 32000000 in
theorem lies_walk (o n mtu lo up ck sr : Int) (a0 : Option Addr) (n0 c0 : Nat) (l : List (Int × Int)) (W : World) (hT : Tab W) (h1 : C.Ls W (.slice a0 n0 c0) l) :
    Calls Tryd.prog 8 #[.agg #[.int .i64 o, .int .i64 n, .int .i64 mtu, .int .i64 lo, .int .i64 up, .int .i64 ck, .int .i64 sr], .slice a0 n0 c0] W fun e W' => e = .returned (.bool true) ∧ Below W.heap.size W W' := by
  have h00 : 0 < W.heap.size := World.block_lt_of_cell? W ⟨0, 0, none⟩ (hT 0 (by omega))
  obtain ⟨i0, hi0, hz0, hy0, hb0⟩ := info_parts C.Tryd.info_span
  obtain ⟨w0, hW0⟩ : ∃ x, W.alloc (.cells #[.int .i64 o, .int .i64 n, .int .i64 mtu, .int .i64 lo, .int .i64 up, .int .i64 ck, .int .i64 sr] 60) = x := ⟨_, rfl⟩
  have HW0 : Hid (_ = w0) := hW0
  have hb0' : Below W.heap.size W w0 := by rw [← hW0]; exact (Below.refl _ _).alloc (Nat.le_refl _) _
  have HB0 : Hid (Below W.heap.size W w0) := hb0'
  have HR0 : Hid (∀ V, Below w0.heap.size w0 V → V.heap[W.heap.size]? = some (.cells #[.int .i64 o, .int .i64 n, .int .i64 mtu, .int .i64 lo, .int .i64 up, .int .i64 ck, .int .i64 sr] 60 (0, 0))) := fun V hV => by
    have h1 : w0.heap[W.heap.size]? = some (.cells #[.int .i64 o, .int .i64 n, .int .i64 mtu, .int .i64 lo, .int .i64 up, .int .i64 ck, .int .i64 sr] 60 (0, 0)) := by rw [← hW0]; exact al_new _ _
    exact (hV.block _ (Array.getElem?_eq_some_iff.1 h1).1).trans h1
  have HL : Hid (C.Ls W (.slice a0 n0 c0) l) := h1
  have HT : Hid (Tab W) := hT
  have hA := awake5_any w0 (hT.below hb0' h00)
  obtain ⟨y0, y1, y2, y3, y4, y5, y6⟩ := ask_cells6 (HR0.out w0 (Below.refl _ _))
  clear h1 hT hW0 hb0'
  go_enter Tryd.func8, Tryd.ntmps8
  go_wp2_with fail
  rw [HW0.out]
  refine hA.mono ?_
  rintro e w1 ⟨rfl, hb1⟩
  have HB1 : Hid (Below w0.heap.size w0 w1) := hb1
  clear y0 y1 y2 y3 y4 y5 y6 hA
  obtain ⟨y0, y1, y2, y3, y4, y5, y6⟩ := ask_cells6 (HR0.out w1 hb1)
  have hMk := make5_any o n mtu _ _ lo up ck sr w1 (HL.out.below (btr' HB0.out hb1)) (HT.out.below (btr' HB0.out hb1) h00)
  clear hb1
  go_wp2_with fail
  refine hMk.mono ?_
  rintro e w2 ⟨aL, cL, os, rfl, hos, hr5, hfew, hlen, hb2⟩
  have HB2 : Hid (Below w0.heap.size w0 w2) := btr' HB1.out hb2
  obtain ⟨er, her⟩ : ∃ er, (mk5 o n mtu l lo up ck sr).1 = er := ⟨_, rfl⟩
  obtain ⟨rs, hrs⟩ : ∃ rs, (mk5 o n mtu l lo up ck sr).2 = rs := ⟨_, rfl⟩
  have HSt : Hid (er = 0 → C.IsSet l ∧ (0 ≤ lo ∧ lo < up ∧ up ≤ 65536)) := fun h => mk_set (her.trans h)
  have HCh : Hid (er = 0 → (C.wth l (lo, up)).length ≤ 1000000 → Qu.Ok ⟨o, n, mtu, ck, up⟩ ∧ ∃ LO LL NN, Ch ⟨o, n, mtu, ck, up⟩ lo sr (C.wth l (lo, up)) rs LO LL NN) := fun h h2 => by
    rw [← hrs]; exact mk_chain (her.trans h) ⟨(mk_set (her.trans h)).1, (mk_set (her.trans h)).2, h2⟩
  rw [her, hrs]
  rw [hrs] at hos hr5 hfew hlen
  obtain ⟨N, hN⟩ : ∃ N, rs.length = N := ⟨_, rfl⟩
  rw [hN] at hr5 hlen ⊢
  have HN : Hid (rs.length = N) := hN
  have HR5 : Hid (R5 w2 w1.heap.size (.slice aL N cL) os) := hr5
  have HOS : Hid (rs = os.map R5o.r) := hos
  have HOL : Hid (os.length = N) := by show _ = _; rw [← hN, hos, List.length_map]
  have HFE : Hid (∀ r ∈ rs, r.clm.length ≤ 1000) := hfew
  clear y0 y1 y2 y3 y4 y5 y6 hMk hos hr5 hfew hb2 hN her hrs HB1
  obtain ⟨y0, y1, y2, y3, y4, y5, y6⟩ := ask_cells6 (HR0.out w2 HB2.out)
  by_cases he : er = 0
  rotate_left
  · have he2 : (er == 0) = false := by simp [he]
    have HF : Hid (Below W.heap.size W w2) := btr' HB0.out HB2.out
    go_wp2
    first | exact ⟨rfl, HF.out⟩ | (go_ret; exact ⟨rfl, HF.out⟩)
  subst he
  obtain ⟨hset, hbd⟩ := HSt.out rfl
  have HBd : Hid (0 ≤ lo ∧ lo < up ∧ up ≤ 65536) := hbd
  have hWi := C.refwithin_any lo up (HL.out.below (btr' HB0.out HB2.out))
  have HIs : Hid (C.IsSet l) := hset
  clear HSt hset
  go_wp2_with fail
  refine hWi.mono ?_
  rintro e w3 ⟨v3, u, e3, rfl, hs3, hg3, hb3⟩
  have hln : (C.wth l (lo, up)).length ≤ 2000 := by
    have hz := (hg3.within HIs.out ⟨hbd.1, by show lo ≤ up; omega, by show up ≤ _; omega⟩).1
    rcases hg3 with ⟨q, _⟩ | ⟨_, _, ⟨q, _, _⟩ | ⟨q, q7, _⟩⟩
    · exact absurd ⟨HIs.out, hbd.1, by show lo ≤ up; omega, by show up ≤ _; omega⟩ q
    · exact q
    · omega
  obtain ⟨rfl, rfl⟩ := hg3.within HIs.out ⟨hbd.1, by show lo ≤ up; omega, by show up ≤ _; omega⟩
  obtain ⟨ok, LO, LL, NN, hch⟩ := HCh.out (by trivial) (by omega)
  obtain ⟨L, hL⟩ : ∃ L, C.wth l (lo, up) = L := ⟨_, rfl⟩
  rw [hL] at hs3 hch hln
  obtain ⟨aW, cW, hv3⟩ := hs3.shape
  subst hv3
  obtain ⟨nL, hnL⟩ : ∃ x, L.length = x := ⟨_, rfl⟩
  have HnL : Hid (L.length = nL) := hnL
  rw [hnL] at hs3 hln ⊢
  have HOK : Hid (Qu.Ok ⟨o, n, mtu, ck, up⟩) := ok
  have HC : Hid (Ch ⟨o, n, mtu, ck, up⟩ lo sr L rs LO LL NN) := hch
  have HB3 : Hid (Below w0.heap.size w0 w3) := btr' HB2.out hb3
  have HS3 : Hid (Below w2.heap.size w2 w3) := hb3
  have HW3 : Hid (C.SOwn w3 w2.heap.size (.slice aW nL cW) L) := hs3
  have hup : LO rs.length = up ∨ rs.length = 0 := by
    rcases Nat.eq_zero_or_pos rs.length with q | q
    · exact .inr q
    · left
      have := hch.last (i := rs.length - 1) (by omega)
      rwa [show rs.length - 1 + 1 = rs.length by omega] at this
  rw [HN.out] at hup
  clear y0 y1 y2 y3 y4 y5 y6 hWi hs3 hg3 hb3 ok hch HCh HIs hL hnL hbd
  obtain ⟨y0, y1, y2, y3, y4, y5, y6⟩ := ask_cells6 (HR0.out w3 HB3.out)
  by_cases hN0 : N = 0
  · have hnl0 : nL = 0 := by
      have := HC.out.flat rs.length (Nat.le_refl _)
      rw [HC.out.fin, List.append_nil] at this
      have e : rs = [] := List.eq_nil_of_length_eq_zero (by rw [HN.out]; exact hN0)
      rw [e] at this
      rw [← HnL.out, ← this]
      rfl
    subst hN0 hnl0
    have HF : Hid (Below W.heap.size W w3) := btr' HB0.out HB3.out
    go_wp2
    first | exact ⟨rfl, HF.out⟩ | (go_ret; exact ⟨rfl, HF.out⟩)
  · have hNe : ((N : Int) == 0) = false := by simp; omega
    have hNp : 0 < N := by omega
    have HUp : Hid (LO N = up) := by
      rcases hup with q | q
      · exact q
      · exact absurd q hN0
    have HL0 : Hid (LO 0 = lo) := HC.out.lo0
    clear hup hN0
    go_wp2_with fail
    go_loopw [10, 11, 12] (fun s10 s11 s12 wr => ∃ (j : Nat) (av : Option Addr) (nv cv : Nat) (q : Int), j ≤ N ∧ s10 = .slice av nv cv ∧ s11 = .int .i64 q ∧ s12 = .int .i64 j ∧ nv ≤ 2000 ∧ Hid ((C.SOwn wr w3.heap.size (.slice av nv cv) ((rs.take j).flatMap Rr.clm) ∧ LO j = q) ∧ Below w3.heap.size w3 wr)) (fun _ _ i _ => N - (intOf i).toNat)
    case atStart => exact ⟨0, none, 0, 0, lo, Nat.zero_le _, rfl, rfl, rfl, by omega, hid_and (hid_and (C.SOwn.nil _ _) HL0) (Below.refl _ _)⟩
    case round =>
      obtain ⟨j, av, nv, cv, q, hj, rfl, rfl, rfl, hnv, HJ⟩ := hrel
      clear y0 y1 y2 y3 y4 y5 y6
      obtain ⟨wa, hwa⟩ : ∃ x, x = wr := ⟨_, rfl⟩
      subst hwa
      have HBa : Hid (Below w3.heap.size w3 wa) := HJ.out.2
      have HY : Hid (∀ V, Below w3.heap.size w3 V → V.heap[W.heap.size]? = some (.cells #[.int .i64 o, .int .i64 n, .int .i64 mtu, .int .i64 lo, .int .i64 up, .int .i64 ck, .int .i64 sr] 60 (0, 0))) := fun V hV => HR0.out V (btr' HB3.out hV)
      by_cases hlt : j < N
      · have hlt' : (j : Int) < (N : Int) := by omega
        obtain ⟨hne, hsr, hNR, hrj, hLO, hLL, hBg⟩ := HC.out.one j (by rw [HN.out]; exact hlt)
        obtain ⟨hrok, hfit⟩ := HC.out.rep HOK.out (show j < rs.length by rw [HN.out]; exact hlt)
        obtain ⟨m1, m2, m3⟩ := HC.out.num HOK.out (show j < rs.length by rw [HN.out]; exact hlt)
        have hlj : (rep5 ⟨o, n, mtu, ck, up⟩ (LO j) (sr + j) (LL j) (NN j)).clm.length = NN j := by show ((LL j).take (NN j)).length = NN j; rw [List.length_take]; omega
        obtain ⟨RR, hRR⟩ : ∃ x, rep5 ⟨o, n, mtu, ck, up⟩ (LO j) (sr + j) (LL j) (NN j) = x := ⟨_, rfl⟩
        have hser : RR.ser = sr + j := by rw [← hRR]; rfl
        have hchk : RR.chk = ck := by rw [← hRR]; rfl
        have hlow : RR.low = q := by rw [← hRR, ← HJ.out.1.2]; rfl
        have hupp : RR.upp = LO (j + 1) := by rw [← hRR, hLO]; rfl
        rw [hRR] at hrj hrok hfit hlj
        obtain ⟨K, hK⟩ : ∃ x, NN j = x := ⟨_, rfl⟩
        rw [hK] at hlj m1 m3
        obtain ⟨gl, haL⟩ := rep_g HR5.out HOL.out hNp
        subst haL
        obtain ⟨oj, hoj, horr⟩ : ∃ oj, os[j]? = some oj ∧ oj.r = RR := by
          rw [HOS.out, List.getElem?_map] at hrj
          exact Option.map_eq_some_iff.mp hrj
        have HAt : Hid (∀ V, Below w3.heap.size w3 V → (V.cell? ⟨gl, j * 5, none⟩ = some (.int .i64 (sr + j)) ∧ V.cell? ⟨gl, j * 5 + 1, none⟩ = some (.int .i64 ck) ∧ V.cell? ⟨gl, j * 5 + 2, none⟩ = some (.int .i64 RR.upp) ∧ V.cell? ⟨gl, j * 5 + 3, none⟩ = some (.int .i64 q) ∧ V.cell? ⟨gl, j * 5 + 4, none⟩ = some (.slice oj.a K oj.c)) ∧ C.SOwn V w1.heap.size (.slice oj.a K oj.c) RR.clm) := fun V hV => by
          have := rep_at HR5.out (btr' HS3.out hV) HOL.out hoj
          rw [horr, hser, hchk, hlow, hlj] at this
          exact this
        obtain ⟨xa, hxa⟩ : ∃ x, oj.a = x := ⟨_, rfl⟩
        obtain ⟨xc, hxc⟩ : ∃ x, oj.c = x := ⟨_, rfl⟩
        obtain ⟨U, hU⟩ : ∃ x, RR.upp = x := ⟨_, rfl⟩
        rw [hxa, hxc, hU] at HAt
        have HcU : Hid (RR.ser = sr + j ∧ RR.chk = ck ∧ RR.low = q ∧ RR.upp = U ∧ RR.clm.length = K) := ⟨hser, hchk, hlow, hU, hlj⟩
        have HRk : Hid (RR.Ok ∧ (ln5 ⟨o, n, mtu, ck, up⟩ RR : Int) ≤ mtu) := ⟨hrok, hfit⟩
        have HUj : Hid (U = LO (j + 1) ∧ NN j = K ∧ RR = rep5 ⟨o, n, mtu, ck, up⟩ (LO j) (sr + j) (LL j) (NN j) ∧ rs[j]? = some RR) := ⟨hU.symm.trans hupp, hK, hRR.symm, hrj⟩
        have HSg : Hid (∀ V, Below w3.heap.size w3 V → Calls Tryd.prog 37 #[.agg #[.int .i64 o, .int .i64 n], .agg #[.int .i64 (sr + j), .int .i64 ck, .int .i64 U, .int .i64 q, .slice xa K xc]] V fun e w' => ∃ a' c', e = .returned (.tuple #[.agg #[.int .i64 8, .int .i64 o, .int .i64 n, .slice none 0 0, .slice none 0 0, .int .i64 0, .int .i64 0, .slice none 0 0, .int .i64 ck, .int .i64 (sr + j), .int .i64 U, .int .i64 q, .slice a' K c', .int .i64 0], .int .i64 0]) ∧ CIn w' (.slice a' K c') RR.clm ∧ Below V.heap.size V w') := fun V hV => by
          have hs := (HAt.out V hV).2
          have hc := own_cap hs (by omega)
          have := segment5_ok ⟨o, n, mtu, ck, up⟩ HOK.out RR hrok xa K xc hlj hc.1 hc.2 V (cin_own hs (by omega))
          simp only [rpA, rsC, hser, hchk, hlow, hU] at this
          exact this
        have HK : Hid (∀ V, Below w3.heap.size w3 V → V.cell? ⟨W.heap.size, 0, none⟩ = some (.int .i64 o) ∧ V.cell? ⟨W.heap.size, 1, none⟩ = some (.int .i64 n) ∧ V.cell? ⟨gl, j * 5, none⟩ = some (.int .i64 (sr + j)) ∧ V.cell? ⟨gl, j * 5 + 1, none⟩ = some (.int .i64 ck) ∧ V.cell? ⟨gl, j * 5 + 2, none⟩ = some (.int .i64 U) ∧ V.cell? ⟨gl, j * 5 + 3, none⟩ = some (.int .i64 q) ∧ V.cell? ⟨gl, j * 5 + 4, none⟩ = some (.slice xa K xc)) := fun V hV => by
          obtain ⟨x0, x1, _⟩ := ask_cells6 (HY.out V hV)
          obtain ⟨⟨x2, x3, x4, x5, x6⟩, _⟩ := HAt.out V hV
          exact ⟨x0, x1, x2, x3, x4, x5, x6⟩
        obtain ⟨gx, hgx⟩ : ∃ g, xa = some ⟨g, 0, none⟩ := by
          obtain ⟨g, cap, hv2⟩ := C.own_some (HAt.out wa HBa.out).2 (by omega)
          simp only [Value.slice.injEq] at hv2
          exact ⟨g, hv2.1⟩
        subst hgx
        clear hne hNR hrj hLO hLL hBg hrok hfit m2 hlj hRR hser hchk hlow hupp hK hoj horr hxa hxc hU
        have HLt : Hid (∀ p ∈ RR.clm, p.1 < p.2) := lt_ok HRk.out.1
        have hj0 : (0 : Int) ≤ (j : Int) := by omega
        go_wp2_with fail
        go_cut [13, 14] from 67 to 235 (fun p f wx => ∃ (Bs : Nat) (a' : Option Addr) (c' : Nat), p = .pointer (some ⟨Bs, 0, none⟩) ∧ f = .int .i64 0 ∧ Hid (wx.heap[Bs]? = some (.cells #[.int .i64 8, .int .i64 o, .int .i64 n, .slice none 0 0, .slice none 0 0, .int .i64 0, .int .i64 0, .slice none 0 0, .int .i64 ck, .int .i64 (sr + j), .int .i64 U, .int .i64 q, .slice a' K c', .int .i64 0] 81 (0, 0)) ∧ CIn wx (.slice a' K c') RR.clm ∧ Below wa.heap.size wa wx))
        case first =>
         as_aux_lemma =>
          go_region_held3 (fun V => V.cell? ⟨W.heap.size, 0, none⟩ = some (.int .i64 o) ∧ V.cell? ⟨W.heap.size, 1, none⟩ = some (.int .i64 n) ∧ V.cell? ⟨gl, j * 5, none⟩ = some (.int .i64 (sr + j)) ∧ V.cell? ⟨gl, j * 5 + 1, none⟩ = some (.int .i64 ck) ∧ V.cell? ⟨gl, j * 5 + 2, none⟩ = some (.int .i64 U) ∧ V.cell? ⟨gl, j * 5 + 3, none⟩ = some (.int .i64 q) ∧ V.cell? ⟨gl, j * 5 + 4, none⟩ = some (.slice (some ⟨gx, 0, none⟩) K xc))
            (first | exact HK.out _ HBa.out | exact HK.out _ HBa.out.drew | exact HK.out _ hV2 | exact HK.out _ (HBa.out.alloc HBa.out.size _) | exact HK.out _ (HBa.out.alloc HBa.out.size _).drew | exact HK.out _ (hV2.alloc hV2.size _) | exact HK.out _ (bl_setRow hV2 HBa.out.size _) | exact HK.out _ (bl_setRow (hV2.alloc hV2.size _) hV2.size _))
            (first
              | (go_at_call 37
                 refine (HSg.out _ (by first | exact HBa.out.drew | exact (HBa.out.alloc HBa.out.size _).drew)).mono ?_
                 rintro e x2 ⟨a2, c2, rfl, hc2, hb2⟩
                 have hV2 : Below w3.heap.size w3 x2 := by first | exact btr' HBa.out.drew hb2 | exact btr' (HBa.out.alloc HBa.out.size _).drew hb2
                 have HX2 : Hid (CIn x2 (.slice a2 K c2) RR.clm ∧ Below wa.heap.size wa x2) := ⟨hc2, by first | exact btr' (Below.refl _ _).drew hb2 | exact btr' ((Below.refl _ _).alloc (Nat.le_refl _) _).drew hb2⟩
                 first
                 | (have hz2 : x2.heap[wa.heap.size]? = some (.cells #[.int .i64 0, .int .i64 0, .int .i64 0, .slice none 0 0, .slice none 0 0, .int .i64 0, .int .i64 0, .slice none 0 0, .int .i64 0, .int .i64 0, .int .i64 0, .int .i64 0, .slice none 0 0, .int .i64 0] 81 (0, 0)) := (hb2.block _ (by simp)).trans (al_new _ _)
                    have HZ2 : Hid (x2.heap[wa.heap.size]? = some (.cells #[.int .i64 0, .int .i64 0, .int .i64 0, .slice none 0 0, .slice none 0 0, .int .i64 0, .int .i64 0, .slice none 0 0, .int .i64 0, .int .i64 0, .int .i64 0, .int .i64 0, .slice none 0 0, .int .i64 0] 81 (0, 0))) := hz2
                    have hst : Stor6 Tryd.prog 81 x2 (.pointer (some ⟨wa.heap.size, 0, none⟩)) (.agg #[.int .i64 8, .int .i64 o, .int .i64 n, .slice none 0 0, .slice none 0 0, .int .i64 0, .int .i64 0, .slice none 0 0, .int .i64 ck, .int .i64 (sr + j), .int .i64 U, .int .i64 q, .slice a2 K c2, .int .i64 0]) := ⟨_, _, _, _, rfl, rfl, hz2, rfl, size_sg6, (by simp [Value.oneCell'])⟩
                    clear hz2)
                 | (have hst : Stor6 Tryd.prog 81 (x2.alloc (.cells #[.int .i64 0, .int .i64 0, .int .i64 0, .slice none 0 0, .slice none 0 0, .int .i64 0, .int .i64 0, .slice none 0 0, .int .i64 0, .int .i64 0, .int .i64 0, .int .i64 0, .slice none 0 0, .int .i64 0] 81)) (.pointer (some ⟨x2.heap.size, 0, none⟩)) (.agg #[.int .i64 8, .int .i64 o, .int .i64 n, .slice none 0 0, .slice none 0 0, .int .i64 0, .int .i64 0, .slice none 0 0, .int .i64 ck, .int .i64 (sr + j), .int .i64 U, .int .i64 q, .slice a2 K c2, .int .i64 0]) := ⟨_, _, _, _, rfl, rfl, al_new _ _, rfl, size_sg6, (by simp [Value.oneCell'])⟩)
                 clear hc2 hb2))
          all_goals (
            clear hst
            go_wp2_with fail
            go_meet
            first
            | exact ⟨wa.heap.size, a2, c2, rfl, rfl, setRow6 HZ2.out _, cin_zero HX2.out.1 HZ2.out HLt.out _, bl_setRow HX2.out.2 (Nat.le_refl _) _⟩
            | exact ⟨x2.heap.size, a2, c2, rfl, rfl, setRow6 (al_new _ _) _, HX2.out.1.below ((bl_setRow ((Below.refl _ _).alloc (Nat.le_refl _) _) (Nat.le_refl _) _)), bl_setRow (HX2.out.2.alloc HX2.out.2.size _) HX2.out.2.size _⟩
            | exact ⟨x2.heap.size, a2, c2, rfl, rfl, al_new _ _, HX2.out.1.below ((Below.refl _ _).alloc (Nat.le_refl _) _), HX2.out.2.alloc HX2.out.2.size _⟩)
        case rest =>
          obtain ⟨Bs, a2, c2, rfl, rfl, HX⟩ := hcut
          have HBc : Hid (Below w3.heap.size w3 wc) := btr' HBa.out HX.out.2.2
          have HAc : Hid (Below wa.heap.size wa wc) := HX.out.2.2
          have hPr := rqPrint_ok ⟨o, n, mtu, ck, up⟩ HOK.out RR HRk.out.1 a2 K c2 HcU.out.2.2.2.2 wc HX.out.2.1
          simp only [rsC, HcU.out.1, HcU.out.2.1, HcU.out.2.2.1, HcU.out.2.2.2.1] at hPr
          obtain ⟨LN, hLN⟩ : ∃ x, ln5 ⟨o, n, mtu, ck, up⟩ RR = x := ⟨_, rfl⟩
          rw [hLN] at hPr
          have hfit : (LN : Int) ≤ mtu := by rw [← hLN]; exact HRk.out.2
          obtain ⟨z0, z1, z2, z3, z4, z5, z6, z7, z8, z9, z10, z11, z12, z13⟩ := sg_cells HX.out.1
          clear HX hLN
          go_wp2_with fail
          refine hPr.mono ?_
          rintro e wd ⟨bp, cp, rfl, hbd⟩
          have HBd : Hid (Below w3.heap.size w3 wd) := btr' HBc.out hbd
          have HAd : Hid (Below wa.heap.size wa wd) := btr' HAc.out hbd
          clear hPr hbd z0 z1 z2 z3 z4 z5 z6 z7 z8 z9 z10 z11 z12 z13 HBc HAc
          obtain ⟨y0, y1, y2, y3, y4, y5, y6⟩ := ask_cells6 (HY.out wd HBd.out)
          obtain ⟨⟨x0, x1, x2, x3, x4⟩, hcl⟩ := HAt.out wd HBd.out
          have HSc : Hid (∀ k u, (RR.clm.flatMap C.spc)[k]? = some u → wd.cell? ((⟨gx, 0, none⟩ : Addr).add k) = some u) := cin_src (cin_own hcl (by have := HcU.out.2.2.2.2; omega))
          have HAl : Hid (C.SOwn wd w3.heap.size (.slice av nv cv) ((rs.take j).flatMap Rr.clm)) := HJ.out.1.1.below HAd.out
          have hd1 : decide (mtu < (LN : Int)) = false := by simp; omega
          have hd2 : ¬ mtu < (LN : Int) := by omega
          have hwr : IntKind.i64.wrap (sr + (j : Int)) = sr + (j : Int) := by have hse := HRk.out.1.ser; rw [HcU.out.1] at hse; rw [IntKind.wrap_i64]; omega
          have hKl : K + nv ≤ 2000 := by
            have h1 := HC.out.flat (j + 1) (by rw [HN.out]; omega)
            have h2 := congrArg List.length h1
            rw [List.take_add_one, HUj.out.2.2.2, List.flatMap_append, List.length_append, List.length_append, HnL.out, C.SOwn.len2 HAl.out] at h2
            simp [HcU.out.2.2.2.2] at h2
            omega
          clear hcl
          go_wp2_with fail
          go_quiet (fail)
          obtain ⟨we, hwe⟩ : ∃ x, wd.drewN nq = x := ⟨_, rfl⟩
          have HBe : Hid (Below w3.heap.size w3 we) := by show Below _ _ _; rw [← hwe]; exact below_drewN' HBd.out nq
          have HAe : Hid (Below wa.heap.size wa we) := by show Below _ _ _; rw [← hwe]; exact below_drewN' HAd.out nq
          rw [hwe]
          clear hwe x0 x1 x2 x3 x4 y0 y1 y2 y3 y4 y5 y6 hd1 hd2 hwr HSc HAl HBd HAd
          obtain ⟨⟨x0, x1, x2, x3, x4⟩, hcl⟩ := HAt.out we HBe.out
          have HSc : Hid (∀ k u, (RR.clm.flatMap C.spc)[k]? = some u → we.cell? ((⟨gx, 0, none⟩ : Addr).add k) = some u) := cin_src (cin_own hcl (by have := HcU.out.2.2.2.2; omega))
          obtain ⟨PR, hPR⟩ : ∃ x, (rs.take j).flatMap Rr.clm = x := ⟨_, rfl⟩
          have HPR : Hid ((rs.take j).flatMap Rr.clm = PR) := hPR
          have HAl : Hid (C.SOwn we w3.heap.size (.slice av nv cv) PR) := by show C.SOwn _ _ _ _; rw [← hPR]; exact HJ.out.1.1.below HAe.out
          have HNV : Hid (PR.length = nv) := C.SOwn.len2 HAl.out
          clear hPR
          have HSz : Hid (w3.heap.size ≤ we.heap.size) := HBe.out.size
          clear hcl
          go_wp2_with (at_builtin; refine wpList_append_own_at _ rfl _ _ 26 rfl w3.heap.size 36 i0 (.agg #[.int .i64 0, .int .i64 0]) 2 16 Tryd.underlying26 hi0 hz0 hy0 hb0 rfl (by decide) _ _ _ rfl HAl.out ⟨gx, 0, none⟩ K xc (RR.clm.flatMap C.spc) rfl (by rw [C.spc_len, HcU.out.2.2.2.2]) HSc.out (one_sp _) (by have := HNV.out; unfold maxLen; omega) (by have := HNV.out; omega) HSz.out ?_)
          intro v6 w6 o6 g6 _ t6
          have e6 : (rs.take (j + 1)).flatMap Rr.clm = PR ++ RR.clm := by
            rw [List.take_add_one, HUj.out.2.2.2, List.flatMap_append, HPR.out]; simp
          have hs6 : C.SOwn w6 w3.heap.size v6 ((rs.take (j + 1)).flatMap Rr.clm) := by
            unfold C.SOwn
            rw [e6, List.length_append, HcU.out.2.2.2.2, List.flatMap_append]
            exact o6
          obtain ⟨a6, c6, hv6⟩ := hs6.shape
          have hl6 : ((rs.take (j + 1)).flatMap Rr.clm).length = nv + K := by rw [e6, List.length_append, HcU.out.2.2.2.2, HNV.out]
          rw [hl6] at hv6
          subst hv6
          have HB6 : Hid (Below w3.heap.size w3 w6) := HBe.out.grown g6 HBe.out.size (fun k e => (HAl.out.lt k e).1)
          have HS6 : Hid (C.SOwn w6 w3.heap.size (.slice a6 (nv + K) c6) ((rs.take (j + 1)).flatMap Rr.clm)) := hs6
          clear o6 g6 t6 hs6 e6 hl6 x0 x1 x2 x3 x4 HSc HAl HNV HPR HSz HAe HBe
          obtain ⟨⟨x0, x1, x2, x3, x4⟩, _⟩ := HAt.out w6 HB6.out
          have hwN : IntKind.i64.wrap ((N : Int) - 1) = (N : Int) - 1 := by rw [IntKind.wrap_i64]; omega
          have hwj : IntKind.i64.wrap ((j : Int) + 1) = (j : Int) + 1 := by rw [IntKind.wrap_i64]; omega
          by_cases hN1 : j + 1 = N
          · have hEq : ((j : Int) == (N : Int) - 1) = true := by simp; omega
            go_wp2
            go_roundw
            case rel => exact ⟨j + 1, a6, nv + K, c6, U, by omega, rfl, rfl, by go_num, by omega, hid_and (hid_and HS6.out HUj.out.1.symm) HB6.out⟩
            case measure => simp [intOf]; omega
          · have hEq : ((j : Int) == (N : Int) - 1) = false := by simp; omega
            by_cases hK : K = 1000
            · have hEk : ((K : Int) == 1000) = true := by simp; omega
              go_wp2
              go_roundw
              case rel => exact ⟨j + 1, a6, nv + K, c6, U, by omega, rfl, rfl, by go_num, by omega, hid_and (hid_and HS6.out HUj.out.1.symm) HB6.out⟩
              case measure => simp [intOf]; omega
            · have hEk : ((K : Int) == 1000) = false := by simp; omega
              obtain ⟨mOk, mLn, mGet, mTake, mUp, mNe⟩ := HC.out.more HOK.out (i := j) (by rw [HN.out]; omega) (by rw [HUj.out.2.1]; exact hK)
              obtain ⟨_, _, _, hr1, _, _, _⟩ := HC.out.one (j + 1) (by rw [HN.out]; omega)
              obtain ⟨n1, n2, n3⟩ := HC.out.num HOK.out (show j + 1 < rs.length by rw [HN.out]; omega)
              rw [HUj.out.2.1] at mOk mLn mTake mUp
              have hclm : RR.clm = (LL j).take K := by rw [HUj.out.2.2.1]; show (LL j).take (NN j) = _; rw [HUj.out.2.1]
              obtain ⟨K1, hK1⟩ : ∃ x, NN (j + 1) = x := ⟨_, rfl⟩
              obtain ⟨R1, hR1⟩ : ∃ x, rep5 ⟨o, n, mtu, ck, up⟩ (LO (j + 1)) (sr + ((j + 1 : Nat) : Int)) (LL (j + 1)) (NN (j + 1)) = x := ⟨_, rfl⟩
              rw [hR1] at hr1
              have hc1 : R1.clm = (LL (j + 1)).take K1 := by rw [← hR1, ← hK1]; rfl
              rw [hK1] at n1 n2 n3
              have hl1 : R1.clm.length = K1 := by rw [hc1, List.length_take]; omega
              obtain ⟨p, hp⟩ := get_one (LL (j + 1)) 0 (by omega)
              have hp1 : R1.clm[0]? = some p := by rw [hc1, List.getElem?_take, if_pos (by omega)]; exact hp
              have hU1 : R1.upp = upA up (LL (j + 1)) K1 := by rw [← hR1, ← hK1]; rfl
              obtain ⟨o1, ho1, horr1⟩ : ∃ o1, os[j + 1]? = some o1 ∧ o1.r = R1 := by
                rw [HOS.out, List.getElem?_map] at hr1
                exact Option.map_eq_some_iff.mp hr1
              obtain ⟨gy, hgy⟩ : ∃ g, o1.a = some ⟨g, 0, none⟩ := by
                have h4 := (rep_at HR5.out (btr' HS3.out HBa.out) HOL.out ho1).2
                obtain ⟨g, cap, hv2⟩ := C.own_some h4 (by rw [horr1]; omega)
                simp only [Value.slice.injEq] at hv2
                exact ⟨g, hv2.1⟩
              obtain ⟨yc, hyc⟩ : ∃ x, o1.c = x := ⟨_, rfl⟩
              obtain ⟨U1, hU1'⟩ : ∃ x, R1.upp = x := ⟨_, rfl⟩
              obtain ⟨j1, hj1⟩ : ∃ x, j + 1 = x := ⟨_, rfl⟩
              have HP1 : Hid (∀ V, Below w3.heap.size w3 V → V.cell? ⟨gl, j1 * 5 + 2, none⟩ = some (.int .i64 U1) ∧ V.cell? ⟨gl, j1 * 5 + 4, none⟩ = some (.slice (some ⟨gy, 0, none⟩) K1 yc) ∧ V.cell? ⟨gy, 0, none⟩ = some (.int .i64 p.1) ∧ V.cell? ⟨gy, 1, none⟩ = some (.int .i64 p.2) ∧ ∀ p1, R1.clm[1]? = some p1 → V.cell? ⟨gy, 2, none⟩ = some (.int .i64 p1.1)) := fun V hV => by
                obtain ⟨⟨_, _, h5, _, h6⟩, h7⟩ := rep_at HR5.out (btr' HS3.out hV) HOL.out ho1
                rw [horr1, hU1', hj1] at h5
                rw [horr1, hgy, hyc, hl1, hj1] at h6
                rw [horr1, hgy, hyc, hl1] at h7
                obtain ⟨q1, q2, _⟩ := C.SOwn.cells2 h7 hp1
                refine ⟨h5, h6, by simpa using q1, by simpa using q2, fun p1 hp1 => ?_⟩
                have := (C.SOwn.cells2 h7 hp1).1
                simpa using this
              obtain ⟨M, hM⟩ : ∃ x, rep5 ⟨o, n, mtu, ck, up⟩ (LO j) (sr + j) (LL j) (K + 1) = x := ⟨_, rfl⟩
              rw [hM] at mOk mLn
              have hMc : M.clm = RR.clm ++ [p] := by
                rw [← hM, hclm]
                show (LL j).take (K + 1) = _
                rw [mTake, List.take_add_one, hp]; rfl
              have hMu : M.upp = upA up (LL (j + 1)) 1 := by rw [← hM, ← mUp]; rfl
              have HM : Hid (M.ser = sr + j ∧ M.chk = ck ∧ M.low = q ∧ M.clm.length = K + 1 ∧ M.Ok ∧ M.clm = RR.clm ++ [p]) := ⟨by rw [← hM]; rfl, by rw [← hM]; rfl, by rw [← hM, ← HJ.out.1.2]; rfl, by rw [hMc, List.length_append, HcU.out.2.2.2.2]; rfl, mOk, hMc⟩
              obtain ⟨LM, hLM⟩ : ∃ x, ln5 ⟨o, n, mtu, ck, up⟩ M = x := ⟨_, rfl⟩
              have hbig : mtu < (LM : Int) := by rw [← hLM]; exact mLn
              have HLM : Hid (ln5 ⟨o, n, mtu, ck, up⟩ M = LM) := hLM
              have hmu : (K1 = 1 → M.upp = U1) ∧ (∀ p1, R1.clm[1]? = some p1 → M.upp = p1.1) ∧ (1 < K1 → ∃ p1, R1.clm[1]? = some p1) := by
                refine ⟨fun h => ?_, fun p1 h => ?_, fun h => get_one _ 1 (by omega)⟩
                · rw [hMu, ← hU1', hU1, h]
                · rw [hc1, List.getElem?_take] at h
                  split at h
                  · rw [hMu]; unfold upA; rw [h]; rfl
                  · cases h
              have HMu : Hid ((K1 = 1 → M.upp = U1) ∧ (∀ p1, R1.clm[1]? = some p1 → M.upp = p1.1) ∧ (1 < K1 → ∃ p1, R1.clm[1]? = some p1)) := hmu
              clear hmu
              clear mOk mLn mGet mTake mUp mNe hr1 n2 n3 hclm hK1 hR1 hc1 hl1 hp hp1 hU1 ho1 horr1 hgy hyc hU1' hM hMc hMu hLM hwj
              as_aux_lemma =>
               have hwj1 : IntKind.i64.wrap ((j : Int) + 1) = (j1 : Int) := by rw [IntKind.wrap_i64]; omega
               have hk10 : ((K1 : Int) == 0) = false := by simp; omega
               have hji : (j1 : Int) < (N : Int) := by omega
               have hj10 : (0 : Int) ≤ (j1 : Int) := by omega
               have hK10 : (0 : Int) < (K1 : Int) := by omega
               obtain ⟨t2, t4, t5, t6, _⟩ := HP1.out w6 HB6.out
               go_upto_region 24 with fail
               obtain ⟨wm, hwm⟩ : ∃ x, w6.alloc (.cells #[.int .i64 (sr + j), .int .i64 ck, .int .i64 U, .int .i64 q, .slice (some ⟨gx, 0, none⟩) K xc] 75) = x := ⟨_, rfl⟩
               obtain ⟨Bm, hBm⟩ : ∃ x, w6.heap.size = x := ⟨_, rfl⟩
               have HRm : Hid (wm.heap[Bm]? = some (.cells #[.int .i64 (sr + j), .int .i64 ck, .int .i64 U, .int .i64 q, .slice (some ⟨gx, 0, none⟩) K xc] 75 (0, 0)) ∧ wm.heap.size = Bm + 1 ∧ w6.heap.size = Bm) := by show _ ∧ _ ∧ _; rw [← hwm, ← hBm]; exact ⟨al_new _ _, by simp, rfl⟩
               have HDm : Hid (Below w6.heap.size w6 wm) := by show Below _ _ _; rw [← hwm]; exact (Below.refl _ _).alloc (Nat.le_refl _) _
               rw [hwm, hBm]
               clear hwm hBm x0 x1 x2 x3 x4 t2 t4 t5 t6
               obtain ⟨⟨x0, x1, x2, x3, x4⟩, hcm⟩ := HAt.out wm (btr' HB6.out HDm.out)
               have HSm : Hid (∀ k u, (RR.clm.flatMap C.spc)[k]? = some u → wm.cell? ((⟨gx, 0, none⟩ : Addr).add k) = some u) := cin_src (cin_own hcm (by have := HcU.out.2.2.2.2; omega))
               clear hcm
               go_wp2_with (at_builtin; refine wpList_append_own_at _ rfl _ _ 26 rfl wm.heap.size 36 i0 (.agg #[.int .i64 0, .int .i64 0]) 2 16 Tryd.underlying26 hi0 hz0 hy0 hb0 rfl (by decide) _ _ _ rfl (World.ownsRow_nil _ _ _ _) ⟨gx, 0, none⟩ K xc (RR.clm.flatMap C.spc) rfl (by rw [C.spc_len, HcU.out.2.2.2.2]) HSm.out (one_sp _) (by unfold maxLen; omega) (by omega) (Nat.le_refl _) ?_)
               intro v7 w7 o7 g7 _ t7
               have hs7 : C.SOwn w7 wm.heap.size v7 RR.clm := by unfold C.SOwn; rw [HcU.out.2.2.2.2]; simpa using o7
               obtain ⟨a7, c7, hv7⟩ := hs7.shape
               rw [HcU.out.2.2.2.2] at hv7
               subst hv7
               have HE7 : Hid (Below wm.heap.size wm w7) := (Below.refl _ _).grown g7 (Nat.le_refl _) (fun k e => by cases e)
               have HS7 : Hid (C.SOwn w7 wm.heap.size (.slice a7 K c7) RR.clm) := hs7
               clear o7 g7 t7 hs7 x0 x1 x2 x3 x4 HSm
               have HB7 : Hid (Below w3.heap.size w3 w7) := btr' HB6.out (btr' HDm.out HE7.out)
               obtain ⟨t2, t4, t5, t6, _⟩ := HP1.out w7 HB7.out
               have HS7a : Hid (C.SOwn (w7.alloc (.cells #[.int .i64 p.1, .int .i64 p.2] 36)) wm.heap.size (.slice a7 K c7) RR.clm) := HS7.out.below ((Below.refl _ _).alloc (Nat.le_refl _) _)
               have HLn : Hid (RR.clm.length = K) := HcU.out.2.2.2.2
               have HZ7 : Hid (wm.heap.size ≤ w7.heap.size) := HE7.out.size
               go_wp2_with (at_builtin; refine wpList_append_own_at _ rfl _ _ 26 rfl wm.heap.size 36 i0 (.agg #[.int .i64 0, .int .i64 0]) 2 16 Tryd.underlying26 hi0 hz0 hy0 hb0 rfl (by decide) _ _ _ rfl HS7a.out ⟨w7.heap.size, 0, none⟩ 1 1 [.int .i64 p.1, .int .i64 p.2] rfl rfl (lit2 _ _ _) (by intro u hu; simp at hu; rcases hu with rfl | rfl <;> rfl) (by have := HLn.out; unfold maxLen; omega) (by have := HLn.out; omega) (by have := HZ7.out; simp; omega) ?_)
               intro v8 w8 o8 g8 _ t8
               have hs8 : C.SOwn w8 wm.heap.size v8 M.clm := by rw [HM.out.2.2.2.2.2]; exact C.SOwn.app3 o8
               obtain ⟨a8, c8, hv8⟩ := hs8.shape
               rw [HM.out.2.2.2.1] at hv8
               subst hv8
               have HE8 : Hid (Below wm.heap.size wm w8) := (HE7.out.alloc HE7.out.size _).grown g8 (HE7.out.alloc HE7.out.size _).size (fun k e => (HS7a.out.lt k e).1)
               have HS8 : Hid (C.SOwn w8 wm.heap.size (.slice a8 (K + 1) c8) M.clm) := hs8
               have HR8 : Hid (w8.heap[Bm]? = some (.cells #[.int .i64 (sr + j), .int .i64 ck, .int .i64 U, .int .i64 q, .slice (some ⟨gx, 0, none⟩) K xc] 75 (0, 0))) := (HE8.out.block _ (by rw [HRm.out.2.1]; omega)).trans HRm.out.1
               clear o8 g8 t8 hs8 t2 t4 t5 t6 HS7a HZ7
               have f4 := frozen_of_row _ _ 4 _ _ HR8.out
               obtain ⟨r0, r1, r2, r3, r4⟩ := rw5 HR8.out
               go_upto_region 27 with fail
               obtain ⟨w9, hw9⟩ : ∃ x, w8.setCell ⟨Bm, 4, none⟩ (.slice a8 (K + 1) c8) = x := ⟨_, rfl⟩
               have HR9 : Hid (w9.heap[Bm]? = some (.cells #[.int .i64 (sr + j), .int .i64 ck, .int .i64 U, .int .i64 q, .slice a8 (K + 1) c8] 75 (0, 0))) := by show _ = _; rw [← hw9]; exact heap_setCell_same _ _ _ _ _ _ HR8.out
               have HD9 : Hid (Below w6.heap.size w6 w9) := by show Below _ _ _; rw [← hw9]; exact (btr' HDm.out HE8.out).setCell (by show _ ≤ Bm; have := HRm.out.2.2; omega) _
               have HS9 : Hid (C.SOwn w9 wm.heap.size (.slice a8 (K + 1) c8) M.clm) := by show C.SOwn _ _ _ _; rw [← hw9]; exact C.SOwn.blk2 HS8.out (fun g hg => heap_setCell_other _ _ _ _ (by have h1 := (HS8.out.lt g hg).1; have h2 := HRm.out.2.1; show g ≠ Bm; omega))
               rw [hw9]
               clear hw9 f4 r0 r1 r2 r3 r4
               have f2 := frozen_of_row _ _ 2 _ _ HR9.out
               obtain ⟨r0, r1, r2, r3, r4⟩ := rw5 HR9.out
               obtain ⟨t2, t4, t5, t6, _⟩ := HP1.out w9 (btr' HB6.out HD9.out)
               go_upto_region 28 with fail
               obtain ⟨w10, hw10⟩ : ∃ x, w9.setCell ⟨Bm, 2, none⟩ (.int .i64 U1) = x := ⟨_, rfl⟩
               have HR10 : Hid (w10.heap[Bm]? = some (.cells #[.int .i64 (sr + j), .int .i64 ck, .int .i64 U1, .int .i64 q, .slice a8 (K + 1) c8] 75 (0, 0))) := by show _ = _; rw [← hw10]; exact heap_setCell_same _ _ _ _ _ _ HR9.out
               have HD10 : Hid (Below w6.heap.size w6 w10) := by show Below _ _ _; rw [← hw10]; exact HD9.out.setCell (by show _ ≤ Bm; have := HRm.out.2.2; omega) _
               have HS10 : Hid (C.SOwn w10 wm.heap.size (.slice a8 (K + 1) c8) M.clm) := by show C.SOwn _ _ _ _; rw [← hw10]; exact C.SOwn.blk2 HS9.out (fun g hg => heap_setCell_other _ _ _ _ (by have h1 := (HS9.out.lt g hg).1; have h2 := HRm.out.2.1; show g ≠ Bm; omega))
               rw [hw10]
               clear hw10 f2 r0 r1 r2 r3 r4 t2 t4 t5 t6
               obtain ⟨t2, t4, t5, t6, t7⟩ := HP1.out w10 (btr' HB6.out HD10.out)
               have HT7 : Hid (∀ p1, R1.clm[1]? = some p1 → w10.cell? ⟨gy, 2, none⟩ = some (.int .i64 p1.1)) := t7
               clear t7
               by_cases hk1 : K1 = 1
               · have hkg : ¬ (1 : Int) < (K1 : Int) := by omega
                 have hkd : decide ((1 : Int) < (K1 : Int)) = false := by simp; omega
                 have HRX : Hid (w10.heap[Bm]? = some (.cells #[.int .i64 (sr + j), .int .i64 ck, .int .i64 U1, .int .i64 q, .slice a8 (K + 1) c8] 75 (0, 0))) := HR10
                 have HDX : Hid (Below w6.heap.size w6 w10) := HD10
                 have HSX : Hid (C.SOwn w10 wm.heap.size (.slice a8 (K + 1) c8) M.clm) := HS10
                 go_upto_region 30 with fail
                 clear t2 t4 t5 t6
                 have HUX : Hid (M.upp = U1) := HMu.out.1 hk1
                 have hSgm := rqSegment_ok ⟨o, n, mtu, ck, up⟩ HOK.out M HM.out.2.2.2.2.1 a8 (K + 1) c8 HM.out.2.2.2.1 w10 (cin_own HSX.out (by rw [HM.out.2.2.2.1]; omega))
                 simp only [rpA, rsC, HM.out.1, HM.out.2.1, HM.out.2.2.1, HUX.out] at hSgm
                 have HBX : Hid (Below w3.heap.size w3 w10) := btr' HB6.out HDX.out
                 obtain ⟨y0, y1, y2, y3, y4, y5, y6⟩ := ask_cells6 (HY.out w10 HBX.out)
                 obtain ⟨r0, r1, r2, r3, r4⟩ := rw5 HRX.out
                 go_wp2_with fail
                 refine hSgm.mono ?_
                 rintro e wy ⟨a9, c9, rfl, hc9, hb9⟩
                 have HPr : Hid (∀ V, Below wy.heap.size wy V → Calls Tryd.prog 44 #[.agg #[.int .i64 8, .int .i64 o, .int .i64 n, .slice none 0 0, .slice none 0 0, .int .i64 0, .int .i64 0, .slice none 0 0, .int .i64 ck, .int .i64 (sr + j), .int .i64 (U1), .int .i64 q, .slice a9 (K + 1) c9, .int .i64 0]] V fun e w' => ∃ b cb, e = .returned (.tuple #[.slice b LM cb, .int .i64 0]) ∧ Below V.heap.size V w') := fun V hV => by
                   have hp := rqPrint_ok ⟨o, n, mtu, ck, up⟩ HOK.out M HM.out.2.2.2.2.1 a9 (K + 1) c9 HM.out.2.2.2.1 V (hc9.below hV)
                   simp only [rsC, HM.out.1, HM.out.2.1, HM.out.2.2.1, HUX.out, HLM.out] at hp
                   exact hp
                 have HDy : Hid (Below w6.heap.size w6 wy) := btr' HDX.out hb9
                 clear hSgm hc9 hb9 y0 y1 y2 y3 y4 y5 y6 r0 r1 r2 r3 r4
                 go_wp2_with fail
                 refine (HPr.out _ ((Below.refl _ _).alloc (Nat.le_refl _) _)).mono ?_
                 rintro e wf ⟨b9, cb9, rfl, hbf⟩
                 have HDf : Hid (Below w6.heap.size w6 wf) := btr' HDy.out (btr' ((Below.refl _ _).alloc (Nat.le_refl _) _) hbf)
                 have HBf : Hid (Below w3.heap.size w3 wf) := btr' HB6.out HDf.out
                 clear hbf HPr
                 obtain ⟨y0, y1, y2, y3, y4, y5, y6⟩ := ask_cells6 (HY.out wf HBf.out)
                 have hd3 : decide ((LM : Int) ≤ mtu) = false := by simp; omega
                 have hd4 : ¬ (LM : Int) ≤ mtu := by omega
                 go_wp2
                 go_roundw
                 case rel => exact ⟨j1, a6, nv + K, c6, U, by omega, rfl, rfl, by first | rfl | go_num, by omega, hid_and (hid_and (by rw [← hj1]; exact HS6.out.below HDf.out) (by rw [← hj1]; exact HUj.out.1.symm)) HBf.out⟩
                 case measure => simp [intOf]; omega
               · have hkg : (1 : Int) < (K1 : Int) := by omega
                 obtain ⟨p1, hp1⟩ := HMu.out.2.2 (by omega)
                 have t7 := HT7.out p1 hp1
                 have HUq : Hid (M.upp = p1.1) := HMu.out.2.1 p1 hp1
                 clear hp1
                 have f2 := frozen_of_row _ _ 2 _ _ HR10.out
                 obtain ⟨r0, r1, r2, r3, r4⟩ := rw5 HR10.out
                 go_upto_region 30 with fail
                 obtain ⟨w11, hw11⟩ : ∃ x, w10.setCell ⟨Bm, 2, none⟩ (.int .i64 p1.1) = x := ⟨_, rfl⟩
                 have HRX : Hid (w11.heap[Bm]? = some (.cells #[.int .i64 (sr + j), .int .i64 ck, .int .i64 p1.1, .int .i64 q, .slice a8 (K + 1) c8] 75 (0, 0))) := by show _ = _; rw [← hw11]; exact heap_setCell_same _ _ _ _ _ _ HR10.out
                 have HDX : Hid (Below w6.heap.size w6 w11) := by show Below _ _ _; rw [← hw11]; exact HD10.out.setCell (by show _ ≤ Bm; have := HRm.out.2.2; omega) _
                 have HSX : Hid (C.SOwn w11 wm.heap.size (.slice a8 (K + 1) c8) M.clm) := by show C.SOwn _ _ _ _; rw [← hw11]; exact C.SOwn.blk2 HS10.out (fun g hg => heap_setCell_other _ _ _ _ (by have h1 := (HS10.out.lt g hg).1; have h2 := HRm.out.2.1; show g ≠ Bm; omega))
                 rw [hw11]
                 clear hw11 f2 r0 r1 r2 r3 r4 t2 t4 t5 t6 t7
                 have HUX : Hid (M.upp = p1.1) := HUq.out
                 have hSgm := rqSegment_ok ⟨o, n, mtu, ck, up⟩ HOK.out M HM.out.2.2.2.2.1 a8 (K + 1) c8 HM.out.2.2.2.1 w11 (cin_own HSX.out (by rw [HM.out.2.2.2.1]; omega))
                 simp only [rpA, rsC, HM.out.1, HM.out.2.1, HM.out.2.2.1, HUX.out] at hSgm
                 have HBX : Hid (Below w3.heap.size w3 w11) := btr' HB6.out HDX.out
                 obtain ⟨y0, y1, y2, y3, y4, y5, y6⟩ := ask_cells6 (HY.out w11 HBX.out)
                 obtain ⟨r0, r1, r2, r3, r4⟩ := rw5 HRX.out
                 go_wp2_with fail
                 refine hSgm.mono ?_
                 rintro e wy ⟨a9, c9, rfl, hc9, hb9⟩
                 have HPr : Hid (∀ V, Below wy.heap.size wy V → Calls Tryd.prog 44 #[.agg #[.int .i64 8, .int .i64 o, .int .i64 n, .slice none 0 0, .slice none 0 0, .int .i64 0, .int .i64 0, .slice none 0 0, .int .i64 ck, .int .i64 (sr + j), .int .i64 (p1.1), .int .i64 q, .slice a9 (K + 1) c9, .int .i64 0]] V fun e w' => ∃ b cb, e = .returned (.tuple #[.slice b LM cb, .int .i64 0]) ∧ Below V.heap.size V w') := fun V hV => by
                   have hp := rqPrint_ok ⟨o, n, mtu, ck, up⟩ HOK.out M HM.out.2.2.2.2.1 a9 (K + 1) c9 HM.out.2.2.2.1 V (hc9.below hV)
                   simp only [rsC, HM.out.1, HM.out.2.1, HM.out.2.2.1, HUX.out, HLM.out] at hp
                   exact hp
                 have HDy : Hid (Below w6.heap.size w6 wy) := btr' HDX.out hb9
                 clear hSgm hc9 hb9 y0 y1 y2 y3 y4 y5 y6 r0 r1 r2 r3 r4
                 go_wp2_with fail
                 refine (HPr.out _ ((Below.refl _ _).alloc (Nat.le_refl _) _)).mono ?_
                 rintro e wf ⟨b9, cb9, rfl, hbf⟩
                 have HDf : Hid (Below w6.heap.size w6 wf) := btr' HDy.out (btr' ((Below.refl _ _).alloc (Nat.le_refl _) _) hbf)
                 have HBf : Hid (Below w3.heap.size w3 wf) := btr' HB6.out HDf.out
                 clear hbf HPr
                 obtain ⟨y0, y1, y2, y3, y4, y5, y6⟩ := ask_cells6 (HY.out wf HBf.out)
                 have hd3 : decide ((LM : Int) ≤ mtu) = false := by simp; omega
                 have hd4 : ¬ (LM : Int) ≤ mtu := by omega
                 go_wp2
                 go_roundw
                 case rel => exact ⟨j1, a6, nv + K, c6, U, by omega, rfl, rfl, by first | rfl | go_num, by omega, hid_and (hid_and (by rw [← hj1]; exact HS6.out.below HDf.out) (by rw [← hj1]; exact HUj.out.1.symm)) HBf.out⟩
                 case measure => simp [intOf]; omega
      · have hlt' : ¬ (j : Int) < (N : Int) := by omega
        have hjN : j = N := by omega
        have HqU : q = up := by rw [← HJ.out.1.2, hjN]; exact HUp.out
        have hall : (rs.take j).flatMap Rr.clm = L := by
          have h1 := HC.out.flat rs.length (Nat.le_refl _)
          rw [HC.out.fin, List.append_nil, HN.out] at h1
          rw [hjN]; exact h1
        have hSm := sameSpans_gen _ _ _ _ wa (cin_own HJ.out.1.1 (by rw [hall, HnL.out]; omega)) (cin_own (HW3.out.below HBa.out) (by rw [HnL.out]; omega))
        subst HqU
        obtain ⟨y0, y1, y2, y3, y4, y5, y6⟩ := ask_cells6 (HY.out wa HBa.out)
        go_wp2_with fail
        refine hSm.mono ?_
        rintro e wz ⟨qq, rfl, hqq, hbz⟩
        obtain rfl : qq = true := hqq hall
        have HF : Hid (Below W.heap.size W wz) := btr' HB0.out (btr' HB3.out (btr' HBa.out hbz))
        have HBz : Hid (Below w3.heap.size w3 wz) := btr' HBa.out hbz
        clear hSm hqq hbz y0 y1 y2 y3 y4 y5 y6
        obtain ⟨y0, y1, y2, y3, y4, y5, y6⟩ := ask_cells6 (HY.out wz HBz.out)
        go_wp2
        first | exact ⟨rfl, HF.out⟩ | (go_ret; exact ⟨rfl, HF.out⟩)

end Go.Proofs.YthbkabehjeidjaeDoor
