import Derived.Test.YtgmbpagbiakciagDoorRcTnM
import Derived.Test.YtgmbpagbiakciagDoorRcFst
namespace Go.Proofs.YtgmbpagbiakciagDoor
open Go.RowKit
set_option linter.unusedVariables false
set_option linter.unusedSimpArgs false

theorem sc_rhn {L : List Rc} {N m : Nat} {w w' : World} {e : Ending} (hL : L.length = m) (h : ScPost (L, N) w e w') : ∃ a c, e = .returned (.tuple #[.slice a m c, .int .i64 N]) ∧ Rh w' w.heap.size w'.heap.size a c L ∧ Below w.heap.size w w' := by
  subst hL
  exact sc_rh h

set_option maxRecDepth 100000 in
set_option maxHeartbeats 8000000 in
theorem torn_walk (l : List Rc) (a : Option Addr) (n c : Nat) (x y z : Int) (am : Option Addr) (zs : List Int) (lm cm : Nat) (w : World) (hT : Tab6 w) (hl : l.length = n) (hnc : n ≤ c) (hcc : c ≤ 140737488351232) (hn : n ≤ 1048576) (ha : RLin w a l) (hd : ∀ r ∈ l, Bytey r.data) (han : a = none → n = 0 ∧ c = 0)
    (hx : -9223372036854775808 ≤ x ∧ x ≤ 9223372036854775807) (hy : -9223372036854775808 ≤ y ∧ y ≤ 9223372036854775807) (hz : 0 ≤ z ∧ z ≤ 255)
    (hbm : Bytey zs) (hlm : zs.length = lm) (hlc : lm ≤ cm) (hcm : cm ≤ 1048576) (hzm : Lies .u8 w am zs) (hnm : am = none → lm = 0 ∧ cm = 0) :
    Calls Tryd.prog 4 #[.slice a n c, .int .i64 x, .int .i64 y, .int .u8 z, .slice am lm cm] w fun e w' => e = .returned (.bool true) ∧ Below w.heap.size w w' := by
  obtain ⟨i0, hinf, hz0, hz1, hz2⟩ := info_parts Tryd.info_u8
  obtain ⟨i1, hinf1, hy0, hy1, hy2⟩ := info_parts Tryd.info_int6
  have HTB : Hid (∀ W, Below w.heap.size w W → Tab6 W) := fun W hW => hT.below hW (tab6_pos hT)
  have HL : Hid (l.length = n) := hl
  have HA : Hid (∀ W, Below w.heap.size w W → RLin W a l) := fun W hW => ha.below hW
  have HD : Hid (∀ r ∈ l, Bytey r.data) := hd
  have HN : Hid (a = none → n = 0 ∧ c = 0) := han
  have HZM : Hid (∀ W, Below w.heap.size w W → Lies .u8 W am zs) := fun W hW => hzm.below hW
  have HBM : Hid (Bytey zs) := hbm
  have HLM : Hid (zs.length = lm) := hlm
  have HNM : Hid (am = none → lm = 0 ∧ cm = 0) := hnm
  have HFR : Hid (∀ W, Below w.heap.size w W → Calls Tryd.prog 12 #[.slice a n c] W (PrPost (fmR l) W)) := fun W hW => frame_any l a n c W (HTB.out W hW) hl hn (ha.below hW) hd
  have HSC : Hid (∀ W (ad : Option Addr) (ys : List Int) (k cc : Nat), Below w.heap.size w W → Bytey ys → ys.length = k → k ≤ cc → cc ≤ 9223372036854775807 → k ≤ 1099511627776 → Lies .u8 W ad ys → (ad = none ∧ cc = 0 ∨ ∃ g off, ad = some ⟨g, off, none⟩) → Calls Tryd.prog 13 #[.slice ad k cc] W (ScPost (scR ys) W)) := fun W ad ys k cc hW h1 h2 h3 h4 h5 h6 h7 => scan_any ad ys k cc W (HTB.out W hW) h1 h2 h3 h4 h5 h6 h7
  clear hT hl ha hd han hzm hbm hlm hnm
  obtain ⟨hx0, hx1⟩ := hx
  obtain ⟨hy3, hy4⟩ := hy
  obtain ⟨hz3, hz4⟩ := hz
  go_enter Tryd.func4, Tryd.ntmps4
  go_wp2_with (go_at_call 6; refine (awake6_any _ (HTB.out _ (Below.refl _ _))).mono ?_; rintro e w1 ⟨rfl, hb1⟩)
  have HB1 : Hid (Below w.heap.size w w1) := hb1
  clear hb1
  go_loopw [12, 13, 14] (fun v e i wr => ∃ (k : Nat), k ≤ n ∧ i = .int .i64 k ∧ (∀ r ∈ l.take k, mayB6 r = true) ∧ Th w wr v e l k) (fun _ _ i _ => n - (intOf i).toNat)
  case atStart => exact ⟨0, Nat.zero_le _, rfl, fun r hr => by simp at hr, by rw [frT_0]; simpa using World.ownsRow_nil w1 w.heap.size _ _, World.ownsRow_nil _ _ _ _, fun j hj => by simp [Value.ownBlock] at hj, HB1.out⟩
  case round =>
    obtain ⟨k, hk, rfl, hok, hth⟩ := hrel
    have HTH : Hid (Th w wr u12 u13 l k) := hth
    have HOK : Hid (∀ r ∈ l.take k, mayB6 r = true) := hok
    by_cases hlt : k < n
    · have hkl : k < l.length := by rw [HL.out]; exact hlt
      obtain ⟨r, hr⟩ : ∃ r, l[k]? = some r := ⟨l[k], List.getElem?_eq_getElem hkl⟩
      have hrm : r ∈ l := List.mem_of_getElem? hr
      obtain ⟨g, off, sa, da, sc, dc, rfl, hc, hri⟩ := (HA.out wr hth.bel).at hr
      have HRL : Hid (RLin wr (some ⟨g, off + k * 11, none⟩) [r]) := .inr ⟨g, off + k * 11, rfl, fun i q hq => by
        cases i with
        | zero =>
          simp at hq
          subst hq
          exact ⟨sa, da, sc, dc, fun j u hj => by have := hc j u hj; simpa using this, hri⟩
        | succ i => simp at hq⟩
      have c0 := hc 0 _ rfl
      have c1 := hc 1 _ rfl
      have c2 := hc 2 _ rfl
      have c3 := hc 3 _ rfl
      have c4 := hc 4 _ rfl
      have c5 := hc 5 _ rfl
      have c6 := hc 6 _ rfl
      have c7 := hc 7 _ rfl
      have c8 := hc 8 _ rfl
      have c9 := hc 9 _ rfl
      have c10 := hc 10 _ rfl
      simp only [Nat.add_zero] at c0
      have hlt' : (k : Int) < (n : Int) := by omega
      have hck : ¬ c = k := by omega
      have hcki : (k : Int) + 1 ≤ (c : Int) := by omega
      have hmb : frT l k ≤ 84000000000 := by
        have := fr_len HOK.out
        rw [List.length_take, HL.out, Nat.min_eq_left hk] at this
        unfold frT
        omega
      have HF1 := frame_any [r] (some ⟨g, off + k * 11, none⟩) 1 (c - k) wr (HTB.out _ hth.bel) rfl (by omega) HRL.out (fun q hq => by simp at hq; rw [hq]; exact HD.out r hrm)
      have HRG : Hid (∀ W, Below wr.heap.size wr W → Calls Tryd.prog 8 #[.agg (rcC r (.slice sa r.spans.length sc) (.slice da r.data.length dc))] W fun e w' => e = .returned (.int .i64 (prR r).2) ∧ Below W.heap.size W w') := fun W hW => rright_any r sa da _ _ sc dc W (HTB.out _ (HTH.out.bel.trans (hW.mono HTH.out.bel.size))) (hri.below hW)
      have HCL : Hid (∀ W, Below wr.heap.size wr W → ∀ j u, (rcC r (.slice sa r.spans.length sc) (.slice da r.data.length dc))[j]? = some u → W.cell? ⟨g, off + k * 11 + j, none⟩ = some u) := fun W hW j u hj => C.cell_below (hc j u hj) hW
      have HR : Hid (l[k]? = some r) := hr
      clear hc hri hr hok hth c0 c1 c2 c3 c4 c5 c6 c7 c8 c9 c10
      cases hm : mayB6 r with
      | false =>
        have HP2 : Hid ((prR r).2 = 60) := by unfold Hid prR; rw [hm]; rfl
        rw [fm_one_no hm] at HF1
        rw [HP2.out] at HRG
        clear hm HP2
        go_upto_region 8 with (go_at_call 12; refine HF1.mono ?_; rintro e w2 ⟨v2, rfl, ho2, hb2⟩)
        have hc2 := HCL.out w2 hb2
        have c0 := hc2 0 _ rfl
        have c1 := hc2 1 _ rfl
        have c2 := hc2 2 _ rfl
        have c3 := hc2 3 _ rfl
        have c4 := hc2 4 _ rfl
        have c5 := hc2 5 _ rfl
        have c6 := hc2 6 _ rfl
        have c7 := hc2 7 _ rfl
        have c8 := hc2 8 _ rfl
        have c9 := hc2 9 _ rfl
        have c10 := hc2 10 _ rfl
        simp only [Nat.add_zero] at c0
        have HB2 : Hid (Below wr.heap.size wr w2) := hb2
        clear hc2 hb2 ho2
        go_wp2_with (go_at_call 8; refine (HRG.out _ HB2.out).mono ?_; rintro e w3 ⟨rfl, hb3⟩)
        go_ret
        exact ⟨rfl, (HTH.out.bel.trans (HB2.out.mono HTH.out.bel.size)).trans (hb3.mono (Nat.le_trans HTH.out.bel.size HB2.out.size))⟩
      | true =>
        have HP2 : Hid ((prR r).2 = 0) := by unfold Hid prR; rw [hm]; rfl
        rw [fm_one hm] at HF1
        rw [HP2.out] at HRG
        have HOK2 : Hid (∀ q ∈ l.take (k + 1), mayB6 q = true) := takeOk6 HOK.out HR.out hm
        have HTK : Hid ((l.take (k + 1)).flatMap frB = (l.take k).flatMap frB ++ frB r) := by unfold Hid; rw [fr_take l hkl, (List.getElem?_eq_some_iff.mp HR.out).2]
        have HFT : Hid (frT l (k + 1) = frT l k + (frB r).length) := by unfold Hid; rw [frT_succ l hkl, (List.getElem?_eq_some_iff.mp HR.out).2]
        have hfl := frB_len r
        have hpl := prB_len hm
        clear hm HP2
        obtain ⟨q, hq⟩ : ∃ q, (frB r).length = q := ⟨_, rfl⟩
        have HQ : Hid ((frB r).length = q) := hq
        rw [hq] at HFT hfl
        obtain ⟨t, htt⟩ : ∃ t, frT l k = t := ⟨_, rfl⟩
        have HTT : Hid (frT l k = t) := htt
        rw [htt] at hmb HFT
        have hqb : q ≤ 80008 := by omega
        generalize hBB : frB r = B at *
        clear hq htt hfl hpl
        go_upto_region 8 with (go_at_call 12; refine HF1.mono ?_; rintro e w2 ⟨v2, rfl, ho2, hb2⟩; simp only [HQ.out] at ho2; obtain ⟨p2, x2, rfl, hlz2, hln2, hnx2, hcx2⟩ := row_sh2 ho2)
        have hc2 := HCL.out w2 hb2
        have c0 := hc2 0 _ rfl
        have c1 := hc2 1 _ rfl
        have c2 := hc2 2 _ rfl
        have c3 := hc2 3 _ rfl
        have c4 := hc2 4 _ rfl
        have c5 := hc2 5 _ rfl
        have c6 := hc2 6 _ rfl
        have c7 := hc2 7 _ rfl
        have c8 := hc2 8 _ rfl
        have c9 := hc2 9 _ rfl
        have c10 := hc2 10 _ rfl
        simp only [Nat.add_zero] at c0
        have HB2 : Hid (Below wr.heap.size wr w2) := hb2
        have HZN : Hid (p2 = none → q = 0 ∧ x2 = 0) := fun h => by
          obtain ⟨_, ⟨h1, h2⟩ | ⟨g', cap', cur, h1, _⟩⟩ := ho2
          · simp only [Value.slice.injEq] at h1; exact ⟨h1.2.1, h1.2.2⟩
          · rw [h] at h1; cases h1
        have HO2 : Hid (w2.ownsRow wr.heap.size 5 1 (.slice p2 q x2) q (B.map (Value.int .u8))) := ho2
        clear hc2 hb2 ho2 hlz2 hln2 hnx2 hcx2
        go_upto_region 13 with (go_at_call 8; refine (HRG.out _ HB2.out).mono ?_; rintro e w3 ⟨rfl, hb3⟩)
        have hb23 : Below wr.heap.size wr w3 := HB2.out.trans (hb3.mono HB2.out.size)
        have HT3 : Hid (Th w w3 u12 u13 l k) := HTH.out.below hb23
        have HZ3 : Hid (Lies .u8 w3 p2 B) := by obtain ⟨p', x', h1, h2, _⟩ := row_sh2 (own_below6 HO2.out hb3); simp only [Value.slice.injEq] at h1; obtain ⟨rfl, _, rfl⟩ := h1; exact h2
        have HR3 : Hid (w3.ownsRow w.heap.size 5 1 u12 t (((l.take k).flatMap frB).map (Value.int .u8))) := by have := HT3.out.row; rw [HTT.out] at this; exact this
        clear c0 c1 c2 c3 c4 c5 c6 c7 c8 c9 c10 hb3 hb23 HRG HF1
        go_upto_region 14 with (at_builtin; refine append_at _ rfl _ _ 25 rfl w.heap.size 5 i0 (.int .u8 0) 1 Tryd.underlying25 hinf hz0 hz1 hz2 rfl _ _ _ rfl HR3.out .u8 _ _ _ B rfl HZN.out HQ.out HZ3.out (by unfold maxLen; omega) (by omega) HT3.out.bel.size ?_; intro v4 w4 ho4 hg4 hf4)
        obtain ⟨p4, x4, rfl⟩ := own_sl ho4
        have hs4 := hg4.size
        have HV4 : Hid (w4.ownsRow w.heap.size 5 1 (.slice p4 (t + q) x4) (t + q) (((l.take (k + 1)).flatMap frB).map (Value.int .u8))) := by unfold Hid; rw [HTK.out, List.map_append]; exact ho4
        have HE4 : Hid (∀ o, (w4.alloc o).ownsRow w.heap.size 3 1 u13 k (endsL l k)) := fun o => (own_keep6 HT3.out.ends hg4 (fun j hj e => HT3.out.ne j e hj)).alloc o
        have HN4 : Hid (∀ j, (Value.slice p4 (t + q) x4).ownBlock = some j → u13.ownBlock ≠ some j) := fun j hj e => by
          rcases hf4 j hj with h | h
          · exact HT3.out.ne j h e
          · have := (HT3.out.ends.lt j e).2; omega
        have HB4 : Hid (Below w.heap.size w w4) := HT3.out.bel.grown hg4 HT3.out.bel.size (fun j hj => (HT3.out.row.lt j hj).1)
        clear ho4 hg4 hf4 HT3 HR3 HZ3 HO2
        go_wp2_with (at_builtin; refine wpList_append_own_at _ rfl _ _ 39 rfl w.heap.size 3 i1 (.int .i64 0) 1 8 Tryd.underlying39 hinf1 hy0 hy1 hy2 rfl (by decide) _ _ _ rfl (HE4.out _) ⟨w4.heap.size, 0, none⟩ 1 1 [.int .i64 ((t + q : Nat) : Int)] rfl rfl (cell_one_new _ _ _) (by intro u hu; simp at hu; subst hu; rfl) (by unfold maxLen; omega) (by omega) (by simp; have := HB4.out.size; omega) ?_; intro v5 w5 ho5 hg5 _ t5)
        have HE5 : Hid (w5.ownsRow w.heap.size 3 1 v5 (k + 1) (endsL l (k + 1))) := by unfold Hid; rw [endsL_succ, HFT.out]; exact ho5
        have hb45 : Below w4.heap.size w4 (w4.alloc (.cells #[.int .i64 ((t + q : Nat) : Int)] 3)) := (Below.refl _ _).alloc (Nat.le_refl _) _
        have HN5 : Hid (Th w w5 (.slice p4 (t + q) x4) v5 l (k + 1)) := by
          refine ⟨?_, HE5.out, fun j hj e => ?_, ?_⟩
          · rw [HFT.out]
            exact own_keep6 (HV4.out.alloc _) hg5 (fun j hj e => HN4.out j hj e)
          · rcases t5 with h | h
            · exact HN4.out j hj (h.symm.trans e)
            · rw [h] at e
              simp at e
              have := (HV4.out.lt j hj).2
              omega
          · exact (HB4.out.alloc HB4.out.size _).grown hg5 (by simp; have := HB4.out.size; omega) (fun j hj => ((HE4.out (.cells #[] 3)).lt j hj).1)
        clear ho5 hg5 t5 hb45 HE5
        go_wp2
        go_roundw
        case rel => exact ⟨k + 1, by omega, by go_num, HOK2.out, HN5.out⟩
        case measure => simp [intOf]; omega
    · obtain rfl : k = n := by omega
      have HM : Hid (∀ r ∈ l, mayB6 r = true ∧ Bytey r.data) := fun r hr => ⟨HOK.out r (by rw [List.take_of_length_le (by rw [HL.out]; exact Nat.le_refl _)]; exact hr), HD.out r hr⟩
      have HMO : Hid (∀ r ∈ l, mayB6 r = true) := fun r hr => (HM.out r hr).1
      have HTN : Hid (frT l k = (l.flatMap frB).length) := frT_all l (by rw [HL.out]; exact Nat.le_refl _)
      have HTK : Hid (l.take k = l) := List.take_of_length_le (by rw [HL.out]; exact Nat.le_refl _)
      have HFM : Hid (fmR l = (l.flatMap frB, 0)) := fmR_ok HMO.out
      have hTb := fr_len HMO.out
      rw [HL.out] at hTb
      have HBW : Hid (Bytey (l.flatMap frB)) := fr_bytey HM.out
      have HSA : Hid (scR (l.flatMap frB) = (l, (l.flatMap frB).length)) := scR_all HM.out
      rw [HFM.out] at HFR
      obtain ⟨pw, cw, rfl, hlw, hcw, hcw2⟩ := hth.lies
      obtain ⟨pe, ce, rfl⟩ := own_sl hth.ends
      obtain ⟨TT, hTT⟩ : ∃ t, (l.flatMap frB).length = t := ⟨_, rfl⟩
      have HLT : Hid ((l.flatMap frB).length = TT) := hTT
      have hcwT : TT ≤ cw := by rw [HTN.out, hTT] at hcw; exact hcw
      have hTTb : TT ≤ 84000000000 := by omega
      have HTE : Hid (frT l k = TT) := by unfold Hid; rw [HTN.out, hTT]
      clear hok hTb hcw hTT hlw
      have HTH : Hid (Th w wr (.slice pw TT cw) (.slice pe k ce) l k) := by have := HTH.out; rw [HTE.out] at this; exact this
      have HWL : Hid (∀ W, Below wr.heap.size wr W → Lies .u8 W pw (l.flatMap frB)) := fun W hW => by
        obtain ⟨a', c', h1, h2, _⟩ := (HTH.out.below hW).lies
        rw [HTK.out] at h2
        simp only [Value.slice.injEq] at h1
        obtain ⟨rfl, _, _⟩ := h1
        exact h2
      have HWA : Hid (pw = none ∧ cw = 0 ∨ ∃ g off, pw = some ⟨g, off, none⟩) := by have := HTH.out.row; rw [HTE.out] at this; exact row_ad this
      clear hth
      rw [HTE.out]
      go_upto_region 16 with (go_at_call 12; refine (HFR.out _ HTH.out.bel).mono ?_; rintro e w2 ⟨v2, rfl, ho2, hb2⟩; simp only [HLT.out] at ho2; obtain ⟨p2, x2, rfl, hlz2, hln2, hnx2, hcx2⟩ := row_sh2 ho2)
      have HB2 : Hid (Below wr.heap.size wr w2) := hb2
      go_upto_region 17 with (go_at_call 11; refine (sameBytes_eq p2 pw (l.flatMap frB) TT x2 cw _ HLT.out (by omega) hlz2 (HWL.out _ HB2.out)).mono ?_; rintro e w3 ⟨rfl, hb3⟩)
      have HB3 : Hid (Below wr.heap.size wr w3) := HB2.out.trans (hb3.mono HB2.out.size)
      have HS3 := HSC.out w3 pw (l.flatMap frB) TT cw (HTH.out.bel.trans (HB3.out.mono HTH.out.bel.size)) HBW.out HLT.out hcwT hcw2 (by omega) (HWL.out _ HB3.out) HWA.out
      rw [HSA.out, HLT.out] at HS3
      clear hb2 ho2 hlz2 hln2 hnx2 hcx2 hb3 HB2
      go_upto_region 18 with (go_at_call 13; refine HS3.mono ?_; intro e w4 hp4; obtain ⟨at4, ct4, rfl, hr4, hb4⟩ := sc_rh hp4; clear hp4)
      have HB4 : Hid (Below wr.heap.size wr w4) := HB3.out.trans (hb4.mono HB3.out.size)
      rw [HL.out]
      go_upto_region 21 with (go_at_call 14; refine (sameAll_eq l at4 a k ct4 c _ HL.out (by omega) hr4.lin (HA.out _ (HTH.out.bel.trans (HB4.out.mono HTH.out.bel.size)))).mono ?_; rintro e w5 ⟨rfl, hb5⟩)
      have HB5 : Hid (Below wr.heap.size wr w5) := HB4.out.trans (hb5.mono HB4.out.size)
      clear HS3 hr4 hb4 hb5 HB3 HB4
      have HT5 : Hid (Th w w5 (.slice pw TT cw) (.slice pe k ce) l k) := HTH.out.below HB5.out
      clear HTH HB5 HFR HSA
      by_cases hT0 : TT = 0
      · subst hT0
        go_wp2
        go_ret
        exact ⟨rfl, HT5.out.bel⟩
      · have hT0' : ¬ (TT : Int) = 0 := by omega
        by_cases hx' : x < 0
        · go_wp2
          go_ret
          exact ⟨rfl, HT5.out.bel⟩
        · by_cases hy' : y < 0
          · go_wp2
            go_ret
            exact ⟨rfl, HT5.out.bel⟩
          · have hk0 : 0 < k := by
              rcases Nat.eq_zero_or_pos k with h | h
              · subst h
                have h1 : l = [] := List.eq_nil_of_length_eq_zero HL.out
                have h2 := HLT.out
                rw [h1] at h2
                simp at h2
                omega
              · exact h
            obtain ⟨Cc, hC⟩ : ∃ Cc : Nat, Int.tmod x ((TT : Int) + 1) = (Cc : Int) := ⟨(Int.tmod x ((TT : Int) + 1)).toNat, by rw [Int.toNat_of_nonneg (Int.tmod_nonneg _ (by omega))]⟩
            have hCT : Cc ≤ TT := by have := Int.tmod_lt_of_pos x (show (0 : Int) < (TT : Int) + 1 by omega); omega
            obtain ⟨P, hP⟩ : ∃ P : Nat, Int.tmod y (TT : Int) = (P : Int) := ⟨(Int.tmod y (TT : Int)).toNat, by rw [Int.toNat_of_nonneg (Int.tmod_nonneg _ (by omega))]⟩
            have hPT : P < TT := by have := Int.tmod_lt_of_pos y (show (0 : Int) < (TT : Int) by omega); omega
            obtain ⟨K, hK1, hK2, hK3⟩ := cut_ex l Cc k (by rw [HL.out]; exact Nat.le_refl _)
            obtain ⟨J, hJ1, hJ2, hJ3⟩ := cut_ex l P k (by rw [HL.out]; exact Nat.le_refl _)
            have hJk : J < k := by
              rcases Nat.lt_or_ge J k with h | h
              · exact h
              · obtain rfl : J = k := by omega
                have := cut_lo hJ2
                rw [HTE.out] at this
                omega
            have HSK : Hid (scR ((l.flatMap frB).take Cc) = (l.take K, frT l K)) := scR_at HM.out (by rw [HLT.out]; exact hCT) (by rw [HL.out]; exact hK1) hK2 (by rw [HL.out]; exact hK3)
            have HK2 : Hid (∀ j, j < K → frT l (j + 1) ≤ Cc) := hK2
            have HK3 : Hid (K < k → Cc < frT l (K + 1)) := hK3
            have HJ2 : Hid (∀ j, j < J → frT l (j + 1) ≤ P) := hJ2
            have HJ3 : Hid (P < frT l (J + 1)) := hJ3 hJk
            obtain ⟨gw, cw', hvw⟩ := C.own_some HT5.out.row (by rw [HTE.out]; omega)
            rw [HTE.out] at hvw
            simp only [Value.slice.injEq] at hvw
            obtain ⟨rfl, _, rfl⟩ := hvw
            obtain ⟨ge, ce', hve⟩ := C.own_some HT5.out.ends hk0
            simp only [Value.slice.injEq] at hve
            obtain ⟨rfl, _, rfl⟩ := hve
            obtain ⟨g0, off0, rfl⟩ : ∃ g0 off0, a = some ⟨g0, off0, none⟩ := by
              rcases HA.out _ HT5.out.bel with h | ⟨g0, off0, h, _⟩
              · have := HL.out; rw [h] at this; simp at this; omega
              · exact ⟨g0, off0, h⟩
            have HLW : Hid (∀ W, Th w W (.slice (some ⟨gw, 0, none⟩) TT cw) (.slice (some ⟨ge, 0, none⟩) k ce) l k → Lies .u8 W (some ⟨gw, 0, none⟩) (l.flatMap frB)) := fun W hW => by
              obtain ⟨a', c', h1, h2, _⟩ := hW.lies
              rw [HTK.out] at h2
              simp only [Value.slice.injEq] at h1
              obtain ⟨rfl, _, _⟩ := h1
              exact h2
            have HEN : Hid (∀ W, Th w W (.slice (some ⟨gw, 0, none⟩) TT cw) (.slice (some ⟨ge, 0, none⟩) k ce) l k → ∀ j, j < k → W.cell? ⟨ge, j, none⟩ = some (.int .i64 ((frT l (j + 1) : Nat) : Int))) := fun W hW j hj => hW.end_at hj
            have hCi : (Cc : Int) ≤ (cw : Int) := by omega
            have hKc : (K : Int) ≤ (c : Int) := by omega
            have hJc : (J : Int) ≤ (c : Int) := by omega
            have HLK : Hid ((l.take K).length = K) := by unfold Hid; rw [List.length_take, HL.out]; omega
            have HLJ : Hid ((l.take J).length = J) := by unfold Hid; rw [List.length_take, HL.out]; omega
            clear hK2 hK3 hJ2 hJ3 HWL HWA
            go_upto_region 24 with fail
            clear hC
            go_wp2
            go_loop [25] (fun i => ∃ j : Nat, j ≤ K ∧ i = .int .i64 j) (fun i => K - (intOf i).toNat)
            case atStart => exact ⟨0, Nat.zero_le _, rfl⟩
            case round =>
              obtain ⟨j, hj, rfl⟩ := hrel
              by_cases hjK : j < K
              · have e1 := HEN.out _ HT5.out j (by omega)
                have h1 : (j : Int) < (k : Int) := by omega
                have h2 : ((frT l (j + 1) : Nat) : Int) ≤ (Cc : Int) := by have := HK2.out j hjK; omega
                generalize frT l (j + 1) = F at *
                go_wp2
                go_round
                case rel => exact ⟨j + 1, by omega, by go_num⟩
                case measure => simp [intOf]; omega
              · obtain rfl : j = K := by omega
                go_upto_region 25 with fail
                go_cut [135] from 123 to 137 (fun q wx => q = .bool false ∧ wx = w5)
                case first =>
                  by_cases hKk : j < k
                  · have e1 := HEN.out _ HT5.out j hKk
                    have h1 : (j : Int) < (k : Int) := by omega
                    have h2 : ¬ ((frT l (j + 1) : Nat) : Int) ≤ (Cc : Int) := by have := HK3.out hKk; omega
                    generalize frT l (j + 1) = F at *
                    go_wp2_with fail
                    go_meet
                    exact ⟨rfl, rfl⟩
                  · have h1 : ¬ (j : Int) < (k : Int) := by omega
                    go_wp2_with fail
                    go_meet
                    exact ⟨rfl, rfl⟩
                case rest =>
                  obtain ⟨rfl, rfl⟩ := hcut
                  have HS5 := HSC.out wc (some ⟨gw, 0, none⟩) ((l.flatMap frB).take Cc) Cc cw HT5.out.bel (bytTake HBW.out _) (by rw [List.length_take, HLT.out]; omega) (by omega) hcw2 (by omega) (lies_take (HLW.out _ HT5.out) Cc) (.inr ⟨gw, 0, rfl⟩)
                  rw [HSK.out] at HS5
                  clear HK2 HK3 HSK
                  go_upto_region 28 with (go_at_call 13; refine HS5.mono ?_; intro e w6 hp6; obtain ⟨a6, c6, rfl, hr6, hb6⟩ := sc_rhn HLK.out hp6; clear hp6)
                  have HT6 : Hid (Th w w6 (.slice (some ⟨gw, 0, none⟩) TT cw) (.slice (some ⟨ge, 0, none⟩) k ce) l k) := HT5.out.below hb6
                  have HL6 : Hid (RLin w6 a6 (l.take j)) := hr6.lin
                  have HA6 : Hid (RLin w6 (some ⟨g0, off0, none⟩) (l.take j)) := (HA.out _ HT6.out.bel).take j
                  clear hr6 hb6 HS5 HT5
                  go_upto_region 29 with (go_at_call 14; refine (sameAll_eq (l.take j) a6 _ j c6 c _ HLK.out (by omega) HL6.out HA6.out).mono ?_; rintro e w7 ⟨rfl, hb7⟩)
                  have HT7 : Hid (Th w w7 (.slice (some ⟨gw, 0, none⟩) TT cw) (.slice (some ⟨ge, 0, none⟩) k ce) l k) := HT6.out.below hb7
                  have HST : Hid (Calls Tryd.prog 15 #[.slice (some ⟨ge, 0, none⟩) k ce, .int .i64 j] w7 fun e w' => e = .returned (.int .i64 ((frT l j : Nat) : Int)) ∧ w7 = w') := start_any l ge k ce j w7 hK1 hn (HEN.out _ HT7.out)
                  clear hb7 HT6 HL6 HA6
                  generalize frT l j = F at *
                  go_upto_region 32 with (go_at_call 15; refine HST.out.mono ?_; rintro e w' ⟨rfl, rfl⟩)
                  clear hP HST
                  go_wp2
                  go_loop [30] (fun i => ∃ i' : Nat, i' ≤ J ∧ i = .int .i64 i') (fun i => J - (intOf i).toNat)
                  case atStart => exact ⟨0, Nat.zero_le _, rfl⟩
                  case round =>
                    obtain ⟨i', hi', rfl⟩ := hrel
                    have e1 := HEN.out _ HT7.out i' (by omega)
                    have h1 : (i' : Int) < (k : Int) := by omega
                    by_cases hiJ : i' < J
                    · have h2 : ((frT l (i' + 1) : Nat) : Int) ≤ (P : Int) := by have := HJ2.out i' hiJ; omega
                      generalize frT l (i' + 1) = F' at *
                      go_wp2
                      go_round
                      case rel => exact ⟨i' + 1, by omega, by go_num⟩
                      case measure => simp [intOf]; omega
                    · obtain rfl : i' = J := by omega
                      have h2 : ¬ ((frT l (i' + 1) : Nat) : Int) ≤ (P : Int) := by have := HJ3.out; omega
                      have HSJ : Hid (∀ W, Th w W (.slice (some ⟨gw, 0, none⟩) TT cw) (.slice (some ⟨ge, 0, none⟩) k ce) l k → Calls Tryd.prog 15 #[.slice (some ⟨ge, 0, none⟩) k ce, .int .i64 i'] W fun e w' => e = .returned (.int .i64 ((frT l i' : Nat) : Int)) ∧ W = w') := fun W hW => start_any l ge k ce i' W hJ1 hn (HEN.out _ hW)
                      have HJL : Hid (frT l i' ≤ P) := cut_lo HJ2.out
                      have HTU : Hid (∀ yv, (l.flatMap frB)[P]? = some yv → frT l i' + 4 ≤ P → z ≠ yv → scR ((l.flatMap frB).set P z) = (l.take i', frT l i')) := fun yv hyv h4 hne => scR_turn HM.out (by rw [HL.out]; exact hJk) h4 HJ3.out hyv ⟨hz3, hz4⟩ hne
                      obtain ⟨yv, hyv⟩ : ∃ yv, (l.flatMap frB)[P]? = some yv := ⟨_, List.getElem?_eq_getElem (by rw [HLT.out]; exact hPT)⟩
                      have HYV : Hid ((l.flatMap frB)[P]? = some yv) := hyv
                      go_upto_region 36 with fail
                      clear e1 h2 hyv
                      go_upto_region 37 with (at_builtin; refine append_at _ rfl _ _ 25 rfl w7.heap.size 5 i0 (.int .u8 0) 1 Tryd.underlying25 hinf hz0 hz1 hz2 rfl _ 0 [] rfl (World.ownsRow_nil _ _ _ _) .u8 _ _ _ (l.flatMap frB) rfl (fun h => by cases h) HLT.out (HLW.out _ HT7.out) (by unfold maxLen; omega) (by omega) (Nat.le_refl _) ?_; intro v8 w8 ho8 hg8 hf8)
                      rw [Nat.zero_add, List.nil_append] at ho8
                      have hb8 : Below w7.heap.size w7 w8 := ⟨hg8.os, hg8.tape, hg8.output, hg8.size, fun k hk => hg8.block k hk (fun e => by cases e)⟩
                      have HT8 : Hid (Th w w8 (.slice (some ⟨gw, 0, none⟩) TT cw) (.slice (some ⟨ge, 0, none⟩) k ce) l k) := HT7.out.below hb8
                      obtain ⟨gt, ct, rfl⟩ := C.own_some ho8 (by omega)
                      have HO8 : Hid (w8.ownsRow w7.heap.size 5 1 (.slice (some ⟨gt, 0, none⟩) TT ct) TT ((l.flatMap frB).map (Value.int .u8))) := ho8
                      have HLT7 : Hid ((∀ q, (Value.slice (some ⟨gw, 0, none⟩) TT cw).ownBlock = some q → q < w7.heap.size) ∧ (∀ q, (Value.slice (some ⟨ge, 0, none⟩) k ce).ownBlock = some q → q < w7.heap.size)) := ⟨fun q hq => (HT7.out.row.lt q hq).2, fun q hq => (HT7.out.ends.lt q hq).2⟩
                      have hs7 := HT7.out.bel.size
                      clear ho8 hg8 hf8 hb8 HT7
                      have e2 : w8.cell? ⟨gw, P, none⟩ = some (.int .u8 yv) := by
                        rcases HLW.out _ HT8.out with h | ⟨g', off', he, hce⟩
                        · have := HLT.out; rw [h] at this; simp at this; omega
                        · simp only [Option.some.injEq, Addr.mk.injEq, and_true] at he
                          obtain ⟨rfl, rfl⟩ := he
                          have := hce P (by rw [HLT.out]; exact hPT)
                          rw [Nat.zero_add, List.getD_eq_getElem?_getD, HYV.out] at this
                          exact this
                      have hPi : (P : Int) < (TT : Int) := by omega
                      obtain ⟨F2, hF2⟩ : ∃ F2, frT l i' = F2 := ⟨_, rfl⟩
                      rw [hF2] at HSJ HJL HTU
                      clear hF2
                      have hFP := HJL.out
                      obtain ⟨Bq, hBq⟩ : ∃ Bq : Bool, Bq = (decide (F2 + 4 ≤ P) && decide (¬ z = yv)) := ⟨_, rfl⟩
                      have HBQ : Hid (Bq = (decide (F2 + 4 ≤ P) && decide (¬ z = yv))) := hBq
                      clear hBq
                      go_cut [185] from 172 to 185 (fun q wx => q = .bool Bq ∧ wx = w8)
                      case first =>
                        by_cases h4 : F2 + 4 ≤ P
                        · have h4' : (4 : Int) ≤ (P : Int) - (F2 : Int) := by omega
                          by_cases hzy : z = yv
                          · have HV : Hid (Bq = false) := by unfold Hid; rw [HBQ.out, decide_eq_true h4, decide_eq_false (by simpa using hzy)]; rfl
                            clear HBQ
                            subst hzy
                            go_wp2_with (go_at_call 15; refine (HSJ.out _ HT8.out).mono ?_; rintro e w' ⟨rfl, rfl⟩)
                            go_meet
                            exact ⟨congrArg Value.bool (by first | exact HV.out.symm | (rw [HV.out]; simpa using hzy)), rfl⟩
                          · have HV : Hid (Bq = true) := by unfold Hid; rw [HBQ.out, decide_eq_true h4, decide_eq_true hzy]; rfl
                            clear HBQ
                            go_wp2_with (go_at_call 15; refine (HSJ.out _ HT8.out).mono ?_; rintro e w' ⟨rfl, rfl⟩)
                            go_meet
                            exact ⟨congrArg Value.bool (by first | exact HV.out.symm | (rw [HV.out]; simpa using hzy)), rfl⟩
                        · have h4' : ¬ (4 : Int) ≤ (P : Int) - (F2 : Int) := by omega
                          have HV : Hid (Bq = false) := by unfold Hid; rw [HBQ.out, decide_eq_false h4]; rfl
                          clear HBQ
                          go_wp2_with (go_at_call 15; refine (HSJ.out _ HT8.out).mono ?_; rintro e w' ⟨rfl, rfl⟩)
                          go_meet
                          exact ⟨congrArg Value.bool (by first | exact HV.out.symm | (rw [HV.out]; simpa using hzy)), rfl⟩
                      case rest =>
                        obtain ⟨rfl, rfl⟩ := hcut
                        by_cases hB : F2 + 4 ≤ P ∧ ¬ z = yv
                        · obtain rfl : Bq = true := by rw [HBQ.out, decide_eq_true hB.1, decide_eq_true hB.2]; rfl
                          have HSR : Hid (scR ((l.flatMap frB).set P z) = (l.take i', F2)) := HTU.out yv HYV.out hB.1 hB.2
                          have hDO : DOwn wc w7.heap.size (.slice (some ⟨gt, 0, none⟩) TT ct) (l.flatMap frB) := by unfold DOwn; rw [HLT.out]; exact HO8.out
                          obtain ⟨e3, e4⟩ := hDO.cells HYV.out
                          have hD9 := hDO.put P z
                          have hg9 := grown_set wc gt P (.int .u8 z)
                          have hlt9 : w7.heap.size ≤ gt := (HO8.out.lt gt rfl).1
                          have HT9 : Hid (Th w (wc.setCell ⟨gt, P, none⟩ (.int .u8 z)) (.slice (some ⟨gw, 0, none⟩) TT cw) (.slice (some ⟨ge, 0, none⟩) k ce) l k) := HT8.out.grown hg9 (lo := w7.heap.size) (fun q hq => by simp only [Option.some.injEq] at hq; omega) HLT7.out.1 HLT7.out.2 hs7
                          have HD9 : Hid (DOwn (wc.setCell ⟨gt, P, none⟩ (.int .u8 z)) w7.heap.size (.slice (some ⟨gt, 0, none⟩) TT ct) ((l.flatMap frB).set P z)) := hD9
                          clear hDO hD9 hg9 HT8 HO8 HTU
                          go_upto_region 39 with fail
                          clear e2 e3 e4
                          generalize wc.setCell ⟨gt, P, none⟩ (.int .u8 z) = w9 at *
                          have hln9 : ((l.flatMap frB).set P z).length = TT := by rw [List.length_set, HLT.out]
                          have hrw9 : w9.ownsRow w7.heap.size 5 1 (.slice (some ⟨gt, 0, none⟩) TT ct) TT (((l.flatMap frB).set P z).map (Value.int .u8)) := by have := HD9.out; unfold DOwn at this; rw [hln9] at this; exact this
                          obtain ⟨p9, x9, hv9, hlz9, _, hnx9, hcx9⟩ := row_sh2 hrw9
                          simp only [Value.slice.injEq] at hv9
                          obtain ⟨rfl, _, rfl⟩ := hv9
                          have HS9 := HSC.out w9 (some ⟨gt, 0, none⟩) ((l.flatMap frB).set P z) TT ct HT9.out.bel (fun q hq => by rcases List.mem_or_eq_of_mem_set hq with h | h; exact HBW.out q h; rw [h]; exact ⟨hz3, hz4⟩) hln9 hnx9 hcx9 (by omega) hlz9 (.inr ⟨gt, 0, rfl⟩)
                          rw [HSR.out] at HS9
                          clear hln9 hrw9 hlz9 hnx9 hcx9 HD9
                          go_upto_region 40 with (go_at_call 13; refine HS9.mono ?_; intro e w10 hp10; obtain ⟨a10, c10, rfl, hr10, hb10⟩ := sc_rhn HLJ.out hp10; clear hp10)
                          have HT10 : Hid (Th w w10 (.slice (some ⟨gw, 0, none⟩) TT cw) (.slice (some ⟨ge, 0, none⟩) k ce) l k) := HT9.out.below hb10
                          have HL10 : Hid (RLin w10 a10 (l.take i')) := hr10.lin
                          have HA10 : Hid (RLin w10 (some ⟨g0, off0, none⟩) (l.take i')) := (HA.out _ HT10.out.bel).take i'
                          clear hr10 hb10 HS9 HT9
                          go_upto_region 41 with (go_at_call 14; refine (sameAll_eq (l.take i') a10 _ i' c10 c _ HLJ.out (by omega) HL10.out HA10.out).mono ?_; rintro e w11 ⟨rfl, hb11⟩)
                          have HT11 : Hid (Th w w11 (.slice (some ⟨gw, 0, none⟩) TT cw) (.slice (some ⟨ge, 0, none⟩) k ce) l k) := HT10.out.below hb11
                          clear hb11 HT10 HL10 HA10
                          go_upto_region 44 with (go_at_call 15; refine (HSJ.out _ HT11.out).mono ?_; rintro e w' ⟨rfl, rfl⟩)
                          go_upto_region 45 with (at_builtin; refine append_at _ rfl _ _ 25 rfl w11.heap.size 5 i0 (.int .u8 0) 1 Tryd.underlying25 hinf hz0 hz1 hz2 rfl _ 0 [] rfl (World.ownsRow_nil _ _ _ _) .u8 _ _ _ (l.flatMap frB) rfl (fun h => by cases h) HLT.out (HLW.out _ HT11.out) (by unfold maxLen; omega) (by omega) (Nat.le_refl _) ?_; intro v12 w12 ho12 hg12 hf12)
                          rw [Nat.zero_add, List.nil_append] at ho12
                          have hb12 : Below w11.heap.size w11 w12 := ⟨hg12.os, hg12.tape, hg12.output, hg12.size, fun k hk => hg12.block k hk (fun e => by cases e)⟩
                          have HT12 : Hid (Th w w12 (.slice (some ⟨gw, 0, none⟩) TT cw) (.slice (some ⟨ge, 0, none⟩) k ce) l k) := HT11.out.below hb12
                          have HO12 : Hid (w12.ownsRow w11.heap.size 5 1 v12 TT ((l.flatMap frB).map (Value.int .u8))) := ho12
                          have HB12 : Hid (Below w11.heap.size w11 w12) := hb12
                          clear ho12 hg12 hf12 hb12
                          go_upto_region 46 with (at_builtin; refine append_at _ rfl _ _ 25 rfl w11.heap.size 5 i0 (.int .u8 0) 1 Tryd.underlying25 hinf hz0 hz1 hz2 rfl _ _ _ rfl HO12.out .u8 _ _ _ zs rfl HNM.out HLM.out (HZM.out _ HT12.out.bel) (by unfold maxLen; omega) (by omega) HB12.out.size ?_; intro v13 w13 ho13 hg13 hf13)
                          have hb13 : Below w11.heap.size w11 w13 := HB12.out.grown hg13 HB12.out.size (fun j hj => (HO12.out.lt j hj).1)
                          have hbl13 : Below w.heap.size w w13 := HT11.out.bel.trans (hb13.mono HT11.out.bel.size)
                          rw [← List.map_append] at ho13
                          obtain ⟨p13, x13, rfl, hlz13, hln13, hnx13, hcx13⟩ := row_sh2 ho13
                          have had13 := row_ad ho13
                          obtain ⟨ml, q13, hsr⟩ := scR_more HM.out HBM.out
                          have HS13 := HSC.out w13 p13 (l.flatMap frB ++ zs) (TT + lm) x13 hbl13 (bytey_app HBW.out HBM.out) hln13 hnx13 hcx13 (by omega) hlz13 had13
                          rw [hsr, HLT.out] at HS13
                          obtain ⟨mlen, hmlen⟩ : ∃ q, ml.length = q := ⟨_, rfl⟩
                          have hll : (l ++ ml).length = k + mlen := by rw [List.length_append, HL.out, hmlen]
                          have HB13 : Hid (Below w.heap.size w w13) := hbl13
                          clear ho13 hg13 hf13 hb13 hbl13 hlz13 hln13 hnx13 hcx13 had13 hsr
                          go_upto_region 47 with (go_at_call 13; refine HS13.mono ?_; intro e w14 hp14; obtain ⟨a14, c14, rfl, hr14, hb14⟩ := sc_rhn hll hp14; clear hp14)
                          have HB14 : Hid (Below w.heap.size w w14) := HB13.out.trans (hb14.mono HB13.out.size)
                          have hrw14 := hr14.row
                          have HLI : Hid (RLin w14 a14 l) := by have := hr14.lin.take k; rw [List.take_left' HL.out] at this; exact this
                          obtain ⟨cs14, hrow14, _⟩ := hrw14
                          rw [hll] at hrow14
                          obtain ⟨g14, cap14, hv14⟩ := C.own_some hrow14 (by omega)
                          simp only [Value.slice.injEq] at hv14
                          obtain ⟨rfl, _, rfl⟩ := hv14
                          have hcap : k + mlen ≤ c14 := by
                            obtain ⟨_, ⟨h, _⟩ | ⟨g', cap', cur, h, _, _, h1, _⟩⟩ := hrow14
                            · cases h
                            · simp only [Value.slice.injEq] at h
                              obtain ⟨_, _, rfl⟩ := h
                              omega
                          have hq1 : ¬ ((k : Int) + (mlen : Int) < (k : Int)) := by omega
                          have hq2 : ¬ ((TT : Int) + (q13 : Int) < (TT : Int)) := by omega
                          have hq3 : (k : Int) ≤ (c14 : Int) := by omega
                          have HAL : Hid (RLin w14 (some ⟨g0, off0, none⟩) l) := HA.out _ HB14.out
                          clear HS13 hr14 hb14 hrow14 hll hmlen
                          go_wp2_with (go_at_call 14; refine (sameAll_eq l _ _ k c14 c _ HL.out (by omega) HLI.out HAL.out).mono ?_; rintro e w15 ⟨rfl, hb15⟩)
                          go_ret
                          exact ⟨rfl, HB14.out.trans (hb15.mono HB14.out.size)⟩
                        · have hBf : (decide (F2 + 4 ≤ P) && decide (¬ z = yv)) = false := by
                            cases h : (decide (F2 + 4 ≤ P) && decide (¬ z = yv)) with
                            | false => rfl
                            | true => rw [Bool.and_eq_true, decide_eq_true_eq, decide_eq_true_eq] at h; exact absurd h hB
                          obtain rfl : Bq = false := HBQ.out.trans hBf
                          clear e2 HO8 HTU hBf
                          go_upto_region 44 with fail
                          go_upto_region 45 with (at_builtin; refine append_at _ rfl _ _ 25 rfl wc.heap.size 5 i0 (.int .u8 0) 1 Tryd.underlying25 hinf hz0 hz1 hz2 rfl _ 0 [] rfl (World.ownsRow_nil _ _ _ _) .u8 _ _ _ (l.flatMap frB) rfl (fun h => by cases h) HLT.out (HLW.out _ HT8.out) (by unfold maxLen; omega) (by omega) (Nat.le_refl _) ?_; intro v12 w12 ho12 hg12 hf12)
                          rw [Nat.zero_add, List.nil_append] at ho12
                          have hb12 : Below wc.heap.size wc w12 := ⟨hg12.os, hg12.tape, hg12.output, hg12.size, fun k hk => hg12.block k hk (fun e => by cases e)⟩
                          have HT12 : Hid (Th w w12 (.slice (some ⟨gw, 0, none⟩) TT cw) (.slice (some ⟨ge, 0, none⟩) k ce) l k) := HT8.out.below hb12
                          have HO12 : Hid (w12.ownsRow wc.heap.size 5 1 v12 TT ((l.flatMap frB).map (Value.int .u8))) := ho12
                          have HB12 : Hid (Below wc.heap.size wc w12) := hb12
                          clear ho12 hg12 hf12 hb12
                          go_upto_region 46 with (at_builtin; refine append_at _ rfl _ _ 25 rfl wc.heap.size 5 i0 (.int .u8 0) 1 Tryd.underlying25 hinf hz0 hz1 hz2 rfl _ _ _ rfl HO12.out .u8 _ _ _ zs rfl HNM.out HLM.out (HZM.out _ HT12.out.bel) (by unfold maxLen; omega) (by omega) HB12.out.size ?_; intro v13 w13 ho13 hg13 hf13)
                          have hb13 : Below wc.heap.size wc w13 := HB12.out.grown hg13 HB12.out.size (fun j hj => (HO12.out.lt j hj).1)
                          have hbl13 : Below w.heap.size w w13 := HT8.out.bel.trans (hb13.mono HT8.out.bel.size)
                          rw [← List.map_append] at ho13
                          obtain ⟨p13, x13, rfl, hlz13, hln13, hnx13, hcx13⟩ := row_sh2 ho13
                          have had13 := row_ad ho13
                          obtain ⟨ml, q13, hsr⟩ := scR_more HM.out HBM.out
                          have HS13 := HSC.out w13 p13 (l.flatMap frB ++ zs) (TT + lm) x13 hbl13 (bytey_app HBW.out HBM.out) hln13 hnx13 hcx13 (by omega) hlz13 had13
                          rw [hsr, HLT.out] at HS13
                          obtain ⟨mlen, hmlen⟩ : ∃ q, ml.length = q := ⟨_, rfl⟩
                          have hll : (l ++ ml).length = k + mlen := by rw [List.length_append, HL.out, hmlen]
                          have HB13 : Hid (Below w.heap.size w w13) := hbl13
                          clear ho13 hg13 hf13 hb13 hbl13 hlz13 hln13 hnx13 hcx13 had13 hsr
                          go_upto_region 47 with (go_at_call 13; refine HS13.mono ?_; intro e w14 hp14; obtain ⟨a14, c14, rfl, hr14, hb14⟩ := sc_rhn hll hp14; clear hp14)
                          have HB14 : Hid (Below w.heap.size w w14) := HB13.out.trans (hb14.mono HB13.out.size)
                          have hrw14 := hr14.row
                          have HLI : Hid (RLin w14 a14 l) := by have := hr14.lin.take k; rw [List.take_left' HL.out] at this; exact this
                          obtain ⟨cs14, hrow14, _⟩ := hrw14
                          rw [hll] at hrow14
                          obtain ⟨g14, cap14, hv14⟩ := C.own_some hrow14 (by omega)
                          simp only [Value.slice.injEq] at hv14
                          obtain ⟨rfl, _, rfl⟩ := hv14
                          have hcap : k + mlen ≤ c14 := by
                            obtain ⟨_, ⟨h, _⟩ | ⟨g', cap', cur, h, _, _, h1, _⟩⟩ := hrow14
                            · cases h
                            · simp only [Value.slice.injEq] at h
                              obtain ⟨_, _, rfl⟩ := h
                              omega
                          have hq1 : ¬ ((k : Int) + (mlen : Int) < (k : Int)) := by omega
                          have hq2 : ¬ ((TT : Int) + (q13 : Int) < (TT : Int)) := by omega
                          have hq3 : (k : Int) ≤ (c14 : Int) := by omega
                          have HAL : Hid (RLin w14 (some ⟨g0, off0, none⟩) l) := HA.out _ HB14.out
                          clear HS13 hr14 hb14 hrow14 hll hmlen
                          go_wp2_with (go_at_call 14; refine (sameAll_eq l _ _ k c14 c _ HL.out (by omega) HLI.out HAL.out).mono ?_; rintro e w15 ⟨rfl, hb15⟩)
                          go_ret
                          exact ⟨rfl, HB14.out.trans (hb15.mono HB14.out.size)⟩
end Go.Proofs.YtgmbpagbiakciagDoor
