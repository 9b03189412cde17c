import Derived.Test.YtnclfoljfnfglaiTmPsf
import Derived.Sort.WalkA6
namespace Go.Proofs.Ytnclfoljfnfglai
open Go.RowKit Go.Maps Go.Sort
set_option linter.unusedVariables false
attribute [local go_sem ↓] wp_store_key
attribute [local go_sem] pBlk_ptr pOff_ptr pAgg_agg

set_option maxHeartbeats 16000000 in
set_option maxRecDepth 100000 in
theorem partIns_any (g og cap base n a b : Nat) (w0 : World) (d : Array Kx) (w : World) (h : SR g og cap base n w0 d w) (hab : a < b) (hb : b ≤ n) (hn : n < 1152921504606846976) :
    Calls Try.prog 95 #[.slice (some ⟨g, 0, none⟩) n cap, .int .i64 a, .int .i64 b, cmpF og] w fun e w' => e = .returned (.bool (partialInsertionSort ltK d a b).2) ∧ SR g og cap base n w0 (partialInsertionSort ltK d a b).1 w' := by
  have HR : Hid (SR g og cap base n w0 d w) := h
  obtain ⟨a1, ha1⟩ : ∃ k, k = a + 1 := ⟨_, rfl⟩
  obtain ⟨l, hl⟩ : ∃ k, k = b - a := ⟨_, rfl⟩
  have HL : Hid (l = b - a) := hl
  have HA1 : Hid (a1 = a + 1) := ha1
  have kk1 : IntKind.i64.wrap ((a : Int) + 1) = (a1 : Int) := by rw [IntKind.wrap_i64]; omega
  have kk2 : IntKind.i64.wrap ((b : Int) - (a : Int)) = (l : Int) := by rw [IntKind.wrap_i64]; omega
  have haa : a < a1 ∧ a1 ≤ b := by omega
  clear h ha1 hl
  go_enter Try.func95, Try.ntmps95
  go_wp2
  go_loopw [9, 10] (fun v u wr => ∃ (i st sq : Nat) (dk : Array Kx), v = .int .i64 i ∧ u = .int .i64 st ∧ a < i ∧ i ≤ b ∧ st + sq = 5 ∧ SR g og cap base n w0 dk wr ∧ partialIns ltK a b sq i dk = partialIns ltK a b 5 a1 d)
    (fun v u _ => 5 - (intOf u).toNat)
  case atStart => exact ⟨a1, 0, 5, d, rfl, rfl, haa.1, haa.2, rfl, HR.out, rfl⟩
  case round =>
    obtain ⟨i, st, sq0, dk, rfl, rfl, hai, hib, hst5, hsr, heq⟩ := hrel
    have HS : Hid (SR g og cap base n w0 dk wr) := hsr
    have HE0 : Hid (partialIns ltK a b sq0 i dk = partialIns ltK a b 5 a1 d) := heq
    clear hsr heq HR
    by_cases s5 : st < 5
    · have s5z : (st : Int) < 5 := by omega
      obtain ⟨sq, rfl⟩ : ∃ k, sq0 = k + 1 := ⟨sq0 - 1, by omega⟩
      have HE : Hid (partialIns ltK a b (sq + 1) i dk = partialIns ltK a b 5 a1 d) := HE0.out
      clear HE0
      go_wp2
      go_loopw [9] (fun v wr => ∃ i1 : Nat, v = .int .i64 i1 ∧ i ≤ i1 ∧ i1 ≤ b ∧ SR g og cap base n w0 dk wr ∧ scanSorted ltK dk b i1 = scanSorted ltK dk b i)
        (fun v _ => b - (intOf v).toNat)
      case atStart => exact ⟨i, rfl, by omega, by omega, HS.out, rfl⟩
      case round =>
        obtain ⟨i1, rfl, hii, hib1, hsr1, hup1⟩ := hrel
        have HS1i : Hid (SR g og cap base n w0 dk wr) := hsr1
        have HUp1 : Hid (scanSorted ltK dk b i1 = scanSorted ltK dk b i) := hup1
        obtain ⟨i3, hi3⟩ : ∃ k, k = i1 + 1 := ⟨_, rfl⟩
        obtain ⟨i0, hi0⟩ : ∃ k, k = i1 - 1 := ⟨_, rfl⟩
        have HI3 : Hid (i3 = i1 + 1 ∧ i0 = i1 - 1) := ⟨hi3, hi0⟩
        have ku1 : IntKind.i64.wrap ((i1 : Int) + 1) = (i3 : Int) := by rw [IntKind.wrap_i64]; omega
        have ku2 : IntKind.i64.wrap ((i1 : Int) - 1) = (i0 : Int) := by rw [IntKind.wrap_i64]; omega
        have z0 : (i0 : Int) < (n : Int) := by omega
        have z0' : i0 < n := by omega
        clear hsr1 hup1 hi3 hi0
        go_wp2_with fail
        go_cut [36] from 19 to 38 (fun q wx => ∃ bb : Bool, q = .bool bb ∧ Hid (SR g og cap base n w0 dk wx ∧ (bb = true → i1 < b ∧ scanSorted ltK dk b i1 = scanSorted ltK dk b (i1 + 1)) ∧ (bb = false → scanSorted ltK dk b i1 = i1)))
        case first =>
          by_cases le1 : i1 < b
          · have le1z : (i1 : Int) < (b : Int) := by omega
            have z1 : (i1 : Int) < (n : Int) := by omega
            have z1' : i1 < n := by omega
            obtain ⟨x1, hx1⟩ : ∃ x, dk[i1]! = x := ⟨_, rfl⟩
            obtain ⟨y1, hy1⟩ : ∃ y, dk[i0]! = y := ⟨_, rfl⟩
            have HX1 : Hid (dk[i1]! = x1 ∧ dk[i0]! = y1) := ⟨hx1, hy1⟩
            have hc1 := HS1i.out.drew.cmp x1 y1
            obtain ⟨p0, p1, p2, p3, p4⟩ := HS1i.out.drew.cells (i := i1) (by omega) hx1
            obtain ⟨q0, q1, q2, q3, q4⟩ := HS1i.out.drew.cells (i := i0) (by omega) hy1
            obtain ⟨c1, hcc1⟩ : ∃ c, cmpK x1 y1 = c := ⟨_, rfl⟩
            have HC1 : Hid (ltK dk[i1]! dk[i0]! = decide (c1 < 0)) := by show _ = _; rw [hx1, hy1]; unfold ltK; rw [hcc1]
            rw [hcc1] at hc1
            obtain ⟨x1_0, x1_1, x1_2, x1_3, x1_4⟩ := x1
            obtain ⟨y1_0, y1_1, y1_2, y1_3, y1_4⟩ := y1
            simp only at p0 p1 p2 p3 p4 q0 q1 q2 q3 q4
            clear hx1 hy1 hcc1
            go_wp2_with fail
            go_region_held3 (fun V => V.cell? ⟨g, i1 * 5, none⟩ = some (.int .i64 x1_0) ∧ V.cell? ⟨g, i1 * 5 + 1, none⟩ = some (.int .i64 x1_1) ∧ V.cell? ⟨g, i1 * 5 + 2, none⟩ = some (.int .i64 x1_2) ∧ V.cell? ⟨g, i1 * 5 + 3, none⟩ = some (.int .i64 x1_3) ∧ V.cell? ⟨g, i1 * 5 + 4, none⟩ = some (.int .i64 x1_4) ∧ V.cell? ⟨g, i0 * 5, none⟩ = some (.int .i64 y1_0) ∧ V.cell? ⟨g, i0 * 5 + 1, none⟩ = some (.int .i64 y1_1) ∧ V.cell? ⟨g, i0 * 5 + 2, none⟩ = some (.int .i64 y1_2) ∧ V.cell? ⟨g, i0 * 5 + 3, none⟩ = some (.int .i64 y1_3) ∧ V.cell? ⟨g, i0 * 5 + 4, none⟩ = some (.int .i64 y1_4))
              (first | (exact ⟨p0, p1, p2, p3, p4, q0, q1, q2, q3, q4⟩) | (exact HB1.out))
              (first | (go_at_call 74
                        refine hc1.mono ?_
                        rintro e w1 ⟨rfl, hs1⟩
                        have HS1 : Hid (SR g og cap base n w0 dk w1) := hs1
                        have HB1 : Hid (w1.cell? ⟨g, i1 * 5, none⟩ = some (.int .i64 x1_0) ∧ w1.cell? ⟨g, i1 * 5 + 1, none⟩ = some (.int .i64 x1_1) ∧ w1.cell? ⟨g, i1 * 5 + 2, none⟩ = some (.int .i64 x1_2) ∧ w1.cell? ⟨g, i1 * 5 + 3, none⟩ = some (.int .i64 x1_3) ∧ w1.cell? ⟨g, i1 * 5 + 4, none⟩ = some (.int .i64 x1_4) ∧ w1.cell? ⟨g, i0 * 5, none⟩ = some (.int .i64 y1_0) ∧ w1.cell? ⟨g, i0 * 5 + 1, none⟩ = some (.int .i64 y1_1) ∧ w1.cell? ⟨g, i0 * 5 + 2, none⟩ = some (.int .i64 y1_2) ∧ w1.cell? ⟨g, i0 * 5 + 3, none⟩ = some (.int .i64 y1_3) ∧ w1.cell? ⟨g, i0 * 5 + 4, none⟩ = some (.int .i64 y1_4)) := by
                          obtain ⟨p0, p1, p2, p3, p4⟩ := hs1.cells (i := i1) (by omega) HX1.out.1
                          obtain ⟨q0, q1, q2, q3, q4⟩ := hs1.cells (i := i0) (by omega) HX1.out.2
                          exact ⟨p0, p1, p2, p3, p4, q0, q1, q2, q3, q4⟩
                        clear hs1))
            clear p0 p1 p2 p3 p4 q0 q1 q2 q3 q4 hc1 HB1 HX1
            have hcd := HC1.out
            have HT1 : Hid (SR g og cap base n w0 dk w1) := HS1.out
            rw [HI3.out.2] at hcd
            by_cases c0 : c1 < 0
            · rw [decide_eq_true c0] at hcd
              have HK1 : Hid _ := hcd
              clear hcd
              all_goals (
                go_wp2_with fail
                go_meet
                exact ⟨false, congrArg Value.bool (by rw [decide_eq_true (show c1 < 0 by omega)]; rfl), HT1.out, fun h => (by cases h), fun _ => scanSorted_stop ltK _ _ _ (.inr HK1.out)⟩)
            · rw [decide_eq_false c0] at hcd
              have HK1 : Hid _ := hcd
              clear hcd
              all_goals (
                go_wp2_with fail
                go_meet
                exact ⟨true, congrArg Value.bool (by rw [decide_eq_false (show ¬ c1 < 0 by omega)]; rfl), HT1.out, fun _ => ⟨le1, scanSorted_go ltK _ _ _ le1 HK1.out⟩, fun h => by cases h⟩)
          · have le1z : ¬ (i1 : Int) < (b : Int) := by omega
            go_region
            all_goals (
              go_wp2_with fail
              go_meet
              exact ⟨false, rfl, HS1i.out.drew, fun h => (by cases h), fun _ => scanSorted_stop ltK _ _ _ (.inl le1)⟩)
        case rest =>
          obtain ⟨bb, rfl, HCk1⟩ := hcut
          cases bb with
          | true =>
            have HN1 := HCk1.out.2.1 rfl
            have HN2 : Hid (i1 < b ∧ scanSorted ltK dk b i3 = scanSorted ltK dk b i) := ⟨HN1.1, by rw [HI3.out.1, ← HN1.2]; exact HUp1.out⟩
            clear HN1
            go_wp2
            have h1 := HN2.out.1
            have h3 := HI3.out
            refine ⟨⟨i3, rfl, by omega, by omega, HCk1.out.1, HN2.out.2⟩, by simp [intOf]; omega⟩
          | false =>
            have HS1c : Hid (SR g og cap base n w0 dk wc) := HCk1.out.1
            have HU1 : Hid (i1 = scanSorted ltK dk b i) := by show i1 = _; rw [← HUp1.out, HCk1.out.2.2 rfl]
            clear HCk1 HI3 HUp1 HS1i ku1 ku2 z0 z0'
            by_cases eb : i1 = b
            · have ebz : (i1 : Int) = (b : Int) := by omega
              have ebb : ((i1 : Int) == (b : Int)) = true := by simp [ebz]
              have hst := HE.out
              rw [partialIns_succ, ← HU1.out, if_pos eb] at hst
              have HF : Hid _ := hst
              clear hst
              go_wp2
              go_ret
              unfold partialInsertionSort
              rw [← HA1.out, ← HF.out]
              exact ⟨rfl, HS1c.out⟩
            · have ebz : ¬ (i1 : Int) = (b : Int) := by omega
              have ebb : ((i1 : Int) == (b : Int)) = false := by simp; omega
              by_cases l50 : b - a < 50
              · have l50z : (l : Int) < 50 := by have := HL.out; omega
                have hst := HE.out
                rw [partialIns_succ, ← HU1.out, if_neg eb, if_pos l50] at hst
                have HF : Hid _ := hst
                clear hst
                go_wp2
                go_ret
                unfold partialInsertionSort
                rw [← HA1.out, ← HF.out]
                exact ⟨rfl, HS1c.out⟩
              · have l50z : ¬ (l : Int) < 50 := by have := HL.out; omega
                have hst := HE.out
                rw [partialIns_succ, ← HU1.out, if_neg eb, if_neg l50] at hst
                obtain ⟨im, him⟩ : ∃ k, k = i1 - 1 := ⟨_, rfl⟩
                obtain ⟨ip, hip⟩ : ∃ k, k = i1 + 1 := ⟨_, rfl⟩
                obtain ⟨ia, hia⟩ : ∃ k, k = i1 - a := ⟨_, rfl⟩
                obtain ⟨bi, hbi⟩ : ∃ k, k = b - i1 := ⟨_, rfl⟩
                obtain ⟨s1, hs1⟩ : ∃ k, k = st + 1 := ⟨_, rfl⟩
                rw [← him] at hst
                have HGo : Hid _ := hst
                have ki1 : IntKind.i64.wrap ((i1 : Int) - 1) = (im : Int) := by rw [IntKind.wrap_i64]; omega
                have ki2 : IntKind.i64.wrap ((i1 : Int) + 1) = (ip : Int) := by rw [IntKind.wrap_i64]; omega
                have ki3 : IntKind.i64.wrap ((i1 : Int) - (a : Int)) = (ia : Int) := by rw [IntKind.wrap_i64]; omega
                have ki4 : IntKind.i64.wrap ((b : Int) - (i1 : Int)) = (bi : Int) := by rw [IntKind.wrap_i64]; omega
                have ki5 : IntKind.i64.wrap ((st : Int) + 1) = (s1 : Int) := by rw [IntKind.wrap_i64]; omega
                have zi : (i1 : Int) < (n : Int) := by omega
                have zm : (im : Int) < (n : Int) := by omega
                have hi' : i1 < n := by omega
                have hm' : im < n := by omega
                have HX : Hid (im = i1 - 1 ∧ ip = i1 + 1 ∧ ia = i1 - a ∧ bi = b - i1 ∧ s1 = st + 1) := ⟨him, hip, hia, hbi, hs1⟩
                clear hst him hip hia hbi hs1
                obtain ⟨x2, hx2⟩ : ∃ x, dk[i1]! = x := ⟨_, rfl⟩
                obtain ⟨y2, hy2⟩ : ∃ y, dk[im]! = y := ⟨_, rfl⟩
                obtain ⟨p0, p1, p2, p3, p4⟩ := HS1c.out.drew.cells (i := i1) (by omega) hx2
                obtain ⟨q0, q1, q2, q3, q4⟩ := HS1c.out.drew.cells (i := im) (by omega) hy2
                obtain ⟨x2_0, x2_1, x2_2, x2_3, x2_4⟩ := x2
                obtain ⟨y2_0, y2_1, y2_2, y2_3, y2_4⟩ := y2
                simp only at p0 p1 p2 p3 p4 q0 q1 q2 q3 q4
                have s1 := StOk.mk HS1c.out.drew (i := i1) (by omega) (y2_0, y2_1, y2_2, y2_3, y2_4)
                have s2 := StOk.mk (HS1c.out.drew.set (i := i1) (by omega) (y2_0, y2_1, y2_2, y2_3, y2_4)) (i := im) (by omega) (x2_0, x2_1, x2_2, x2_3, x2_4)
                simp only [kV] at s2
                have HW2 : Hid (SR g og cap base n w0 (swp dk i1 im) ((wc.drew.setCells g (i1 * 5) (kV (y2_0, y2_1, y2_2, y2_3, y2_4))).setCells g (im * 5) (kV (x2_0, x2_1, x2_2, x2_3, x2_4)))) := by
                  have := HS1c.out.drew.swap (i := i1) (j := im) (by omega) (by omega)
                  rw [hx2, hy2] at this
                  exact this
                clear hx2 hy2
                go_wp2
                go_region
                clear p0 p1 p2 p3 p4 q0 q1 q2 q3 q4 s1 s2
                obtain ⟨ds, hds⟩ : ∃ x, swp dk i1 im = x := ⟨_, rfl⟩
                have HSD3 : Hid _ := HW2.out
                rw [hds] at HSD3
                have HG1 : Hid _ := HGo.out
                rw [hds] at HG1
                clear hds HW2 HGo
                go_upto_if 65 with fail
                go_cut [11] from 15 to 140 (fun q wx => Hid (SR g og cap base n w0 (fixDown ltK a i1 ds) wx))
                case first =>
                  by_cases i2 : 2 ≤ ia
                  · have i2z : (2 : Int) ≤ (ia : Int) := by omega
                    have HFX3 : Hid (∀ x, SR g og cap base n w0 (shiftDown ltK im ds) x → SR g og cap base n w0 (fixDown ltK a i1 ds) x) := fun x hx => by
                      have e := HX.out
                      unfold fixDown
                      rw [if_pos (by omega), ← e.1]; exact hx
                    try simp only [decide_eq_true i2z]
                    go_wp2
                    clear i2z i2
                    go_loopw [11] (fun v wr => ∃ (j2 : Nat) (dj : Array Kx), v = .int .i64 j2 ∧ (j2 < n) ∧ SR g og cap base n w0 dj wr ∧ shiftDown ltK j2 dj = shiftDown ltK im ds)
                      (fun v _ => (intOf v).toNat)
                    case atStart => exact ⟨im, _, rfl, by omega, HSD3.out, rfl⟩
                    case round =>
                      obtain ⟨j2, dj, rfl, hinv, hsr, heq⟩ := hrel
                      have HJ3 : Hid (SR g og cap base n w0 dj wr) := hsr
                      have HE3 : Hid (shiftDown ltK j2 dj = shiftDown ltK im ds) := heq
                      clear hsr heq
                      by_cases cd : 1 ≤ j2
                      · have cdz : (1 : Int) ≤ (j2 : Int) := by omega
                        obtain ⟨jm, hjm⟩ : ∃ k, k = j2 - 1 := ⟨_, rfl⟩
                        have HJM3 : Hid (jm = j2 - 1 ∧ jm = j2 - 1) := ⟨hjm, hjm⟩
                        have kj3 : IntKind.i64.wrap ((j2 : Int) - 1) = (jm : Int) := by rw [IntKind.wrap_i64]; omega
                        have zj2 : (j2 : Int) < (n : Int) := by omega
                        have zjm : (jm : Int) < (n : Int) := by omega
                        have hj2' : j2 < n := by omega
                        have hjm' : jm < n := by omega
                        clear hjm
                        obtain ⟨x3, hx3⟩ : ∃ x, dj[j2]! = x := ⟨_, rfl⟩
                        obtain ⟨y3, hy3⟩ : ∃ y, dj[jm]! = y := ⟨_, rfl⟩
                        have HX3 : Hid (dj[j2]! = x3 ∧ dj[jm]! = y3) := ⟨hx3, hy3⟩
                        have hc3 := HJ3.out.drew.cmp x3 y3
                        obtain ⟨p0, p1, p2, p3, p4⟩ := HJ3.out.drew.cells (i := j2) (by omega) hx3
                        obtain ⟨q0, q1, q2, q3, q4⟩ := HJ3.out.drew.cells (i := jm) (by omega) hy3
                        obtain ⟨c3, hcc3⟩ : ∃ c, cmpK x3 y3 = c := ⟨_, rfl⟩
                        have HC3 : Hid (ltK dj[j2]! dj[jm]! = decide (c3 < 0)) := by show _ = _; rw [hx3, hy3]; unfold ltK; rw [hcc3]
                        rw [hcc3] at hc3
                        obtain ⟨x3_0, x3_1, x3_2, x3_3, x3_4⟩ := x3
                        obtain ⟨y3_0, y3_1, y3_2, y3_3, y3_4⟩ := y3
                        simp only at p0 p1 p2 p3 p4 q0 q1 q2 q3 q4
                        clear hx3 hy3 hcc3
                        go_wp2_with fail
                        go_region_held3 (fun V => V.cell? ⟨g, j2 * 5, none⟩ = some (.int .i64 x3_0) ∧ V.cell? ⟨g, j2 * 5 + 1, none⟩ = some (.int .i64 x3_1) ∧ V.cell? ⟨g, j2 * 5 + 2, none⟩ = some (.int .i64 x3_2) ∧ V.cell? ⟨g, j2 * 5 + 3, none⟩ = some (.int .i64 x3_3) ∧ V.cell? ⟨g, j2 * 5 + 4, none⟩ = some (.int .i64 x3_4) ∧ V.cell? ⟨g, jm * 5, none⟩ = some (.int .i64 y3_0) ∧ V.cell? ⟨g, jm * 5 + 1, none⟩ = some (.int .i64 y3_1) ∧ V.cell? ⟨g, jm * 5 + 2, none⟩ = some (.int .i64 y3_2) ∧ V.cell? ⟨g, jm * 5 + 3, none⟩ = some (.int .i64 y3_3) ∧ V.cell? ⟨g, jm * 5 + 4, none⟩ = some (.int .i64 y3_4))
                          (first | (exact ⟨p0, p1, p2, p3, p4, q0, q1, q2, q3, q4⟩) | (exact HB3.out))
                          (first | (go_at_call 74
                                    refine hc3.mono ?_
                                    rintro e w3 ⟨rfl, hs3⟩
                                    have HS3 : Hid (SR g og cap base n w0 dj w3) := hs3
                                    have HB3 : Hid (w3.cell? ⟨g, j2 * 5, none⟩ = some (.int .i64 x3_0) ∧ w3.cell? ⟨g, j2 * 5 + 1, none⟩ = some (.int .i64 x3_1) ∧ w3.cell? ⟨g, j2 * 5 + 2, none⟩ = some (.int .i64 x3_2) ∧ w3.cell? ⟨g, j2 * 5 + 3, none⟩ = some (.int .i64 x3_3) ∧ w3.cell? ⟨g, j2 * 5 + 4, none⟩ = some (.int .i64 x3_4) ∧ w3.cell? ⟨g, jm * 5, none⟩ = some (.int .i64 y3_0) ∧ w3.cell? ⟨g, jm * 5 + 1, none⟩ = some (.int .i64 y3_1) ∧ w3.cell? ⟨g, jm * 5 + 2, none⟩ = some (.int .i64 y3_2) ∧ w3.cell? ⟨g, jm * 5 + 3, none⟩ = some (.int .i64 y3_3) ∧ w3.cell? ⟨g, jm * 5 + 4, none⟩ = some (.int .i64 y3_4)) := by
                                      obtain ⟨p0, p1, p2, p3, p4⟩ := hs3.cells (i := j2) (by omega) HX3.out.1
                                      obtain ⟨q0, q1, q2, q3, q4⟩ := hs3.cells (i := jm) (by omega) HX3.out.2
                                      exact ⟨p0, p1, p2, p3, p4, q0, q1, q2, q3, q4⟩
                                    clear hs3))
                        clear p0 p1 p2 p3 p4 q0 q1 q2 q3 q4 hc3 HB3 HX3
                        have hcd := HC3.out
                        by_cases c0 : c3 < 0
                        · rw [decide_eq_true c0, HJM3.out.1] at hcd
                          simp only [decide_eq_true c0, Bool.not_true]
                          have hgo := (shiftDown_go ltK j2 dj cd hcd).symm.trans HE3.out
                          rw [← HJM3.out.1] at hgo
                          have HGo : Hid _ := hgo
                          clear hcd hgo
                          obtain ⟨x3s, hx3s⟩ : ∃ x, dj[j2]! = x := ⟨_, rfl⟩
                          obtain ⟨y3s, hy3s⟩ : ∃ y, dj[jm]! = y := ⟨_, rfl⟩
                          obtain ⟨p0, p1, p2, p3, p4⟩ := HS3.out.drew.cells (i := j2) (by omega) hx3s
                          obtain ⟨q0, q1, q2, q3, q4⟩ := HS3.out.drew.cells (i := jm) (by omega) hy3s
                          obtain ⟨x3s_0, x3s_1, x3s_2, x3s_3, x3s_4⟩ := x3s
                          obtain ⟨y3s_0, y3s_1, y3s_2, y3s_3, y3s_4⟩ := y3s
                          simp only at p0 p1 p2 p3 p4 q0 q1 q2 q3 q4
                          have s1 := StOk.mk HS3.out.drew (i := j2) (by omega) (y3s_0, y3s_1, y3s_2, y3s_3, y3s_4)
                          have s2 := StOk.mk (HS3.out.drew.set (i := j2) (by omega) (y3s_0, y3s_1, y3s_2, y3s_3, y3s_4)) (i := jm) (by omega) (x3s_0, x3s_1, x3s_2, x3s_3, x3s_4)
                          simp only [kV] at s2
                          have HW3s : Hid (SR g og cap base n w0 (swp dj j2 jm) ((w3.drew.setCells g (j2 * 5) (kV (y3s_0, y3s_1, y3s_2, y3s_3, y3s_4))).setCells g (jm * 5) (kV (x3s_0, x3s_1, x3s_2, x3s_3, x3s_4)))) := by
                            have := HS3.out.drew.swap (i := j2) (j := jm) (by omega) (by omega)
                            rw [hx3s, hy3s] at this
                            exact this
                          clear hx3s hy3s
                          go_wp2
                          go_region
                          clear p0 p1 p2 p3 p4 q0 q1 q2 q3 q4 s1 s2
                          go_wp2
                          have hx := HJM3.out
                          have hfin : shiftDown ltK jm (swp dj j2 jm) = shiftDown ltK im ds := by rw [HJM3.out.2]; first | exact HGo.out | (rw [← HJM3.out.1]; exact HGo.out)
                          first
                            | (refine ⟨⟨jm, _, rfl, by omega, HW3s.out, hfin⟩, by simp [intOf]; omega⟩)
                            | (go_roundw
                               case rel =>
                                 (repeat apply Exists.intro)
                                 exact ⟨⟨jm, _, rfl, by omega, HW3s.out, hfin⟩, rfl⟩
                               case measure => (simp [intOf]; omega))
                        · rw [decide_eq_false c0, HJM3.out.1] at hcd
                          simp only [decide_eq_false c0, Bool.not_false]
                          have hst := HE3.out
                          rw [shiftDown_stop ltK j2 dj (.inr hcd)] at hst
                          have HD3 : Hid _ := hst
                          clear hcd hst
                          have HZ3 : Hid _ := HFX3.out _ (HD3.out ▸ HS3.out)
                          clear HD3 HFX3
                          go_wp2_with fail
                          go_meet
                          exact HZ3
                      · have cdz : ¬ (1 : Int) ≤ (j2 : Int) := by omega
                        have hst := HE3.out
                        rw [shiftDown_stop ltK j2 dj (.inl (by omega))] at hst
                        have HD3 : Hid _ := hst
                        clear hst
                        have HZ3 : Hid _ := HFX3.out _ (HD3.out ▸ HJ3.out)
                        clear HD3 HFX3
                        go_wp2_with fail
                        go_meet
                        exact HZ3
                  · have i2z : ¬ (2 : Int) ≤ (ia : Int) := by omega
                    have HFX3 : Hid (∀ x, SR g og cap base n w0 ds x → SR g og cap base n w0 (fixDown ltK a i1 ds) x) := fun x hx => by
                      have e := HX.out
                      unfold fixDown
                      rw [if_neg (by omega)]; exact hx
                    go_wp2_with fail
                    go_meet
                    exact HFX3.out _ HSD3.out
                case rest =>
                  obtain ⟨du, hdu⟩ : ∃ x, fixDown ltK a i1 ds = x := ⟨_, rfl⟩
                  have HSD4 : Hid _ := hcut.out
                  rw [hdu] at HSD4
                  have HG2 : Hid _ := HG1.out
                  rw [hdu] at HG2
                  clear hdu hcut HG1 HSD3
                  by_cases i2 : 2 ≤ bi
                  · have i2z : (2 : Int) ≤ (bi : Int) := by omega
                    have hxb := HX.out
                    have HFX4 : Hid (∀ x, SR g og cap base n w0 (shiftUp ltK b ip du) x → SR g og cap base n w0 (fixUp ltK b i1 du) x) := fun x hx => by
                      have e := HX.out
                      unfold fixUp
                      rw [if_pos (by omega), ← e.2.1]; exact hx
                    have hip' : 1 ≤ ip ∧ ip ≤ b + 1 := by omega
                    clear hxb
                    go_wp2
                    try simp only [decide_eq_true i2z]
                    clear i2z i2
                    go_loopw [12] (fun v wr => ∃ (j2 : Nat) (dj : Array Kx), v = .int .i64 j2 ∧ (1 ≤ j2 ∧ j2 ≤ b + 1) ∧ SR g og cap base n w0 dj wr ∧ shiftUp ltK b j2 dj = shiftUp ltK b ip du)
                      (fun v _ => b + 1 - (intOf v).toNat)
                    case atStart => exact ⟨ip, _, rfl, by omega, HSD4.out, rfl⟩
                    case round =>
                      obtain ⟨j2, dj, rfl, hinv, hsr, heq⟩ := hrel
                      have HJ4 : Hid (SR g og cap base n w0 dj wr) := hsr
                      have HE4 : Hid (shiftUp ltK b j2 dj = shiftUp ltK b ip du) := heq
                      clear hsr heq
                      by_cases cd : j2 < b
                      · have cdz : (j2 : Int) < (b : Int) := by omega
                        obtain ⟨jm, hjm⟩ : ∃ k, k = j2 - 1 := ⟨_, rfl⟩
                        obtain ⟨jx, hjx⟩ : ∃ k, k = j2 + 1 := ⟨_, rfl⟩
                        have HJM4 : Hid (jm = j2 - 1 ∧ jx = j2 + 1) := ⟨hjm, hjx⟩
                        have kj4 : IntKind.i64.wrap ((j2 : Int) - 1) = (jm : Int) := by rw [IntKind.wrap_i64]; omega
                        have kx4 : IntKind.i64.wrap ((j2 : Int) + 1) = (jx : Int) := by rw [IntKind.wrap_i64]; omega
                        have zj2 : (j2 : Int) < (n : Int) := by omega
                        have zjm : (jm : Int) < (n : Int) := by omega
                        have hj2' : j2 < n := by omega
                        have hjm' : jm < n := by omega
                        clear hjm hjx
                        obtain ⟨x4, hx4⟩ : ∃ x, dj[j2]! = x := ⟨_, rfl⟩
                        obtain ⟨y4, hy4⟩ : ∃ y, dj[jm]! = y := ⟨_, rfl⟩
                        have HX4 : Hid (dj[j2]! = x4 ∧ dj[jm]! = y4) := ⟨hx4, hy4⟩
                        have hc4 := HJ4.out.drew.cmp x4 y4
                        obtain ⟨p0, p1, p2, p3, p4⟩ := HJ4.out.drew.cells (i := j2) (by omega) hx4
                        obtain ⟨q0, q1, q2, q3, q4⟩ := HJ4.out.drew.cells (i := jm) (by omega) hy4
                        obtain ⟨c4, hcc4⟩ : ∃ c, cmpK x4 y4 = c := ⟨_, rfl⟩
                        have HC4 : Hid (ltK dj[j2]! dj[jm]! = decide (c4 < 0)) := by show _ = _; rw [hx4, hy4]; unfold ltK; rw [hcc4]
                        rw [hcc4] at hc4
                        obtain ⟨x4_0, x4_1, x4_2, x4_3, x4_4⟩ := x4
                        obtain ⟨y4_0, y4_1, y4_2, y4_3, y4_4⟩ := y4
                        simp only at p0 p1 p2 p3 p4 q0 q1 q2 q3 q4
                        clear hx4 hy4 hcc4
                        go_wp2_with fail
                        go_region_held3 (fun V => V.cell? ⟨g, j2 * 5, none⟩ = some (.int .i64 x4_0) ∧ V.cell? ⟨g, j2 * 5 + 1, none⟩ = some (.int .i64 x4_1) ∧ V.cell? ⟨g, j2 * 5 + 2, none⟩ = some (.int .i64 x4_2) ∧ V.cell? ⟨g, j2 * 5 + 3, none⟩ = some (.int .i64 x4_3) ∧ V.cell? ⟨g, j2 * 5 + 4, none⟩ = some (.int .i64 x4_4) ∧ V.cell? ⟨g, jm * 5, none⟩ = some (.int .i64 y4_0) ∧ V.cell? ⟨g, jm * 5 + 1, none⟩ = some (.int .i64 y4_1) ∧ V.cell? ⟨g, jm * 5 + 2, none⟩ = some (.int .i64 y4_2) ∧ V.cell? ⟨g, jm * 5 + 3, none⟩ = some (.int .i64 y4_3) ∧ V.cell? ⟨g, jm * 5 + 4, none⟩ = some (.int .i64 y4_4))
                          (first | (exact ⟨p0, p1, p2, p3, p4, q0, q1, q2, q3, q4⟩) | (exact HB4.out))
                          (first | (go_at_call 74
                                    refine hc4.mono ?_
                                    rintro e w4 ⟨rfl, hs4⟩
                                    have HS4 : Hid (SR g og cap base n w0 dj w4) := hs4
                                    have HB4 : Hid (w4.cell? ⟨g, j2 * 5, none⟩ = some (.int .i64 x4_0) ∧ w4.cell? ⟨g, j2 * 5 + 1, none⟩ = some (.int .i64 x4_1) ∧ w4.cell? ⟨g, j2 * 5 + 2, none⟩ = some (.int .i64 x4_2) ∧ w4.cell? ⟨g, j2 * 5 + 3, none⟩ = some (.int .i64 x4_3) ∧ w4.cell? ⟨g, j2 * 5 + 4, none⟩ = some (.int .i64 x4_4) ∧ w4.cell? ⟨g, jm * 5, none⟩ = some (.int .i64 y4_0) ∧ w4.cell? ⟨g, jm * 5 + 1, none⟩ = some (.int .i64 y4_1) ∧ w4.cell? ⟨g, jm * 5 + 2, none⟩ = some (.int .i64 y4_2) ∧ w4.cell? ⟨g, jm * 5 + 3, none⟩ = some (.int .i64 y4_3) ∧ w4.cell? ⟨g, jm * 5 + 4, none⟩ = some (.int .i64 y4_4)) := by
                                      obtain ⟨p0, p1, p2, p3, p4⟩ := hs4.cells (i := j2) (by omega) HX4.out.1
                                      obtain ⟨q0, q1, q2, q3, q4⟩ := hs4.cells (i := jm) (by omega) HX4.out.2
                                      exact ⟨p0, p1, p2, p3, p4, q0, q1, q2, q3, q4⟩
                                    clear hs4))
                        clear p0 p1 p2 p3 p4 q0 q1 q2 q3 q4 hc4 HB4 HX4
                        have hcd := HC4.out
                        by_cases c0 : c4 < 0
                        · rw [decide_eq_true c0, HJM4.out.1] at hcd
                          simp only [decide_eq_true c0, Bool.not_true]
                          have hgo := (shiftUp_go ltK b j2 dj cd hcd).symm.trans HE4.out
                          rw [← HJM4.out.1] at hgo
                          have HGo : Hid _ := hgo
                          clear hcd hgo
                          obtain ⟨x4s, hx4s⟩ : ∃ x, dj[j2]! = x := ⟨_, rfl⟩
                          obtain ⟨y4s, hy4s⟩ : ∃ y, dj[jm]! = y := ⟨_, rfl⟩
                          obtain ⟨p0, p1, p2, p3, p4⟩ := HS4.out.drew.cells (i := j2) (by omega) hx4s
                          obtain ⟨q0, q1, q2, q3, q4⟩ := HS4.out.drew.cells (i := jm) (by omega) hy4s
                          obtain ⟨x4s_0, x4s_1, x4s_2, x4s_3, x4s_4⟩ := x4s
                          obtain ⟨y4s_0, y4s_1, y4s_2, y4s_3, y4s_4⟩ := y4s
                          simp only at p0 p1 p2 p3 p4 q0 q1 q2 q3 q4
                          have s1 := StOk.mk HS4.out.drew (i := j2) (by omega) (y4s_0, y4s_1, y4s_2, y4s_3, y4s_4)
                          have s2 := StOk.mk (HS4.out.drew.set (i := j2) (by omega) (y4s_0, y4s_1, y4s_2, y4s_3, y4s_4)) (i := jm) (by omega) (x4s_0, x4s_1, x4s_2, x4s_3, x4s_4)
                          simp only [kV] at s2
                          have HW4s : Hid (SR g og cap base n w0 (swp dj j2 jm) ((w4.drew.setCells g (j2 * 5) (kV (y4s_0, y4s_1, y4s_2, y4s_3, y4s_4))).setCells g (jm * 5) (kV (x4s_0, x4s_1, x4s_2, x4s_3, x4s_4)))) := by
                            have := HS4.out.drew.swap (i := j2) (j := jm) (by omega) (by omega)
                            rw [hx4s, hy4s] at this
                            exact this
                          clear hx4s hy4s
                          go_wp2
                          go_region
                          clear p0 p1 p2 p3 p4 q0 q1 q2 q3 q4 s1 s2
                          go_wp2
                          have hx := HJM4.out
                          have hfin : shiftUp ltK b jx (swp dj j2 jm) = shiftUp ltK b ip du := by rw [HJM4.out.2]; first | exact HGo.out | (rw [← HJM4.out.1]; exact HGo.out)
                          first
                            | (refine ⟨⟨jx, _, rfl, by omega, HW4s.out, hfin⟩, by simp [intOf]; omega⟩)
                            | (go_roundw
                               case rel =>
                                 (repeat apply Exists.intro)
                                 exact ⟨⟨jx, _, rfl, by omega, HW4s.out, hfin⟩, rfl⟩
                               case measure => (simp [intOf]; omega))
                        · rw [decide_eq_false c0, HJM4.out.1] at hcd
                          simp only [decide_eq_false c0, Bool.not_false]
                          have hst := HE4.out
                          rw [shiftUp_stop ltK b j2 dj (.inr hcd)] at hst
                          have HD4 : Hid _ := hst
                          clear hcd hst
                          have HZ4 : Hid _ := HFX4.out _ (HD4.out ▸ HS4.out)
                          clear HD4 HFX4
                          go_wp2
                          have hx := HX.out
                          first
                            | (refine ⟨⟨i1, s1, sq, _, rfl, rfl, by omega, by omega, by omega, HZ4.out, HG2.out⟩, by simp [intOf]; omega⟩)
                            | (go_roundw
                               case rel =>
                                 (repeat apply Exists.intro)
                                 exact ⟨⟨i1, s1, sq, _, rfl, rfl, by omega, by omega, by omega, HZ4.out, HG2.out⟩, rfl⟩
                               case measure => (simp [intOf]; omega))
                      · have cdz : ¬ (j2 : Int) < (b : Int) := by omega
                        have hst := HE4.out
                        rw [shiftUp_stop ltK b j2 dj (.inl cd)] at hst
                        have HD4 : Hid _ := hst
                        clear hst
                        have HZ4 : Hid _ := HFX4.out _ (HD4.out ▸ HJ4.out)
                        clear HD4 HFX4
                        go_wp2
                        have hx := HX.out
                        first
                          | (refine ⟨⟨i1, s1, sq, _, rfl, rfl, by omega, by omega, by omega, HZ4.out, HG2.out⟩, by simp [intOf]; omega⟩)
                          | (go_roundw
                             case rel =>
                               (repeat apply Exists.intro)
                               exact ⟨⟨i1, s1, sq, _, rfl, rfl, by omega, by omega, by omega, HZ4.out, HG2.out⟩, rfl⟩
                             case measure => (simp [intOf]; omega))
                  · have i2z : ¬ (2 : Int) ≤ (bi : Int) := by omega
                    have HZ4 : Hid (SR g og cap base n w0 (fixUp ltK b i1 du) wc) := by
                      have e := HX.out
                      unfold fixUp
                      rw [if_neg (by omega)]; exact HSD4.out
                    go_wp2
                    have hx := HX.out
                    first
                      | (refine ⟨⟨i1, s1, sq, _, rfl, rfl, by omega, by omega, by omega, HZ4.out, HG2.out⟩, by simp [intOf]; omega⟩)
                      | (go_roundw
                         case rel =>
                           (repeat apply Exists.intro)
                           exact ⟨⟨i1, s1, sq, _, rfl, rfl, by omega, by omega, by omega, HZ4.out, HG2.out⟩, rfl⟩
                         case measure => (simp [intOf]; omega))
    · have s5z : ¬ (st : Int) < 5 := by omega
      obtain rfl : sq0 = 0 := by omega
      have hst := HE0.out
      rw [partialIns] at hst
      have HF : Hid _ := hst
      clear hst
      go_wp2
      go_ret
      unfold partialInsertionSort
      rw [← HA1.out, ← HF.out]
      exact ⟨rfl, HS.out⟩

end Go.Proofs.Ytnclfoljfnfglai
