import Derived.Test.YtnclfoljfnfglaiTmPsf
import Derived.Sort.WalkC
namespace Go.Proofs.Ytnclfoljfnfglai
open Go.RowKit Go.Maps Go.Sort
set_option linter.unusedVariables false
attribute [local go_sem ↓] wp_store_key
attribute [local go_sem] pBlk_ptr pOff_ptr pAgg_agg

set_option maxHeartbeats 16000000 in
set_option maxRecDepth 100000 in
theorem partEq_any (g og cap base n a b pv : Nat) (w0 : World) (d : Array Kx) (w : World) (h : SR g og cap base n w0 d w) (hap : a ≤ pv) (hpb : pv < b) (hb : b ≤ n) (hn : n < 1152921504606846976) :
    Calls Try.prog 96 #[.slice (some ⟨g, 0, none⟩) n cap, .int .i64 a, .int .i64 b, .int .i64 pv, cmpF og] w fun e w' => e = .returned (.int .i64 (partitionEqual ltK d a b pv).1) ∧ SR g og cap base n w0 (partitionEqual ltK d a b pv).2 w' := by
  have HR : Hid (SR g og cap base n w0 d w) := h
  obtain ⟨a1, ha1⟩ : ∃ k, k = a + 1 := ⟨_, rfl⟩
  obtain ⟨b1, hb1⟩ : ∃ k, k = b - 1 := ⟨_, rfl⟩
  have kk1 : IntKind.i64.wrap ((a : Int) + 1) = (a1 : Int) := by rw [IntKind.wrap_i64]; omega
  have kk2 : IntKind.i64.wrap ((b : Int) - 1) = (b1 : Int) := by rw [IntKind.wrap_i64]; omega
  have za : (a : Int) < (n : Int) := by omega
  have zp : (pv : Int) < (n : Int) := by omega
  have ha' : a < n := by omega
  have hp' : pv < n := by omega
  have hab1 : a1 ≤ b1 + 1 := by omega
  have haa : a < a1 := by omega
  have hb1n : b1 < n := by omega
  have HP : Hid (partitionEqual ltK d a b pv = partEqLoop ltK a a1 b1 (swp d a pv)) := by show _ = _; unfold partitionEqual; rw [ha1, hb1]
  clear h ha1 hb1
  go_enter Try.func96, Try.ntmps96
  obtain ⟨x0, hx0⟩ : ∃ x, d[a]! = x := ⟨_, rfl⟩
  obtain ⟨y0, hy0⟩ : ∃ y, d[pv]! = y := ⟨_, rfl⟩
  obtain ⟨p0, p1, p2, p3, p4⟩ := HR.out.drew.cells (i := a) (by omega) hx0
  obtain ⟨q0, q1, q2, q3, q4⟩ := HR.out.drew.cells (i := pv) (by omega) hy0
  obtain ⟨x0_0, x0_1, x0_2, x0_3, x0_4⟩ := x0
  obtain ⟨y0_0, y0_1, y0_2, y0_3, y0_4⟩ := y0
  simp only at p0 p1 p2 p3 p4 q0 q1 q2 q3 q4
  have s1 := StOk.mk HR.out.drew (i := a) (by omega) (y0_0, y0_1, y0_2, y0_3, y0_4)
  have s2 := StOk.mk (HR.out.drew.set (i := a) (by omega) (y0_0, y0_1, y0_2, y0_3, y0_4)) (i := pv) (by omega) (x0_0, x0_1, x0_2, x0_3, x0_4)
  simp only [kV] at s2
  have HW0 : Hid (SR g og cap base n w0 (swp d a pv) ((w.drew.setCells g (a * 5) (kV (y0_0, y0_1, y0_2, y0_3, y0_4))).setCells g (pv * 5) (kV (x0_0, x0_1, x0_2, x0_3, x0_4)))) := by
    have := HR.out.drew.swap (i := a) (j := pv) (by omega) (by omega)
    rw [hx0, hy0] at this
    exact this
  clear hx0 hy0
  go_wp2
  go_region
  clear p0 p1 p2 p3 p4 q0 q1 q2 q3 q4 s1 s2
  obtain ⟨d0, hd0⟩ : ∃ x, swp d a pv = x := ⟨_, rfl⟩
  have HP2 : Hid (partitionEqual ltK d a b pv = partEqLoop ltK a a1 b1 d0) := by show _ = _; rw [← hd0]; exact HP.out
  have HW9 : Hid _ := HW0.out
  rw [hd0] at HW9
  clear hd0 HP HW0
  go_wp2
  go_loopw [11, 12] (fun v u wr => ∃ (i j : Nat) (dk : Array Kx), v = .int .i64 i ∧ u = .int .i64 j ∧ a < i ∧ i ≤ j + 1 ∧ j < n ∧ SR g og cap base n w0 dk wr ∧ partEqLoop ltK a i j dk = partEqLoop ltK a a1 b1 d0)
    (fun v u _ => (intOf u).toNat + 1 - (intOf v).toNat)
  case atStart => exact ⟨a1, b1, d0, rfl, rfl, haa, hab1, hb1n, HW9.out, rfl⟩
  case round =>
    obtain ⟨i, j, dk, rfl, rfl, hai, hij, hjn, hsr, heq⟩ := hrel
    have HS : Hid (SR g og cap base n w0 dk wr) := hsr
    have HE : Hid (partEqLoop ltK a i j dk = partitionEqual ltK d a b pv) := heq.trans HP2.out.symm
    have HE1 : Hid (partEqLoop ltK a i j dk = partEqLoop ltK a a1 b1 d0) := heq
    clear hsr heq HP2 HW9
    go_wp2
    go_loopw [11] (fun v wr => ∃ i1 : Nat, v = .int .i64 i1 ∧ i ≤ i1 ∧ i1 ≤ j + 1 ∧ SR g og cap base n w0 dk wr ∧ scanUp (fun x => !ltK dk[a]! x) dk j i1 = scanUp (fun x => !ltK dk[a]! x) dk j i)
      (fun v _ => j + 1 - (intOf v).toNat)
    case atStart => exact ⟨i, rfl, by omega, by omega, HS.out, rfl⟩
    case round =>
      obtain ⟨i1, rfl, hii, hij1, hsr1, hup1⟩ := hrel
      have HS1i : Hid (SR g og cap base n w0 dk wr) := hsr1
      have HUp1 : Hid (scanUp (fun x => !ltK dk[a]! x) dk j i1 = scanUp (fun x => !ltK dk[a]! x) dk j i) := hup1
      obtain ⟨i3, hi3⟩ : ∃ k, k = i1 + 1 := ⟨_, rfl⟩
      have HI31 : Hid (i3 = i1 + 1) := hi3
      have ku1 : IntKind.i64.wrap ((i1 : Int) + 1) = (i3 : Int) := by rw [IntKind.wrap_i64]; omega
      clear hsr1 hup1 hi3
      go_wp2_with fail
      go_cut [47] from 31 to 49 (fun q wx => ∃ bb : Bool, q = .bool bb ∧ Hid (SR g og cap base n w0 dk wx ∧ (bb = true → i1 ≤ j ∧ scanUp (fun x => !ltK dk[a]! x) dk j i1 = scanUp (fun x => !ltK dk[a]! x) dk j (i1 + 1)) ∧ (bb = false → scanUp (fun x => !ltK dk[a]! x) dk j i1 = i1)))
      case first =>
        by_cases le1 : i1 ≤ j
        · have le1z : (i1 : Int) ≤ (j : Int) := by omega
          have z1 : (i1 : Int) < (n : Int) := by omega
          have z1' : i1 < n := by omega
          obtain ⟨x1, hx1⟩ : ∃ x, dk[a]! = x := ⟨_, rfl⟩
          obtain ⟨y1, hy1⟩ : ∃ y, dk[i1]! = y := ⟨_, rfl⟩
          have HX1 : Hid (dk[a]! = x1 ∧ dk[i1]! = y1) := ⟨hx1, hy1⟩
          have hc1 := HS1i.out.drew.cmp x1 y1
          obtain ⟨p0, p1, p2, p3, p4⟩ := HS1i.out.drew.cells (i := a) (by omega) hx1
          obtain ⟨q0, q1, q2, q3, q4⟩ := HS1i.out.drew.cells (i := i1) (by omega) hy1
          obtain ⟨c1, hcc1⟩ : ∃ c, cmpK x1 y1 = c := ⟨_, rfl⟩
          have HC1 : Hid (ltK dk[a]! dk[i1]! = decide (c1 < 0)) := by show _ = _; rw [hx1, hy1]; unfold ltK; rw [hcc1]
          rw [hcc1] at hc1
          obtain ⟨x1_0, x1_1, x1_2, x1_3, x1_4⟩ := x1
          obtain ⟨y1_0, y1_1, y1_2, y1_3, y1_4⟩ := y1
          simp only at p0 p1 p2 p3 p4 q0 q1 q2 q3 q4
          clear hx1 hy1 hcc1
          go_wp2_with fail
          go_region_held3 (fun V => V.cell? ⟨g, a * 5, none⟩ = some (.int .i64 x1_0) ∧ V.cell? ⟨g, a * 5 + 1, none⟩ = some (.int .i64 x1_1) ∧ V.cell? ⟨g, a * 5 + 2, none⟩ = some (.int .i64 x1_2) ∧ V.cell? ⟨g, a * 5 + 3, none⟩ = some (.int .i64 x1_3) ∧ V.cell? ⟨g, a * 5 + 4, none⟩ = some (.int .i64 x1_4) ∧ V.cell? ⟨g, i1 * 5, none⟩ = some (.int .i64 y1_0) ∧ V.cell? ⟨g, i1 * 5 + 1, none⟩ = some (.int .i64 y1_1) ∧ V.cell? ⟨g, i1 * 5 + 2, none⟩ = some (.int .i64 y1_2) ∧ V.cell? ⟨g, i1 * 5 + 3, none⟩ = some (.int .i64 y1_3) ∧ V.cell? ⟨g, i1 * 5 + 4, none⟩ = some (.int .i64 y1_4))
            (first | (exact ⟨p0, p1, p2, p3, p4, q0, q1, q2, q3, q4⟩) | (exact HB1.out))
            (first | (go_at_call 74
                      refine hc1.mono ?_
                      rintro e w1 ⟨rfl, hs1⟩
                      have HS1 : Hid (SR g og cap base n w0 dk w1) := hs1
                      have HB1 : Hid (w1.cell? ⟨g, a * 5, none⟩ = some (.int .i64 x1_0) ∧ w1.cell? ⟨g, a * 5 + 1, none⟩ = some (.int .i64 x1_1) ∧ w1.cell? ⟨g, a * 5 + 2, none⟩ = some (.int .i64 x1_2) ∧ w1.cell? ⟨g, a * 5 + 3, none⟩ = some (.int .i64 x1_3) ∧ w1.cell? ⟨g, a * 5 + 4, none⟩ = some (.int .i64 x1_4) ∧ w1.cell? ⟨g, i1 * 5, none⟩ = some (.int .i64 y1_0) ∧ w1.cell? ⟨g, i1 * 5 + 1, none⟩ = some (.int .i64 y1_1) ∧ w1.cell? ⟨g, i1 * 5 + 2, none⟩ = some (.int .i64 y1_2) ∧ w1.cell? ⟨g, i1 * 5 + 3, none⟩ = some (.int .i64 y1_3) ∧ w1.cell? ⟨g, i1 * 5 + 4, none⟩ = some (.int .i64 y1_4)) := by
                        obtain ⟨p0, p1, p2, p3, p4⟩ := hs1.cells (i := a) (by omega) HX1.out.1
                        obtain ⟨q0, q1, q2, q3, q4⟩ := hs1.cells (i := i1) (by omega) HX1.out.2
                        exact ⟨p0, p1, p2, p3, p4, q0, q1, q2, q3, q4⟩
                      clear hs1))
          clear p0 p1 p2 p3 p4 q0 q1 q2 q3 q4 hc1 HB1 HX1
          have hcd := HC1.out
          have HT1 : Hid (SR g og cap base n w0 dk w1) := HS1.out
          by_cases c0 : c1 < 0
          · rw [decide_eq_true c0] at hcd
            have HK1 : Hid _ := hcd
            clear hcd
            all_goals (
              go_wp2_with fail
              go_meet
              exact ⟨false, congrArg Value.bool (by rw [decide_eq_true (show c1 < 0 by omega)]; rfl), HT1.out, fun h => (by cases h), fun _ => scanUp_end _ _ _ _ (.inr (by show (!ltK dk[a]! dk[i1]!) = false; rw [HK1.out]; rfl))⟩)
          · rw [decide_eq_false c0] at hcd
            have HK1 : Hid _ := hcd
            clear hcd
            all_goals (
              go_wp2_with fail
              go_meet
              exact ⟨true, congrArg Value.bool (by rw [decide_eq_false (show ¬ c1 < 0 by omega)]; rfl), HT1.out, fun _ => ⟨le1, scanUp_go _ _ _ _ le1 (by show (!ltK dk[a]! dk[i1]!) = true; rw [HK1.out]; rfl)⟩, fun h => by cases h⟩)
        · have le1z : ¬ (i1 : Int) ≤ (j : Int) := by omega
          go_region
          all_goals (
            go_wp2_with fail
            go_meet
            exact ⟨false, rfl, HS1i.out.drew, fun h => (by cases h), fun _ => scanUp_end _ _ _ _ (.inl le1)⟩)
      case rest =>
        obtain ⟨bb, rfl, HCk1⟩ := hcut
        cases bb with
        | true =>
          have HN1 := HCk1.out.2.1 rfl
          have HN21 : Hid (i1 ≤ j ∧ scanUp (fun x => !ltK dk[a]! x) dk j i3 = scanUp (fun x => !ltK dk[a]! x) dk j i) := ⟨HN1.1, by rw [HI31.out, ← HN1.2]; exact HUp1.out⟩
          clear HN1
          go_wp2
          have h1 := HN21.out.1
          have h3 := HI31.out
          refine ⟨⟨i3, rfl, by omega, by omega, HCk1.out.1, HN21.out.2⟩, by simp [intOf]; omega⟩
        | false =>
          have HS1c : Hid (SR g og cap base n w0 dk wc) := HCk1.out.1
          have HU1 : Hid (i1 = scanUp (fun x => !ltK dk[a]! x) dk j i) := by show i1 = _; rw [← HUp1.out, HCk1.out.2.2 rfl]
          clear HCk1 HI31 HUp1 HS1i ku1
          go_wp2
          go_loopw [12] (fun v wr => ∃ j1 : Nat, v = .int .i64 j1 ∧ j1 ≤ j ∧ i1 ≤ j1 + 1 ∧ SR g og cap base n w0 dk wr ∧ scanDown (fun x => ltK dk[a]! x) dk i1 j1 = scanDown (fun x => ltK dk[a]! x) dk i1 j)
            (fun v _ => (intOf v).toNat)
          case atStart => exact ⟨j, rfl, by omega, by omega, HS1c.out, rfl⟩
          case round =>
            obtain ⟨j1, rfl, hjj, hij2, hsr2, hup2⟩ := hrel
            have HS2i : Hid (SR g og cap base n w0 dk wr) := hsr2
            have HUp2 : Hid (scanDown (fun x => ltK dk[a]! x) dk i1 j1 = scanDown (fun x => ltK dk[a]! x) dk i1 j) := hup2
            clear hsr2 hup2
            go_wp2_with fail
            go_cut [65] from 50 to 67 (fun q wx => ∃ bb : Bool, q = .bool bb ∧ Hid (SR g og cap base n w0 dk wx ∧ (bb = true → i1 ≤ j1 ∧ scanDown (fun x => ltK dk[a]! x) dk i1 j1 = scanDown (fun x => ltK dk[a]! x) dk i1 (j1 - 1)) ∧ (bb = false → scanDown (fun x => ltK dk[a]! x) dk i1 j1 = j1)))
            case first =>
              by_cases le1 : i1 ≤ j1
              · have le1z : (i1 : Int) ≤ (j1 : Int) := by omega
                have z1 : (j1 : Int) < (n : Int) := by omega
                have z1' : j1 < n := by omega
                obtain ⟨x2, hx2⟩ : ∃ x, dk[a]! = x := ⟨_, rfl⟩
                obtain ⟨y2, hy2⟩ : ∃ y, dk[j1]! = y := ⟨_, rfl⟩
                have HX2 : Hid (dk[a]! = x2 ∧ dk[j1]! = y2) := ⟨hx2, hy2⟩
                have hc2 := HS2i.out.drew.cmp x2 y2
                obtain ⟨p0, p1, p2, p3, p4⟩ := HS2i.out.drew.cells (i := a) (by omega) hx2
                obtain ⟨q0, q1, q2, q3, q4⟩ := HS2i.out.drew.cells (i := j1) (by omega) hy2
                obtain ⟨c2, hcc2⟩ : ∃ c, cmpK x2 y2 = c := ⟨_, rfl⟩
                have HC2 : Hid (ltK dk[a]! dk[j1]! = decide (c2 < 0)) := by show _ = _; rw [hx2, hy2]; unfold ltK; rw [hcc2]
                rw [hcc2] at hc2
                obtain ⟨x2_0, x2_1, x2_2, x2_3, x2_4⟩ := x2
                obtain ⟨y2_0, y2_1, y2_2, y2_3, y2_4⟩ := y2
                simp only at p0 p1 p2 p3 p4 q0 q1 q2 q3 q4
                clear hx2 hy2 hcc2
                go_wp2_with fail
                go_region_held3 (fun V => V.cell? ⟨g, a * 5, none⟩ = some (.int .i64 x2_0) ∧ V.cell? ⟨g, a * 5 + 1, none⟩ = some (.int .i64 x2_1) ∧ V.cell? ⟨g, a * 5 + 2, none⟩ = some (.int .i64 x2_2) ∧ V.cell? ⟨g, a * 5 + 3, none⟩ = some (.int .i64 x2_3) ∧ V.cell? ⟨g, a * 5 + 4, none⟩ = some (.int .i64 x2_4) ∧ V.cell? ⟨g, j1 * 5, none⟩ = some (.int .i64 y2_0) ∧ V.cell? ⟨g, j1 * 5 + 1, none⟩ = some (.int .i64 y2_1) ∧ V.cell? ⟨g, j1 * 5 + 2, none⟩ = some (.int .i64 y2_2) ∧ V.cell? ⟨g, j1 * 5 + 3, none⟩ = some (.int .i64 y2_3) ∧ V.cell? ⟨g, j1 * 5 + 4, none⟩ = some (.int .i64 y2_4))
                  (first | (exact ⟨p0, p1, p2, p3, p4, q0, q1, q2, q3, q4⟩) | (exact HB2.out))
                  (first | (go_at_call 74
                            refine hc2.mono ?_
                            rintro e w2 ⟨rfl, hs2⟩
                            have HS2 : Hid (SR g og cap base n w0 dk w2) := hs2
                            have HB2 : Hid (w2.cell? ⟨g, a * 5, none⟩ = some (.int .i64 x2_0) ∧ w2.cell? ⟨g, a * 5 + 1, none⟩ = some (.int .i64 x2_1) ∧ w2.cell? ⟨g, a * 5 + 2, none⟩ = some (.int .i64 x2_2) ∧ w2.cell? ⟨g, a * 5 + 3, none⟩ = some (.int .i64 x2_3) ∧ w2.cell? ⟨g, a * 5 + 4, none⟩ = some (.int .i64 x2_4) ∧ w2.cell? ⟨g, j1 * 5, none⟩ = some (.int .i64 y2_0) ∧ w2.cell? ⟨g, j1 * 5 + 1, none⟩ = some (.int .i64 y2_1) ∧ w2.cell? ⟨g, j1 * 5 + 2, none⟩ = some (.int .i64 y2_2) ∧ w2.cell? ⟨g, j1 * 5 + 3, none⟩ = some (.int .i64 y2_3) ∧ w2.cell? ⟨g, j1 * 5 + 4, none⟩ = some (.int .i64 y2_4)) := by
                              obtain ⟨p0, p1, p2, p3, p4⟩ := hs2.cells (i := a) (by omega) HX2.out.1
                              obtain ⟨q0, q1, q2, q3, q4⟩ := hs2.cells (i := j1) (by omega) HX2.out.2
                              exact ⟨p0, p1, p2, p3, p4, q0, q1, q2, q3, q4⟩
                            clear hs2))
                clear p0 p1 p2 p3 p4 q0 q1 q2 q3 q4 hc2 HB2 HX2
                have hcd := HC2.out
                have HT2 : Hid (SR g og cap base n w0 dk w2) := HS2.out
                by_cases c0 : c2 < 0
                · rw [decide_eq_true c0] at hcd
                  have HK2 : Hid _ := hcd
                  clear hcd
                  all_goals (
                    go_wp2_with fail
                    go_meet
                    exact ⟨true, congrArg Value.bool (by rw [decide_eq_true (show c2 < 0 by omega)]), HT2.out, fun _ => ⟨le1, scanDown_go _ _ _ _ le1 (by omega) (by show ltK dk[a]! dk[j1]! = true; rw [HK2.out])⟩, fun h => by cases h⟩)
                · rw [decide_eq_false c0] at hcd
                  have HK2 : Hid _ := hcd
                  clear hcd
                  all_goals (
                    go_wp2_with fail
                    go_meet
                    exact ⟨false, congrArg Value.bool (by rw [decide_eq_false (show ¬ c2 < 0 by omega)]), HT2.out, fun h => (by cases h), fun _ => scanDown_end _ _ _ _ (.inr (by show ltK dk[a]! dk[j1]! = false; rw [HK2.out]))⟩)
              · have le1z : ¬ (i1 : Int) ≤ (j1 : Int) := by omega
                go_region
                all_goals (
                  go_wp2_with fail
                  go_meet
                  exact ⟨false, rfl, HS2i.out.drew, fun h => (by cases h), fun _ => scanDown_end _ _ _ _ (.inl le1)⟩)
            case rest =>
              obtain ⟨bb, rfl, HCk2⟩ := hcut
              cases bb with
              | true =>
                have HN2 := HCk2.out.2.1 rfl
                obtain ⟨j3, hj3⟩ : ∃ k, k = j1 - 1 := ⟨_, rfl⟩
                have HJ32 : Hid (j3 = j1 - 1) := hj3
                have kd2 : IntKind.i64.wrap ((j1 : Int) - 1) = (j3 : Int) := by rw [IntKind.wrap_i64]; have := HN2.1; omega
                have HN22 : Hid (i1 ≤ j1 ∧ scanDown (fun x => ltK dk[a]! x) dk i1 j3 = scanDown (fun x => ltK dk[a]! x) dk i1 j) := ⟨HN2.1, by rw [HJ32.out, ← HN2.2]; exact HUp2.out⟩
                clear HN2 hj3
                go_wp2
                have h1 := HN22.out.1
                have h3 := HJ32.out
                refine ⟨⟨j3, rfl, by omega, by omega, HCk2.out.1, HN22.out.2⟩, by simp [intOf]; omega⟩
              | false =>
                have HS2c : Hid (SR g og cap base n w0 dk wc) := HCk2.out.1
                have HU2 : Hid (j1 = scanDown (fun x => ltK dk[a]! x) dk i1 j) := by show j1 = _; rw [← HUp2.out, HCk2.out.2.2 rfl]
                clear HCk2 HUp2 HS2i
                by_cases lt2 : j1 < i1
                · have lt2z : (j1 : Int) < (i1 : Int) := by omega
                  have HF : Hid (partEqLoop ltK a i j dk = (i1, dk)) := partEq_break ltK a i j dk HU1.out HU2.out lt2
                  go_wp2
                  go_ret
                  have e := HE.out
                  rw [HF.out] at e
                  rw [← e]
                  exact ⟨rfl, HS2c.out⟩
                · have lt2z : ¬ (j1 : Int) < (i1 : Int) := by omega
                  have lt3 := scans_lt ltK a i j dk (by omega) HU1.out HU2.out (by omega)
                  have hgo := (partEq_go ltK a i j dk HU1.out HU2.out (by omega)).symm.trans HE1.out
                  obtain ⟨i4, hi4⟩ : ∃ k, k = i1 + 1 := ⟨_, rfl⟩
                  obtain ⟨j4, hj4⟩ : ∃ k, k = j1 - 1 := ⟨_, rfl⟩
                  rw [← hi4, ← hj4] at hgo
                  have HGo : Hid _ := hgo
                  have HIJ : Hid (i4 = i1 + 1 ∧ j4 = j1 - 1) := ⟨hi4, hj4⟩
                  have ke1 : IntKind.i64.wrap ((i1 : Int) + 1) = (i4 : Int) := by rw [IntKind.wrap_i64]; omega
                  have ke2 : IntKind.i64.wrap ((j1 : Int) - 1) = (j4 : Int) := by rw [IntKind.wrap_i64]; omega
                  have zi : (i1 : Int) < (n : Int) := by omega
                  have zj : (j1 : Int) < (n : Int) := by omega
                  have hi' : i1 < n := by omega
                  have hj' : j1 < n := by omega
                  clear hi4 hj4 hgo
                  obtain ⟨x3, hx3⟩ : ∃ x, dk[i1]! = x := ⟨_, rfl⟩
                  obtain ⟨y3, hy3⟩ : ∃ y, dk[j1]! = y := ⟨_, rfl⟩
                  obtain ⟨p0, p1, p2, p3, p4⟩ := HS2c.out.drew.cells (i := i1) (by omega) hx3
                  obtain ⟨q0, q1, q2, q3, q4⟩ := HS2c.out.drew.cells (i := j1) (by omega) hy3
                  obtain ⟨x3_0, x3_1, x3_2, x3_3, x3_4⟩ := x3
                  obtain ⟨y3_0, y3_1, y3_2, y3_3, y3_4⟩ := y3
                  simp only at p0 p1 p2 p3 p4 q0 q1 q2 q3 q4
                  have s1 := StOk.mk HS2c.out.drew (i := i1) (by omega) (y3_0, y3_1, y3_2, y3_3, y3_4)
                  have s2 := StOk.mk (HS2c.out.drew.set (i := i1) (by omega) (y3_0, y3_1, y3_2, y3_3, y3_4)) (i := j1) (by omega) (x3_0, x3_1, x3_2, x3_3, x3_4)
                  simp only [kV] at s2
                  have HW3 : Hid (SR g og cap base n w0 (swp dk i1 j1) ((wc.drew.setCells g (i1 * 5) (kV (y3_0, y3_1, y3_2, y3_3, y3_4))).setCells g (j1 * 5) (kV (x3_0, x3_1, x3_2, x3_3, x3_4)))) := by
                    have := HS2c.out.drew.swap (i := i1) (j := j1) (by omega) (by omega)
                    rw [hx3, hy3] at this
                    exact this
                  clear hx3 hy3
                  go_wp2
                  go_region
                  clear p0 p1 p2 p3 p4 q0 q1 q2 q3 q4 s1 s2
                  go_wp2
                  have hx := HIJ.out
                  refine ⟨⟨i4, j4, _, rfl, rfl, by omega, by omega, by omega, HW3.out, HGo.out⟩, by simp [intOf]; omega⟩

end Go.Proofs.Ytnclfoljfnfglai
