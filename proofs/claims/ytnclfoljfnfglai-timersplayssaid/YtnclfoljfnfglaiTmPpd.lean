import Derived.Test.YtnclfoljfnfglaiTmPin
import Derived.Test.YtnclfoljfnfglaiTmPhp
import Derived.Test.YtnclfoljfnfglaiTmPpe
import Derived.Test.YtnclfoljfnfglaiTmPpa
import Derived.Test.YtnclfoljfnfglaiTmPps
import Derived.Test.YtnclfoljfnfglaiTmPbp
import Derived.Test.YtnclfoljfnfglaiTmPsw
import Derived.Sort.Walk13a
namespace Go.Proofs.Ytnclfoljfnfglai
open Go.RowKit Go.Maps Go.Sort
set_option linter.unusedVariables false

set_option maxHeartbeats 16000000 in
set_option maxRecDepth 100000 in
theorem pdq_any (g og cap base n : Nat) (w0 : World) (hn : n < 1152921504606846976) (N : Nat) : ∀ (a b limit : Nat) (d : Array Kx) (w : World), SR g og cap base n w0 d w → b - a = N → a ≤ b → b ≤ n → limit < 4611686018427387904 →
    Calls Try.prog 77 #[.slice (some ⟨g, 0, none⟩) n cap, .int .i64 a, .int .i64 b, .int .i64 limit, cmpF og] w fun e w' => e = .returned (.tuple #[]) ∧ SR g og cap base n w0 (pdq ltK d a b limit true true) w' := by
  induction N using Nat.strongRecOn with
  | ind N ih =>
  intro a b limit d w h hN hab hb hlim
  obtain ⟨F, hF⟩ : ∃ F, pdq ltK = F := ⟨_, rfl⟩
  rw [hF] at ih ⊢
  have HFe : Hid (pdq ltK = F) := hF
  clear hF
  have HR : Hid (SR g og cap base n w0 d w) := h
  have HI : Hid (∀ m, m < N → ∀ (a b limit : Nat) (d : Array Kx) (w : World), SR g og cap base n w0 d w → b - a = m → a ≤ b → b ≤ n → limit < 4611686018427387904 →
    Calls Try.prog 77 #[.slice (some ⟨g, 0, none⟩) n cap, .int .i64 a, .int .i64 b, .int .i64 limit, cmpF og] w fun e w' => e = .returned (.tuple #[]) ∧ SR g og cap base n w0 (F d a b limit true true) w') := ih
  clear h ih
  go_enter Try.func77, Try.ntmps77
  go_wp2
  go_loopw [1, 2, 3, 10, 11] (fun va vb vl v10 v11 wr => ∃ (A B l : Nat) (wb wp : Bool) (dk : Array Kx), va = .int .i64 A ∧ vb = .int .i64 B ∧ vl = .int .i64 l ∧ v10 = .bool wb ∧ v11 = .bool wp ∧ A ≤ B ∧ B ≤ n ∧ B - A ≤ N ∧ l < 4611686018427387904 ∧ SR g og cap base n w0 dk wr ∧ F dk A B l wb wp = F d a b limit true true)
    (fun va vb _ _ _ _ => (intOf vb).toNat - (intOf va).toNat)
  case atStart => exact ⟨a, b, limit, true, true, d, rfl, rfl, rfl, rfl, rfl, hab, hb, by omega, hlim, HR.out, rfl⟩
  case round =>
    obtain ⟨A, B, l, wb, wp, dk, rfl, rfl, rfl, rfl, rfl, hAB, hBn, hBN, hl, hsr, heq⟩ := hrel
    have HS : Hid (SR g og cap base n w0 dk wr) := hsr
    have HE : Hid (F dk A B l wb wp = F d a b limit true true) := heq
    obtain ⟨L, hL⟩ : ∃ x, x = B - A := ⟨_, rfl⟩
    have HL : Hid (L = B - A) := hL
    have kk1 : IntKind.i64.wrap ((B : Int) - (A : Int)) = (L : Int) := by rw [IntKind.wrap_i64]; omega
    clear hsr heq HR
    by_cases l12 : L ≤ 12
    · have l12z : (L : Int) ≤ 12 := by omega
      have hI := insert_any g og cap base n A B w0 dk wr HS.out hAB hBn (by omega)
      have HF : Hid (insertionSort ltK dk A B = F d a b limit true true) := by show _ = _; rw [← HE.out, ← HFe.out, pdq_small (by omega)]
      clear hL
      go_wp2_with fail
      refine hI.mono ?_
      rintro e w1 ⟨rfl, hs1⟩
      have HS1 : Hid _ := hs1
      clear hs1 hI
      go_wp2
      refine bodyPost_ret (results_none rfl _ _ _) rfl ?_
      exact ⟨rfl, HF.out ▸ HS1.out⟩
    · have l12z : ¬ (L : Int) ≤ 12 := by omega
      by_cases l0 : l = 0
      · have l0z : (l : Int) = 0 := by omega
        have l0b : ((l : Int) == 0) = true := by simp [l0]
        have hI := heap_any g og cap base n A B w0 dk wr HS.out (by omega) hBn hn
        have HF : Hid (heapSort ltK dk A B = F d a b limit true true) := by show _ = _; rw [← HE.out, ← HFe.out, pdq_heap (by omega) l0]
        subst l0
        clear hL
        go_wp2_with fail
        refine hI.mono ?_
        rintro e w1 ⟨rfl, hs1⟩
        have HS1 : Hid _ := hs1
        clear hs1 hI
        go_wp2
        refine bodyPost_ret (results_none rfl _ _ _) rfl ?_
        exact ⟨rfl, HF.out ▸ HS1.out⟩
      · have l0z : ¬ (l : Int) = 0 := by omega
        have l0b : ((l : Int) == 0) = false := by simp [l0]
        obtain ⟨R, hR⟩ : ∃ R, Go.Sort.rd ltK dk A B l wb wp = R := ⟨_, rfl⟩
        have HRd : Hid (Go.Sort.rd ltK dk A B l wb wp = R) := hR
        have HR1 : Hid (R.d1 = (if !wb then breakPatterns dk A B else dk) ∧ R.lim = (if !wb then l - 1 else l)) := by show _ ∧ _; rw [← hR]; exact ⟨rfl, rfl⟩
        have HR2 : Hid (R.c = choosePivot ltK R.d1 A B ∧ R.d2 = (if R.c.2 = .decreasing then reverseRange R.d1 A B else R.d1) ∧ R.pivot = (if R.c.2 = .decreasing then (B - 1) - (R.c.1 - A) else R.c.1) ∧ R.hint = (if R.c.2 = .decreasing then Hint.increasing else R.c.2)) := by show _ ∧ _; rw [← hR]; exact ⟨rfl, rfl, rfl, rfl⟩
        have HR3 : Hid (R.pi = (if wb && wp && R.hint = .increasing then partialInsertionSort ltK R.d2 A B else (R.d2, false))) := by show _ = _; rw [← hR]; rfl
        obtain ⟨l9, hl9⟩ : ∃ x, x = l - 1 := ⟨_, rfl⟩
        have HL9 : Hid (l9 = l - 1) := hl9
        have kk2 : IntKind.i64.wrap ((l : Int) - 1) = (l9 : Int) := by rw [IntKind.wrap_i64]; omega
        have hAB12 : A + 12 < B := by omega
        clear hR hL hl9
        go_upto_if 39 with fail
        go_cut [3] from 21 to 147 (fun q wx => ∃ l1 : Nat, q = .int .i64 l1 ∧ Hid (l1 = R.lim ∧ l1 < 4611686018427387904 ∧ SR g og cap base n w0 R.d1 wx))
        case first =>
          cases wb with
          | true =>
            go_wp2_with fail
            go_meet
            exact ⟨l, rfl, by rw [HR1.out.2]; rfl, hl, by rw [HR1.out.1]; exact HS.out⟩
          | false =>
            have hI := break_any g og cap base n A B w0 dk wr HS.out hAB12 hBn hn
            go_wp2_with fail
            refine hI.mono ?_
            rintro e w1 ⟨rfl, hs1⟩
            have HS1 : Hid _ := hs1
            clear hs1 hI
            go_wp2_with fail
            go_meet
            have h9 := HL9.out
            exact ⟨l9, rfl, by rw [HR1.out.2]; exact HL9.out, by omega, by rw [HR1.out.1]; exact HS1.out⟩
        case rest =>
          obtain ⟨l1, rfl, HC1⟩ := hcut
          have hl1 := HC1.out.2.1
          have HLim : Hid (R.lim = l1) := HC1.out.1.symm
          have hI := pivot_any g og cap base n A B w0 R.d1 wc HC1.out.2.2 hAB12 hBn hn
          have hpr := choosePivot_holds ltK R.d1 A B (by omega)
          rw [← HR2.out.1] at hI hpr
          obtain ⟨d1, hd1⟩ : ∃ x, R.d1 = x := ⟨_, rfl⟩
          obtain ⟨d2, hd2⟩ : ∃ x, R.d2 = x := ⟨_, rfl⟩
          obtain ⟨pq, hp1⟩ : ∃ x, R.pivot = x := ⟨_, rfl⟩
          obtain ⟨h1, hh1⟩ : ∃ x, R.hint = x := ⟨_, rfl⟩
          obtain ⟨⟨p0, h0⟩, hc0⟩ : ∃ x, R.c = x := ⟨_, rfl⟩
          have HR4 : Hid (R.d2 = d2 ∧ R.pivot = pq ∧ R.hint = h1) := ⟨hd2, hp1, hh1⟩
          have HR5 : Hid (d2 = (if h0 = .decreasing then reverseRange d1 A B else d1) ∧ pq = (if h0 = .decreasing then (B - 1) - (p0 - A) else p0) ∧ h1 = (if h0 = .decreasing then Hint.increasing else h0)) := by
            have e := HR2.out.2
            rw [hd1, hd2, hp1, hh1, hc0] at e
            exact e
          rw [hd1, hc0] at hI
          rw [hc0] at hpr
          simp only at hI hpr
          have hpr1 : A ≤ p0 ∧ p0 < B := ⟨hpr.1, hpr.2⟩
          clear hd1 hd2 hp1 hh1 hc0 hpr
          go_wp2_with fail
          refine hI.mono ?_
          rintro e w1 ⟨rfl, hs1⟩
          have HS1 : Hid (SR g og cap base n w0 d1 w1) := hs1
          clear hs1 hI
          obtain ⟨b1, hb1⟩ : ∃ x, x = B - 1 := ⟨_, rfl⟩
          obtain ⟨pa, hpa⟩ : ∃ x, x = p0 - A := ⟨_, rfl⟩
          obtain ⟨bp, hbp⟩ : ∃ x, x = b1 - pa := ⟨_, rfl⟩
          have kp1 : IntKind.i64.wrap ((B : Int) - 1) = (b1 : Int) := by rw [IntKind.wrap_i64]; omega
          have kp2 : IntKind.i64.wrap ((p0 : Int) - (A : Int)) = (pa : Int) := by rw [IntKind.wrap_i64]; omega
          have kp3 : IntKind.i64.wrap ((b1 : Int) - (pa : Int)) = (bp : Int) := by rw [IntKind.wrap_i64]; omega
          have HBP : Hid (bp = (B - 1) - (p0 - A)) := by show bp = _; rw [hbp, hb1, hpa]
          clear hb1 hpa hbp
          go_upto_if 56 with fail
          go_cut [13, 14] from 21 to 147 (fun q q2 wx => q = .int .i64 pq ∧ q2 = .int .i64 (hV h1) ∧ Hid (A ≤ pq ∧ pq < B ∧ SR g og cap base n w0 d2 wx))
          case first =>
            have hI := reverse_any g og cap base n A B w0 d1 w1 HS1.out (by omega) hBn hn
            cases h0 with
            | decreasing =>
              simp only [hV]
              go_wp2_with fail
              refine hI.mono ?_
              rintro e w2 ⟨rfl, hs2⟩
              have HS2 : Hid _ := hs2
              clear hs2 hI
              go_wp2_with fail
              go_meet
              have e := HR5.out
              simp only [if_true] at e
              have hbq := HBP.out
              rw [e.2.1, e.2.2, e.1, ← hbq]
              exact ⟨rfl, rfl, by omega, by omega, HS2.out⟩
            | increasing =>
              simp only [hV]
              go_wp2_with fail
              go_meet
              have e := HR5.out
              simp only [reduceCtorEq, if_false] at e
              rw [e.2.1, e.2.2, e.1]
              exact ⟨rfl, rfl, by omega, by omega, HS1.out⟩
            | unknown =>
              simp only [hV]
              go_wp2_with fail
              go_meet
              have e := HR5.out
              simp only [reduceCtorEq, if_false] at e
              rw [e.2.1, e.2.2, e.1]
              exact ⟨rfl, rfl, by omega, by omega, HS1.out⟩
          case rest =>
            obtain ⟨rfl, rfl, HC2⟩ := hcut
            have HS2 : Hid (SR g og cap base n w0 d2 wc) := HC2.out.2.2
            have hp1A := HC2.out.1
            have hp1B := HC2.out.2.1
            clear HC2 HC1
            go_upto_region 15 with fail
            go_cut [75] from 21 to 147 (fun q wx => q = .bool (wb && wp && decide (h1 = .increasing)) ∧ Hid (SR g og cap base n w0 d2 wx))
            case first =>
              cases wb <;> cases wp <;> cases h1
              all_goals (
                try simp only [hV]
                go_wp2_with fail
                go_meet
                exact ⟨rfl, HS2.out⟩)
            case rest =>
              obtain ⟨rfl, HS3⟩ := hcut
              have HR6 : Hid (R.pi = (if (wb && wp && decide (h1 = .increasing)) = true then partialInsertionSort ltK d2 A B else (d2, false))) := by
                have e := HR3.out
                rw [HR4.out.2.2, HR4.out.1] at e
                exact e
              obtain ⟨bq, hbq⟩ : ∃ x, (wb && wp && decide (h1 = .increasing)) = x := ⟨_, rfl⟩
              have HR7 : Hid (R.pi = (if bq = true then partialInsertionSort ltK d2 A B else (d2, false))) := by show _ = _; rw [← hbq]; exact HR6.out
              rw [hbq]
              clear hbq HR6 HR3 HS2
              go_upto_if 75 with fail
              go_cut [13] from 21 to 147 (fun q wx => q = .int .i64 pq ∧ Hid (R.pi.2 = false ∧ SR g og cap base n w0 R.pi.1 wx))
              case first =>
                cases bq with
                | false =>
                  go_wp2_with fail
                  go_meet
                  exact ⟨rfl, by rw [HR7.out]; exact ⟨rfl, HS3.out⟩⟩
                | true =>
                  have hI := partIns_any g og cap base n A B w0 d2 wc HS3.out (by omega) hBn hn
                  obtain ⟨⟨dq, bz⟩, hpp⟩ : ∃ x, partialInsertionSort ltK d2 A B = x := ⟨_, rfl⟩
                  rw [hpp] at hI
                  have HR8 : Hid (R.pi = (dq, bz)) := by show _ = _; rw [HR7.out, if_pos rfl, hpp]
                  clear hpp
                  go_wp2_with fail
                  refine hI.mono ?_
                  rintro e w2 ⟨rfl, hs2⟩
                  have HS4 : Hid _ := hs2
                  clear hs2 hI
                  cases bz with
                  | true =>
                    have HF : Hid (dq = F d a b limit true true) := by
                      show _ = _
                      rw [← HE.out, ← HFe.out, pdq_done (by have := HL.out; omega) l0 (by rw [HRd.out, HR8.out]), HRd.out, HR8.out]
                    go_wp2
                    refine bodyPost_ret (results_none rfl _ _ _) rfl ?_
                    exact ⟨rfl, HF.out ▸ HS4.out⟩
                  | false =>
                    go_wp2_with fail
                    go_meet
                    exact ⟨rfl, by rw [HR8.out]; exact ⟨rfl, HS4.out⟩⟩
              case rest =>
                obtain ⟨rfl, HC4⟩ := hcut
                obtain ⟨dp, hdp⟩ : ∃ x, R.pi.1 = x := ⟨_, rfl⟩
                have HS5 : Hid (SR g og cap base n w0 dp wc) := by show SR g og cap base n w0 dp wc; rw [← hdp]; exact HC4.out.2
                have HR9 : Hid (R.pi.1 = dp ∧ R.pi.2 = false ∧ R.pivot = pq) := ⟨hdp, HC4.out.1, HR4.out.2.1⟩
                obtain ⟨Am, hAm⟩ : ∃ x, x = A - 1 := ⟨_, rfl⟩
                have HAm : Hid (Am = A - 1) := hAm
                have zAm : (Am : Int) < (n : Int) := by omega
                have hAm' : Am < n := by omega
                have zp1 : (pq : Int) < (n : Int) := by omega
                have hp1' : pq < n := by omega
                clear hdp HC4 HS3 HR7 HR5 HR2
                have kAm : 0 < A → IntKind.i64.wrap ((A : Int) - 1) = (Am : Int) := fun _ => by rw [IntKind.wrap_i64]; omega
                clear hAm
                go_wp2_with fail
                go_cut [97] from 21 to 147 (fun q wx => ∃ bt : Bool, q = .bool bt ∧ Hid (SR g og cap base n w0 dp wx ∧ (decide (A > 0) && !ltK dp[A - 1]! dp[pq]!) = bt))
                case first =>
                  by_cases A0 : 0 < A
                  · have A0z : (0 : Int) < (A : Int) := by omega
                    have kA0 := kAm A0
                    clear kAm
                    obtain ⟨x6, hx6⟩ : ∃ x, dp[Am]! = x := ⟨_, rfl⟩
                    obtain ⟨y6, hy6⟩ : ∃ y, dp[pq]! = y := ⟨_, rfl⟩
                    have HX6 : Hid (dp[Am]! = x6 ∧ dp[pq]! = y6) := ⟨hx6, hy6⟩
                    have hc6 := HS5.out.drew.cmp x6 y6
                    obtain ⟨p0, p1, p2, p3, p4⟩ := HS5.out.drew.cells (i := Am) (by omega) hx6
                    obtain ⟨q0, q1, q2, q3, q4⟩ := HS5.out.drew.cells (i := pq) (by omega) hy6
                    obtain ⟨c6, hcc6⟩ : ∃ c, cmpK x6 y6 = c := ⟨_, rfl⟩
                    have HC6 : Hid (ltK dp[Am]! dp[pq]! = decide (c6 < 0)) := by show _ = _; rw [hx6, hy6]; unfold ltK; rw [hcc6]
                    rw [hcc6] at hc6
                    obtain ⟨x6_0, x6_1, x6_2, x6_3, x6_4⟩ := x6
                    obtain ⟨y6_0, y6_1, y6_2, y6_3, y6_4⟩ := y6
                    simp only at p0 p1 p2 p3 p4 q0 q1 q2 q3 q4
                    clear hx6 hy6 hcc6
                    skip
                    go_region_held3 (fun V => V.cell? ⟨g, Am * 5, none⟩ = some (.int .i64 x6_0) ∧ V.cell? ⟨g, Am * 5 + 1, none⟩ = some (.int .i64 x6_1) ∧ V.cell? ⟨g, Am * 5 + 2, none⟩ = some (.int .i64 x6_2) ∧ V.cell? ⟨g, Am * 5 + 3, none⟩ = some (.int .i64 x6_3) ∧ V.cell? ⟨g, Am * 5 + 4, none⟩ = some (.int .i64 x6_4) ∧ V.cell? ⟨g, pq * 5, none⟩ = some (.int .i64 y6_0) ∧ V.cell? ⟨g, pq * 5 + 1, none⟩ = some (.int .i64 y6_1) ∧ V.cell? ⟨g, pq * 5 + 2, none⟩ = some (.int .i64 y6_2) ∧ V.cell? ⟨g, pq * 5 + 3, none⟩ = some (.int .i64 y6_3) ∧ V.cell? ⟨g, pq * 5 + 4, none⟩ = some (.int .i64 y6_4))
                      (first | (exact ⟨p0, p1, p2, p3, p4, q0, q1, q2, q3, q4⟩) | (exact HB6.out))
                      (first | (go_at_call 74
                                refine hc6.mono ?_
                                rintro e w6 ⟨rfl, hs6⟩
                                have HS6 : Hid (SR g og cap base n w0 dp w6) := hs6
                                have HB6 : Hid (w6.cell? ⟨g, Am * 5, none⟩ = some (.int .i64 x6_0) ∧ w6.cell? ⟨g, Am * 5 + 1, none⟩ = some (.int .i64 x6_1) ∧ w6.cell? ⟨g, Am * 5 + 2, none⟩ = some (.int .i64 x6_2) ∧ w6.cell? ⟨g, Am * 5 + 3, none⟩ = some (.int .i64 x6_3) ∧ w6.cell? ⟨g, Am * 5 + 4, none⟩ = some (.int .i64 x6_4) ∧ w6.cell? ⟨g, pq * 5, none⟩ = some (.int .i64 y6_0) ∧ w6.cell? ⟨g, pq * 5 + 1, none⟩ = some (.int .i64 y6_1) ∧ w6.cell? ⟨g, pq * 5 + 2, none⟩ = some (.int .i64 y6_2) ∧ w6.cell? ⟨g, pq * 5 + 3, none⟩ = some (.int .i64 y6_3) ∧ w6.cell? ⟨g, pq * 5 + 4, none⟩ = some (.int .i64 y6_4)) := by
                                  obtain ⟨p0, p1, p2, p3, p4⟩ := hs6.cells (i := Am) (by omega) HX6.out.1
                                  obtain ⟨q0, q1, q2, q3, q4⟩ := hs6.cells (i := pq) (by omega) HX6.out.2
                                  exact ⟨p0, p1, p2, p3, p4, q0, q1, q2, q3, q4⟩
                                clear hs6))
                    clear p0 p1 p2 p3 p4 q0 q1 q2 q3 q4 hc6 HB6 HX6
                    have hcd := HC6.out
                    rw [HAm.out] at hcd
                    by_cases c0 : c6 < 0
                    · rw [decide_eq_true c0] at hcd
                      have HK : Hid _ := hcd
                      clear hcd
                      all_goals (
                        go_wp2_with fail
                        go_meet
                        exact ⟨false, congrArg Value.bool (by rw [decide_eq_true (show c6 < 0 by omega)]; rfl), HS6.out, by rw [HK.out]; simp⟩)
                    · rw [decide_eq_false c0] at hcd
                      have HK : Hid _ := hcd
                      clear hcd
                      all_goals (
                        go_wp2_with fail
                        go_meet
                        exact ⟨true, congrArg Value.bool (by rw [decide_eq_false (show ¬ c6 < 0 by omega)]; rfl), HS6.out, by rw [HK.out, decide_eq_true (show A > 0 by omega)]; rfl⟩)
                  · have A0z : ¬ (0 : Int) < (A : Int) := by omega
                    go_region
                    all_goals (
                      go_wp2_with fail
                      go_meet
                      exact ⟨false, rfl, HS5.out.drew, by rw [decide_eq_false (show ¬ A > 0 by omega)]; rfl⟩)
                case rest =>
                  clear kAm
                  obtain ⟨bt, rfl, HC5⟩ := hcut
                  have hsz := HC5.out.1.len
                  have HTst : Hid ((decide (A > 0) && !ltK (Go.Sort.rd ltK dk A B l wb wp).pi.1[A - 1]! (Go.Sort.rd ltK dk A B l wb wp).pi.1[(Go.Sort.rd ltK dk A B l wb wp).pivot]!) = bt) := by
                    show _ = _; rw [HRd.out, HR9.out.1, HR9.out.2.2]; exact HC5.out.2
                  have HPi2 : Hid ((Go.Sort.rd ltK dk A B l wb wp).pi.2 = false) := by show _ = _; rw [HRd.out]; exact HR9.out.2.1
                  cases bt with
                  | true =>
                    have hI := partEq_any g og cap base n A B pq w0 dp wc HC5.out.1 hp1A hp1B hBn hn
                    have hrg := partEqLoop_spec (lt := ltK) A B (B - A) (A + 1) (B - 1) (swp dp A pq) (by omega) (by omega) (by omega) (by omega) (by rw [size_swp]; omega) (fun t h h' => by omega) (fun t h h' => by omega)
                    change A < (partitionEqual ltK dp A B pq).1 ∧ (partitionEqual ltK dp A B pq).1 ≤ B ∧ _ at hrg
                    have hr1 := hrg.1
                    have hr2 := hrg.2.1
                    have hgo := pdq_eq (lt := ltK) (d := dk) (limit := l) (wb := wb) (wp := wp) (by have := HL.out; omega) l0 HPi2.out HTst.out (by rw [HRd.out, HR9.out.1, HR9.out.2.2]; exact ⟨hr1, hr2⟩)
                    rw [HFe.out, HRd.out, HR9.out.1, HR9.out.2.2, HLim.out, HE.out] at hgo
                    obtain ⟨⟨mid, d4⟩, hpe⟩ : ∃ x, partitionEqual ltK dp A B pq = x := ⟨_, rfl⟩
                    rw [hpe] at hI hr1 hr2 hgo
                    have HGo : Hid _ := hgo.symm
                    simp only at hr1 hr2
                    clear hrg hgo hpe hsz
                    go_wp2_with fail
                    refine hI.mono ?_
                    rintro e w2 ⟨rfl, hs2⟩
                    have HZ : Hid _ := hs2
                    clear hs2 hI
                    go_wp2
                    first
                      | (refine ⟨⟨mid, B, l1, wb, wp, d4, rfl, rfl, rfl, rfl, rfl, by omega, by omega, by omega, by omega, HZ.out, HGo.out⟩, by simp [intOf]; omega⟩)
                      | (go_roundw
                         case rel =>
                           (repeat apply Exists.intro)
                           exact ⟨⟨mid, B, l1, wb, wp, d4, rfl, rfl, rfl, rfl, rfl, by omega, by omega, by omega, by omega, HZ.out, HGo.out⟩, rfl⟩
                         case measure => (simp [intOf]; omega))
                  | false =>
                    have hI := part_any g og cap base n A B pq w0 dp wc HC5.out.1 hp1A hp1B hBn hn
                    have hrg := partition_holds ltK swoK dp A B pq hp1A hp1B (by omega)
                    have hr1 := hrg.1
                    have hr2 := hrg.2.1
                    have hL' := pdq_left (lt := ltK) (d := dk) (limit := l) (wb := wb) (wp := wp) (by have := HL.out; omega) l0 HPi2.out HTst.out (by rw [HRd.out, HR9.out.1, HR9.out.2.2]; exact ⟨hr1, hr2⟩)
                    have hR' := pdq_right (lt := ltK) (d := dk) (limit := l) (wb := wb) (wp := wp) (by have := HL.out; omega) l0 HPi2.out HTst.out (by rw [HRd.out, HR9.out.1, HR9.out.2.2]; exact ⟨hr1, hr2⟩)
                    rw [HFe.out, HRd.out, HR9.out.1, HR9.out.2.2, HLim.out, HE.out] at hL' hR'
                    obtain ⟨⟨mid, ap, d4⟩, hpe⟩ : ∃ x, partition ltK dp A B pq = x := ⟨_, rfl⟩
                    rw [hpe] at hI hr1 hr2 hL' hR'
                    simp only at hr1 hr2 hL' hR' hI
                    have HLf : Hid _ := hL'
                    have HRt : Hid _ := hR'
                    obtain ⟨ll, hll⟩ : ∃ x, x = mid - A := ⟨_, rfl⟩
                    obtain ⟨rr, hrr⟩ : ∃ x, x = B - mid := ⟨_, rfl⟩
                    obtain ⟨q8, hq8⟩ : ∃ x, x = L / 8 := ⟨_, rfl⟩
                    obtain ⟨m1, hm1⟩ : ∃ x, x = mid + 1 := ⟨_, rfl⟩
                    have HX : Hid (ll = mid - A ∧ rr = B - mid ∧ q8 = (B - A) / 8 ∧ m1 = mid + 1) := ⟨hll, hrr, by rw [hq8, HL.out], hm1⟩
                    have km1 : IntKind.i64.wrap ((mid : Int) - (A : Int)) = (ll : Int) := by rw [IntKind.wrap_i64]; omega
                    have km2 : IntKind.i64.wrap ((B : Int) - (mid : Int)) = (rr : Int) := by rw [IntKind.wrap_i64]; omega
                    have km3 : Int.tdiv (L : Int) 8 = (q8 : Int) := by rw [Int.tdiv_eq_ediv_of_nonneg (by omega)]; omega
                    have km4 : IntKind.i64.wrap (q8 : Int) = (q8 : Int) := by have := HL.out; rw [IntKind.wrap_i64]; omega
                    have km5 : IntKind.i64.wrap ((mid : Int) + 1) = (m1 : Int) := by rw [IntKind.wrap_i64]; omega
                    clear hrg hL' hR' hpe hsz hll hrr hq8 hm1
                    go_wp2_with fail
                    refine hI.mono ?_
                    rintro e w2 ⟨rfl, hs2⟩
                    have HZ : Hid (SR g og cap base n w0 d4 w2) := hs2
                    clear hs2 hI
                    by_cases lr : ll < rr
                    · have lrz : (ll : Int) < (rr : Int) := by omega
                      have hx := HX.out
                      have hJ := HI.out (mid - A) (by omega) A mid l1 d4 w2 HZ.out rfl (by omega) (by omega) hl1
                      have HGo : Hid _ := (HLf.out (by omega)).symm
                      clear hx
                      go_wp2_with fail
                      refine hJ.mono ?_
                      rintro e w3 ⟨rfl, hs3⟩
                      have HY : Hid _ := hs3
                      clear hs3 hJ
                      go_wp2
                      have hx := HX.out
                      have hd : decide (q8 ≤ ll) = decide (mid - A ≥ (B - A) / 8) := decide_eq_decide.2 (by omega)
                      refine ⟨⟨m1, B, l1, _, ap, _, rfl, rfl, rfl, congrArg Value.bool hd, rfl, by omega, by omega, by omega, by omega, HY.out, ?_⟩, ?_⟩
                      · rw [hx.2.2.2]; exact HGo.out
                      · simp [intOf]; omega
                    · have lrz : ¬ (ll : Int) < (rr : Int) := by omega
                      have hx := HX.out
                      have hJ := HI.out (B - m1) (by omega) m1 B l1 d4 w2 HZ.out rfl (by omega) (by omega) hl1
                      have HGo : Hid _ := (HRt.out (by omega)).symm
                      clear hx
                      go_wp2_with fail
                      refine hJ.mono ?_
                      rintro e w3 ⟨rfl, hs3⟩
                      have HY : Hid _ := hs3
                      clear hs3 hJ
                      go_wp2
                      have hx := HX.out
                      have hd : decide (q8 ≤ rr) = decide (B - mid ≥ (B - A) / 8) := decide_eq_decide.2 (by omega)
                      have hgo := HGo.out
                      rw [← hx.2.2.2] at hgo
                      refine ⟨⟨A, mid, l1, _, ap, _, rfl, rfl, rfl, congrArg Value.bool hd, rfl, by omega, by omega, by omega, by omega, HY.out, ?_⟩, ?_⟩
                      · exact hgo
                      · simp [intOf]; omega

end Go.Proofs.Ytnclfoljfnfglai
