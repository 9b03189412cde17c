import Derived.Test.YtnclfoljfnfglaiTmPsf
namespace Go.Proofs.Ytnclfoljfnfglai
open Go.RowKit Go.Maps Go.Sort
set_option linter.unusedVariables false
attribute [local go_sem ↓] wp_store_key
attribute [local go_sem] pBlk_ptr pOff_ptr pAgg_agg

set_option maxHeartbeats 8000000 in
set_option maxRecDepth 100000 in
theorem reverse_any (g og cap base n a b : Nat) (w0 : World) (d : Array Kx) (w : World) (h : SR g og cap base n w0 d w) (hab : a < b) (hb : b ≤ n) (hn : n < 1152921504606846976) :
    Calls Try.prog 94 #[.slice (some ⟨g, 0, none⟩) n cap, .int .i64 a, .int .i64 b, cmpF og] w fun e w' => e = .returned (.tuple #[]) ∧ SR g og cap base n w0 (reverseRange d a b) w' := by
  have HR : Hid (SR g og cap base n w0 d w) := h
  obtain ⟨b1, hb1⟩ : ∃ k, k = b - 1 := ⟨_, rfl⟩
  have HB1 : Hid (b1 = b - 1) := hb1
  have kk1 : IntKind.i64.wrap ((b : Int) - 1) = (b1 : Int) := by rw [IntKind.wrap_i64]; omega
  have hb1n : b1 < n := by omega
  have hab1 : a ≤ b1 := by omega
  clear h hb1
  go_enter Try.func94, Try.ntmps94
  go_wp2
  go_loopw [8, 9] (fun v u wr => ∃ (i j : Nat) (dr : Array Kx), v = .int .i64 i ∧ u = .int .i64 j ∧ j < n ∧ i ≤ n ∧ SR g og cap base n w0 dr wr ∧ reverseLoop i j dr = reverseLoop a b1 d)
    (fun v u _ => (intOf u).toNat - (intOf v).toNat)
  case atStart => exact ⟨a, b1, d, rfl, rfl, by omega, by omega, HR.out, rfl⟩
  case round =>
    obtain ⟨i, j, dr, rfl, rfl, hj, hi, hsr, heq⟩ := hrel
    have HS : Hid (SR g og cap base n w0 dr wr) := hsr
    have HE : Hid (reverseLoop i j dr = reverseLoop a b1 d) := heq
    clear hsr heq HR
    by_cases hij : i < j
    · have hijz : (i : Int) < (j : Int) := by omega
      obtain ⟨i1, hi1⟩ : ∃ k, k = i + 1 := ⟨_, rfl⟩
      obtain ⟨j1, hj1⟩ : ∃ k, k = j - 1 := ⟨_, rfl⟩
      have kk2 : IntKind.i64.wrap ((i : Int) + 1) = (i1 : Int) := by rw [IntKind.wrap_i64]; omega
      have kk3 : IntKind.i64.wrap ((j : Int) - 1) = (j1 : Int) := by rw [IntKind.wrap_i64]; omega
      have zi : (i : Int) < (n : Int) := by omega
      have zj : (j : Int) < (n : Int) := by omega
      have hi' : i < n := by omega
      have HIJ : Hid (i1 = i + 1 ∧ j1 = j - 1) := ⟨hi1, hj1⟩
      have hgo := HE.out
      rw [reverseLoop, if_pos hij, ← hi1, ← hj1] at hgo
      have HGo : Hid _ := hgo
      clear hi1 hj1 hgo
      obtain ⟨x1, hx1⟩ : ∃ x, dr[i]! = x := ⟨_, rfl⟩
      obtain ⟨y1, hy1⟩ : ∃ y, dr[j]! = y := ⟨_, rfl⟩
      obtain ⟨p0, p1, p2, p3, p4⟩ := HS.out.drew.cells (i := i) (by omega) hx1
      obtain ⟨q0, q1, q2, q3, q4⟩ := HS.out.drew.cells (i := j) (by omega) hy1
      obtain ⟨x1_0, x1_1, x1_2, x1_3, x1_4⟩ := x1
      obtain ⟨y1_0, y1_1, y1_2, y1_3, y1_4⟩ := y1
      simp only at p0 p1 p2 p3 p4 q0 q1 q2 q3 q4
      have s1 := StOk.mk HS.out.drew (i := i) (by omega) (y1_0, y1_1, y1_2, y1_3, y1_4)
      have s2 := StOk.mk (HS.out.drew.set (i := i) (by omega) (y1_0, y1_1, y1_2, y1_3, y1_4)) (i := j) (by omega) (x1_0, x1_1, x1_2, x1_3, x1_4)
      simp only [kV] at s2
      have HW1 : Hid (SR g og cap base n w0 (swp dr i j) ((wr.drew.setCells g (i * 5) (kV (y1_0, y1_1, y1_2, y1_3, y1_4))).setCells g (j * 5) (kV (x1_0, x1_1, x1_2, x1_3, x1_4)))) := by
        have := HS.out.drew.swap (i := i) (j := j) (by omega) (by omega)
        rw [hx1, hy1] at this
        exact this
      clear hx1 hy1
      go_wp2
      go_region
      clear p0 p1 p2 p3 p4 q0 q1 q2 q3 q4 s1 s2
      go_wp2
      have hx := HIJ.out
      refine ⟨⟨i1, j1, _, rfl, rfl, by omega, by omega, HW1.out, HGo.out⟩, by simp [intOf]; omega⟩
    · have hijz : ¬ (i : Int) < (j : Int) := by omega
      go_wp2
      go_end0
      refine ⟨rfl, ?_⟩
      have e := HE.out
      rw [reverseLoop, if_neg hij] at e
      unfold reverseRange
      rw [← HB1.out, ← e]; exact HS.out

set_option maxHeartbeats 8000000 in
set_option maxRecDepth 100000 in
theorem heap_any (g og cap base n a b : Nat) (w0 : World) (d : Array Kx) (w : World) (h : SR g og cap base n w0 d w) (hab : a < b) (hb : b ≤ n) (hn : n < 1152921504606846976) :
    Calls Try.prog 91 #[.slice (some ⟨g, 0, none⟩) n cap, .int .i64 a, .int .i64 b, cmpF og] w fun e w' => e = .returned (.tuple #[]) ∧ SR g og cap base n w0 (heapSort ltK d a b) w' := by
  have HR : Hid (SR g og cap base n w0 d w) := h
  obtain ⟨hi, hhi⟩ : ∃ k, k = b - a := ⟨_, rfl⟩
  obtain ⟨hj, hhj⟩ : ∃ k, k = hi - 1 := ⟨_, rfl⟩
  obtain ⟨m, hm⟩ : ∃ k, k = hj / 2 := ⟨_, rfl⟩
  have HN : Hid (hi = b - a ∧ hj = hi - 1 ∧ m = hj / 2) := ⟨hhi, hhj, hm⟩
  have kk1 : IntKind.i64.wrap ((b : Int) - (a : Int)) = (hi : Int) := by rw [IntKind.wrap_i64]; omega
  have kk2 : IntKind.i64.wrap ((hi : Int) - 1) = (hj : Int) := by rw [IntKind.wrap_i64]; omega
  have kk3 : Int.tdiv (hj : Int) 2 = (m : Int) := by rw [Int.tdiv_eq_ediv_of_nonneg (by omega)]; omega
  have kk4 : IntKind.i64.wrap (m : Int) = (m : Int) := by rw [IntKind.wrap_i64]; omega
  have hmi : m < hi := by omega
  have hai : a + hi ≤ n := by omega
  have hjb : hj + 1 = hi := by omega
  have HEq : Hid (heapPop ltK a hi (heapBuild ltK hi a (m + 1) d) = heapSort ltK d a b) := by
    show _ = _
    unfold heapSort
    rw [hm, hhj, hhi]
  clear h hhi hhj hm
  go_enter Try.func91, Try.ntmps91
  go_wp2
  go_loopw [11] (fun v wr => ∃ (k : Nat) (z : Int) (dr : Array Kx), v = .int .i64 z ∧ z = (k : Int) - 1 ∧ k ≤ hi ∧ SR g og cap base n w0 dr wr ∧ heapBuild ltK hi a k dr = heapBuild ltK hi a (m + 1) d)
    (fun v _ => (intOf v + 1).toNat)
  case atStart => exact ⟨m + 1, m, d, rfl, by omega, by omega, HR.out, rfl⟩
  case round =>
    obtain ⟨k, z, dr, rfl, hz, hk, hsr, heq⟩ := hrel
    have HS : Hid (SR g og cap base n w0 dr wr) := hsr
    have HE : Hid (heapBuild ltK hi a k dr = heapBuild ltK hi a (m + 1) d) := heq
    clear hsr heq HR
    by_cases hz0 : 0 ≤ z
    · obtain ⟨q, rfl⟩ : ∃ q, k = q + 1 := ⟨k - 1, by omega⟩
      obtain rfl : z = (q : Int) := by omega
      have hgo := HE.out
      rw [heapBuild] at hgo
      have HGo : Hid _ := hgo
      obtain ⟨q1, hq1⟩ : ∃ q1 : Int, q1 = (q : Int) - 1 := ⟨_, rfl⟩
      have HQ : Hid (q1 = (q : Int) - 1) := hq1
      have kq : IntKind.i64.wrap ((q : Int) - 1) = q1 := by rw [IntKind.wrap_i64]; omega
      have hs := sift_any g og cap base n q hi a w0 dr wr HS.out (by omega) hai hn
      clear hgo hz hq1
      go_wp2_with fail
      refine hs.mono ?_
      rintro e w1 ⟨rfl, hs1⟩
      have HS1 : Hid _ := hs1
      clear hs1 hs
      go_wp2
      have := HQ.out
      refine ⟨⟨q, q1, _, rfl, HQ.out, by omega, HS1.out, HGo.out⟩, by simp [intOf]; omega⟩
    · obtain rfl : k = 0 := by omega
      have hz1 : z < 0 := by omega
      have e0 := HE.out
      rw [heapBuild] at e0
      have HP : Hid (heapPop ltK a hi dr = heapSort ltK d a b) := by show _ = _; rw [e0]; exact HEq.out
      clear e0 HE HEq hz
      go_wp2
      go_loopw [12] (fun v wr => ∃ (k : Nat) (z : Int) (dr : Array Kx), v = .int .i64 z ∧ z = (k : Int) - 1 ∧ k ≤ hi ∧ SR g og cap base n w0 dr wr ∧ heapPop ltK a k dr = heapSort ltK d a b)
        (fun v _ => (intOf v + 1).toNat)
      case atStart => exact ⟨hi, hj, dr, rfl, by omega, by omega, HS.out, HP.out⟩
      case round =>
        obtain ⟨k, y, ds, rfl, hy, hk, hsr, heq⟩ := hrel
        have HT : Hid (SR g og cap base n w0 ds wr) := hsr
        have HF : Hid (heapPop ltK a k ds = heapSort ltK d a b) := heq
        clear hsr heq
        by_cases hy0 : 0 ≤ y
        · obtain ⟨q, rfl⟩ : ∃ q, k = q + 1 := ⟨k - 1, by omega⟩
          obtain rfl : y = (q : Int) := by omega
          obtain ⟨aq, haq⟩ : ∃ k, k = a + q := ⟨_, rfl⟩
          have hgo := HF.out
          rw [heapPop, ← haq] at hgo
          have HGo : Hid _ := hgo
          obtain ⟨q1, hq1⟩ : ∃ q1 : Int, q1 = (q : Int) - 1 := ⟨_, rfl⟩
          have HQ : Hid (q1 = (q : Int) - 1) := hq1
          have kq : IntKind.i64.wrap ((q : Int) - 1) = q1 := by rw [IntKind.wrap_i64]; omega
          have ka : IntKind.i64.wrap ((a : Int) + (q : Int)) = (aq : Int) := by rw [IntKind.wrap_i64]; omega
          have za : (a : Int) < (n : Int) := by omega
          have zq : (aq : Int) < (n : Int) := by omega
          have ha' : a < n := by omega
          have hq' : aq < n := by omega
          have hqn : a + q ≤ n := by omega
          clear hgo hy hq1 haq
          obtain ⟨x2, hx2⟩ : ∃ x, ds[a]! = x := ⟨_, rfl⟩
          obtain ⟨y2, hy2⟩ : ∃ y, ds[aq]! = y := ⟨_, rfl⟩
          obtain ⟨p0, p1, p2, p3, p4⟩ := HT.out.drew.cells (i := a) (by omega) hx2
          obtain ⟨q0, q1, q2, q3, q4⟩ := HT.out.drew.cells (i := aq) (by omega) hy2
          obtain ⟨x2_0, x2_1, x2_2, x2_3, x2_4⟩ := x2
          obtain ⟨y2_0, y2_1, y2_2, y2_3, y2_4⟩ := y2
          simp only at p0 p1 p2 p3 p4 q0 q1 q2 q3 q4
          have s1 := StOk.mk HT.out.drew (i := a) (by omega) (y2_0, y2_1, y2_2, y2_3, y2_4)
          have s2 := StOk.mk (HT.out.drew.set (i := a) (by omega) (y2_0, y2_1, y2_2, y2_3, y2_4)) (i := aq) (by omega) (x2_0, x2_1, x2_2, x2_3, x2_4)
          simp only [kV] at s2
          have HW2 : Hid (SR g og cap base n w0 (swp ds a aq) ((wr.drew.setCells g (a * 5) (kV (y2_0, y2_1, y2_2, y2_3, y2_4))).setCells g (aq * 5) (kV (x2_0, x2_1, x2_2, x2_3, x2_4)))) := by
            have := HT.out.drew.swap (i := a) (j := aq) (by omega) (by omega)
            rw [hx2, hy2] at this
            exact this
          clear hx2 hy2
          go_wp2
          go_region
          clear p0 p1 p2 p3 p4 q0 q1 q2 q3 q4 s1 s2
          go_wp2_with fail
          refine (sift_any g og cap base n 0 q a w0 _ _ HW2.out (by omega) hqn hn).mono ?_
          rintro e w1 ⟨rfl, hs1⟩
          have HS1 : Hid _ := hs1
          clear hs1
          go_wp2
          have := HQ.out
          refine ⟨⟨q, q1, _, rfl, HQ.out, by omega, HS1.out, HGo.out⟩, by simp [intOf]; omega⟩
        · obtain rfl : k = 0 := by omega
          have hy1 : y < 0 := by omega
          have e0 := HF.out
          rw [heapPop] at e0
          have HP2 : Hid _ := e0
          clear e0 HF hy
          go_wp2
          go_end0
          exact ⟨rfl, HP2.out ▸ HT.out⟩

end Go.Proofs.Ytnclfoljfnfglai
