import Derived.Test.YtnclfoljfnfglaiTmPdq
import Derived.Deep.CutRange
namespace Go.Proofs.Ytnclfoljfnfglai
open Go.RowKit Go.Maps Go.Sort
set_option linter.unusedVariables false
attribute [local go_sem ↓] wp_store_key
attribute [local go_sem] pBlk_ptr pOff_ptr pAgg_agg

theorem sift_end {hi first r : Nat} {d : Array Kx} (h : 2 * r + 1 ≥ hi) : siftDown ltK hi first r d = d := by rw [siftDown, dif_pos h]
/-- Which child is taken. -/
def Child (hi first r : Nat) (d : Array Kx) (ch : Nat) : Prop := (ch = 2 * r + 2 ∧ 2 * r + 1 + 1 < hi ∧ ltK d[first + (2 * r + 1)]! d[first + (2 * r + 1) + 1]! = true) ∨ (ch = 2 * r + 1 ∧ (2 * r + 1 + 1 < hi → ltK d[first + (2 * r + 1)]! d[first + (2 * r + 1) + 1]! = false))
theorem sift_stop {hi first r ch : Nat} {d : Array Kx} (h : ¬ 2 * r + 1 ≥ hi) (hc : Child hi first r d ch) (hl : ltK d[first + r]! d[first + ch]! = false) : siftDown ltK hi first r d = d := by
  rw [siftDown, dif_neg h]
  rcases hc with ⟨rfl, h1, h2⟩ | ⟨rfl, h1⟩
  · simp [h1, h2, hl]
  · by_cases h2 : 2 * r + 1 + 1 < hi
    · simp [h2, h1 h2, hl]
    · simp [h2, hl]
theorem sift_go {hi first r ch : Nat} {d : Array Kx} (h : ¬ 2 * r + 1 ≥ hi) (hc : Child hi first r d ch) (hl : ltK d[first + r]! d[first + ch]! = true) : siftDown ltK hi first r d = siftDown ltK hi first ch (swp d (first + r) (first + ch)) := by
  rw [siftDown, dif_neg h]
  rcases hc with ⟨rfl, h1, h2⟩ | ⟨rfl, h1⟩
  · simp [h1, h2, hl]
  · by_cases h2 : 2 * r + 1 + 1 < hi
    · simp [h2, h1 h2, hl]
    · simp [h2, hl]

set_option maxHeartbeats 8000000 in
set_option maxRecDepth 100000 in
theorem sift_any (g og cap base n lo hi first : Nat) (w0 : World) (d : Array Kx) (w : World) (h : SR g og cap base n w0 d w) (hl : lo ≤ hi) (hf : first + hi ≤ n) (hn : n < 1152921504606846976) :
    Calls Try.prog 104 #[.slice (some ⟨g, 0, none⟩) n cap, .int .i64 lo, .int .i64 hi, .int .i64 first, cmpF og] w fun e w' => e = .returned (.tuple #[]) ∧ SR g og cap base n w0 (siftDown ltK hi first lo d) w' := by
  have HR : Hid (SR g og cap base n w0 d w) := h
  clear h
  go_enter Try.func104, Try.ntmps104
  go_wp2
  go_loopw [10] (fun v wr => ∃ (r : Nat) (dr : Array Kx), v = .int .i64 r ∧ r ≤ hi ∧ SR g og cap base n w0 dr wr ∧ siftDown ltK hi first r dr = siftDown ltK hi first lo d)
    (fun v _ => hi - (intOf v).toNat)
  case atStart => exact ⟨lo, d, rfl, hl, HR.out, rfl⟩
  case round =>
    obtain ⟨r, dr, rfl, hr, hsr, heq⟩ := hrel
    have HS : Hid (SR g og cap base n w0 dr wr) := hsr
    have HE : Hid (siftDown ltK hi first r dr = siftDown ltK hi first lo d) := heq
    obtain ⟨ch, hch⟩ : ∃ ch, ch = 2 * r + 1 := ⟨_, rfl⟩
    have HCh : Hid (ch = 2 * r + 1) := hch
    have kk1 : IntKind.i64.wrap (2 * (r : Int)) = 2 * (r : Int) := by rw [IntKind.wrap_i64]; omega
    have kk2 : IntKind.i64.wrap (2 * (r : Int) + 1) = (ch : Int) := by rw [IntKind.wrap_i64]; omega
    clear hsr heq HR
    by_cases h1 : hi ≤ ch
    · have h1z : (hi : Int) ≤ (ch : Int) := by omega
      have hend := HE.out
      rw [sift_end (by omega)] at hend
      have HD : Hid _ := hend
      clear hend hch
      go_wp2
      go_end0
      exact ⟨rfl, HD.out ▸ HS.out⟩
    · have h1z : ¬ (hi : Int) ≤ (ch : Int) := by omega
      obtain ⟨fr, hfr⟩ : ∃ k, k = first + r := ⟨_, rfl⟩
      obtain ⟨fc, hfc⟩ : ∃ k, k = first + ch := ⟨_, rfl⟩
      obtain ⟨fd, hfd⟩ : ∃ k, k = first + ch + 1 := ⟨_, rfl⟩
      obtain ⟨cj, hcj⟩ : ∃ k, k = ch + 1 := ⟨_, rfl⟩
      have HFx : Hid (fr = first + r ∧ fc = first + ch ∧ fd = first + ch + 1 ∧ cj = ch + 1) := ⟨hfr, hfc, hfd, hcj⟩
      have kk3 : IntKind.i64.wrap ((ch : Int) + 1) = (cj : Int) := by rw [IntKind.wrap_i64]; omega
      have kk4 : IntKind.i64.wrap ((first : Int) + (ch : Int)) = (fc : Int) := by rw [IntKind.wrap_i64]; omega
      have kk5 : IntKind.i64.wrap ((fc : Int) + 1) = (fd : Int) := by rw [IntKind.wrap_i64]; omega
      have kk8 : IntKind.i64.wrap ((first : Int) + (cj : Int)) = (fd : Int) := by rw [IntKind.wrap_i64]; omega
      have zc : (fc : Int) < (n : Int) := by omega
      have zr : (fr : Int) < (n : Int) := by omega
      have kk6 : IntKind.i64.wrap ((first : Int) + (r : Int)) = (fr : Int) := by rw [IntKind.wrap_i64]; omega
      clear hch hfr hfc hfd hcj
      go_wp2_with fail
      go_cut [40] from 13 to 81 (fun q wx => ∃ b : Bool, q = .bool b ∧ Hid (SR g og cap base n w0 dr wx ∧ (b = true → cj < hi ∧ Child hi first r dr cj) ∧ (b = false → Child hi first r dr ch)))
      case first =>
        by_cases h2 : cj < hi
        · have h2z : (cj : Int) < (hi : Int) := by omega
          have zd : (fd : Int) < (n : Int) := by have := HFx.out; omega
          have hfd' : fd < n := by omega
          have hfc' : fc < n := by omega
          obtain ⟨x1, hx1⟩ : ∃ x, dr[fc]! = x := ⟨_, rfl⟩
          obtain ⟨y1, hy1⟩ : ∃ y, dr[fd]! = y := ⟨_, rfl⟩
          have HX1 : Hid (dr[fc]! = x1 ∧ dr[fd]! = y1) := ⟨hx1, hy1⟩
          have hc1 := HS.out.drew.cmp x1 y1
          obtain ⟨p0, p1, p2, p3, p4⟩ := HS.out.drew.cells (i := fc) (by omega) hx1
          obtain ⟨q0, q1, q2, q3, q4⟩ := HS.out.drew.cells (i := fd) (by omega) hy1
          obtain ⟨c1, hcc1⟩ : ∃ c, cmpK x1 y1 = c := ⟨_, rfl⟩
          have HC1 : Hid (ltK dr[fc]! dr[fd]! = decide (c1 < 0)) := by show _ = _; rw [hx1, hy1]; unfold ltK; rw [hcc1]
          rw [hcc1] at hc1
          obtain ⟨x1_0, x1_1, x1_2, x1_3, x1_4⟩ := x1
          obtain ⟨y1_0, y1_1, y1_2, y1_3, y1_4⟩ := y1
          simp only at p0 p1 p2 p3 p4 q0 q1 q2 q3 q4
          clear hx1 hy1 hcc1
          go_wp2_with fail
          go_region_held3 (fun V => V.cell? ⟨g, fc * 5, none⟩ = some (.int .i64 x1_0) ∧ V.cell? ⟨g, fc * 5 + 1, none⟩ = some (.int .i64 x1_1) ∧ V.cell? ⟨g, fc * 5 + 2, none⟩ = some (.int .i64 x1_2) ∧ V.cell? ⟨g, fc * 5 + 3, none⟩ = some (.int .i64 x1_3) ∧ V.cell? ⟨g, fc * 5 + 4, none⟩ = some (.int .i64 x1_4) ∧ V.cell? ⟨g, fd * 5, none⟩ = some (.int .i64 y1_0) ∧ V.cell? ⟨g, fd * 5 + 1, none⟩ = some (.int .i64 y1_1) ∧ V.cell? ⟨g, fd * 5 + 2, none⟩ = some (.int .i64 y1_2) ∧ V.cell? ⟨g, fd * 5 + 3, none⟩ = some (.int .i64 y1_3) ∧ V.cell? ⟨g, fd * 5 + 4, none⟩ = some (.int .i64 y1_4))
            (first | (exact ⟨p0, p1, p2, p3, p4, q0, q1, q2, q3, q4⟩) | (exact HB1.out))
            (first | (go_at_call 74
                      refine hc1.mono ?_
                      rintro e w1 ⟨rfl, hs1⟩
                      have HS1 : Hid (SR g og cap base n w0 dr w1) := hs1
                      have HB1 : Hid (w1.cell? ⟨g, fc * 5, none⟩ = some (.int .i64 x1_0) ∧ w1.cell? ⟨g, fc * 5 + 1, none⟩ = some (.int .i64 x1_1) ∧ w1.cell? ⟨g, fc * 5 + 2, none⟩ = some (.int .i64 x1_2) ∧ w1.cell? ⟨g, fc * 5 + 3, none⟩ = some (.int .i64 x1_3) ∧ w1.cell? ⟨g, fc * 5 + 4, none⟩ = some (.int .i64 x1_4) ∧ w1.cell? ⟨g, fd * 5, none⟩ = some (.int .i64 y1_0) ∧ w1.cell? ⟨g, fd * 5 + 1, none⟩ = some (.int .i64 y1_1) ∧ w1.cell? ⟨g, fd * 5 + 2, none⟩ = some (.int .i64 y1_2) ∧ w1.cell? ⟨g, fd * 5 + 3, none⟩ = some (.int .i64 y1_3) ∧ w1.cell? ⟨g, fd * 5 + 4, none⟩ = some (.int .i64 y1_4)) := by
                        obtain ⟨p0, p1, p2, p3, p4⟩ := hs1.cells (i := fc) (by omega) HX1.out.1
                        obtain ⟨q0, q1, q2, q3, q4⟩ := hs1.cells (i := fd) (by omega) HX1.out.2
                        exact ⟨p0, p1, p2, p3, p4, q0, q1, q2, q3, q4⟩
                      clear hs1))
          clear p0 p1 p2 p3 p4 q0 q1 q2 q3 q4 hc1 HB1 HX1
          have hcd := HC1.out
          rw [HFx.out.2.1, HFx.out.2.2.1, HCh.out] at hcd
          by_cases c0 : c1 < 0
          · rw [decide_eq_true c0] at hcd
            have HK : Hid _ := hcd
            clear hcd
            all_goals (
              go_wp2_with fail
              go_meet
              exact ⟨true, congrArg Value.bool (decide_eq_true c0), HS1.out, fun _ => ⟨h2, .inl ⟨by have := HCh.out; have := HFx.out; omega, by have := HCh.out; have := HFx.out; omega, HK.out⟩⟩, fun h => by cases h⟩)
          · rw [decide_eq_false c0] at hcd
            have HK : Hid _ := hcd
            clear hcd
            all_goals (
              go_wp2_with fail
              go_meet
              exact ⟨false, congrArg Value.bool (decide_eq_false (by omega)), HS1.out, fun h => (by cases h), fun _ => .inr ⟨HCh.out, fun _ => HK.out⟩⟩)
        · have h2z : ¬ (cj : Int) < (hi : Int) := by omega
          go_region
          all_goals (
            go_wp2_with fail
            go_meet
            exact ⟨false, rfl, HS.out.drew, fun h => (by cases h), fun _ => .inr ⟨HCh.out, fun h => absurd h (by have := HCh.out; have := HFx.out; omega)⟩⟩)
      case rest =>
        obtain ⟨bb, rfl, HCk⟩ := hcut
        have HSc : Hid (SR g og cap base n w0 dr wc) := HCk.out.1
        cases bb with
        | true =>
          have HK := HCk.out.2.1 rfl
          have zk : (fd : Int) < (n : Int) := by have := HFx.out; have := HK.1; omega
          have hc' : cj < hi := HK.1
          have HCi : Hid (Child hi first r dr cj) := HK.2
          have HLe : Hid (r < cj) := by have := HCh.out; have := HFx.out; show r < cj; omega
          have HFk : Hid (fd = first + cj) := by have := HFx.out; show fd = _; omega
          clear HK HCk
          have hne : fr ≠ fd := by have := HFx.out.1; have := HFk.out; have := HLe.out; omega
          have hfk' : fd < n := by omega
          have hfr' : fr < n := by omega
          obtain ⟨x2, hx2⟩ : ∃ x, dr[fr]! = x := ⟨_, rfl⟩
          obtain ⟨y2, hy2⟩ : ∃ y, dr[fd]! = y := ⟨_, rfl⟩
          have HX2 : Hid (dr[fr]! = x2 ∧ dr[fd]! = y2) := ⟨hx2, hy2⟩
          have hc2 := HSc.out.drew.cmp x2 y2
          obtain ⟨p0, p1, p2, p3, p4⟩ := HSc.out.drew.cells (i := fr) (by omega) hx2
          obtain ⟨q0, q1, q2, q3, q4⟩ := HSc.out.drew.cells (i := fd) (by omega) hy2
          obtain ⟨c2, hcc2⟩ : ∃ c, cmpK x2 y2 = c := ⟨_, rfl⟩
          have HC2 : Hid (ltK dr[fr]! dr[fd]! = decide (c2 < 0)) := by show _ = _; rw [hx2, hy2]; unfold ltK; rw [hcc2]
          rw [hcc2] at hc2
          obtain ⟨x2_0, x2_1, x2_2, x2_3, x2_4⟩ := x2
          obtain ⟨y2_0, y2_1, y2_2, y2_3, y2_4⟩ := y2
          simp only at p0 p1 p2 p3 p4 q0 q1 q2 q3 q4
          clear hx2 hy2 hcc2
          go_wp2_with fail
          go_region_held3 (fun V => V.cell? ⟨g, fr * 5, none⟩ = some (.int .i64 x2_0) ∧ V.cell? ⟨g, fr * 5 + 1, none⟩ = some (.int .i64 x2_1) ∧ V.cell? ⟨g, fr * 5 + 2, none⟩ = some (.int .i64 x2_2) ∧ V.cell? ⟨g, fr * 5 + 3, none⟩ = some (.int .i64 x2_3) ∧ V.cell? ⟨g, fr * 5 + 4, none⟩ = some (.int .i64 x2_4) ∧ V.cell? ⟨g, fd * 5, none⟩ = some (.int .i64 y2_0) ∧ V.cell? ⟨g, fd * 5 + 1, none⟩ = some (.int .i64 y2_1) ∧ V.cell? ⟨g, fd * 5 + 2, none⟩ = some (.int .i64 y2_2) ∧ V.cell? ⟨g, fd * 5 + 3, none⟩ = some (.int .i64 y2_3) ∧ V.cell? ⟨g, fd * 5 + 4, none⟩ = some (.int .i64 y2_4))
            (first | (exact ⟨p0, p1, p2, p3, p4, q0, q1, q2, q3, q4⟩) | (exact HB2.out))
            (first | (go_at_call 74
                      refine hc2.mono ?_
                      rintro e w2 ⟨rfl, hs2⟩
                      have HS2 : Hid (SR g og cap base n w0 dr w2) := hs2
                      have HB2 : Hid (w2.cell? ⟨g, fr * 5, none⟩ = some (.int .i64 x2_0) ∧ w2.cell? ⟨g, fr * 5 + 1, none⟩ = some (.int .i64 x2_1) ∧ w2.cell? ⟨g, fr * 5 + 2, none⟩ = some (.int .i64 x2_2) ∧ w2.cell? ⟨g, fr * 5 + 3, none⟩ = some (.int .i64 x2_3) ∧ w2.cell? ⟨g, fr * 5 + 4, none⟩ = some (.int .i64 x2_4) ∧ w2.cell? ⟨g, fd * 5, none⟩ = some (.int .i64 y2_0) ∧ w2.cell? ⟨g, fd * 5 + 1, none⟩ = some (.int .i64 y2_1) ∧ w2.cell? ⟨g, fd * 5 + 2, none⟩ = some (.int .i64 y2_2) ∧ w2.cell? ⟨g, fd * 5 + 3, none⟩ = some (.int .i64 y2_3) ∧ w2.cell? ⟨g, fd * 5 + 4, none⟩ = some (.int .i64 y2_4)) := by
                        obtain ⟨p0, p1, p2, p3, p4⟩ := hs2.cells (i := fr) (by omega) HX2.out.1
                        obtain ⟨q0, q1, q2, q3, q4⟩ := hs2.cells (i := fd) (by omega) HX2.out.2
                        exact ⟨p0, p1, p2, p3, p4, q0, q1, q2, q3, q4⟩
                      clear hs2))
          clear p0 p1 p2 p3 p4 q0 q1 q2 q3 q4 hc2 HB2 HX2
          have hcd := HC2.out
          rw [HFx.out.1, HFk.out] at hcd
          by_cases c0 : c2 < 0
          · rw [decide_eq_true c0] at hcd
            simp only [decide_eq_true c0, Bool.not_true]
            have hgo := (sift_go (by have := HCh.out; omega) HCi.out hcd).symm.trans HE.out
            rw [← HFx.out.1, ← HFk.out] at hgo
            have HGo : Hid _ := hgo
            clear hcd hgo
            obtain ⟨x3, hx3⟩ : ∃ x, dr[fr]! = x := ⟨_, rfl⟩
            obtain ⟨y3, hy3⟩ : ∃ y, dr[fd]! = y := ⟨_, rfl⟩
            obtain ⟨p0, p1, p2, p3, p4⟩ := HS2.out.drew.cells (i := fr) (by omega) hx3
            obtain ⟨q0, q1, q2, q3, q4⟩ := HS2.out.drew.cells (i := fd) (by omega) hy3
            obtain ⟨x3_0, x3_1, x3_2, x3_3, x3_4⟩ := x3
            obtain ⟨y3_0, y3_1, y3_2, y3_3, y3_4⟩ := y3
            simp only at p0 p1 p2 p3 p4 q0 q1 q2 q3 q4
            have s1 := StOk.mk HS2.out.drew (i := fr) (by omega) (y3_0, y3_1, y3_2, y3_3, y3_4)
            have s2 := StOk.mk (HS2.out.drew.set (i := fr) (by omega) (y3_0, y3_1, y3_2, y3_3, y3_4)) (i := fd) (by omega) (x3_0, x3_1, x3_2, x3_3, x3_4)
            simp only [kV] at s2
            have HW3 : Hid (SR g og cap base n w0 (swp dr fr fd) ((w2.drew.setCells g (fr * 5) (kV (y3_0, y3_1, y3_2, y3_3, y3_4))).setCells g (fd * 5) (kV (x3_0, x3_1, x3_2, x3_3, x3_4)))) := by
              have := HS2.out.drew.swap (i := fr) (j := fd) (by omega) (by omega)
              rw [hx3, hy3] at this
              exact this
            clear hx3 hy3
            go_wp2
            go_region
            clear p0 p1 p2 p3 p4 q0 q1 q2 q3 q4 s1 s2
            go_wp2
            have := HLe.out
            refine ⟨⟨cj, _, rfl, by omega, HW3.out, HGo.out⟩, by simp [intOf]; omega⟩
          · rw [decide_eq_false c0] at hcd
            simp only [decide_eq_false c0, Bool.not_false]
            have hst := (sift_stop (by have := HCh.out; omega) HCi.out hcd).symm.trans HE.out
            have HD : Hid _ := hst
            clear hcd hst
            go_wp2
            refine bodyPost_ret (results_none rfl _ _ _) rfl ?_
            exact ⟨rfl, HD.out ▸ HS2.out⟩
        | false =>
          have zk : (fc : Int) < (n : Int) := zc
          have hc' : ch < hi := by omega
          have HCi : Hid (Child hi first r dr ch) := HCk.out.2.2 rfl
          have HLe : Hid (r < ch) := by have := HCh.out; show r < ch; omega
          have HFk : Hid (fc = first + ch) := HFx.out.2.1
          clear HCk
          have hne : fr ≠ fc := by have := HFx.out.1; have := HFk.out; have := HLe.out; omega
          have hfk' : fc < n := by omega
          have hfr' : fr < n := by omega
          obtain ⟨x2, hx2⟩ : ∃ x, dr[fr]! = x := ⟨_, rfl⟩
          obtain ⟨y2, hy2⟩ : ∃ y, dr[fc]! = y := ⟨_, rfl⟩
          have HX2 : Hid (dr[fr]! = x2 ∧ dr[fc]! = y2) := ⟨hx2, hy2⟩
          have hc2 := HSc.out.drew.cmp x2 y2
          obtain ⟨p0, p1, p2, p3, p4⟩ := HSc.out.drew.cells (i := fr) (by omega) hx2
          obtain ⟨q0, q1, q2, q3, q4⟩ := HSc.out.drew.cells (i := fc) (by omega) hy2
          obtain ⟨c2, hcc2⟩ : ∃ c, cmpK x2 y2 = c := ⟨_, rfl⟩
          have HC2 : Hid (ltK dr[fr]! dr[fc]! = decide (c2 < 0)) := by show _ = _; rw [hx2, hy2]; unfold ltK; rw [hcc2]
          rw [hcc2] at hc2
          obtain ⟨x2_0, x2_1, x2_2, x2_3, x2_4⟩ := x2
          obtain ⟨y2_0, y2_1, y2_2, y2_3, y2_4⟩ := y2
          simp only at p0 p1 p2 p3 p4 q0 q1 q2 q3 q4
          clear hx2 hy2 hcc2
          go_wp2_with fail
          go_region_held3 (fun V => V.cell? ⟨g, fr * 5, none⟩ = some (.int .i64 x2_0) ∧ V.cell? ⟨g, fr * 5 + 1, none⟩ = some (.int .i64 x2_1) ∧ V.cell? ⟨g, fr * 5 + 2, none⟩ = some (.int .i64 x2_2) ∧ V.cell? ⟨g, fr * 5 + 3, none⟩ = some (.int .i64 x2_3) ∧ V.cell? ⟨g, fr * 5 + 4, none⟩ = some (.int .i64 x2_4) ∧ V.cell? ⟨g, fc * 5, none⟩ = some (.int .i64 y2_0) ∧ V.cell? ⟨g, fc * 5 + 1, none⟩ = some (.int .i64 y2_1) ∧ V.cell? ⟨g, fc * 5 + 2, none⟩ = some (.int .i64 y2_2) ∧ V.cell? ⟨g, fc * 5 + 3, none⟩ = some (.int .i64 y2_3) ∧ V.cell? ⟨g, fc * 5 + 4, none⟩ = some (.int .i64 y2_4))
            (first | (exact ⟨p0, p1, p2, p3, p4, q0, q1, q2, q3, q4⟩) | (exact HB2.out))
            (first | (go_at_call 74
                      refine hc2.mono ?_
                      rintro e w2 ⟨rfl, hs2⟩
                      have HS2 : Hid (SR g og cap base n w0 dr w2) := hs2
                      have HB2 : Hid (w2.cell? ⟨g, fr * 5, none⟩ = some (.int .i64 x2_0) ∧ w2.cell? ⟨g, fr * 5 + 1, none⟩ = some (.int .i64 x2_1) ∧ w2.cell? ⟨g, fr * 5 + 2, none⟩ = some (.int .i64 x2_2) ∧ w2.cell? ⟨g, fr * 5 + 3, none⟩ = some (.int .i64 x2_3) ∧ w2.cell? ⟨g, fr * 5 + 4, none⟩ = some (.int .i64 x2_4) ∧ w2.cell? ⟨g, fc * 5, none⟩ = some (.int .i64 y2_0) ∧ w2.cell? ⟨g, fc * 5 + 1, none⟩ = some (.int .i64 y2_1) ∧ w2.cell? ⟨g, fc * 5 + 2, none⟩ = some (.int .i64 y2_2) ∧ w2.cell? ⟨g, fc * 5 + 3, none⟩ = some (.int .i64 y2_3) ∧ w2.cell? ⟨g, fc * 5 + 4, none⟩ = some (.int .i64 y2_4)) := by
                        obtain ⟨p0, p1, p2, p3, p4⟩ := hs2.cells (i := fr) (by omega) HX2.out.1
                        obtain ⟨q0, q1, q2, q3, q4⟩ := hs2.cells (i := fc) (by omega) HX2.out.2
                        exact ⟨p0, p1, p2, p3, p4, q0, q1, q2, q3, q4⟩
                      clear hs2))
          clear p0 p1 p2 p3 p4 q0 q1 q2 q3 q4 hc2 HB2 HX2
          have hcd := HC2.out
          rw [HFx.out.1, HFk.out] at hcd
          by_cases c0 : c2 < 0
          · rw [decide_eq_true c0] at hcd
            simp only [decide_eq_true c0, Bool.not_true]
            have hgo := (sift_go (by have := HCh.out; omega) HCi.out hcd).symm.trans HE.out
            rw [← HFx.out.1, ← HFk.out] at hgo
            have HGo : Hid _ := hgo
            clear hcd hgo
            obtain ⟨x3, hx3⟩ : ∃ x, dr[fr]! = x := ⟨_, rfl⟩
            obtain ⟨y3, hy3⟩ : ∃ y, dr[fc]! = y := ⟨_, rfl⟩
            obtain ⟨p0, p1, p2, p3, p4⟩ := HS2.out.drew.cells (i := fr) (by omega) hx3
            obtain ⟨q0, q1, q2, q3, q4⟩ := HS2.out.drew.cells (i := fc) (by omega) hy3
            obtain ⟨x3_0, x3_1, x3_2, x3_3, x3_4⟩ := x3
            obtain ⟨y3_0, y3_1, y3_2, y3_3, y3_4⟩ := y3
            simp only at p0 p1 p2 p3 p4 q0 q1 q2 q3 q4
            have s1 := StOk.mk HS2.out.drew (i := fr) (by omega) (y3_0, y3_1, y3_2, y3_3, y3_4)
            have s2 := StOk.mk (HS2.out.drew.set (i := fr) (by omega) (y3_0, y3_1, y3_2, y3_3, y3_4)) (i := fc) (by omega) (x3_0, x3_1, x3_2, x3_3, x3_4)
            simp only [kV] at s2
            have HW3 : Hid (SR g og cap base n w0 (swp dr fr fc) ((w2.drew.setCells g (fr * 5) (kV (y3_0, y3_1, y3_2, y3_3, y3_4))).setCells g (fc * 5) (kV (x3_0, x3_1, x3_2, x3_3, x3_4)))) := by
              have := HS2.out.drew.swap (i := fr) (j := fc) (by omega) (by omega)
              rw [hx3, hy3] at this
              exact this
            clear hx3 hy3
            go_wp2
            go_region
            clear p0 p1 p2 p3 p4 q0 q1 q2 q3 q4 s1 s2
            go_wp2
            have := HLe.out
            refine ⟨⟨ch, _, rfl, by omega, HW3.out, HGo.out⟩, by simp [intOf]; omega⟩
          · rw [decide_eq_false c0] at hcd
            simp only [decide_eq_false c0, Bool.not_false]
            have hst := (sift_stop (by have := HCh.out; omega) HCi.out hcd).symm.trans HE.out
            have HD : Hid _ := hst
            clear hcd hst
            go_wp2
            refine bodyPost_ret (results_none rfl _ _ _) rfl ?_
            exact ⟨rfl, HD.out ▸ HS2.out⟩

end Go.Proofs.Ytnclfoljfnfglai
