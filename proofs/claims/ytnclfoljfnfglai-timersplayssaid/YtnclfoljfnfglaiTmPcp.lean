import Derived.Test.YtnclfoljfnfglaiTmPod
namespace Go.Proofs.Ytnclfoljfnfglai
open Go.RowKit Go.Maps Go.Sort
set_option linter.unusedVariables false

/-- A hint, as the program writes it. -/
def hV : Hint → Int
  | .unknown => 0
  | .increasing => 1
  | .decreasing => 2

theorem SR.lt_g {g og cap base n : Nat} {w0 : World} {d : Array Kx} {W : World} (h : SR g og cap base n w0 d W) : g < W.heap.size := by
  obtain ⟨_, ⟨e, _⟩ | ⟨g', cap', cur, e, hb, hg, _⟩⟩ := h.row
  · cases e
  · simp only [Value.slice.injEq, Option.some.injEq, Addr.mk.injEq, and_true] at e
    obtain ⟨rfl, _, rfl⟩ := e
    exact (Array.getElem?_eq_some_iff.1 hg).1
theorem SP.of_alloc {g og cap base n : Nat} {w0 : World} {d : Array Kx} {W : World} (h : SR g og cap base n w0 d W) : SP g og cap base n W.heap.size 0 w0 d (W.alloc (.cells #[.int .i64 0] 3)) :=
  ⟨h.below ⟨rfl, rfl, rfl, by simp, fun j hj => Below.heap_alloc _ _ j hj⟩, (by show (W.heap.push _)[W.heap.size]? = _; exact Array.getElem?_push_size), h.kq.size, by have := h.lt_g; omega, by have := (Array.getElem?_eq_some_iff.1 h.ord).1; omega⟩

set_option maxHeartbeats 8000000 in
set_option maxRecDepth 100000 in
theorem pivot_any (g og cap base n a b : Nat) (w0 : World) (d : Array Kx) (w : World) (h : SR g og cap base n w0 d w) (hab : a + 12 < b) (hb : b ≤ n) (hn : n < 1152921504606846976) :
    Calls Try.prog 93 #[.slice (some ⟨g, 0, none⟩) n cap, .int .i64 a, .int .i64 b, cmpF og] w fun e w' => e = .returned (.tuple #[.int .i64 (choosePivot ltK d a b).1, .int .i64 (hV (choosePivot ltK d a b).2)]) ∧ SR g og cap base n w0 d w' := by
  have h0 := SP.of_alloc h
  have HP : Hid (SP g og cap base n w.heap.size 0 w0 d (w.alloc (.cells #[.int .i64 0] 3))) := h0
  obtain ⟨l, hl⟩ : ∃ l, l = b - a := ⟨_, rfl⟩
  obtain ⟨q, hq⟩ : ∃ q, q = l / 4 := ⟨_, rfl⟩
  obtain ⟨q2, hq2⟩ : ∃ q2, q2 = q * 2 := ⟨_, rfl⟩
  obtain ⟨q3, hq3⟩ : ∃ q3, q3 = q * 3 := ⟨_, rfl⟩
  obtain ⟨i, hi⟩ : ∃ i, i = a + q := ⟨_, rfl⟩
  obtain ⟨j, hj⟩ : ∃ j, j = a + q2 := ⟨_, rfl⟩
  obtain ⟨k, hk⟩ : ∃ k, k = a + q3 := ⟨_, rfl⟩
  have kk1 : IntKind.i64.wrap ((b : Int) - (a : Int)) = (l : Int) := by rw [IntKind.wrap_i64]; omega
  have kk2 : Int.tdiv (l : Int) 4 = (q : Int) := by rw [Int.tdiv_eq_ediv_of_nonneg (by omega)]; omega
  have kk3 : IntKind.i64.wrap (q : Int) = (q : Int) := by rw [IntKind.wrap_i64]; omega
  have kk4 : IntKind.i64.wrap ((q : Int) * 2) = (q2 : Int) := by rw [IntKind.wrap_i64]; omega
  have kk5 : IntKind.i64.wrap ((q : Int) * 3) = (q3 : Int) := by rw [IntKind.wrap_i64]; omega
  have kk6 : IntKind.i64.wrap ((a : Int) + (q : Int)) = (i : Int) := by rw [IntKind.wrap_i64]; omega
  have kk7 : IntKind.i64.wrap ((a : Int) + (q2 : Int)) = (j : Int) := by rw [IntKind.wrap_i64]; omega
  have kk8 : IntKind.i64.wrap ((a : Int) + (q3 : Int)) = (k : Int) := by rw [IntKind.wrap_i64]; omega
  have l8 : (8 : Int) ≤ (l : Int) := by omega
  have bi : 0 < i ∧ i + 1 < n := by omega
  have bj : 0 < j ∧ j + 1 < n := by omega
  have bk : 0 < k ∧ k + 1 < n := by omega
  have HC0 : Hid (choosePivot ltK d a b = (let r := if l ≥ 50 then median ltK d (medianAdjacent ltK d i 0).1 (medianAdjacent ltK d j (medianAdjacent ltK d i 0).2).1 (medianAdjacent ltK d k (medianAdjacent ltK d j (medianAdjacent ltK d i 0).2).2).1 (medianAdjacent ltK d k (medianAdjacent ltK d j (medianAdjacent ltK d i 0).2).2).2 else median ltK d i j k 0; (r.1, if r.2 = 0 then .increasing else if r.2 = 12 then .decreasing else .unknown))) := by
    show _ = _
    unfold choosePivot
    simp only [← hl, ← hq, Nat.mul_one, ← hq2, ← hq3, ← hi, ← hj, ← hk]
    rw [if_pos (show l ≥ 8 by omega)]
  clear h h0 hl hq hq2 hq3 hi hj hk
  go_enter Try.func93, Try.ntmps93
  by_cases l50 : 50 ≤ l
  · have z50 : (50 : Int) ≤ (l : Int) := by omega
    have b1 := median_lt (s := 0) (d := d) (show i - 1 < n by omega) (show i < n by omega) bi.2
    change (medianAdjacent ltK d i 0).1 < n ∧ (medianAdjacent ltK d i 0).2 ≤ 0 + 3 at b1
    obtain ⟨⟨i2, s2⟩, e2⟩ : ∃ r, medianAdjacent ltK d i 0 = r := ⟨_, rfl⟩
    rw [e2] at b1
    have b2 := median_lt (s := s2) (d := d) (show j - 1 < n by omega) (show j < n by omega) bj.2
    change (medianAdjacent ltK d j s2).1 < n ∧ (medianAdjacent ltK d j s2).2 ≤ s2 + 3 at b2
    obtain ⟨⟨j2, s3⟩, e3⟩ : ∃ r, medianAdjacent ltK d j s2 = r := ⟨_, rfl⟩
    rw [e3] at b2
    have b3 := median_lt (s := s3) (d := d) (show k - 1 < n by omega) (show k < n by omega) bk.2
    change (medianAdjacent ltK d k s3).1 < n ∧ (medianAdjacent ltK d k s3).2 ≤ s3 + 3 at b3
    obtain ⟨⟨k2, s4⟩, e4⟩ : ∃ r, medianAdjacent ltK d k s3 = r := ⟨_, rfl⟩
    rw [e4] at b3
    obtain ⟨⟨j5, s5⟩, e5⟩ : ∃ r, median ltK d i2 j2 k2 s4 = r := ⟨_, rfl⟩
    have HC : Hid (choosePivot ltK d a b = (j5, if s5 = 0 then .increasing else if s5 = 12 then .decreasing else .unknown)) := by
      show _ = _
      rw [HC0.out]
      simp only [e2, e3, e4, e5, if_pos (show l ≥ 50 from l50)]
    have HE : Hid (medianAdjacent ltK d i 0 = (i2, s2) ∧ medianAdjacent ltK d j s2 = (j2, s3) ∧ medianAdjacent ltK d k s3 = (k2, s4) ∧ median ltK d i2 j2 k2 s4 = (j5, s5)) := ⟨e2, e3, e4, e5⟩
    simp only at b1 b2 b3
    clear e2 e3 e4 e5
    have hm1 := medAdj_any g og cap base n w.heap.size 0 i w0 d _ HP.out bi.2 bi.1 (by omega) hn
    rw [HE.out.1] at hm1
    go_wp2_with fail
    refine hm1.mono ?_
    rintro e w1 ⟨rfl, hw1⟩
    clear hm1
    have HW1 : Hid _ := hw1
    clear hw1
    have hm2 := medAdj_any g og cap base n w.heap.size s2 j w0 d _ HW1.out bj.2 bj.1 (by omega) hn
    rw [HE.out.2.1] at hm2
    go_wp2_with fail
    refine hm2.mono ?_
    rintro e w2 ⟨rfl, hw2⟩
    clear hm2
    have HW2 : Hid _ := hw2
    clear hw2
    have hm3 := medAdj_any g og cap base n w.heap.size s3 k w0 d _ HW2.out bk.2 bk.1 (by omega) hn
    rw [HE.out.2.2.1] at hm3
    go_wp2_with fail
    refine hm3.mono ?_
    rintro e w3 ⟨rfl, hw3⟩
    clear hm3
    have HW3 : Hid _ := hw3
    clear hw3
    have hm4 := median_any g og cap base n w.heap.size s4 i2 j2 k2 w0 d _ HW3.out (by omega) (by omega) (by omega) (by omega) hn
    rw [HE.out.2.2.2] at hm4
    go_wp2_with fail
    refine hm4.mono ?_
    rintro e w4 ⟨rfl, hw4⟩
    clear hm4
    have HW4 : Hid (SP g og cap base n w.heap.size s5 w0 d w4) := hw4
    clear hw4
    have c1' := cell_of_one HW4.out.num
    have HG : Hid (SR g og cap base n w0 d w4) := HW4.out.sr
    by_cases s0 : s5 = 0
    · have z1 : ((s5 : Int) == 0) = true := by simp [s0]
      have z2 : (s5 : Int) = 0 := by omega
      have HH : Hid (choosePivot ltK d a b = (j5, .increasing)) := by show _ = _; rw [HC.out, if_pos s0]
      go_wp2
      go_ret2
      rw [HH.out]
      exact ⟨rfl, HG.out⟩
    · by_cases s1 : s5 = 12
      · have z1 : ((s5 : Int) == 0) = false := by simp [s0]
        have z2 : ¬ (s5 : Int) = 0 := by omega
        have z3 : ((s5 : Int) == 12) = true := by simp [s1]
        have z4 : (s5 : Int) = 12 := by omega
        have HH : Hid (choosePivot ltK d a b = (j5, .decreasing)) := by show _ = _; rw [HC.out, if_neg s0, if_pos s1]
        go_wp2
        go_ret2
        rw [HH.out]
        exact ⟨rfl, HG.out⟩
      · have z1 : ((s5 : Int) == 0) = false := by simp [s0]
        have z2 : ¬ (s5 : Int) = 0 := by omega
        have z3 : ((s5 : Int) == 12) = false := by simp; omega
        have z4 : ¬ (s5 : Int) = 12 := by omega
        have HH : Hid (choosePivot ltK d a b = (j5, .unknown)) := by show _ = _; rw [HC.out, if_neg s0, if_neg s1]
        go_wp2
        go_ret2
        rw [HH.out]
        exact ⟨rfl, HG.out⟩
  · have z50 : ¬ (50 : Int) ≤ (l : Int) := by omega
    obtain ⟨⟨j5, s5⟩, e5⟩ : ∃ r, median ltK d i j k 0 = r := ⟨_, rfl⟩
    have HC : Hid (choosePivot ltK d a b = (j5, if s5 = 0 then .increasing else if s5 = 12 then .decreasing else .unknown)) := by
      show _ = _
      rw [HC0.out]
      simp only [e5, if_neg (show ¬ l ≥ 50 from l50)]
    have HE : Hid (median ltK d i j k 0 = (j5, s5)) := e5
    clear e5
    have hm4 := median_any g og cap base n w.heap.size 0 i j k w0 d _ HP.out (by omega) (by omega) (by omega) (by omega) hn
    rw [HE.out] at hm4
    go_wp2_with fail
    refine hm4.mono ?_
    rintro e w4 ⟨rfl, hw4⟩
    clear hm4
    have HW4 : Hid (SP g og cap base n w.heap.size s5 w0 d w4) := hw4
    clear hw4
    have c1' := cell_of_one HW4.out.num
    have HG : Hid (SR g og cap base n w0 d w4) := HW4.out.sr
    by_cases s0 : s5 = 0
    · have z1 : ((s5 : Int) == 0) = true := by simp [s0]
      have z2 : (s5 : Int) = 0 := by omega
      have HH : Hid (choosePivot ltK d a b = (j5, .increasing)) := by show _ = _; rw [HC.out, if_pos s0]
      go_wp2
      go_ret2
      rw [HH.out]
      exact ⟨rfl, HG.out⟩
    · by_cases s1 : s5 = 12
      · have z1 : ((s5 : Int) == 0) = false := by simp [s0]
        have z2 : ¬ (s5 : Int) = 0 := by omega
        have z3 : ((s5 : Int) == 12) = true := by simp [s1]
        have z4 : (s5 : Int) = 12 := by omega
        have HH : Hid (choosePivot ltK d a b = (j5, .decreasing)) := by show _ = _; rw [HC.out, if_neg s0, if_pos s1]
        go_wp2
        go_ret2
        rw [HH.out]
        exact ⟨rfl, HG.out⟩
      · have z1 : ((s5 : Int) == 0) = false := by simp [s0]
        have z2 : ¬ (s5 : Int) = 0 := by omega
        have z3 : ((s5 : Int) == 12) = false := by simp; omega
        have z4 : ¬ (s5 : Int) = 12 := by omega
        have HH : Hid (choosePivot ltK d a b = (j5, .unknown)) := by show _ = _; rw [HC.out, if_neg s0, if_neg s1]
        go_wp2
        go_ret2
        rw [HH.out]
        exact ⟨rfl, HG.out⟩

end Go.Proofs.Ytnclfoljfnfglai
