import Derived.Test.YtnclfoljfnfglaiTmPsf
import Derived.OneCell
namespace Go.Proofs.Ytnclfoljfnfglai
open Go.RowKit Go.Maps Go.Sort
set_option linter.unusedVariables false

/-- A row that is sorted, and the number of exchanges beside it. -/
structure SP (g og cap base n p s : Nat) (w0 : World) (d : Array Kx) (W : World) : Prop where
  sr : SR g og cap base n w0 d W
  num : W.heap[p]? = some (.cells #[.int .i64 s] 3 (0, 0))
  new : w0.heap.size ≤ p
  neg : p ≠ g
  neo : p ≠ og
theorem SP.below {g og cap base n p s : Nat} {w0 : World} {d : Array Kx} {W W' : World} (h : SP g og cap base n p s w0 d W) (hb : Below W.heap.size W W') : SP g og cap base n p s w0 d W' :=
  ⟨h.sr.below hb, (hb.block p (Array.getElem?_eq_some_iff.1 h.num).1).trans h.num, h.new, h.neg, h.neo⟩
theorem SP.drew {g og cap base n p s : Nat} {w0 : World} {d : Array Kx} {W : World} (h : SP g og cap base n p s w0 d W) : SP g og cap base n p s w0 d W.drew :=
  h.below ⟨rfl, rfl, rfl, Nat.le_refl _, fun _ _ => rfl⟩
theorem SP.cells {g og cap base n p s : Nat} {w0 : World} {d : Array Kx} {W : World} (h : SP g og cap base n p s w0 d W) {i : Nat} (hi : i < n) {x : Kx} (hx : d[i]! = x) :
    W.cell? ⟨g, i * 5, none⟩ = some (.int .i64 x.1) ∧ W.cell? ⟨g, i * 5 + 1, none⟩ = some (.int .i64 x.2.1) ∧ W.cell? ⟨g, i * 5 + 2, none⟩ = some (.int .i64 x.2.2.1) ∧ W.cell? ⟨g, i * 5 + 3, none⟩ = some (.int .i64 x.2.2.2.1) ∧ W.cell? ⟨g, i * 5 + 4, none⟩ = some (.int .i64 x.2.2.2.2) :=
  h.sr.cells hi hx
theorem SP.cmp {g og cap base n p s : Nat} {w0 : World} {d : Array Kx} {W : World} (h : SP g og cap base n p s w0 d W) (x y : Kx) :
    Calls Try.prog 74 #[.slice (some ⟨og, 0, none⟩) 5 5, kA x, kA y] W fun e w' => e = .returned (.int .i64 (cmpK x y)) ∧ SP g og cap base n p s w0 d w' :=
  (compare_any x y og W h.sr.ord).mono fun e w' ⟨h1, h2⟩ => ⟨h1, h.below h2⟩

theorem SP.put {g og cap base n p s : Nat} {w0 : World} {d : Array Kx} {W : World} (h : SP g og cap base n p s w0 d W) : SP g og cap base n p (s + 1) w0 d (W.setCell ⟨p, 0, none⟩ (.int .i64 ((s : Int) + 1))) := by
  have hk : Kq (· = p) W (W.setCell ⟨p, 0, none⟩ (.int .i64 ((s : Int) + 1))) := kq_setCells [.int .i64 ((s : Int) + 1)] 0 W
  refine ⟨⟨h.sr.row.keep hk ?_, (heap_setCell_other _ _ _ _ (Ne.symm h.neo)).trans h.sr.ord, h.sr.kq.then hk ?_, h.sr.ne, h.sr.len⟩, heap_setCells [.int .i64 ((s : Int) + 1)] 0 W _ h.num, h.new, h.neg, h.neo⟩
  · rintro k hx rfl
    exact h.neg (by simpa [Value.ownBlock] using hx.symm)
  · rintro k hk rfl
    have := h.new
    omega

set_option maxHeartbeats 8000000 in
set_option maxRecDepth 100000 in
theorem order2_any (g og cap base n p s a b : Nat) (w0 : World) (d : Array Kx) (w : World) (h : SP g og cap base n p s w0 d w) (ha : a < n) (hb : b < n) (hs : s < 1000) (hn : n < 1152921504606846976) :
    Calls Try.prog 108 #[.slice (some ⟨g, 0, none⟩) n cap, .int .i64 a, .int .i64 b, .pointer (some ⟨p, 0, none⟩), cmpF og] w fun e w' => e = .returned (.tuple #[.int .i64 (order2 ltK d a b s).1, .int .i64 (order2 ltK d a b s).2.1]) ∧ SP g og cap base n p (order2 ltK d a b s).2.2 w0 d w' := by
  have HR : Hid (SP g og cap base n p s w0 d w) := h
  have za : (a : Int) < (n : Int) := by omega
  have zb : (b : Int) < (n : Int) := by omega
  have kk1 : IntKind.i64.wrap ((s : Int) + 1) = ((s + 1 : Nat) : Int) := by rw [IntKind.wrap_i64]; omega
  clear h
  go_enter Try.func108, Try.ntmps108
  obtain ⟨x1, hx1⟩ : ∃ x, d[b]! = x := ⟨_, rfl⟩
  obtain ⟨y1, hy1⟩ : ∃ y, d[a]! = y := ⟨_, rfl⟩
  have HX1 : Hid (d[b]! = x1 ∧ d[a]! = y1) := ⟨hx1, hy1⟩
  have hc1 := HR.out.drew.cmp x1 y1
  obtain ⟨p0, p1, p2, p3, p4⟩ := HR.out.drew.cells (i := b) (by omega) hx1
  obtain ⟨q0, q1, q2, q3, q4⟩ := HR.out.drew.cells (i := a) (by omega) hy1
  obtain ⟨c1, hcc1⟩ : ∃ c, cmpK x1 y1 = c := ⟨_, rfl⟩
  have HC1 : Hid (ltK d[b]! d[a]! = decide (c1 < 0)) := by show _ = _; rw [hx1, hy1]; unfold ltK; rw [hcc1]
  rw [hcc1] at hc1
  obtain ⟨x1_0, x1_1, x1_2, x1_3, x1_4⟩ := x1
  obtain ⟨y1_0, y1_1, y1_2, y1_3, y1_4⟩ := y1
  simp only at p0 p1 p2 p3 p4 q0 q1 q2 q3 q4
  clear hx1 hy1 hcc1
  go_wp2_with fail
  go_region_held3 (fun V => V.cell? ⟨g, b * 5, none⟩ = some (.int .i64 x1_0) ∧ V.cell? ⟨g, b * 5 + 1, none⟩ = some (.int .i64 x1_1) ∧ V.cell? ⟨g, b * 5 + 2, none⟩ = some (.int .i64 x1_2) ∧ V.cell? ⟨g, b * 5 + 3, none⟩ = some (.int .i64 x1_3) ∧ V.cell? ⟨g, b * 5 + 4, none⟩ = some (.int .i64 x1_4) ∧ V.cell? ⟨g, a * 5, none⟩ = some (.int .i64 y1_0) ∧ V.cell? ⟨g, a * 5 + 1, none⟩ = some (.int .i64 y1_1) ∧ V.cell? ⟨g, a * 5 + 2, none⟩ = some (.int .i64 y1_2) ∧ V.cell? ⟨g, a * 5 + 3, none⟩ = some (.int .i64 y1_3) ∧ V.cell? ⟨g, a * 5 + 4, none⟩ = some (.int .i64 y1_4))
    (first | (exact ⟨p0, p1, p2, p3, p4, q0, q1, q2, q3, q4⟩) | (exact HB1.out))
    (first | (go_at_call 74
              refine hc1.mono ?_
              rintro e w1 ⟨rfl, hs1⟩
              have HS1 : Hid (SP g og cap base n p s w0 d w1) := hs1
              have HB1 : Hid (w1.cell? ⟨g, b * 5, none⟩ = some (.int .i64 x1_0) ∧ w1.cell? ⟨g, b * 5 + 1, none⟩ = some (.int .i64 x1_1) ∧ w1.cell? ⟨g, b * 5 + 2, none⟩ = some (.int .i64 x1_2) ∧ w1.cell? ⟨g, b * 5 + 3, none⟩ = some (.int .i64 x1_3) ∧ w1.cell? ⟨g, b * 5 + 4, none⟩ = some (.int .i64 x1_4) ∧ w1.cell? ⟨g, a * 5, none⟩ = some (.int .i64 y1_0) ∧ w1.cell? ⟨g, a * 5 + 1, none⟩ = some (.int .i64 y1_1) ∧ w1.cell? ⟨g, a * 5 + 2, none⟩ = some (.int .i64 y1_2) ∧ w1.cell? ⟨g, a * 5 + 3, none⟩ = some (.int .i64 y1_3) ∧ w1.cell? ⟨g, a * 5 + 4, none⟩ = some (.int .i64 y1_4)) := by
                obtain ⟨p0, p1, p2, p3, p4⟩ := hs1.cells (i := b) (by omega) HX1.out.1
                obtain ⟨q0, q1, q2, q3, q4⟩ := hs1.cells (i := a) (by omega) HX1.out.2
                exact ⟨p0, p1, p2, p3, p4, q0, q1, q2, q3, q4⟩
              clear hs1))
  clear p0 p1 p2 p3 p4 q0 q1 q2 q3 q4 hc1 HB1 HX1
  have hcd := HC1.out
  have c1' := cell_of_one HS1.out.num
  have c2' := frozen_of_row _ p 0 _ _ HS1.out.num
  by_cases c0 : c1 < 0
  · rw [decide_eq_true c0] at hcd
    have HK : Hid (order2 ltK d a b s = (b, a, s + 1)) := by show _ = _; unfold order2; rw [if_pos hcd]
    clear hcd
    go_wp2
    go_ret2
    rw [HK.out]
    exact ⟨rfl, HS1.out.put⟩
  · rw [decide_eq_false c0] at hcd
    have HK : Hid (order2 ltK d a b s = (a, b, s)) := by show _ = _; unfold order2; rw [if_neg (by rw [hcd]; decide)]
    clear hcd
    go_wp2
    go_ret2
    rw [HK.out]
    exact ⟨rfl, HS1.out⟩

theorem order2_lt {n a b s : Nat} {d : Array Kx} (ha : a < n) (hb : b < n) : (order2 ltK d a b s).1 < n ∧ (order2 ltK d a b s).2.1 < n ∧ (order2 ltK d a b s).2.2 ≤ s + 1 := by
  unfold order2; split <;> simp <;> omega
theorem median_lt {n a b c s : Nat} {d : Array Kx} (ha : a < n) (hb : b < n) (hc : c < n) : (median ltK d a b c s).1 < n ∧ (median ltK d a b c s).2 ≤ s + 3 := by
  unfold median
  have h1 := order2_lt (s := s) (d := d) ha hb
  have h2 := order2_lt (s := (order2 ltK d a b s).2.2) (d := d) h1.2.1 hc
  have h3 := order2_lt (s := (order2 ltK d (order2 ltK d a b s).2.1 c (order2 ltK d a b s).2.2).2.2) (d := d) h1.1 h2.1
  exact ⟨h3.2.1, by simp only; omega⟩

set_option maxHeartbeats 8000000 in
set_option maxRecDepth 100000 in
theorem median_any (g og cap base n p s a b c : Nat) (w0 : World) (d : Array Kx) (w : World) (h : SP g og cap base n p s w0 d w) (ha : a < n) (hb : b < n) (hc : c < n) (hs : s < 900) (hn : n < 1152921504606846976) :
    Calls Try.prog 106 #[.slice (some ⟨g, 0, none⟩) n cap, .int .i64 a, .int .i64 b, .int .i64 c, .pointer (some ⟨p, 0, none⟩), cmpF og] w fun e w' => e = .returned (.int .i64 (median ltK d a b c s).1) ∧ SP g og cap base n p (median ltK d a b c s).2 w0 d w' := by
  have h1 := order2_any g og cap base n p s a b w0 d w h ha hb (by omega) hn
  obtain ⟨l1, l2, l3⟩ := order2_lt (s := s) (d := d) ha hb
  obtain ⟨⟨a1, b1, s1⟩, e1⟩ : ∃ q, order2 ltK d a b s = q := ⟨_, rfl⟩
  rw [e1] at h1 l1 l2 l3
  obtain ⟨m1, m2, m3⟩ := order2_lt (s := s1) (d := d) l2 hc
  obtain ⟨⟨b2, c2, s2⟩, e2⟩ : ∃ q, order2 ltK d b1 c s1 = q := ⟨_, rfl⟩
  rw [e2] at m1 m2 m3
  obtain ⟨⟨a3, b3, s3⟩, e3⟩ : ∃ q, order2 ltK d a1 b2 s2 = q := ⟨_, rfl⟩
  have HM : Hid (median ltK d a b c s = (b3, s3)) := by show _ = _; unfold median; simp only [e1, e2, e3]
  have HE2 : Hid (order2 ltK d b1 c s1 = (b2, c2, s2)) := e2
  have HE3 : Hid (order2 ltK d a1 b2 s2 = (a3, b3, s3)) := e3
  simp only at l1 l2 l3 m1 m2 m3 h1
  clear h e1 e2 e3
  go_enter Try.func106, Try.ntmps106
  go_wp2_with fail
  refine h1.mono ?_
  rintro e w1 ⟨rfl, hw1⟩
  have h2 := order2_any g og cap base n p s1 b1 c w0 d w1 hw1 l2 hc (by omega) hn
  rw [HE2.out] at h2
  clear hw1 h1
  go_wp2_with fail
  refine h2.mono ?_
  rintro e w2 ⟨rfl, hw2⟩
  have h3 := order2_any g og cap base n p s2 a1 b2 w0 d w2 hw2 l1 m1 (by omega) hn
  rw [HE3.out] at h3
  clear hw2 h2
  go_wp2_with fail
  refine h3.mono ?_
  rintro e w3 ⟨rfl, hw3⟩
  have HW3 : Hid _ := hw3
  clear hw3 h3
  go_wp2
  go_ret
  rw [HM.out]
  exact ⟨rfl, HW3.out⟩

set_option maxHeartbeats 8000000 in
set_option maxRecDepth 100000 in
theorem medAdj_any (g og cap base n p s a : Nat) (w0 : World) (d : Array Kx) (w : World) (h : SP g og cap base n p s w0 d w) (ha : a + 1 < n) (ha0 : 0 < a) (hs : s < 900) (hn : n < 1152921504606846976) :
    Calls Try.prog 105 #[.slice (some ⟨g, 0, none⟩) n cap, .int .i64 a, .pointer (some ⟨p, 0, none⟩), cmpF og] w fun e w' => e = .returned (.int .i64 (medianAdjacent ltK d a s).1) ∧ SP g og cap base n p (medianAdjacent ltK d a s).2 w0 d w' := by
  have h1 := median_any g og cap base n p s (a - 1) a (a + 1) w0 d w h (by omega) (by omega) ha hs hn
  obtain ⟨am, ham⟩ : ∃ k, k = a - 1 := ⟨_, rfl⟩
  obtain ⟨ap, hap⟩ : ∃ k, k = a + 1 := ⟨_, rfl⟩
  have HM : Hid (medianAdjacent ltK d a s = median ltK d am a ap s) := by show _ = _; unfold medianAdjacent; rw [ham, hap]
  rw [← ham, ← hap] at h1
  have kk1 : IntKind.i64.wrap ((a : Int) - 1) = (am : Int) := by rw [IntKind.wrap_i64]; omega
  have kk2 : IntKind.i64.wrap ((a : Int) + 1) = (ap : Int) := by rw [IntKind.wrap_i64]; omega
  clear h ham hap
  go_enter Try.func105, Try.ntmps105
  go_wp2_with fail
  refine h1.mono ?_
  rintro e w3 ⟨rfl, hw3⟩
  have HW3 : Hid _ := hw3
  clear hw3 h1
  go_wp2
  go_ret
  rw [HM.out]
  exact ⟨rfl, HW3.out⟩

end Go.Proofs.Ytnclfoljfnfglai
