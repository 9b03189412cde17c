import Derived.Test.YtdfdaambfihjaaaDoorFields
import Derived.Test.YtdfdaambfihjaaaDoorBody
import Derived.BigQuiet
namespace Go.Proofs.YtdfdaambfihjaaaDoor
open Go.RowKit
set_option linter.unusedVariables false
set_option linter.unusedSimpArgs false

theorem av1_2 : anyB 1 2 = false := by decide
theorem av1_12 : anyB 1 12 = false := by decide
theorem av1_4 : anyB 1 4 = false := by decide
theorem av1_28 : anyB 1 28 = false := by decide
theorem av1_24 : anyB 1 24 = false := by decide
theorem av1_8 : anyB 1 8 = false := by decide
theorem av1_32 : anyB 1 32 = false := by decide
theorem av3_2 : anyB 3 2 = true := by decide
theorem av3_12 : anyB 3 12 = false := by decide
theorem av3_4 : anyB 3 4 = false := by decide
theorem av3_28 : anyB 3 28 = false := by decide
theorem av3_24 : anyB 3 24 = false := by decide
theorem av3_8 : anyB 3 8 = false := by decide
theorem av3_32 : anyB 3 32 = false := by decide
theorem av7_2 : anyB 7 2 = true := by decide
theorem av7_12 : anyB 7 12 = true := by decide
theorem av7_4 : anyB 7 4 = true := by decide
theorem av7_28 : anyB 7 28 = true := by decide
theorem av7_24 : anyB 7 24 = false := by decide
theorem av7_8 : anyB 7 8 = false := by decide
theorem av7_32 : anyB 7 32 = false := by decide
theorem av9_2 : anyB 9 2 = false := by decide
theorem av9_12 : anyB 9 12 = true := by decide
theorem av9_4 : anyB 9 4 = false := by decide
theorem av9_28 : anyB 9 28 = true := by decide
theorem av9_24 : anyB 9 24 = true := by decide
theorem av9_8 : anyB 9 8 = true := by decide
theorem av9_32 : anyB 9 32 = false := by decide
theorem av17_2 : anyB 17 2 = false := by decide
theorem av17_12 : anyB 17 12 = false := by decide
theorem av17_4 : anyB 17 4 = false := by decide
theorem av17_28 : anyB 17 28 = true := by decide
theorem av17_24 : anyB 17 24 = true := by decide
theorem av17_8 : anyB 17 8 = false := by decide
theorem av17_32 : anyB 17 32 = false := by decide
theorem av33_2 : anyB 33 2 = false := by decide
theorem av33_12 : anyB 33 12 = false := by decide
theorem av33_4 : anyB 33 4 = false := by decide
theorem av33_28 : anyB 33 28 = false := by decide
theorem av33_24 : anyB 33 24 = false := by decide
theorem av33_8 : anyB 33 8 = false := by decide
theorem av33_32 : anyB 33 32 = true := by decide
theorem may_sh1 (s : Sg) (hx tx : List Xr) : may 1 s hx tx = true ↔ ((1 ≤ s.org ∧ s.org ≤ 4611686018427387903) ∧ (1 ≤ s.num ∧ s.num ≤ 4611686018427387902) ∧ xsOk hx = true ∧ xsOk tx = true ∧ s.srv = 0 ∧ (s.data.length : Int) = 0 ∧ s.off = 0 ∧ s.chk = 0 ∧ s.rep = 0 ∧ s.upp = 0 ∧ s.low = 0 ∧ (s.clm.length : Int) = 0 ∧ clOk s.upp s.low s.clm = true ∧ s.rsn = 0) := by
  simp only [may, alw, btw, one, av1_2, av1_12, av1_4, av1_28, av1_24, av1_8, av1_32, if_true, if_false, Bool.false_eq_true, Bool.and_eq_true, decide_eq_true_eq, beq_iff_eq]
theorem may_sh3 (s : Sg) (hx tx : List Xr) : may 3 s hx tx = true ↔ ((1 ≤ s.org ∧ s.org ≤ 4611686018427387903) ∧ (1 ≤ s.num ∧ s.num ≤ 4611686018427387902) ∧ xsOk hx = true ∧ xsOk tx = true ∧ (0 ≤ s.srv ∧ s.srv ≤ 4611686018427387903) ∧ (1 ≤ (s.data.length : Int) ∧ (s.data.length : Int) ≤ 65536) ∧ (0 ≤ s.off ∧ s.off ≤ 65536 - (s.data.length : Int)) ∧ s.chk = 0 ∧ s.rep = 0 ∧ s.upp = 0 ∧ s.low = 0 ∧ (s.clm.length : Int) = 0 ∧ clOk s.upp s.low s.clm = true ∧ s.rsn = 0) := by
  simp only [may, alw, btw, one, av3_2, av3_12, av3_4, av3_28, av3_24, av3_8, av3_32, if_true, if_false, Bool.false_eq_true, Bool.and_eq_true, decide_eq_true_eq, beq_iff_eq]
theorem may_sh7 (s : Sg) (hx tx : List Xr) : may 7 s hx tx = true ↔ ((1 ≤ s.org ∧ s.org ≤ 4611686018427387903) ∧ (1 ≤ s.num ∧ s.num ≤ 4611686018427387902) ∧ xsOk hx = true ∧ xsOk tx = true ∧ (0 ≤ s.srv ∧ s.srv ≤ 4611686018427387903) ∧ (1 ≤ (s.data.length : Int) ∧ (s.data.length : Int) ≤ 65536) ∧ (0 ≤ s.off ∧ s.off ≤ 65536 - (s.data.length : Int)) ∧ (1 ≤ s.chk ∧ s.chk ≤ 4611686018427387903) ∧ (0 ≤ s.rep ∧ s.rep ≤ 4611686018427387903) ∧ s.upp = 0 ∧ s.low = 0 ∧ (s.clm.length : Int) = 0 ∧ clOk s.upp s.low s.clm = true ∧ s.rsn = 0) := by
  simp only [may, alw, btw, one, av7_2, av7_12, av7_4, av7_28, av7_24, av7_8, av7_32, if_true, if_false, Bool.false_eq_true, Bool.and_eq_true, decide_eq_true_eq, beq_iff_eq]
theorem may_sh9 (s : Sg) (hx tx : List Xr) : may 9 s hx tx = true ↔ ((1 ≤ s.org ∧ s.org ≤ 4611686018427387903) ∧ (1 ≤ s.num ∧ s.num ≤ 4611686018427387902) ∧ xsOk hx = true ∧ xsOk tx = true ∧ s.srv = 0 ∧ (s.data.length : Int) = 0 ∧ s.off = 0 ∧ (0 ≤ s.chk ∧ s.chk ≤ 4611686018427387903) ∧ (1 ≤ s.rep ∧ s.rep ≤ 4611686018427387903) ∧ (1 ≤ s.upp ∧ s.upp ≤ 65536) ∧ (0 ≤ s.low ∧ s.low ≤ s.upp - 1) ∧ (1 ≤ (s.clm.length : Int) ∧ (s.clm.length : Int) ≤ 1000) ∧ clOk s.upp s.low s.clm = true ∧ s.rsn = 0) := by
  simp only [may, alw, btw, one, av9_2, av9_12, av9_4, av9_28, av9_24, av9_8, av9_32, if_true, if_false, Bool.false_eq_true, Bool.and_eq_true, decide_eq_true_eq, beq_iff_eq]
theorem may_sh17 (s : Sg) (hx tx : List Xr) : may 17 s hx tx = true ↔ ((1 ≤ s.org ∧ s.org ≤ 4611686018427387903) ∧ (1 ≤ s.num ∧ s.num ≤ 4611686018427387902) ∧ xsOk hx = true ∧ xsOk tx = true ∧ s.srv = 0 ∧ (s.data.length : Int) = 0 ∧ s.off = 0 ∧ s.chk = 0 ∧ (1 ≤ s.rep ∧ s.rep ≤ 4611686018427387903) ∧ s.upp = 0 ∧ s.low = 0 ∧ (s.clm.length : Int) = 0 ∧ clOk s.upp s.low s.clm = true ∧ s.rsn = 0) := by
  simp only [may, alw, btw, one, av17_2, av17_12, av17_4, av17_28, av17_24, av17_8, av17_32, if_true, if_false, Bool.false_eq_true, Bool.and_eq_true, decide_eq_true_eq, beq_iff_eq]
theorem may_sh33 (s : Sg) (hx tx : List Xr) : may 33 s hx tx = true ↔ ((1 ≤ s.org ∧ s.org ≤ 4611686018427387903) ∧ (1 ≤ s.num ∧ s.num ≤ 4611686018427387902) ∧ xsOk hx = true ∧ xsOk tx = true ∧ s.srv = 0 ∧ (s.data.length : Int) = 0 ∧ s.off = 0 ∧ s.chk = 0 ∧ s.rep = 0 ∧ s.upp = 0 ∧ s.low = 0 ∧ (s.clm.length : Int) = 0 ∧ clOk s.upp s.low s.clm = true ∧ (0 ≤ s.rsn ∧ s.rsn ≤ 5)) := by
  simp only [may, alw, btw, one, av33_2, av33_12, av33_4, av33_28, av33_24, av33_8, av33_32, if_true, if_false, Bool.false_eq_true, Bool.and_eq_true, decide_eq_true_eq, beq_iff_eq]

theorem retB {q b : Bool} (h : q = b) : Ending.returned (.bool b) = .returned (.bool q) := by rw [h]
theorem rqNumber_v (n : Int) (w : World) (q : Bool) (h : decide (0 ≤ n ∧ n ≤ 4611686018427387903) = q) : Calls Tryd.prog 87 #[.int .i64 n] w fun e w' => e = .returned (.bool q) ∧ w = w' := by
  subst h
  by_cases h0 : 0 ≤ n
  · have d0 : decide (0 ≤ n) = true := by simp [h0]
    by_cases h1 : n ≤ 4611686018427387903
    · have d1 : decide (n ≤ 4611686018427387903) = true := by simp [h1]
      have e : decide (0 ≤ n ∧ n ≤ 4611686018427387903) = true := by simp [h0, h1]
      rw [e]
      go_enter Tryd.func87, Tryd.ntmps87
      go_wp2
      go_ret
      exact ⟨rfl, rfl⟩
    · have d1 : decide (n ≤ 4611686018427387903) = false := by simp; omega
      have e : decide (0 ≤ n ∧ n ≤ 4611686018427387903) = false := by simp [h0]; omega
      rw [e]
      go_enter Tryd.func87, Tryd.ntmps87
      go_wp2
      go_ret
      exact ⟨rfl, rfl⟩
  · have d0 : decide (0 ≤ n) = false := by simp [h0]
    have e : decide (0 ≤ n ∧ n ≤ 4611686018427387903) = false := by simp [h0]
    rw [e]
    go_enter Tryd.func87, Tryd.ntmps87
    go_wp2
    go_ret
    exact ⟨rfl, rfl⟩
theorem rqKn_0 (t : Int) (w : World) (l1 : t ≤ -1) : Calls Tryd.prog 70 #[.int .i64 t] w fun e w' => e = .returned (.bool false) ∧ w = w' := by
  have d0 : decide (0 ≤ t) = false := by simp; omega
  have d1 : decide (t ≤ 4) = true := by simp; omega
  have d2 : decide (7 ≤ t) = false := by simp; omega
  have d3 : decide (t ≤ 9) = true := by simp; omega
  have d4 : decide (12 ≤ t) = false := by simp; omega
  have d5 : decide (t ≤ 15) = true := by simp; omega
  go_enter Tryd.func70, Tryd.ntmps70
  go_wp2
  go_ret
  exact ⟨rfl, rfl⟩
theorem rqKn_1 (t : Int) (w : World) (l0 : 0 ≤ t) (l1 : t ≤ 4) : Calls Tryd.prog 70 #[.int .i64 t] w fun e w' => e = .returned (.bool true) ∧ w = w' := by
  have d0 : decide (0 ≤ t) = true := by simp; omega
  have d1 : decide (t ≤ 4) = true := by simp; omega
  have d2 : decide (7 ≤ t) = false := by simp; omega
  have d3 : decide (t ≤ 9) = true := by simp; omega
  have d4 : decide (12 ≤ t) = false := by simp; omega
  have d5 : decide (t ≤ 15) = true := by simp; omega
  go_enter Tryd.func70, Tryd.ntmps70
  go_wp2
  go_ret
  exact ⟨rfl, rfl⟩
theorem rqKn_2 (t : Int) (w : World) (l0 : 5 ≤ t) (l1 : t ≤ 6) : Calls Tryd.prog 70 #[.int .i64 t] w fun e w' => e = .returned (.bool false) ∧ w = w' := by
  have d0 : decide (0 ≤ t) = true := by simp; omega
  have d1 : decide (t ≤ 4) = false := by simp; omega
  have d2 : decide (7 ≤ t) = false := by simp; omega
  have d3 : decide (t ≤ 9) = true := by simp; omega
  have d4 : decide (12 ≤ t) = false := by simp; omega
  have d5 : decide (t ≤ 15) = true := by simp; omega
  go_enter Tryd.func70, Tryd.ntmps70
  go_wp2
  go_ret
  exact ⟨rfl, rfl⟩
theorem rqKn_3 (t : Int) (w : World) (l0 : 7 ≤ t) (l1 : t ≤ 9) : Calls Tryd.prog 70 #[.int .i64 t] w fun e w' => e = .returned (.bool true) ∧ w = w' := by
  have d0 : decide (0 ≤ t) = true := by simp; omega
  have d1 : decide (t ≤ 4) = false := by simp; omega
  have d2 : decide (7 ≤ t) = true := by simp; omega
  have d3 : decide (t ≤ 9) = true := by simp; omega
  have d4 : decide (12 ≤ t) = false := by simp; omega
  have d5 : decide (t ≤ 15) = true := by simp; omega
  go_enter Tryd.func70, Tryd.ntmps70
  go_wp2
  go_ret
  exact ⟨rfl, rfl⟩
theorem rqKn_4 (t : Int) (w : World) (l0 : 10 ≤ t) (l1 : t ≤ 11) : Calls Tryd.prog 70 #[.int .i64 t] w fun e w' => e = .returned (.bool false) ∧ w = w' := by
  have d0 : decide (0 ≤ t) = true := by simp; omega
  have d1 : decide (t ≤ 4) = false := by simp; omega
  have d2 : decide (7 ≤ t) = true := by simp; omega
  have d3 : decide (t ≤ 9) = false := by simp; omega
  have d4 : decide (12 ≤ t) = false := by simp; omega
  have d5 : decide (t ≤ 15) = true := by simp; omega
  go_enter Tryd.func70, Tryd.ntmps70
  go_wp2
  go_ret
  exact ⟨rfl, rfl⟩
theorem rqKn_5 (t : Int) (w : World) (l0 : 12 ≤ t) (l1 : t ≤ 15) : Calls Tryd.prog 70 #[.int .i64 t] w fun e w' => e = .returned (.bool true) ∧ w = w' := by
  have d0 : decide (0 ≤ t) = true := by simp; omega
  have d1 : decide (t ≤ 4) = false := by simp; omega
  have d2 : decide (7 ≤ t) = true := by simp; omega
  have d3 : decide (t ≤ 9) = false := by simp; omega
  have d4 : decide (12 ≤ t) = true := by simp; omega
  have d5 : decide (t ≤ 15) = true := by simp; omega
  go_enter Tryd.func70, Tryd.ntmps70
  go_wp2
  go_ret
  exact ⟨rfl, rfl⟩
theorem rqKn_6 (t : Int) (w : World) (l0 : 16 ≤ t) : Calls Tryd.prog 70 #[.int .i64 t] w fun e w' => e = .returned (.bool false) ∧ w = w' := by
  have d0 : decide (0 ≤ t) = true := by simp; omega
  have d1 : decide (t ≤ 4) = false := by simp; omega
  have d2 : decide (7 ≤ t) = true := by simp; omega
  have d3 : decide (t ≤ 9) = false := by simp; omega
  have d4 : decide (12 ≤ t) = true := by simp; omega
  have d5 : decide (t ≤ 15) = false := by simp; omega
  go_enter Tryd.func70, Tryd.ntmps70
  go_wp2
  go_ret
  exact ⟨rfl, rfl⟩
theorem rqDa_1 (t : Int) (w : World) (l0 : 0 ≤ t) (l1 : t ≤ 4) : Calls Tryd.prog 85 #[.int .i64 t] w fun e w' => e = .returned (.bool true) ∧ w = w' := by
  have d0 : decide (0 ≤ t) = true := by simp; omega
  have d1 : decide (t ≤ 4) = true := by simp; omega
  have d2 : (t == 7) = false := by simp; omega
  go_enter Tryd.func85, Tryd.ntmps85
  go_wp2
  go_ret
  exact ⟨rfl, rfl⟩
theorem rqDa_3 (t : Int) (w : World) (l0 : 7 ≤ t) (l1 : t ≤ 7) : Calls Tryd.prog 85 #[.int .i64 t] w fun e w' => e = .returned (.bool true) ∧ w = w' := by
  have d0 : decide (0 ≤ t) = true := by simp; omega
  have d1 : decide (t ≤ 4) = false := by simp; omega
  have d2 : (t == 7) = true := by simp; omega
  go_enter Tryd.func85, Tryd.ntmps85
  go_wp2
  go_ret
  exact ⟨rfl, rfl⟩
theorem rqDa_4 (t : Int) (w : World) (l0 : 8 ≤ t) : Calls Tryd.prog 85 #[.int .i64 t] w fun e w' => e = .returned (.bool false) ∧ w = w' := by
  have d0 : decide (0 ≤ t) = true := by simp; omega
  have d1 : decide (t ≤ 4) = false := by simp; omega
  have d2 : (t == 7) = false := by simp; omega
  go_enter Tryd.func85, Tryd.ntmps85
  go_wp2
  go_ret
  exact ⟨rfl, rfl⟩
theorem rqCh_0 (t : Int) (w : World) (l1 : t ≤ 0) : Calls Tryd.prog 86 #[.int .i64 t] w fun e w' => e = .returned (.bool false) ∧ w = w' := by
  have d0 : decide (1 ≤ t) = false := by simp; omega
  have d1 : decide (t ≤ 3) = true := by simp; omega
  go_enter Tryd.func86, Tryd.ntmps86
  go_wp2
  go_ret
  exact ⟨rfl, rfl⟩
theorem rqCh_1 (t : Int) (w : World) (l0 : 1 ≤ t) (l1 : t ≤ 3) : Calls Tryd.prog 86 #[.int .i64 t] w fun e w' => e = .returned (.bool true) ∧ w = w' := by
  have d0 : decide (1 ≤ t) = true := by simp; omega
  have d1 : decide (t ≤ 3) = true := by simp; omega
  go_enter Tryd.func86, Tryd.ntmps86
  go_wp2
  go_ret
  exact ⟨rfl, rfl⟩
theorem rqCh_2 (t : Int) (w : World) (l0 : 4 ≤ t) : Calls Tryd.prog 86 #[.int .i64 t] w fun e w' => e = .returned (.bool false) ∧ w = w' := by
  have d0 : decide (1 ≤ t) = true := by simp; omega
  have d1 : decide (t ≤ 3) = false := by simp; omega
  go_enter Tryd.func86, Tryd.ntmps86
  go_wp2
  go_ret
  exact ⟨rfl, rfl⟩

theorem rqKnown_any (t : Int) (w : World) : Calls Tryd.prog 70 #[.int .i64 t] w fun e w' => e = .returned (.bool (decide (shp t % 2 = 1))) ∧ w = w' := by
  rcases Int.lt_or_le t 0 with h | h
  · have e : decide (shp t % 2 = 1) = false := by unfold shp; rw [if_pos (by omega)]; decide
    rw [e]; exact rqKn_0 t w (by omega)
  rcases Int.lt_or_le 15 t with h1 | h1
  · have e : decide (shp t % 2 = 1) = false := by unfold shp; rw [if_pos (by omega)]; decide
    rw [e]; exact rqKn_6 t w (by omega)
  obtain ⟨k, rfl⟩ : ∃ k : Nat, t = k := ⟨t.toNat, by omega⟩
  have hk : k ≤ 15 := by omega
  rcases (by omega : k ≤ 4 ∨ (5 ≤ k ∧ k ≤ 6) ∨ (7 ≤ k ∧ k ≤ 9) ∨ (10 ≤ k ∧ k ≤ 11) ∨ 12 ≤ k) with q | q | q | q | q
  · have e : decide (shp (k : Int) % 2 = 1) = true := by
      rcases (by omega : k = 0 ∨ k = 1 ∨ k = 2 ∨ k = 3 ∨ k = 4) with rfl | rfl | rfl | rfl | rfl <;> decide
    rw [e]; exact rqKn_1 _ w (by omega) (by omega)
  · have e : decide (shp (k : Int) % 2 = 1) = false := by
      rcases (by omega : k = 5 ∨ k = 6) with rfl | rfl <;> decide
    rw [e]; exact rqKn_2 _ w (by omega) (by omega)
  · have e : decide (shp (k : Int) % 2 = 1) = true := by
      rcases (by omega : k = 7 ∨ k = 8 ∨ k = 9) with rfl | rfl | rfl <;> decide
    rw [e]; exact rqKn_3 _ w (by omega) (by omega)
  · have e : decide (shp (k : Int) % 2 = 1) = false := by
      rcases (by omega : k = 10 ∨ k = 11) with rfl | rfl <;> decide
    rw [e]; exact rqKn_4 _ w (by omega) (by omega)
  · have e : decide (shp (k : Int) % 2 = 1) = true := by
      rcases (by omega : k = 12 ∨ k = 13 ∨ k = 14 ∨ k = 15) with rfl | rfl | rfl | rfl <;> decide
    rw [e]; exact rqKn_5 _ w (by omega) (by omega)
/-- What a known type may be, by its shape. -/
theorem typ_of {t : Int} (h : shp t % 2 = 1) : (shp t = 3 ∧ (t = 0 ∨ t = 4 ∨ t = 7)) ∨ (shp t = 7 ∧ (t = 1 ∨ t = 2 ∨ t = 3)) ∨ (shp t = 9 ∧ t = 8) ∨ (shp t = 17 ∧ t = 9) ∨ (shp t = 33 ∧ (t = 12 ∨ t = 14)) ∨ (shp t = 1 ∧ (t = 13 ∨ t = 15)) := by
  by_cases h0 : t < 0 ∨ 16 ≤ t
  · unfold shp at h; rw [if_pos h0] at h; omega
  · obtain ⟨k, rfl⟩ : ∃ k : Nat, t = k := ⟨t.toNat, by omega⟩
    have hk : k ≤ 15 := by omega
    rcases (by omega : k = 0 ∨ k = 1 ∨ k = 2 ∨ k = 3 ∨ k = 4 ∨ k = 5 ∨ k = 6 ∨ k = 7 ∨ k = 8 ∨ k = 9 ∨ k = 10 ∨ k = 11 ∨ k = 12 ∨ k = 13 ∨ k = 14 ∨ k = 15) with rfl | rfl | rfl | rfl | rfl | rfl | rfl | rfl | rfl | rfl | rfl | rfl | rfl | rfl | rfl | rfl <;> first | (revert h; decide) | decide

set_option maxHeartbeats 4000000 in
theorem rqExts_any (v : Value) (xs : List Xr) (w : World) (h : XIn w v xs) (q : Bool) (hq : xsOk xs = q) : Calls Tryd.prog 84 #[v] w fun e w' => e = .returned (.bool q) ∧ w = w' := by
  have HX : Hid (XIn w v xs) := h
  obtain ⟨a, c, rfl, _⟩ := h.shape
  have hsm := h.small
  obtain ⟨n, hn⟩ : ∃ n, xs.length = n := ⟨_, rfl⟩
  have HN : Hid (xs.length = n) := hn
  have HQ : Hid (xsOk xs = q) := hq
  rw [hn] at hsm ⊢
  have HX : Hid (XIn w (.slice a n c) xs) := by have := HX.out; rw [hn] at this; exact this
  clear h hn hq
  go_enter Tryd.func84, Tryd.ntmps84
  by_cases h15 : (15 : Int) < (n : Int)
  · have d0 : decide ((15 : Int) < (n : Int)) = true := by simp [h15]
    have HF : Hid (q = false) := by
      show _ = _
      rw [← HQ.out]
      simp only [xsOk, HN.out, Bool.and_eq_false_iff, decide_eq_false_iff_not]
      left; omega
    go_wp2
    go_ret
    exact ⟨retB HF.out, rfl⟩
  · have d0 : decide ((15 : Int) < (n : Int)) = false := by simp; omega
    go_wp2_with fail
    go_loopw [3] (fun i wr => ∃ (k : Nat), k ≤ n ∧ i = .int .i64 k ∧ w = wr ∧ Hid ((xs.take k).all xOk = true)) (fun i _ => n - (intOf i).toNat)
    case atStart => exact ⟨0, by omega, rfl, rfl, by show _ = _; simp⟩
    case round =>
      obtain ⟨k, hk, rfl, rfl, HA⟩ := hrel
      by_cases hlt : k < n
      · have hlt' : (k : Int) < (n : Int) := by omega
        obtain ⟨x, hx⟩ := get_one xs k (by rw [HN.out]; exact hlt)
        obtain ⟨g, off, rfl, q1, q2⟩ := HX.out.at hx
        obtain ⟨xa, xc, hxv, _⟩ := (HX.out.data x (List.mem_of_getElem? hx)).shape
        rw [hxv] at q2
        have HOk : Hid (xOk x = decide ((0 ≤ x.tag ∧ x.tag ≤ 255) ∧ x.data.length ≤ 200)) := by show _ = _; simp [xOk, btw, Bool.decide_and]
        have HXx : Hid (xs[k]? = some x) := hx
        have HBad : Hid (xOk x = false → q = false) := fun hb => by
          rw [← HQ.out]
          simp only [xsOk, Bool.and_eq_false_iff]
          right
          rw [List.all_eq_false]
          exact ⟨x, List.mem_of_getElem? hx, by rw [hb]; simp⟩
        have hwk : IntKind.i64.wrap ((k : Int) + 1) = (k : Int) + 1 := by rw [IntKind.wrap_i64]; omega
        clear hx hxv
        generalize x.tag = tg at *
        generalize x.data.length = dl at *
        by_cases c0 : tg < 0
        · have e0 : decide (tg < 0) = true := by simp [c0]
          have HF : Hid (q = false) := HBad.out (by rw [HOk.out]; simp; omega)
          go_wp2
          go_ret
          exact ⟨retB HF.out, rfl⟩
        have e0 : decide (tg < 0) = false := by simp; omega
        by_cases c1 : (255 : Int) < tg
        · have e1 : decide ((255 : Int) < tg) = true := by simp [c1]
          have HF : Hid (q = false) := HBad.out (by rw [HOk.out]; simp; omega)
          go_wp2
          go_ret
          exact ⟨retB HF.out, rfl⟩
        have e1 : decide ((255 : Int) < tg) = false := by simp; omega
        by_cases c2 : (200 : Int) < (dl : Int)
        · have e2 : decide ((200 : Int) < (dl : Int)) = true := by simp [c2]
          have HF : Hid (q = false) := HBad.out (by rw [HOk.out]; simp; omega)
          go_wp2
          go_ret
          exact ⟨retB HF.out, rfl⟩
        have e2 : decide ((200 : Int) < (dl : Int)) = false := by simp; omega
        have HG : Hid ((xs.take (k + 1)).all xOk = true) := all_take_succ xOk xs k x HXx.out HA.out (by rw [HOk.out]; simp; omega)
        go_wp2
        go_roundw
        case rel => exact ⟨k + 1, by omega, by go_num, by first | rfl | trivial, HG⟩
        case measure => simp [intOf]; omega
      · have hlt' : ¬ (k : Int) < (n : Int) := by omega
        have HF : Hid (q = true) := by
          show _ = _
          rw [← HQ.out]
          have := HA.out
          rw [List.take_of_length_le (by rw [HN.out]; omega)] at this
          simp only [xsOk, HN.out, this, Bool.and_true, decide_eq_true_eq]
          omega
        go_wp2
        go_ret
        exact ⟨retB HF.out, rfl⟩

theorem clOk_take_false {up lo : Int} {l : List (Int × Int)} {k : Nat} {p : Int × Int} (hp : l[k]? = some p) (h : ¬ (lo ≤ p.1 ∧ p.1 < p.2 ∧ p.2 ≤ up ∧ ∀ (q : Int × Int), l[k - 1]? = some q → 0 < k → q.2 < p.1)) : clOk up lo l = false := Bool.eq_false_iff.mpr fun hc => h (clOk_at hc k p hp)
theorem clOk_of_all : ∀ {l : List (Int × Int)} {up lo : Int}, (∀ (i : Nat) (p : Int × Int), l[i]? = some p → lo ≤ p.1 ∧ p.1 < p.2 ∧ p.2 ≤ up ∧ ∀ (q : Int × Int), l[i - 1]? = some q → 0 < i → q.2 < p.1) → clOk up lo l = true
  | [], up, lo, h => rfl
  | x :: r, up, lo, h => by
    obtain ⟨h1, h2, h3, _⟩ := h 0 x rfl
    simp only [clOk, Bool.and_eq_true, decide_eq_true_eq]
    refine ⟨h1, h2, h3, clOk_of_all fun i p hp => ?_⟩
    obtain ⟨a1, a2, a3, a4⟩ := h (i + 1) p (by simpa using hp)
    have a5 : x.2 < p.1 := by
      cases i with
      | zero => exact a4 x rfl (by omega)
      | succ j =>
        have hlt := (List.getElem?_eq_some_iff.mp hp).1
        have key : ∀ (m : Nat) (y : Int × Int), r[m]? = some y → x.2 < y.1 := by
          intro m
          induction m with
          | zero => intro y hy; exact (h 1 y (by simpa using hy)).2.2.2 x rfl (by omega)
          | succ m ih =>
            intro y hy
            have hm := (List.getElem?_eq_some_iff.mp hy).1
            obtain ⟨z, hz⟩ := get_one r m (by omega)
            have h5 := ih z hz
            have h6 := (h (m + 1) z (by simpa using hz)).2.1
            have h7 := (h (m + 2) y (by simpa using hy)).2.2.2 z (by simpa using hz) (by omega)
            omega
        exact key _ p hp
    refine ⟨by omega, a2, a3, fun q hq hi => ?_⟩
    cases i with
    | zero => omega
    | succ j => exact a4 q (by simpa using hq) (by omega)

set_option maxHeartbeats 4000000 in
theorem rqClaims_any (a : Option Addr) (n c : Nat) (l : List (Int × Int)) (lo up : Int) (w : World) (h : CIn w (.slice a n c) l) (hn : l.length = n) (q : Bool) (hq : (decide (1 ≤ n ∧ n ≤ 1000) && clOk up lo l) = q) :
    Calls Tryd.prog 89 #[.slice a n c, .int .i64 lo, .int .i64 up] w fun e w' => e = .returned (.bool q) ∧ Below w.heap.size w w' := by
  have HC : Hid (CIn w (.slice a n c) l) := h
  have HN : Hid (l.length = n) := hn
  have HQ : Hid ((decide (1 ≤ n ∧ n ≤ 1000) && clOk up lo l) = q) := hq
  have hsm : n ≤ 1048576 := by rw [← hn]; exact h.small
  clear h hn hq
  go_enter Tryd.func89, Tryd.ntmps89
  by_cases c0 : (n : Int) < 1
  · have e0 : decide ((n : Int) < 1) = true := by simp [c0]
    have HF : Hid (q = false) := by show _ = _; rw [← HQ.out, decide_eq_false (by omega), Bool.false_and]
    go_wp2
    go_ret
    exact ⟨retB HF.out, Below.refl _ _⟩
  have e0 : decide ((n : Int) < 1) = false := by simp; omega
  by_cases c1 : (1000 : Int) < (n : Int)
  · have e1 : decide ((1000 : Int) < (n : Int)) = true := by simp [c1]
    have HF : Hid (q = false) := by show _ = _; rw [← HQ.out, decide_eq_false (by omega), Bool.false_and]
    go_wp2
    go_ret
    exact ⟨retB HF.out, Below.refl _ _⟩
  have e1 : decide ((1000 : Int) < (n : Int)) = false := by simp; omega
  have HK : Hid (clOk up lo l = q) := by have := HQ.out; rwa [decide_eq_true (by omega), Bool.true_and] at this
  go_wp2_with fail
  go_loopw [7] (fun i wr => ∃ k : Nat, k ≤ n ∧ i = .int .i64 k ∧ Hid (Below w.heap.size w wr ∧ ∀ (i : Nat) (p : Int × Int), i < k → l[i]? = some p → lo ≤ p.1 ∧ p.1 < p.2 ∧ p.2 ≤ up ∧ ∀ (q : Int × Int), l[i - 1]? = some q → 0 < i → q.2 < p.1)) (fun i _ => n - (intOf i).toNat)
  case atStart => exact ⟨0, Nat.zero_le _, rfl, Below.refl _ _, fun i p hi => absurd hi (Nat.not_lt_zero _)⟩
  case round =>
    obtain ⟨k, hk, rfl, HJ⟩ := hrel
    have HBW : Hid (Below w.heap.size w wr) := HJ.out.1
    by_cases hlt : k < n
    · obtain ⟨p, hp⟩ := get_one l k (by rw [HN.out]; exact hlt)
      obtain ⟨g, off, rfl, q1, q2⟩ := (HC.out.below HBW.out).at hp
      have hlt' : (k : Int) < (n : Int) := by omega
      have HP : Hid (l[k]? = some p) := hp
      have HBad : Hid (¬ (lo ≤ p.1 ∧ p.1 < p.2 ∧ p.2 ≤ up ∧ ∀ (q : Int × Int), l[k - 1]? = some q → 0 < k → q.2 < p.1) → q = false) := fun hb => by rw [← HK.out]; exact clOk_take_false hp hb
      have HNx : Hid ((lo ≤ p.1 ∧ p.1 < p.2 ∧ p.2 ≤ up ∧ ∀ (q : Int × Int), l[k - 1]? = some q → 0 < k → q.2 < p.1) → ∀ (i : Nat) (p : Int × Int), i < k + 1 → l[i]? = some p → lo ≤ p.1 ∧ p.1 < p.2 ∧ p.2 ≤ up ∧ ∀ (q : Int × Int), l[i - 1]? = some q → 0 < i → q.2 < p.1) := fun hg i y hi hy => by
        rcases Nat.lt_or_ge i k with q | q
        · exact HJ.out.2 i y q hy
        · obtain rfl : i = k := by omega
          rw [hp] at hy; cases hy; exact hg
      clear hp
      obtain ⟨p1, p2⟩ := p
      simp only at q1 q2 HBad HNx
      by_cases d1 : p1 < lo
      · have d1' : decide (p1 < lo) = true := by simp [d1]
        have HF : Hid (q = false) := HBad.out (by omega)
        go_wp2_with fail
        go_quiet (fail)
        go_wp2
        go_ret
        exact ⟨retB HF.out, below_drewN' HBW.out _⟩
      have d1' : decide (p1 < lo) = false := by simp; omega
      by_cases d2 : p2 ≤ p1
      · have d2' : decide (p2 ≤ p1) = true := by simp [d2]
        have HF : Hid (q = false) := HBad.out (by omega)
        go_wp2_with fail
        go_quiet (fail)
        go_wp2
        go_ret
        exact ⟨retB HF.out, below_drewN' HBW.out _⟩
      have d2' : decide (p2 ≤ p1) = false := by simp; omega
      by_cases d3 : up < p2
      · have d3' : decide (up < p2) = true := by simp [d3]
        have HF : Hid (q = false) := HBad.out (by omega)
        go_wp2_with fail
        go_quiet (fail)
        go_wp2
        go_ret
        exact ⟨retB HF.out, below_drewN' HBW.out _⟩
      have d3' : decide (up < p2) = false := by simp; omega
      by_cases hk0 : k = 0
      · subst hk0
        have HG := HNx.out ⟨by omega, by omega, by omega, fun _ _ h => absurd h (Nat.lt_irrefl _)⟩
        have HG' : Hid (∀ (i : Nat) (p : Int × Int), i < 0 + 1 → l[i]? = some p → lo ≤ p.1 ∧ p.1 < p.2 ∧ p.2 ≤ up ∧ ∀ (q : Int × Int), l[i - 1]? = some q → 0 < i → q.2 < p.1) := HG
        clear HG HNx HBad
        simp only [Nat.zero_mul, Nat.add_zero] at q1 q2
        go_wp2_with fail
        go_quiet (fail)
        go_wp2
        go_roundw
        case rel => exact ⟨1, by omega, by go_num, below_drewN' HBW.out _, HG'.out⟩
        case measure => simp [intOf]; omega
      · obtain ⟨y, hq⟩ := get_one l (k - 1) (by rw [HN.out]; omega)
        obtain ⟨g', off', he, q3, q4⟩ := (HC.out.below HBW.out).at hq
        cases he
        obtain ⟨j, rfl⟩ : ∃ j, k = j + 1 := ⟨k - 1, by omega⟩
        rw [Nat.add_sub_cancel] at q3 q4 hq
        have HY : Hid (l[j]? = some y) := hq
        have hwj : IntKind.i64.wrap ((j : Int) + 1 - 1) = (j : Int) := by rw [IntKind.wrap_i64]; omega
        have hj1 : (j : Int) < (n : Int) := by omega
        have hj0 : (0 : Int) < (j : Int) + 1 := by omega
        clear hq hk0
        obtain ⟨y1, y2⟩ := y
        simp only at q3 q4
        by_cases d4 : p1 ≤ y2
        · have d4' : decide (p1 ≤ y2) = true := by simp [d4]
          have HF : Hid (q = false) := HBad.out (fun hh => by have := hh.2.2.2 (y1, y2) (by simpa using HY.out) (by omega); simp only at this; omega)
          clear HNx HBad
          go_wp2_with fail
          go_quiet (fail)
          go_wp2
          go_ret
          exact ⟨retB HF.out, below_drewN' HBW.out _⟩
        · have d4' : decide (p1 ≤ y2) = false := by simp; omega
          have HG := HNx.out ⟨by omega, by omega, by omega, fun z hz _ => by
            rw [Nat.add_sub_cancel, HY.out] at hz
            cases hz
            show y2 < p1
            omega⟩
          have HG' : Hid (∀ (i : Nat) (p : Int × Int), i < j + 1 + 1 → l[i]? = some p → lo ≤ p.1 ∧ p.1 < p.2 ∧ p.2 ≤ up ∧ ∀ (q : Int × Int), l[i - 1]? = some q → 0 < i → q.2 < p.1) := HG
          clear HG HNx HBad
          go_wp2_with fail
          go_quiet (fail)
          go_wp2
          go_roundw
          case rel => exact ⟨j + 1 + 1, by omega, by go_num, below_drewN' HBW.out _, HG'.out⟩
          case measure => simp [intOf]; omega
    · have hlt' : ¬ (k : Int) < (n : Int) := by omega
      have HF : Hid (q = true) := by
        show _ = _
        rw [← HK.out]
        exact clOk_of_all fun i p hp => HJ.out.2 i p (by have := (List.getElem?_eq_some_iff.mp hp).1; rw [HN.out] at this; omega) hp
      go_wp2
      go_ret
      exact ⟨retB HF.out, HBW.out⟩
theorem s14_cells {W : World} {g : Nat} {v0 v1 v2 v3 v4 v5 v6 v7 v8 v9 v10 v11 v12 v13 : Value} {t : TypeId} (h : W.heap[g]? = some (.cells #[v0, v1, v2, v3, v4, v5, v6, v7, v8, v9, v10, v11, v12, v13] t (0, 0))) :
    W.cell? ⟨g, 0, none⟩ = some v0 ∧ W.cell? ⟨g, 1, none⟩ = some v1 ∧ W.cell? ⟨g, 2, none⟩ = some v2 ∧ W.cell? ⟨g, 3, none⟩ = some v3 ∧ W.cell? ⟨g, 4, none⟩ = some v4 ∧ W.cell? ⟨g, 5, none⟩ = some v5 ∧ W.cell? ⟨g, 6, none⟩ = some v6 ∧ W.cell? ⟨g, 7, none⟩ = some v7 ∧ W.cell? ⟨g, 8, none⟩ = some v8 ∧ W.cell? ⟨g, 9, none⟩ = some v9 ∧ W.cell? ⟨g, 10, none⟩ = some v10 ∧ W.cell? ⟨g, 11, none⟩ = some v11 ∧ W.cell? ⟨g, 12, none⟩ = some v12 ∧ W.cell? ⟨g, 13, none⟩ = some v13 :=
  ⟨(cell_of_row _ _ _ _ _ _ h).trans rfl, (cell_of_row _ _ _ _ _ _ h).trans rfl, (cell_of_row _ _ _ _ _ _ h).trans rfl, (cell_of_row _ _ _ _ _ _ h).trans rfl, (cell_of_row _ _ _ _ _ _ h).trans rfl, (cell_of_row _ _ _ _ _ _ h).trans rfl, (cell_of_row _ _ _ _ _ _ h).trans rfl, (cell_of_row _ _ _ _ _ _ h).trans rfl, (cell_of_row _ _ _ _ _ _ h).trans rfl, (cell_of_row _ _ _ _ _ _ h).trans rfl, (cell_of_row _ _ _ _ _ _ h).trans rfl, (cell_of_row _ _ _ _ _ _ h).trans rfl, (cell_of_row _ _ _ _ _ _ h).trans rfl, (cell_of_row _ _ _ _ _ _ h).trans rfl⟩

end Go.Proofs.YtdfdaambfihjaaaDoor
