import Derived.Test.YtjolflpmeodnaagDoorRcRf7
import Derived.Deep.RegionHeld3
import Derived.Deep.CutRange
namespace Go.Proofs.YtjolflpmeodnaagDoor
open Go.RowKit
set_option linter.unusedVariables false

theorem letters {k : Int} (h : kf k ≠ 0) : (∀ i < 8, hasS (fsB k) (ltL.getD i 0) = hasB (kf k) i) ∧ hasS (fsB k) 83 = hasB (kf k) 8 ∧ hasS (fsB k) 68 = hasB (kf k) 9 ∧ fsB k ≠ [] ∧ (fsB k).length ≤ 10 := by
  rcases kf_cases h with rfl | rfl | rfl | rfl | rfl | rfl | rfl | rfl | rfl | rfl | rfl | rfl <;> decide
theorem no_letters {k : Int} (h : kf k = 0) : fsB k = [] := by
  by_cases hk : 0 ≤ k ∧ k < 13
  · have : k = 0 ∨ k = 1 ∨ k = 2 ∨ k = 3 ∨ k = 4 ∨ k = 5 ∨ k = 6 ∨ k = 7 ∨ k = 8 ∨ k = 9 ∨ k = 10 ∨ k = 11 ∨ k = 12 := by omega
    rcases this with rfl | rfl | rfl | rfl | rfl | rfl | rfl | rfl | rfl | rfl | rfl | rfl | rfl
    · rfl
    all_goals exact absurd h (by decide)
  · unfold fsB
    rw [if_neg (by omega), if_neg (by omega), if_neg (by omega), if_neg (by omega), if_neg (by omega), if_neg (by omega), if_neg (by omega), if_neg (by omega), if_neg (by omega), if_neg (by omega), if_neg (by omega), if_neg (by omega)]
theorem index_lt (i : Nat) (hi : i < 8) (w : World) : (Instr.index 9 (.string ⟨#[79, 78, 80, 86, 70, 82, 90, 72]⟩) (.int .i64 i)).run Tryd.prog w = .ok (.int .u8 (ltL.getD i 0).toNat) w := by
  have : i = 0 ∨ i = 1 ∨ i = 2 ∨ i = 3 ∨ i = 4 ∨ i = 5 ∨ i = 6 ∨ i = 7 := by omega
  have i0 : (Instr.index 9 (.string ⟨#[79, 78, 80, 86, 70, 82, 90, 72]⟩) (.int .i64 0)).run Tryd.prog w = .ok (.int .u8 79) w := by kernel_rfl
  have i1 : (Instr.index 9 (.string ⟨#[79, 78, 80, 86, 70, 82, 90, 72]⟩) (.int .i64 1)).run Tryd.prog w = .ok (.int .u8 78) w := by kernel_rfl
  have i2 : (Instr.index 9 (.string ⟨#[79, 78, 80, 86, 70, 82, 90, 72]⟩) (.int .i64 2)).run Tryd.prog w = .ok (.int .u8 80) w := by kernel_rfl
  have i3 : (Instr.index 9 (.string ⟨#[79, 78, 80, 86, 70, 82, 90, 72]⟩) (.int .i64 3)).run Tryd.prog w = .ok (.int .u8 86) w := by kernel_rfl
  have i4 : (Instr.index 9 (.string ⟨#[79, 78, 80, 86, 70, 82, 90, 72]⟩) (.int .i64 4)).run Tryd.prog w = .ok (.int .u8 70) w := by kernel_rfl
  have i5 : (Instr.index 9 (.string ⟨#[79, 78, 80, 86, 70, 82, 90, 72]⟩) (.int .i64 5)).run Tryd.prog w = .ok (.int .u8 82) w := by kernel_rfl
  have i6 : (Instr.index 9 (.string ⟨#[79, 78, 80, 86, 70, 82, 90, 72]⟩) (.int .i64 6)).run Tryd.prog w = .ok (.int .u8 90) w := by kernel_rfl
  have i7 : (Instr.index 9 (.string ⟨#[79, 78, 80, 86, 70, 82, 90, 72]⟩) (.int .i64 7)).run Tryd.prog w = .ok (.int .u8 72) w := by kernel_rfl
  rcases this with rfl | rfl | rfl | rfl | rfl | rfl | rfl | rfl
  · exact i0
  · exact i1
  · exact i2
  · exact i3
  · exact i4
  · exact i5
  · exact i6
  · exact i7

/-- What the reference asks of a number. -/
def okR (f : Int) (i : Nat) (n : Int) : Bool := decide (0 ≤ n) && (decide (n ≤ 4611686018427387903) && (hasB f i || n == 0))
def okRs (f : Int) (r : Rc) (k : Nat) : Bool := (List.range k).all fun i => okR f i (nmA r i)
theorem okRs_succ (f : Int) (r : Rc) (k : Nat) : okRs f r (k + 1) = (okRs f r k && okR f k (nmA r k)) := by
  unfold okRs; rw [List.range_succ, List.all_append]; simp

theorem okRs_no {f : Int} {r : Rc} : ∀ {k j : Nat}, k ≤ j → okRs f r k = false → okRs f r j = false
  | k, 0, h, h0 => by obtain rfl : k = 0 := by omega
                      exact h0
  | k, j + 1, h, h0 => by
    rcases Nat.lt_or_ge j k with q | q
    · obtain rfl : k = j + 1 := by omega
      exact h0
    · rw [okRs_succ, okRs_no q h0]; rfl
theorem okR_of {f : Int} {i : Nat} {n : Int} (h : okN f i n = true) : okR f i n = true := by
  have hb := okN_bd h
  unfold okR
  rw [decide_eq_true hb.1, decide_eq_true hb.2]
  unfold okN at h
  cases hq : hasB f i with
  | true => rfl
  | false => rw [hq] at h; simpa using h
theorem okR_bd {f : Int} {i : Nat} {n : Int} (h : okR f i n = true) : 0 ≤ n ∧ n ≤ 4611686018427387903 := by
  unfold okR at h
  simp only [Bool.and_eq_true, decide_eq_true_eq] at h
  exact ⟨h.1, h.2.1⟩
theorem okRs_at {f : Int} {r : Rc} {k i : Nat} (h : okRs f r k = true) (hi : i < k) : okR f i (nmA r i) = true := by
  unfold okRs at h
  rw [List.all_eq_true] at h
  exact h i (List.mem_range.mpr hi)
theorem okN_R {f : Int} {i : Nat} {n : Int} (h : okR f i n = true) (h2 : 2 ≤ i) : okN f i n = true := by
  have hb := okR_bd h
  unfold okR at h
  unfold okN
  cases hq : hasB f i with
  | true =>
    rw [if_pos rfl]
    unfold numB
    rw [if_neg (by omega), if_neg (by omega), decide_eq_true hb.1, decide_eq_true hb.2]
    rfl
  | false => rw [hq] at h; simp at h; simp [h.2.2]
/-- What the reference asks for, one by one, is that a record may be. -/
theorem may_eq {r : Rc} {ns nd : Nat} (hk : kf r.kind ≠ 0) (hok : okRs (kf r.kind) r 8 = true) (hns : r.spans.length = ns) (hnd : r.data.length = nd) :
    mayB6 r = ((if hasB (kf r.kind) 1 then decide (1 ≤ r.num) && decide (r.num < 4611686018427387903) else true) && ((if hasB (kf r.kind) 0 then decide (1 ≤ r.org) else true) && (((hasB (kf r.kind) 9 || nd == 0) && (hasB (kf r.kind) 8 || ns == 0)) && suitB r))) := by
  have h0 := okRs_at hok (show 0 < 8 by omega)
  have h1 := okRs_at hok (show 1 < 8 by omega)
  have e : okNs (kf r.kind) r 8 = (okN (kf r.kind) 0 r.org && okN (kf r.kind) 1 r.num) := by
    have h2 := okN_R (okRs_at hok (show 2 < 8 by omega)) (by omega)
    have h3 := okN_R (okRs_at hok (show 3 < 8 by omega)) (by omega)
    have h4 := okN_R (okRs_at hok (show 4 < 8 by omega)) (by omega)
    have h5 := okN_R (okRs_at hok (show 5 < 8 by omega)) (by omega)
    have h6 := okN_R (okRs_at hok (show 6 < 8 by omega)) (by omega)
    have h7 := okN_R (okRs_at hok (show 7 < 8 by omega)) (by omega)
    rw [okNs_succ, okNs_succ, okNs_succ, okNs_succ, okNs_succ, okNs_succ, okNs_succ, okNs_succ, h2, h3, h4, h5, h6, h7]
    simp only [Bool.and_true]
    rfl
  have e0 : okN (kf r.kind) 0 r.org = (if hasB (kf r.kind) 0 then decide (1 ≤ r.org) else true) := by
    have hb := okR_bd h0
    unfold okR at h0
    unfold okN
    rw [show nmA r 0 = r.org from rfl] at h0 hb
    cases hq : hasB (kf r.kind) 0 with
    | true =>
      rw [if_pos rfl, if_pos rfl]
      unfold numB
      rw [if_pos rfl, decide_eq_true hb.2, Bool.and_true]
    | false => rw [hq] at h0; simp at h0; simp [h0.2.2]
  have e1 : okN (kf r.kind) 1 r.num = (if hasB (kf r.kind) 1 then decide (1 ≤ r.num) && decide (r.num < 4611686018427387903) else true) := by
    have hb := okR_bd h1
    unfold okR at h1
    unfold okN
    rw [show nmA r 1 = r.num from rfl] at h1 hb
    cases hq : hasB (kf r.kind) 1 with
    | true =>
      rw [if_pos rfl, if_pos rfl]
      unfold numB
      rw [if_neg (by omega), if_pos rfl]
      congr 1
      exact decide_eq_decide.mpr (by omega)
    | false => rw [hq] at h1; simp at h1; simp [h1.2.2]
  unfold mayB6 allowB
  rw [e, e0, e1, hns, hnd]
  have hk' : (kf r.kind != 0) = true := by simpa using hk
  rw [hk']
  generalize hasB (kf r.kind) 0 = b0
  generalize hasB (kf r.kind) 1 = b1
  generalize hasB (kf r.kind) 8 = b8
  generalize hasB (kf r.kind) 9 = b9
  generalize decide (1 ≤ r.org) = x0
  generalize (decide (1 ≤ r.num) && decide (r.num < 4611686018427387903)) = x1
  generalize (nd == 0) = x2
  generalize (ns == 0) = x3
  generalize suitB r = x4
  cases b0 <;> cases b1 <;> cases b8 <;> cases b9 <;> cases x0 <;> cases x1 <;> cases x2 <;> cases x3 <;> cases x4 <;> rfl
theorem okRs_of {f : Int} {r : Rc} {k : Nat} (h : okNs f r k = true) : okRs f r k = true := by
  unfold okRs
  rw [List.all_eq_true]
  intro i hi
  exact okR_of (okNs_at h (List.mem_range.mp hi))

end Go.Proofs.YtjolflpmeodnaagDoor
