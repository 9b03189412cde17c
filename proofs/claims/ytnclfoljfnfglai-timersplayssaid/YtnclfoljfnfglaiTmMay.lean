import Derived.Test.YtnclfoljfnfglaiTmSta
import Derived.Deep.CutRange
namespace Go.Proofs.Ytnclfoljfnfglai
open Go.RowKit Go.Maps
set_option linter.unusedVariables false

theorem dec2 {a b : Prop} [Decidable a] [Decidable b] (ha : a) (hb : b) : decide (a ∧ b) = true := decide_eq_true ⟨ha, hb⟩
theorem dec1 {a b : Prop} [Decidable a] [Decidable b] (ha : a) (hb : ¬ b) : decide (a ∧ b) = false := decide_eq_false fun h => hb h.2
theorem dec0 {a b : Prop} [Decidable a] [Decidable b] (ha : ¬ a) : decide (a ∧ b) = false := decide_eq_false fun h => ha h.1
theorem mayK_iff (p o n kd s : Int) : mayK (p, o, n, kd, s) ↔ ((1 ≤ p ∧ p ≤ 4611686018427387903) ∧ (1 ≤ o ∧ o ≤ 4611686018427387903) ∧ (1 ≤ n ∧ n < 4611686018427387903) ∧ (1 ≤ kd ∧ kd ≤ 4) ∧ (0 ≤ s ∧ s ≤ 4611686018427387903)) := Iff.rfl
instance (k : Kx) : Decidable (mayK k) := by unfold mayK; infer_instance

set_option maxHeartbeats 4000000 in
set_option maxRecDepth 100000 in
/-- mayBe of any key. -/
theorem mayBe10_any (k : Kx) (w : World) : Calls Try.prog 53 #[kA k] w fun e w' => e = .returned (.bool (decide (mayK k))) ∧ w' = w.alloc (kO k) := by
  obtain ⟨p, o, n, kd, s⟩ := k
  obtain ⟨B1, h1⟩ : ∃ b, decide (1 ≤ p ∧ p ≤ 4611686018427387903) = b := ⟨_, rfl⟩
  obtain ⟨B2, h2⟩ : ∃ b, decide (1 ≤ o ∧ o ≤ 4611686018427387903) = b := ⟨_, rfl⟩
  obtain ⟨B3, h3⟩ : ∃ b, decide (1 ≤ n ∧ n < 4611686018427387903) = b := ⟨_, rfl⟩
  obtain ⟨B4, h4⟩ : ∃ b, decide (1 ≤ kd ∧ kd ≤ 4) = b := ⟨_, rfl⟩
  obtain ⟨B5, h5⟩ : ∃ b, decide (0 ≤ s ∧ s ≤ 4611686018427387903) = b := ⟨_, rfl⟩
  have hm : decide (mayK (p, o, n, kd, s)) = (B1 && (B2 && (B3 && (B4 && B5)))) := by
    rw [← h1, ← h2, ← h3, ← h4, ← h5, Bool.eq_iff_iff]
    simp only [decide_eq_true_eq, Bool.and_eq_true]
    exact mayK_iff p o n kd s
  rw [hm]
  have H1 : Hid (decide (1 ≤ p ∧ p ≤ 4611686018427387903) = B1) := h1
  have H2 : Hid (decide (1 ≤ o ∧ o ≤ 4611686018427387903) = B2) := h2
  have H3 : Hid (decide (1 ≤ n ∧ n < 4611686018427387903) = B3) := h3
  have H4 : Hid (decide (1 ≤ kd ∧ kd ≤ 4) = B4) := h4
  have H5 : Hid (decide (0 ≤ s ∧ s ≤ 4611686018427387903) = B5) := h5
  clear hm h1 h2 h3 h4 h5
  go_enter Try.func53, Try.ntmps53
  go_upto_region 1 with fail
  go_cut [3] from 8 to 15 (fun q wx => q = .bool B1 ∧ wx = w.alloc (kO (p, o, n, kd, s)))
  case first =>
    by_cases a : 1 ≤ p
    · by_cases b : p ≤ 4611686018427387903
      · have HS : Hid (B1 = true) := H1.out.symm.trans (dec2 a b)
        go_wp2
        go_meet
        exact ⟨by rw [HS.out], rfl⟩
      · have HS : Hid (B1 = false) := H1.out.symm.trans (dec1 a b)
        go_wp2
        go_meet
        exact ⟨by rw [HS.out], rfl⟩
    · have HS : Hid (B1 = false) := H1.out.symm.trans (dec0 a)
      go_wp2
      go_meet
      exact ⟨by rw [HS.out], rfl⟩
  case rest =>
    obtain ⟨rfl, rfl⟩ := hcut
    go_upto_region 2 with fail
    go_cut [4] from 16 to 25 (fun q wx => q = .bool B2 ∧ wx = w.alloc (kO (p, o, n, kd, s)))
    case first =>
      by_cases a : 1 ≤ o
      · by_cases b : o ≤ 4611686018427387903
        · have HS : Hid (B2 = true) := H2.out.symm.trans (dec2 a b)
          go_wp2
          go_meet
          exact ⟨by rw [HS.out], rfl⟩
        · have HS : Hid (B2 = false) := H2.out.symm.trans (dec1 a b)
          go_wp2
          go_meet
          exact ⟨by rw [HS.out], rfl⟩
      · have HS : Hid (B2 = false) := H2.out.symm.trans (dec0 a)
        go_wp2
        go_meet
        exact ⟨by rw [HS.out], rfl⟩
    case rest =>
      obtain ⟨rfl, rfl⟩ := hcut
      go_upto_region 3 with fail
      go_cut [5] from 26 to 35 (fun q wx => q = .bool B3 ∧ wx = w.alloc (kO (p, o, n, kd, s)))
      case first =>
        by_cases a : 1 ≤ n
        · by_cases b : n < 4611686018427387903
          · have HS : Hid (B3 = true) := H3.out.symm.trans (dec2 a b)
            go_wp2
            go_meet
            exact ⟨by rw [HS.out], rfl⟩
          · have HS : Hid (B3 = false) := H3.out.symm.trans (dec1 a b)
            go_wp2
            go_meet
            exact ⟨by rw [HS.out], rfl⟩
        · have HS : Hid (B3 = false) := H3.out.symm.trans (dec0 a)
          go_wp2
          go_meet
          exact ⟨by rw [HS.out], rfl⟩
      case rest =>
        obtain ⟨rfl, rfl⟩ := hcut
        go_upto_region 4 with fail
        go_cut [6] from 36 to 43 (fun q wx => q = .bool B4 ∧ wx = w.alloc (kO (p, o, n, kd, s)))
        case first =>
          by_cases a : 1 ≤ kd
          · by_cases b : kd ≤ 4
            · have HS : Hid (B4 = true) := H4.out.symm.trans (dec2 a b)
              go_wp2
              go_meet
              exact ⟨by rw [HS.out], rfl⟩
            · have HS : Hid (B4 = false) := H4.out.symm.trans (dec1 a b)
              go_wp2
              go_meet
              exact ⟨by rw [HS.out], rfl⟩
          · have HS : Hid (B4 = false) := H4.out.symm.trans (dec0 a)
            go_wp2
            go_meet
            exact ⟨by rw [HS.out], rfl⟩
        case rest =>
          obtain ⟨rfl, rfl⟩ := hcut
          go_upto_region 5 with fail
          go_cut [7] from 44 to 51 (fun q wx => q = .bool B5 ∧ wx = w.alloc (kO (p, o, n, kd, s)))
          case first =>
            by_cases a : 0 ≤ s
            · by_cases b : s ≤ 4611686018427387903
              · have HS : Hid (B5 = true) := H5.out.symm.trans (dec2 a b)
                go_wp2
                go_meet
                exact ⟨by rw [HS.out], rfl⟩
              · have HS : Hid (B5 = false) := H5.out.symm.trans (dec1 a b)
                go_wp2
                go_meet
                exact ⟨by rw [HS.out], rfl⟩
            · have HS : Hid (B5 = false) := H5.out.symm.trans (dec0 a)
              go_wp2
              go_meet
              exact ⟨by rw [HS.out], rfl⟩
          case rest =>
            obtain ⟨rfl, rfl⟩ := hcut
            cases B1 with
            | false => go_wp2; go_ret; exact ⟨rfl, rfl⟩
            | true =>
              cases B2 with
              | false => go_wp2; go_ret; exact ⟨rfl, rfl⟩
              | true =>
                cases B3 with
                | false => go_wp2; go_ret; exact ⟨rfl, rfl⟩
                | true =>
                  cases B4 with
                  | false => go_wp2; go_ret; exact ⟨rfl, rfl⟩
                  | true =>
                    cases B5 with
                    | false => go_wp2; go_ret; exact ⟨rfl, rfl⟩
                    | true =>
                      go_wp2; go_ret; exact ⟨rfl, rfl⟩

set_option maxHeartbeats 4000000 in
set_option maxRecDepth 100000 in
/-- The reference's may, of any key. -/
theorem may2_any (k : Kx) (w : World) : Calls Try.prog 62 #[kA k] w fun e w' => e = .returned (.bool (decide (mayK k))) ∧ w' = w.alloc (kO k) := by
  obtain ⟨p, o, n, kd, s⟩ := k
  obtain ⟨B1, h1⟩ : ∃ b, decide ((1 ≤ o ∧ o ≤ 4611686018427387903) ∧ (1 ≤ n ∧ n < 4611686018427387903)) = b := ⟨_, rfl⟩
  obtain ⟨Bq, hq⟩ : ∃ b, decide (mayK (p, o, n, kd, s)) = b := ⟨_, rfl⟩
  have HQ : Hid (decide (mayK (p, o, n, kd, s)) = Bq) := hq
  have H1 : Hid (decide ((1 ≤ o ∧ o ≤ 4611686018427387903) ∧ (1 ≤ n ∧ n < 4611686018427387903)) = B1) := h1
  rw [hq]
  clear h1 hq
  go_enter Try.func62, Try.ntmps62
  go_upto_region 1 with fail
  go_cut [3] from 4 to 25 (fun q wx => q = .bool B1 ∧ wx = w.alloc (kO (p, o, n, kd, s)))
  case first =>
    by_cases a1 : 1 ≤ o
    case neg =>
      have HS : Hid (B1 = false) := H1.out.symm.trans (decide_eq_false (by omega))
      clear H1
      go_wp2
      go_meet
      exact ⟨by rw [HS.out], rfl⟩
    by_cases a2 : o ≤ 4611686018427387903
    case neg =>
      have HS : Hid (B1 = false) := H1.out.symm.trans (decide_eq_false (by omega))
      clear H1
      go_wp2
      go_meet
      exact ⟨by rw [HS.out], rfl⟩
    by_cases a3 : 1 ≤ n
    case neg =>
      have HS : Hid (B1 = false) := H1.out.symm.trans (decide_eq_false (by omega))
      clear H1
      go_wp2
      go_meet
      exact ⟨by rw [HS.out], rfl⟩
    by_cases a4 : n < 4611686018427387903
    case neg =>
      have HS : Hid (B1 = false) := H1.out.symm.trans (decide_eq_false (by omega))
      clear H1
      go_wp2
      go_meet
      exact ⟨by rw [HS.out], rfl⟩
    have HS : Hid (B1 = true) := H1.out.symm.trans (decide_eq_true (by omega))
    clear H1
    go_wp2
    go_meet
    exact ⟨by rw [HS.out], rfl⟩
  case rest =>
    obtain ⟨rfl, rfl⟩ := hcut
    cases B1 with
    | false =>
      have h8 := of_decide_eq_false H1.out
      have HS : Hid (Bq = false) := HQ.out.symm.trans (decide_eq_false (by rw [mayK_iff]; omega))
      clear H1 HQ h8
      go_wp2
      go_ret
      exact ⟨congrArg (fun b => Ending.returned (Value.bool b)) HS.out.symm, rfl⟩
    | true =>
      have h8 := of_decide_eq_true H1.out
      by_cases b1 : 1 ≤ p
      case neg =>
        have HS : Hid (Bq = false) := HQ.out.symm.trans (decide_eq_false (by rw [mayK_iff]; omega))
        clear H1 HQ h8
        go_wp2
        go_ret
        exact ⟨congrArg (fun b => Ending.returned (Value.bool b)) HS.out.symm, rfl⟩
      by_cases b2 : p ≤ 4611686018427387903
      case neg =>
        have HS : Hid (Bq = false) := HQ.out.symm.trans (decide_eq_false (by rw [mayK_iff]; omega))
        clear H1 HQ h8
        go_wp2
        go_ret
        exact ⟨congrArg (fun b => Ending.returned (Value.bool b)) HS.out.symm, rfl⟩
      by_cases b3 : 1 ≤ kd
      case neg =>
        have HS : Hid (Bq = false) := HQ.out.symm.trans (decide_eq_false (by rw [mayK_iff]; omega))
        clear H1 HQ h8
        go_wp2
        go_ret
        exact ⟨congrArg (fun b => Ending.returned (Value.bool b)) HS.out.symm, rfl⟩
      by_cases b4 : kd ≤ 4
      case neg =>
        have HS : Hid (Bq = false) := HQ.out.symm.trans (decide_eq_false (by rw [mayK_iff]; omega))
        clear H1 HQ h8
        go_wp2
        go_ret
        exact ⟨congrArg (fun b => Ending.returned (Value.bool b)) HS.out.symm, rfl⟩
      by_cases b5 : 0 ≤ s
      case neg =>
        have HS : Hid (Bq = false) := HQ.out.symm.trans (decide_eq_false (by rw [mayK_iff]; omega))
        clear H1 HQ h8
        go_wp2
        go_ret
        exact ⟨congrArg (fun b => Ending.returned (Value.bool b)) HS.out.symm, rfl⟩
      by_cases b6 : s ≤ 4611686018427387903
      case neg =>
        have HS : Hid (Bq = false) := HQ.out.symm.trans (decide_eq_false (by rw [mayK_iff]; omega))
        clear H1 HQ h8
        go_wp2
        go_ret
        exact ⟨congrArg (fun b => Ending.returned (Value.bool b)) HS.out.symm, rfl⟩
      have HS : Hid (Bq = true) := HQ.out.symm.trans (decide_eq_true (by rw [mayK_iff]; omega))
      clear H1 HQ h8
      go_wp2
      go_ret
      exact ⟨congrArg (fun b => Ending.returned (Value.bool b)) HS.out.symm, rfl⟩

set_option maxHeartbeats 2000000 in
set_option maxRecDepth 100000 in
/-- Start of a key that may not be, or of ticks that may not be. -/
theorem start10_key (p : Nat) (k : Kx) (n : Int) (w : World) (hk : ¬ mayK k) :
    Calls Try.prog 26 #[.pointer (some ⟨p, 0, none⟩), kA k, .int .i64 n] w fun e w' => e = .returned (.int .i64 100) ∧ Below w.heap.size w w' := by
  have H1 := mayBe10_any k (w.alloc (kO k))
  rw [decide_eq_false hk] at H1
  have HB : Hid (Below w.heap.size w ((w.alloc (kO k)).alloc (kO k))) := ((Below.refl w.heap.size w).alloc (Nat.le_refl _) _).alloc (by simp) _
  obtain ⟨W, hW⟩ : ∃ W, (w.alloc (kO k)).alloc (kO k) = W := ⟨_, rfl⟩
  rw [hW] at HB
  have HW : Hid ((w.alloc (kO k)).alloc (kO k) = W) := hW
  clear hW hk
  obtain ⟨a0, a1, a2, a3, a4⟩ := k
  go_enter Try.func26, Try.ntmps26
  go_wp2_with fail
  refine H1.mono ?_
  rintro e w' ⟨rfl, rfl⟩
  rw [HW.out]
  go_wp2
  go_ret
  exact ⟨rfl, HB.out⟩
set_option maxHeartbeats 2000000 in
set_option maxRecDepth 100000 in
theorem start10_tick (p : Nat) (k : Kx) (n : Int) (w : World) (hk : mayK k) (hn : ¬ (1 ≤ n ∧ n ≤ 1048576)) :
    Calls Try.prog 26 #[.pointer (some ⟨p, 0, none⟩), kA k, .int .i64 n] w fun e w' => e = .returned (.int .i64 1) ∧ Below w.heap.size w w' := by
  have H1 := mayBe10_any k (w.alloc (kO k))
  rw [decide_eq_true hk] at H1
  have HB : Hid (Below w.heap.size w ((w.alloc (kO k)).alloc (kO k))) := ((Below.refl w.heap.size w).alloc (Nat.le_refl _) _).alloc (by simp) _
  obtain ⟨W, hW⟩ : ∃ W, (w.alloc (kO k)).alloc (kO k) = W := ⟨_, rfl⟩
  rw [hW] at HB
  have HW : Hid ((w.alloc (kO k)).alloc (kO k) = W) := hW
  clear hW hk
  obtain ⟨a0, a1, a2, a3, a4⟩ := k
  by_cases n1 : n < 1
  · clear hn
    go_enter Try.func26, Try.ntmps26
    go_wp2_with fail
    refine H1.mono ?_
    rintro e w' ⟨rfl, rfl⟩
    rw [HW.out]
    go_wp2
    go_ret
    exact ⟨rfl, HB.out⟩
  · have n2 : 1048576 < n := by omega
    clear hn
    go_enter Try.func26, Try.ntmps26
    go_wp2_with fail
    refine H1.mono ?_
    rintro e w' ⟨rfl, rfl⟩
    rw [HW.out]
    go_wp2
    go_ret
    exact ⟨rfl, HB.out⟩

end Go.Proofs.Ytnclfoljfnfglai
