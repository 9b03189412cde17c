import Derived.Test.YtnclfoljfnfglaiTmLaw
import Derived.StillTailTactics
namespace Go.Proofs.Ytnclfoljfnfglai
open Go.RowKit Go.Maps
set_option linter.unusedVariables false

set_option maxHeartbeats 4000000 in
set_option maxRecDepth 100000 in
theorem right_any (k : Kx) (w : World) (hk : kW k) :
    Calls Try.prog 24 #[kA k] w fun e w' => e = .returned (kA (rgt k)) ∧ Below w.heap.size w w' := by
  obtain ⟨k0, k1, k2, k3, k4⟩ := k
  obtain ⟨b0, b1, b2, b3, b4⟩ := hk
  simp only at b0 b1 b2 b3 b4
  have P0 := fun w => pick_any k0 3 w b0 (by omega) (by omega)
  have P1 := fun w => pick_any k1 3 w b1 (by omega) (by omega)
  have P2 := fun w => pick_any k2 3 w b2 (by omega) (by omega)
  have P3 := fun w => pick_any k3 4 w b3 (by omega) (by omega)
  have P4 := fun w => pick_any k4 4 w b4 (by omega) (by omega)
  have l0 := pk_lo k0 3 (by omega)
  have u0 := pk_hi k0 3 (by omega)
  have l1 := pk_lo k1 3 (by omega)
  have u1 := pk_hi k1 3 (by omega)
  have l2 := pk_lo k2 3 (by omega)
  have u2 := pk_hi k2 3 (by omega)
  have l3 := pk_lo k3 4 (by omega)
  have u3 := pk_hi k3 4 (by omega)
  simp only [rgt]
  obtain ⟨q0, e0⟩ : ∃ q, pk k0 3 = q := ⟨_, rfl⟩
  obtain ⟨q1, e1⟩ : ∃ q, pk k1 3 = q := ⟨_, rfl⟩
  obtain ⟨q2, e2⟩ : ∃ q, pk k2 3 = q := ⟨_, rfl⟩
  obtain ⟨q3, e3⟩ : ∃ q, pk k3 4 = q := ⟨_, rfl⟩
  obtain ⟨q4, e4⟩ : ∃ q, pk k4 4 = q := ⟨_, rfl⟩
  rw [e0] at P0 l0 u0 ⊢
  rw [e1] at P1 l1 u1 ⊢
  rw [e2] at P2 l2 u2 ⊢
  rw [e3] at P3 l3 u3 ⊢
  rw [e4] at P4 ⊢
  have w0 : IntKind.i64.wrap (1 + q0) = 1 + q0 := by rw [IntKind.wrap_i64]; omega
  have w1 : IntKind.i64.wrap (1 + q1) = 1 + q1 := by rw [IntKind.wrap_i64]; omega
  have w2 : IntKind.i64.wrap (1 + q2) = 1 + q2 := by rw [IntKind.wrap_i64]; omega
  have w3 : IntKind.i64.wrap (1 + q3) = 1 + q3 := by rw [IntKind.wrap_i64]; omega
  clear e0 e1 e2 e3 e4 l0 u0 l1 u1 l2 u2 l3 u3 b0 b1 b2 b3 b4
  obtain ⟨W, hW⟩ : ∃ W, (w.alloc (kO (k0, k1, k2, k3, k4))).alloc (kO (0, 0, 0, 0, 0)) = W := ⟨_, rfl⟩
  have HW : Hid ((w.alloc (kO (k0, k1, k2, k3, k4))).alloc (kO (0, 0, 0, 0, 0)) = W) := hW
  have HC : Hid (W.drew.cell? ⟨w.heap.size, 0, none⟩ = some (.int .i64 k0) ∧ W.drew.cell? ⟨w.heap.size, 1, none⟩ = some (.int .i64 k1) ∧ W.drew.cell? ⟨w.heap.size, 2, none⟩ = some (.int .i64 k2) ∧ W.drew.cell? ⟨w.heap.size, 3, none⟩ = some (.int .i64 k3) ∧ W.drew.cell? ⟨w.heap.size, 4, none⟩ = some (.int .i64 k4)) := by show _ ∧ _; rw [← hW]; simp
  go_enter Try.func24, Try.ntmps24
  go_wp2_with fail
  clear hW
  obtain ⟨c0, c1, c2, c3, c4⟩ := HC.out
  have hm : Try.prog.follows .mixedOrders = true := by kernel_rfl
  refine wp_region_still_tail 23 hm (by kernel_rfl) ?_
  simp only [List.take_succ_cons, List.take_zero, List.drop_succ_cons, List.drop_zero]
  still_step
  still_step
  still_call (P0 _)
  still_step
  still_step
  still_step
  still_step
  still_call (P1 _)
  still_step
  still_step
  still_step
  still_step
  still_call (P2 _)
  still_step
  still_step
  still_step
  still_step
  still_call (P3 _)
  still_step
  still_step
  still_step
  still_call (P4 _)
  still_step
  refine wpStill_nil ?_
  show wpList _ _ _ _ _ W.drew
  rw [← HW.out]
  clear c0 c1 c2 c3 c4 HC P0 P1 P2 P3 P4 w0 w1 w2 w3
  go_wp2
  refine bodyPost_ret (v := kA (1 + q0, 1 + q1, 1 + q2, 1 + q3, q4)) (by simp [results, Try.results24, go_sem]) rfl ?_
  refine ⟨rfl, ?_⟩
  have h1 := ((Below.refl w.heap.size w).alloc (Nat.le_refl _) (kO (k0, k1, k2, k3, k4))).alloc (by simp) (kO (1 + q0, 1 + q1, 1 + q2, 1 + q3, q4))
  exact ⟨h1.os, h1.tape, h1.output, h1.size, h1.block⟩

theorem lt_at {x y : Kx} {b : Bool} (h : (x.1 ≠ y.1 ∧ b = decide (x.1 < y.1)) ∨ (x.1 = y.1 ∧ x.2.1 ≠ y.2.1 ∧ b = decide (x.2.1 < y.2.1)) ∨ (x.1 = y.1 ∧ x.2.1 = y.2.1 ∧ x.2.2.1 ≠ y.2.2.1 ∧ b = decide (x.2.2.1 < y.2.2.1)) ∨ (x.1 = y.1 ∧ x.2.1 = y.2.1 ∧ x.2.2.1 = y.2.2.1 ∧ x.2.2.2.1 ≠ y.2.2.2.1 ∧ b = decide (x.2.2.2.1 < y.2.2.2.1)) ∨ (x.1 = y.1 ∧ x.2.1 = y.2.1 ∧ x.2.2.1 = y.2.2.1 ∧ x.2.2.2.1 = y.2.2.2.1 ∧ b = decide (x.2.2.2.2 < y.2.2.2.2))) : ltK x y = b := by
  rw [Bool.eq_iff_iff, ltK_iff]
  rcases h with ⟨h1, h2⟩ | ⟨h1, h2, h3⟩ | ⟨h1, h2, h3, h4⟩ | ⟨h1, h2, h3, h4, h5⟩ | ⟨h1, h2, h3, h4, h5⟩
  · rw [h2, decide_eq_true_iff]; omega
  · rw [h3, decide_eq_true_iff]; omega
  · rw [h4, decide_eq_true_iff]; omega
  · rw [h5, decide_eq_true_iff]; omega
  · rw [h5, decide_eq_true_iff]; omega

theorem below_drewN {n : Nat} {w w' : World} (h : Below n w w') (m : Nat) : Below n w (w'.drewN m) := ⟨h.os, h.tape, h.output, h.size, h.block⟩
theorem two_new (w : World) (x0 x1 x2 x3 x4 y0 y1 y2 y3 y4 : Int) (t : TypeId) : let W := (w.alloc (.cells #[.int .i64 x0, .int .i64 x1, .int .i64 x2, .int .i64 x3, .int .i64 x4] t)).alloc (.cells #[.int .i64 y0, .int .i64 y1, .int .i64 y2, .int .i64 y3, .int .i64 y4] t); W.cell? ⟨w.heap.size, 0, none⟩ = some (.int .i64 x0) ∧ W.cell? ⟨w.heap.size, 1, none⟩ = some (.int .i64 x1) ∧ W.cell? ⟨w.heap.size, 2, none⟩ = some (.int .i64 x2) ∧ W.cell? ⟨w.heap.size, 3, none⟩ = some (.int .i64 x3) ∧ W.cell? ⟨w.heap.size, 4, none⟩ = some (.int .i64 x4) ∧ W.cell? ⟨w.heap.size + 1, 0, none⟩ = some (.int .i64 y0) ∧ W.cell? ⟨w.heap.size + 1, 1, none⟩ = some (.int .i64 y1) ∧ W.cell? ⟨w.heap.size + 1, 2, none⟩ = some (.int .i64 y2) ∧ W.cell? ⟨w.heap.size + 1, 3, none⟩ = some (.int .i64 y3) ∧ W.cell? ⟨w.heap.size + 1, 4, none⟩ = some (.int .i64 y4) := by
  intro W
  have hs : (w.alloc (.cells #[.int .i64 x0, .int .i64 x1, .int .i64 x2, .int .i64 x3, .int .i64 x4] t)).heap.size = w.heap.size + 1 := by simp
  have h := fun j u hj => five_new (w.alloc (.cells #[.int .i64 x0, .int .i64 x1, .int .i64 x2, .int .i64 x3, .int .i64 x4] t)) (.int .i64 y0) (.int .i64 y1) (.int .i64 y2) (.int .i64 y3) (.int .i64 y4) t j u hj
  rw [hs] at h
  refine ⟨by simp [W], by simp [W], by simp [W], by simp [W], by simp [W], ?_, ?_, ?_, ?_, ?_⟩
  · exact h 0 _ rfl
  · exact h 1 _ rfl
  · exact h 2 _ rfl
  · exact h 3 _ rfl
  · exact h 4 _ rfl

set_option maxHeartbeats 4000000 in
set_option maxRecDepth 100000 in
theorem less_any (x y : Kx) (w : World) :
    Calls Try.prog 54 #[kA x, kA y] w fun e w' => e = .returned (.bool (ltK x y)) ∧ Below w.heap.size w w' := by
  obtain ⟨x0, x1, x2, x3, x4⟩ := x
  obtain ⟨y0, y1, y2, y3, y4⟩ := y
  go_enter Try.func54, Try.ntmps54
  go_wp2
  obtain ⟨W, hW⟩ : ∃ W, (((w.alloc (kO (x0, x1, x2, x3, x4))).alloc (kO (y0, y1, y2, y3, y4))).alloc (.cells #[.int .i64 x0, .int .i64 x1, .int .i64 x2, .int .i64 x3, .int .i64 x4] 3)).alloc (.cells #[.int .i64 y0, .int .i64 y1, .int .i64 y2, .int .i64 y3, .int .i64 y4] 3) = W := ⟨_, rfl⟩
  have HB : Hid (Below w.heap.size w W) := by
    show Below _ _ _
    rw [← hW]
    exact ((((Below.refl w.heap.size w).alloc (Nat.le_refl _) _).alloc (by simp) _).alloc (by simp; omega) _).alloc (by simp; omega) _
  have HC : Hid (W.cell? ⟨w.heap.size + 1 + 1, 0, none⟩ = some (.int .i64 x0) ∧ W.cell? ⟨w.heap.size + 1 + 1, 1, none⟩ = some (.int .i64 x1) ∧ W.cell? ⟨w.heap.size + 1 + 1, 2, none⟩ = some (.int .i64 x2) ∧ W.cell? ⟨w.heap.size + 1 + 1, 3, none⟩ = some (.int .i64 x3) ∧ W.cell? ⟨w.heap.size + 1 + 1, 4, none⟩ = some (.int .i64 x4) ∧ W.cell? ⟨w.heap.size + 1 + 1 + 1, 0, none⟩ = some (.int .i64 y0) ∧ W.cell? ⟨w.heap.size + 1 + 1 + 1, 1, none⟩ = some (.int .i64 y1) ∧ W.cell? ⟨w.heap.size + 1 + 1 + 1, 2, none⟩ = some (.int .i64 y2) ∧ W.cell? ⟨w.heap.size + 1 + 1 + 1, 3, none⟩ = some (.int .i64 y3) ∧ W.cell? ⟨w.heap.size + 1 + 1 + 1, 4, none⟩ = some (.int .i64 y4)) := by
    show _ ∧ _
    rw [← hW]
    have hs : ((w.alloc (kO (x0, x1, x2, x3, x4))).alloc (kO (y0, y1, y2, y3, y4))).heap.size = w.heap.size + 1 + 1 := by simp
    exact hs ▸ two_new ((w.alloc (kO (x0, x1, x2, x3, x4))).alloc (kO (y0, y1, y2, y3, y4))) x0 x1 x2 x3 x4 y0 y1 y2 y3 y4 3
  have HW : Hid ((((w.alloc (kO (x0, x1, x2, x3, x4))).alloc (kO (y0, y1, y2, y3, y4))).alloc (.cells #[.int .i64 x0, .int .i64 x1, .int .i64 x2, .int .i64 x3, .int .i64 x4] 3)).alloc (.cells #[.int .i64 y0, .int .i64 y1, .int .i64 y2, .int .i64 y3, .int .i64 y4] 3) = W) := hW
  rw [hW]
  clear hW
  obtain ⟨ga, hga⟩ : ∃ g, w.heap.size + 1 + 1 = g := ⟨_, rfl⟩
  obtain ⟨gb, hgb⟩ : ∃ g, ga + 1 = g := ⟨_, rfl⟩
  rw [hga, hgb] at HC ⊢
  clear hga hgb
  go_loopw [7] (fun v wr => ∃ i : Nat, v = .int .i64 i ∧ i ≤ 5 ∧ (∃ m, wr = W.drewN m) ∧ (0 < i → x0 = y0) ∧ (1 < i → x1 = y1) ∧ (2 < i → x2 = y2) ∧ (3 < i → x3 = y3) ∧ (4 < i → x4 = y4))
    (fun v _ => 5 - (intOf v).toNat)
  case atStart => exact ⟨0, rfl, by omega, ⟨0, rfl⟩, fun h => by omega, fun h => by omega, fun h => by omega, fun h => by omega, fun h => by omega⟩
  case round =>
    obtain ⟨i, rfl, hi, ⟨m, rfl⟩, h0, h1, h2, h3, h4⟩ := hrel
    obtain ⟨c0, c1, c2, c3, c4, d0, d1, d2, d3, d4⟩ := HC.out
    have hi5 : i = 0 ∨ i = 1 ∨ i = 2 ∨ i = 3 ∨ i = 4 ∨ i = 5 := by omega
    rcases hi5 with rfl | rfl | rfl | rfl | rfl | rfl
    · by_cases c : x0 = y0
      · have cb : decide (x0 = y0) = true := decide_eq_true c
        go_wp2_with fail
        go_quiet (fail)
        go_wp2
        refine ⟨⟨1, rfl, by omega, ⟨_, rfl⟩, fun _ => c, fun h => by omega, fun h => by omega, fun h => by omega, fun h => by omega⟩, by simp [intOf]⟩
      · have cb : decide (x0 = y0) = false := decide_eq_false c
        have HL : Hid (ltK (x0, x1, x2, x3, x4) (y0, y1, y2, y3, y4) = decide (x0 < y0)) := lt_at (.inl ⟨c, rfl⟩)
        go_wp2_with fail
        go_quiet (fail)
        go_wp2_with fail
        go_quiet (fail)
        go_wp2
        go_ret
        exact ⟨congrArg (fun b => Ending.returned (Value.bool b)) HL.out.symm, below_drewN (below_drewN (below_drewN HB.out _) _) _⟩
    · by_cases c : x1 = y1
      · have cb : decide (x1 = y1) = true := decide_eq_true c
        go_wp2_with fail
        go_quiet (fail)
        go_wp2
        refine ⟨⟨2, rfl, by omega, ⟨_, rfl⟩, fun _ => h0 (by omega), fun _ => c, fun h => by omega, fun h => by omega, fun h => by omega⟩, by simp [intOf]⟩
      · have cb : decide (x1 = y1) = false := decide_eq_false c
        have HL : Hid (ltK (x0, x1, x2, x3, x4) (y0, y1, y2, y3, y4) = decide (x1 < y1)) := lt_at (.inr (.inl ⟨h0 (by omega), c, rfl⟩))
        go_wp2_with fail
        go_quiet (fail)
        go_wp2_with fail
        go_quiet (fail)
        go_wp2
        go_ret
        exact ⟨congrArg (fun b => Ending.returned (Value.bool b)) HL.out.symm, below_drewN (below_drewN (below_drewN HB.out _) _) _⟩
    · by_cases c : x2 = y2
      · have cb : decide (x2 = y2) = true := decide_eq_true c
        go_wp2_with fail
        go_quiet (fail)
        go_wp2
        refine ⟨⟨3, rfl, by omega, ⟨_, rfl⟩, fun _ => h0 (by omega), fun _ => h1 (by omega), fun _ => c, fun h => by omega, fun h => by omega⟩, by simp [intOf]⟩
      · have cb : decide (x2 = y2) = false := decide_eq_false c
        have HL : Hid (ltK (x0, x1, x2, x3, x4) (y0, y1, y2, y3, y4) = decide (x2 < y2)) := lt_at (.inr (.inr (.inl ⟨h0 (by omega), h1 (by omega), c, rfl⟩)))
        go_wp2_with fail
        go_quiet (fail)
        go_wp2_with fail
        go_quiet (fail)
        go_wp2
        go_ret
        exact ⟨congrArg (fun b => Ending.returned (Value.bool b)) HL.out.symm, below_drewN (below_drewN (below_drewN HB.out _) _) _⟩
    · by_cases c : x3 = y3
      · have cb : decide (x3 = y3) = true := decide_eq_true c
        go_wp2_with fail
        go_quiet (fail)
        go_wp2
        refine ⟨⟨4, rfl, by omega, ⟨_, rfl⟩, fun _ => h0 (by omega), fun _ => h1 (by omega), fun _ => h2 (by omega), fun _ => c, fun h => by omega⟩, by simp [intOf]⟩
      · have cb : decide (x3 = y3) = false := decide_eq_false c
        have HL : Hid (ltK (x0, x1, x2, x3, x4) (y0, y1, y2, y3, y4) = decide (x3 < y3)) := lt_at (.inr (.inr (.inr (.inl ⟨h0 (by omega), h1 (by omega), h2 (by omega), c, rfl⟩))))
        go_wp2_with fail
        go_quiet (fail)
        go_wp2_with fail
        go_quiet (fail)
        go_wp2
        go_ret
        exact ⟨congrArg (fun b => Ending.returned (Value.bool b)) HL.out.symm, below_drewN (below_drewN (below_drewN HB.out _) _) _⟩
    · by_cases c : x4 = y4
      · have cb : decide (x4 = y4) = true := decide_eq_true c
        go_wp2_with fail
        go_quiet (fail)
        go_wp2
        refine ⟨⟨5, rfl, by omega, ⟨_, rfl⟩, fun _ => h0 (by omega), fun _ => h1 (by omega), fun _ => h2 (by omega), fun _ => h3 (by omega), fun _ => c⟩, by simp [intOf]⟩
      · have cb : decide (x4 = y4) = false := decide_eq_false c
        have HL : Hid (ltK (x0, x1, x2, x3, x4) (y0, y1, y2, y3, y4) = decide (x4 < y4)) := lt_at (.inr (.inr (.inr (.inr ⟨h0 (by omega), h1 (by omega), h2 (by omega), h3 (by omega), rfl⟩))))
        go_wp2_with fail
        go_quiet (fail)
        go_wp2_with fail
        go_quiet (fail)
        go_wp2
        go_ret
        exact ⟨congrArg (fun b => Ending.returned (Value.bool b)) HL.out.symm, below_drewN (below_drewN (below_drewN HB.out _) _) _⟩
    · have HL : Hid (ltK (x0, x1, x2, x3, x4) (y0, y1, y2, y3, y4) = false) := by
        show _ = _
        rw [h0 (by omega), h1 (by omega), h2 (by omega), h3 (by omega), h4 (by omega)]
        exact swoK.irrefl _
      go_wp2
      go_ret
      exact ⟨congrArg (fun b => Ending.returned (Value.bool b)) HL.out.symm, below_drewN HB.out _⟩

end Go.Proofs.Ytnclfoljfnfglai
