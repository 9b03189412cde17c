import Derived.Test.YtgmbpagbiakciafDoorRcRf2
namespace Go.Proofs.YtgmbpagbiakciafDoor
open Go.RowKit
set_option linter.unusedVariables false
set_option linter.unusedSimpArgs false
set_option maxRecDepth 100000 in
set_option maxHeartbeats 8000000 in
theorem fit_k6 (r : Rc) (sa da : Option Addr) (ns nd sc dc : Nat) (w : World) (hns : r.spans.length = ns) (hnd : r.data.length = nd) (hm : nd ≤ 140737488355328) (hs : C.Ls w (.slice sa ns sc) r.spans) (hb : ∀ i < 8, 0 ≤ nmA r i ∧ nmA r i ≤ 4611686018427387903) (hk : r.kind = 6) :
    Calls Tryd.prog 47 #[.agg (rcC r (.slice sa ns sc) (.slice da nd dc))] w fun e w' => e = .returned (.bool (suitB r)) ∧ Below w.heap.size w w' := by
  have HB : Hid (Below w.heap.size w (w.alloc (rcO r (.slice sa ns sc) (.slice da nd dc)))) := (Below.refl _ _).alloc (Nat.le_refl _) _
  have HS : Hid (suitB r = (decide (1 ≤ (nd : Int)) && (decide (r.off + (nd : Int) ≤ 65536) && (lenB r.red (r.off + (nd : Int)) && lenB r.size (max (r.off + (nd : Int)) r.red))))) := by unfold Hid suitB; rw [hk, if_neg (by decide), if_neg (by decide), if_neg (by decide), if_neg (by decide), if_pos rfl]; rw [hnd]
  have hoff := hb 4 (by omega)
  rw [show nmA r 4 = r.off from rfl] at hoff
  clear hb
  generalize suitB r = S at *
  obtain ⟨kind, org, num, peer, srv, off, red, size, how, spans, data⟩ := r
  simp only at HS hk hoff
  subst hk
  clear hns hnd hs
  rw [HS.out]
  clear HS
  obtain ⟨ho0, ho1⟩ := hoff
  have hwe : IntKind.i64.wrap (off + (nd : Int)) = off + (nd : Int) := by rw [IntKind.wrap_i64]; omega
  by_cases p0 : 1 ≤ (nd : Int)
  · have p0' : decide (1 ≤ (nd : Int)) = true := decide_eq_true p0
    by_cases p1 : off ≤ 65536
    · by_cases p2 : off + (nd : Int) ≤ 65536
      · have p2' : decide (off + (nd : Int) ≤ 65536) = true := decide_eq_true p2
        by_cases r0 : red = 0
        · have hr : (red == 0) = true := beq_iff_eq.mpr r0
          by_cases z0 : size = 0
          · have hz : (size == 0) = true := beq_iff_eq.mpr z0
            first | (exfalso; omega) | skip
            all_goals
              have hl1 : lenB red (off + (nd : Int)) = true := lenB_yes (by omega)
              have hl2 : lenB size (max (off + (nd : Int)) red) = true := lenB_yes (by omega)
              clear z0
              clear r0
              have hv : (decide (1 ≤ (nd : Int)) && (decide (off + (nd : Int) ≤ 65536) && (lenB red (off + (nd : Int)) && lenB size (max (off + (nd : Int)) red)))) = true := by simp only [p0', p2', hl1, hl2, Bool.true_and, Bool.false_and, Bool.and_false, Bool.and_true]
              rw [hv]
              clear hv
              go_enter Tryd.func47, Tryd.ntmps47
              go_wp2
              go_ret
              exact ⟨rfl, HB.out⟩
          · have hz : (size == 0) = false := beq_false_of_ne z0
            by_cases z1 : off + (nd : Int) ≤ size
            · by_cases z2 : red ≤ size
              · by_cases z3 : size ≤ 65536
                · first | (exfalso; omega) | skip
                  all_goals
                    have hl1 : lenB red (off + (nd : Int)) = true := lenB_yes (by omega)
                    have hl2 : lenB size (max (off + (nd : Int)) red) = true := lenB_yes (by omega)
                    clear r0
                    have hv : (decide (1 ≤ (nd : Int)) && (decide (off + (nd : Int) ≤ 65536) && (lenB red (off + (nd : Int)) && lenB size (max (off + (nd : Int)) red)))) = true := by simp only [p0', p2', hl1, hl2, Bool.true_and, Bool.false_and, Bool.and_false, Bool.and_true]
                    rw [hv]
                    clear hv
                    go_enter Tryd.func47, Tryd.ntmps47
                    go_wp2
                    go_ret
                    exact ⟨rfl, HB.out⟩
                · first | (exfalso; omega) | skip
                  all_goals
                    have hl1 : lenB red (off + (nd : Int)) = true := lenB_yes (by omega)
                    have hl2 : lenB size (max (off + (nd : Int)) red) = false := lenB_no (by omega)
                    clear r0
                    have hv : (decide (1 ≤ (nd : Int)) && (decide (off + (nd : Int) ≤ 65536) && (lenB red (off + (nd : Int)) && lenB size (max (off + (nd : Int)) red)))) = false := by simp only [p0', p2', hl1, hl2, Bool.true_and, Bool.false_and, Bool.and_false, Bool.and_true]
                    rw [hv]
                    clear hv
                    go_enter Tryd.func47, Tryd.ntmps47
                    go_wp2
                    go_ret
                    exact ⟨rfl, HB.out⟩
              · first | (exfalso; omega) | skip
                all_goals
                  have hl1 : lenB red (off + (nd : Int)) = true := lenB_yes (by omega)
                  have hl2 : lenB size (max (off + (nd : Int)) red) = false := lenB_no (by omega)
                  clear r0
                  have hv : (decide (1 ≤ (nd : Int)) && (decide (off + (nd : Int) ≤ 65536) && (lenB red (off + (nd : Int)) && lenB size (max (off + (nd : Int)) red)))) = false := by simp only [p0', p2', hl1, hl2, Bool.true_and, Bool.false_and, Bool.and_false, Bool.and_true]
                  rw [hv]
                  clear hv
                  go_enter Tryd.func47, Tryd.ntmps47
                  go_wp2
                  go_ret
                  exact ⟨rfl, HB.out⟩
            · first | (exfalso; omega) | skip
              all_goals
                have hl1 : lenB red (off + (nd : Int)) = true := lenB_yes (by omega)
                have hl2 : lenB size (max (off + (nd : Int)) red) = false := lenB_no (by omega)
                clear r0
                have hv : (decide (1 ≤ (nd : Int)) && (decide (off + (nd : Int) ≤ 65536) && (lenB red (off + (nd : Int)) && lenB size (max (off + (nd : Int)) red)))) = false := by simp only [p0', p2', hl1, hl2, Bool.true_and, Bool.false_and, Bool.and_false, Bool.and_true]
                rw [hv]
                clear hv
                go_enter Tryd.func47, Tryd.ntmps47
                go_wp2
                go_ret
                exact ⟨rfl, HB.out⟩
        · have hr : (red == 0) = false := beq_false_of_ne r0
          by_cases r1 : off + (nd : Int) ≤ red
          · by_cases r2 : red ≤ 65536
            · by_cases z0 : size = 0
              · have hz : (size == 0) = true := beq_iff_eq.mpr z0
                first | (exfalso; omega) | skip
                all_goals
                  have hl1 : lenB red (off + (nd : Int)) = true := lenB_yes (by omega)
                  have hl2 : lenB size (max (off + (nd : Int)) red) = true := lenB_yes (by omega)
                  clear z0
                  have hv : (decide (1 ≤ (nd : Int)) && (decide (off + (nd : Int) ≤ 65536) && (lenB red (off + (nd : Int)) && lenB size (max (off + (nd : Int)) red)))) = true := by simp only [p0', p2', hl1, hl2, Bool.true_and, Bool.false_and, Bool.and_false, Bool.and_true]
                  rw [hv]
                  clear hv
                  go_enter Tryd.func47, Tryd.ntmps47
                  go_wp2
                  go_ret
                  exact ⟨rfl, HB.out⟩
              · have hz : (size == 0) = false := beq_false_of_ne z0
                by_cases z1 : off + (nd : Int) ≤ size
                · by_cases z2 : red ≤ size
                  · by_cases z3 : size ≤ 65536
                    · first | (exfalso; omega) | skip
                      all_goals
                        have hl1 : lenB red (off + (nd : Int)) = true := lenB_yes (by omega)
                        have hl2 : lenB size (max (off + (nd : Int)) red) = true := lenB_yes (by omega)
                        have hv : (decide (1 ≤ (nd : Int)) && (decide (off + (nd : Int) ≤ 65536) && (lenB red (off + (nd : Int)) && lenB size (max (off + (nd : Int)) red)))) = true := by simp only [p0', p2', hl1, hl2, Bool.true_and, Bool.false_and, Bool.and_false, Bool.and_true]
                        rw [hv]
                        clear hv
                        go_enter Tryd.func47, Tryd.ntmps47
                        go_wp2
                        go_ret
                        exact ⟨rfl, HB.out⟩
                    · first | (exfalso; omega) | skip
                      all_goals
                        have hl1 : lenB red (off + (nd : Int)) = true := lenB_yes (by omega)
                        have hl2 : lenB size (max (off + (nd : Int)) red) = false := lenB_no (by omega)
                        have hv : (decide (1 ≤ (nd : Int)) && (decide (off + (nd : Int) ≤ 65536) && (lenB red (off + (nd : Int)) && lenB size (max (off + (nd : Int)) red)))) = false := by simp only [p0', p2', hl1, hl2, Bool.true_and, Bool.false_and, Bool.and_false, Bool.and_true]
                        rw [hv]
                        clear hv
                        go_enter Tryd.func47, Tryd.ntmps47
                        go_wp2
                        go_ret
                        exact ⟨rfl, HB.out⟩
                  · first | (exfalso; omega) | skip
                    all_goals
                      have hl1 : lenB red (off + (nd : Int)) = true := lenB_yes (by omega)
                      have hl2 : lenB size (max (off + (nd : Int)) red) = false := lenB_no (by omega)
                      have hv : (decide (1 ≤ (nd : Int)) && (decide (off + (nd : Int) ≤ 65536) && (lenB red (off + (nd : Int)) && lenB size (max (off + (nd : Int)) red)))) = false := by simp only [p0', p2', hl1, hl2, Bool.true_and, Bool.false_and, Bool.and_false, Bool.and_true]
                      rw [hv]
                      clear hv
                      go_enter Tryd.func47, Tryd.ntmps47
                      go_wp2
                      go_ret
                      exact ⟨rfl, HB.out⟩
                · first | (exfalso; omega) | skip
                  all_goals
                    have hl1 : lenB red (off + (nd : Int)) = true := lenB_yes (by omega)
                    have hl2 : lenB size (max (off + (nd : Int)) red) = false := lenB_no (by omega)
                    have hv : (decide (1 ≤ (nd : Int)) && (decide (off + (nd : Int) ≤ 65536) && (lenB red (off + (nd : Int)) && lenB size (max (off + (nd : Int)) red)))) = false := by simp only [p0', p2', hl1, hl2, Bool.true_and, Bool.false_and, Bool.and_false, Bool.and_true]
                    rw [hv]
                    clear hv
                    go_enter Tryd.func47, Tryd.ntmps47
                    go_wp2
                    go_ret
                    exact ⟨rfl, HB.out⟩
            · by_cases z0 : size = 0
              · have hz : (size == 0) = true := beq_iff_eq.mpr z0
                first | (exfalso; omega) | skip
                all_goals
                  have hl1 : lenB red (off + (nd : Int)) = false := lenB_no (by omega)
                  have hl2 : lenB size (max (off + (nd : Int)) red) = true := lenB_yes (by omega)
                  clear z0
                  have hv : (decide (1 ≤ (nd : Int)) && (decide (off + (nd : Int) ≤ 65536) && (lenB red (off + (nd : Int)) && lenB size (max (off + (nd : Int)) red)))) = false := by simp only [p0', p2', hl1, hl2, Bool.true_and, Bool.false_and, Bool.and_false, Bool.and_true]
                  rw [hv]
                  clear hv
                  go_enter Tryd.func47, Tryd.ntmps47
                  go_wp2
                  go_ret
                  exact ⟨rfl, HB.out⟩
              · have hz : (size == 0) = false := beq_false_of_ne z0
                by_cases z1 : off + (nd : Int) ≤ size
                · by_cases z2 : red ≤ size
                  · by_cases z3 : size ≤ 65536
                    · first | (exfalso; omega) | skip
                      all_goals
                        have hl1 : lenB red (off + (nd : Int)) = false := lenB_no (by omega)
                        have hl2 : lenB size (max (off + (nd : Int)) red) = true := lenB_yes (by omega)
                        have hv : (decide (1 ≤ (nd : Int)) && (decide (off + (nd : Int) ≤ 65536) && (lenB red (off + (nd : Int)) && lenB size (max (off + (nd : Int)) red)))) = false := by simp only [p0', p2', hl1, hl2, Bool.true_and, Bool.false_and, Bool.and_false, Bool.and_true]
                        rw [hv]
                        clear hv
                        go_enter Tryd.func47, Tryd.ntmps47
                        go_wp2
                        go_ret
                        exact ⟨rfl, HB.out⟩
                    · first | (exfalso; omega) | skip
                      all_goals
                        have hl1 : lenB red (off + (nd : Int)) = false := lenB_no (by omega)
                        have hl2 : lenB size (max (off + (nd : Int)) red) = false := lenB_no (by omega)
                        have hv : (decide (1 ≤ (nd : Int)) && (decide (off + (nd : Int) ≤ 65536) && (lenB red (off + (nd : Int)) && lenB size (max (off + (nd : Int)) red)))) = false := by simp only [p0', p2', hl1, hl2, Bool.true_and, Bool.false_and, Bool.and_false, Bool.and_true]
                        rw [hv]
                        clear hv
                        go_enter Tryd.func47, Tryd.ntmps47
                        go_wp2
                        go_ret
                        exact ⟨rfl, HB.out⟩
                  · first | (exfalso; omega) | skip
                    all_goals
                      have hl1 : lenB red (off + (nd : Int)) = false := lenB_no (by omega)
                      have hl2 : lenB size (max (off + (nd : Int)) red) = false := lenB_no (by omega)
                      have hv : (decide (1 ≤ (nd : Int)) && (decide (off + (nd : Int) ≤ 65536) && (lenB red (off + (nd : Int)) && lenB size (max (off + (nd : Int)) red)))) = false := by simp only [p0', p2', hl1, hl2, Bool.true_and, Bool.false_and, Bool.and_false, Bool.and_true]
                      rw [hv]
                      clear hv
                      go_enter Tryd.func47, Tryd.ntmps47
                      go_wp2
                      go_ret
                      exact ⟨rfl, HB.out⟩
                · first | (exfalso; omega) | skip
                  all_goals
                    have hl1 : lenB red (off + (nd : Int)) = false := lenB_no (by omega)
                    have hl2 : lenB size (max (off + (nd : Int)) red) = false := lenB_no (by omega)
                    have hv : (decide (1 ≤ (nd : Int)) && (decide (off + (nd : Int) ≤ 65536) && (lenB red (off + (nd : Int)) && lenB size (max (off + (nd : Int)) red)))) = false := by simp only [p0', p2', hl1, hl2, Bool.true_and, Bool.false_and, Bool.and_false, Bool.and_true]
                    rw [hv]
                    clear hv
                    go_enter Tryd.func47, Tryd.ntmps47
                    go_wp2
                    go_ret
                    exact ⟨rfl, HB.out⟩
          · by_cases z0 : size = 0
            · have hz : (size == 0) = true := beq_iff_eq.mpr z0
              first | (exfalso; omega) | skip
              all_goals
                have hl1 : lenB red (off + (nd : Int)) = false := lenB_no (by omega)
                have hl2 : lenB size (max (off + (nd : Int)) red) = true := lenB_yes (by omega)
                clear z0
                have hv : (decide (1 ≤ (nd : Int)) && (decide (off + (nd : Int) ≤ 65536) && (lenB red (off + (nd : Int)) && lenB size (max (off + (nd : Int)) red)))) = false := by simp only [p0', p2', hl1, hl2, Bool.true_and, Bool.false_and, Bool.and_false, Bool.and_true]
                rw [hv]
                clear hv
                go_enter Tryd.func47, Tryd.ntmps47
                go_wp2
                go_ret
                exact ⟨rfl, HB.out⟩
            · have hz : (size == 0) = false := beq_false_of_ne z0
              by_cases z1 : off + (nd : Int) ≤ size
              · by_cases z2 : red ≤ size
                · by_cases z3 : size ≤ 65536
                  · first | (exfalso; omega) | skip
                    all_goals
                      have hl1 : lenB red (off + (nd : Int)) = false := lenB_no (by omega)
                      have hl2 : lenB size (max (off + (nd : Int)) red) = true := lenB_yes (by omega)
                      have hv : (decide (1 ≤ (nd : Int)) && (decide (off + (nd : Int) ≤ 65536) && (lenB red (off + (nd : Int)) && lenB size (max (off + (nd : Int)) red)))) = false := by simp only [p0', p2', hl1, hl2, Bool.true_and, Bool.false_and, Bool.and_false, Bool.and_true]
                      rw [hv]
                      clear hv
                      go_enter Tryd.func47, Tryd.ntmps47
                      go_wp2
                      go_ret
                      exact ⟨rfl, HB.out⟩
                  · first | (exfalso; omega) | skip
                    all_goals
                      have hl1 : lenB red (off + (nd : Int)) = false := lenB_no (by omega)
                      have hl2 : lenB size (max (off + (nd : Int)) red) = false := lenB_no (by omega)
                      have hv : (decide (1 ≤ (nd : Int)) && (decide (off + (nd : Int) ≤ 65536) && (lenB red (off + (nd : Int)) && lenB size (max (off + (nd : Int)) red)))) = false := by simp only [p0', p2', hl1, hl2, Bool.true_and, Bool.false_and, Bool.and_false, Bool.and_true]
                      rw [hv]
                      clear hv
                      go_enter Tryd.func47, Tryd.ntmps47
                      go_wp2
                      go_ret
                      exact ⟨rfl, HB.out⟩
                · first | (exfalso; omega) | skip
                  all_goals
                    have hl1 : lenB red (off + (nd : Int)) = false := lenB_no (by omega)
                    have hl2 : lenB size (max (off + (nd : Int)) red) = false := lenB_no (by omega)
                    have hv : (decide (1 ≤ (nd : Int)) && (decide (off + (nd : Int) ≤ 65536) && (lenB red (off + (nd : Int)) && lenB size (max (off + (nd : Int)) red)))) = false := by simp only [p0', p2', hl1, hl2, Bool.true_and, Bool.false_and, Bool.and_false, Bool.and_true]
                    rw [hv]
                    clear hv
                    go_enter Tryd.func47, Tryd.ntmps47
                    go_wp2
                    go_ret
                    exact ⟨rfl, HB.out⟩
              · first | (exfalso; omega) | skip
                all_goals
                  have hl1 : lenB red (off + (nd : Int)) = false := lenB_no (by omega)
                  have hl2 : lenB size (max (off + (nd : Int)) red) = false := lenB_no (by omega)
                  have hv : (decide (1 ≤ (nd : Int)) && (decide (off + (nd : Int) ≤ 65536) && (lenB red (off + (nd : Int)) && lenB size (max (off + (nd : Int)) red)))) = false := by simp only [p0', p2', hl1, hl2, Bool.true_and, Bool.false_and, Bool.and_false, Bool.and_true]
                  rw [hv]
                  clear hv
                  go_enter Tryd.func47, Tryd.ntmps47
                  go_wp2
                  go_ret
                  exact ⟨rfl, HB.out⟩
      · have p2' : decide (off + (nd : Int) ≤ 65536) = false := decide_eq_false p2
        have hv : (decide (1 ≤ (nd : Int)) && (decide (off + (nd : Int) ≤ 65536) && (lenB red (off + (nd : Int)) && lenB size (max (off + (nd : Int)) red)))) = false := by simp only [p0', p2', Bool.true_and, Bool.false_and, Bool.and_false, Bool.and_true]
        rw [hv]
        clear hv
        go_enter Tryd.func47, Tryd.ntmps47
        go_wp2
        go_ret
        exact ⟨rfl, HB.out⟩
    · have p2' : decide (off + (nd : Int) ≤ 65536) = false := decide_eq_false (by omega)
      have hv : (decide (1 ≤ (nd : Int)) && (decide (off + (nd : Int) ≤ 65536) && (lenB red (off + (nd : Int)) && lenB size (max (off + (nd : Int)) red)))) = false := by simp only [p0', p2', Bool.true_and, Bool.false_and, Bool.and_false, Bool.and_true]
      rw [hv]
      clear hv
      go_enter Tryd.func47, Tryd.ntmps47
      go_wp2
      go_ret
      exact ⟨rfl, HB.out⟩
  · have p0' : decide (1 ≤ (nd : Int)) = false := decide_eq_false p0
    have hv : (decide (1 ≤ (nd : Int)) && (decide (off + (nd : Int) ≤ 65536) && (lenB red (off + (nd : Int)) && lenB size (max (off + (nd : Int)) red)))) = false := by simp only [p0', Bool.true_and, Bool.false_and, Bool.and_false, Bool.and_true]
    rw [hv]
    clear hv
    go_enter Tryd.func47, Tryd.ntmps47
    go_wp2
    go_ret
    exact ⟨rfl, HB.out⟩
end Go.Proofs.YtgmbpagbiakciafDoor
