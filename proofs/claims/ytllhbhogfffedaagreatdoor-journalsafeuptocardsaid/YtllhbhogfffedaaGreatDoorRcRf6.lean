import Derived.Test.YtllhbhogfffedaaGreatDoorRcRf1
namespace Go.Proofs.YtllhbhogfffedaaGreatDoor
open Go.RowKit
set_option linter.unusedVariables false
set_option linter.unusedSimpArgs false
set_option maxRecDepth 100000 in
set_option maxHeartbeats 8000000 in
theorem fit_k6 (r : Rc) (sa da : Option Addr) (ns nd sc dc : Nat) (w : World) (hns : r.spans.length = ns) (hnd : r.data.length = nd) (hm : nd ≤ 140737488355328) (hs : C.Ls w (.slice sa ns sc) r.spans) (hb : ∀ i < 8, 0 ≤ nmA r i ∧ nmA r i ≤ 4611686018427387903) (hk : r.kind = 6) :
    Calls Tryz.prog 110 #[.agg (rcC r (.slice sa ns sc) (.slice da nd dc))] w fun e w' => e = .returned (.bool (suitB r)) ∧ Below w.heap.size w w' := by
  have HB : Hid (Below w.heap.size w (w.alloc (rcO r (.slice sa ns sc) (.slice da nd dc)))) := (Below.refl _ _).alloc (Nat.le_refl _) _
  have HS : Hid (suitB r = (decide (1 ≤ (nd : Int)) && (decide (r.off + (nd : Int) ≤ 65536) && (lenB r.red (r.off + (nd : Int)) && lenB r.size (max (r.off + (nd : Int)) r.red))))) := by unfold Hid suitB; rw [hk, if_neg (by decide), if_neg (by decide), if_neg (by decide), if_neg (by decide), if_pos rfl]; rw [hnd]
  have hoff := hb 4 (by omega)
  rw [show nmA r 4 = r.off from rfl] at hoff
  clear hb
  generalize suitB r = S at *
  obtain ⟨kind, org, num, peer, srv, off, red, size, how, spans, data⟩ := r
  simp only at HS hk hoff
  subst hk
  clear hns hnd hs
  rw [HS.out]
  clear HS
  obtain ⟨ho0, ho1⟩ := hoff
  have hwe : IntKind.i64.wrap (off + (nd : Int)) = off + (nd : Int) := by rw [IntKind.wrap_i64]; omega
  by_cases p0 : 1 ≤ (nd : Int)
  · have p0' : decide (1 ≤ (nd : Int)) = true := decide_eq_true p0
    by_cases p1 : off ≤ 65536
    · by_cases p2 : off + (nd : Int) ≤ 65536
      · have p2' : decide (off + (nd : Int) ≤ 65536) = true := decide_eq_true p2
        by_cases r0 : red = 0
        · have hr : (red == 0) = true := beq_iff_eq.mpr r0
          by_cases z0 : size = 0
          · have hz : (size == 0) = true := beq_iff_eq.mpr z0
            first | (exfalso; omega) | skip
            all_goals
              have hl1 : lenB red (off + (nd : Int)) = true := lenB_yes (by omega)
              have hl2 : lenB size (max (off + (nd : Int)) red) = true := lenB_yes (by omega)
              clear z0
              clear r0
              have hv : (decide (1 ≤ (nd : Int)) && (decide (off + (nd : Int) ≤ 65536) && (lenB red (off + (nd : Int)) && lenB size (max (off + (nd : Int)) red)))) = true := by simp only [p0', p2', hl1, hl2, Bool.true_and, Bool.false_and, Bool.and_false, Bool.and_true]
              rw [hv]
              clear hv
              go_enter Tryz.func110, Tryz.ntmps110
              go_wp2
              go_ret
              exact ⟨rfl, HB.out⟩
          · have hz : (size == 0) = false := beq_false_of_ne z0
            by_cases z1 : off + (nd : Int) ≤ size
            · by_cases z2 : red ≤ size
              · by_cases z3 : size ≤ 65536
                · first | (exfalso; omega) | skip
                  all_goals
                    have hl1 : lenB red (off + (nd : Int)) = true := lenB_yes (by omega)
                    have hl2 : lenB size (max (off + (nd : Int)) red) = true := lenB_yes (by omega)
                    clear r0
                    have hv : (decide (1 ≤ (nd : Int)) && (decide (off + (nd : Int) ≤ 65536) && (lenB red (off + (nd : Int)) && lenB size (max (off + (nd : Int)) red)))) = true := by simp only [p0', p2', hl1, hl2, Bool.true_and, Bool.false_and, Bool.and_false, Bool.and_true]
                    rw [hv]
                    clear hv
                    go_enter Tryz.func110, Tryz.ntmps110
                    go_wp2
                    go_ret
                    exact ⟨rfl, HB.out⟩
                · first | (exfalso; omega) | skip
                  all_goals
                    have hl1 : lenB red (off + (nd : Int)) = true := lenB_yes (by omega)
                    have hl2 : lenB size (max (off + (nd : Int)) red) = false := lenB_no (by omega)
                    clear r0
                    have hv : (decide (1 ≤ (nd : Int)) && (decide (off + (nd : Int) ≤ 65536) && (lenB red (off + (nd : Int)) && lenB size (max (off + (nd : Int)) red)))) = false := by simp only [p0', p2', hl1, hl2, Bool.true_and, Bool.false_and, Bool.and_false, Bool.and_true]
                    rw [hv]
                    clear hv
                    go_enter Tryz.func110, Tryz.ntmps110
                    go_wp2
                    go_ret
                    exact ⟨rfl, HB.out⟩
              · first | (exfalso; omega) | skip
                all_goals
                  have hl1 : lenB red (off + (nd : Int)) = true := lenB_yes (by omega)
                  have hl2 : lenB size (max (off + (nd : Int)) red) = false := lenB_no (by omega)
                  clear r0
                  have hv : (decide (1 ≤ (nd : Int)) && (decide (off + (nd : Int) ≤ 65536) && (lenB red (off + (nd : Int)) && lenB size (max (off + (nd : Int)) red)))) = false := by simp only [p0', p2', hl1, hl2, Bool.true_and, Bool.false_and, Bool.and_false, Bool.and_true]
                  rw [hv]
                  clear hv
                  go_enter Tryz.func110, Tryz.ntmps110
                  go_wp2
                  go_ret
                  exact ⟨rfl, HB.out⟩
            · first | (exfalso; omega) | skip
              all_goals
                have hl1 : lenB red (off + (nd : Int)) = true := lenB_yes (by omega)
                have hl2 : lenB size (max (off + (nd : Int)) red) = false := lenB_no (by omega)
                clear r0
                have hv : (decide (1 ≤ (nd : Int)) && (decide (off + (nd : Int) ≤ 65536) && (lenB red (off + (nd : Int)) && lenB size (max (off + (nd : Int)) red)))) = false := by simp only [p0', p2', hl1, hl2, Bool.true_and, Bool.false_and, Bool.and_false, Bool.and_true]
                rw [hv]
                clear hv
                go_enter Tryz.func110, Tryz.ntmps110
                go_wp2
                go_ret
                exact ⟨rfl, HB.out⟩
        · have hr : (red == 0) = false := beq_false_of_ne r0
          by_cases r1 : off + (nd : Int) ≤ red
          · by_cases r2 : red ≤ 65536
            · by_cases z0 : size = 0
              · have hz : (size == 0) = true := beq_iff_eq.mpr z0
                first | (exfalso; omega) | skip
                all_goals
                  have hl1 : lenB red (off + (nd : Int)) = true := lenB_yes (by omega)
                  have hl2 : lenB size (max (off + (nd : Int)) red) = true := lenB_yes (by omega)
                  clear z0
                  have hv : (decide (1 ≤ (nd : Int)) && (decide (off + (nd : Int) ≤ 65536) && (lenB red (off + (nd : Int)) && lenB size (max (off + (nd : Int)) red)))) = true := by simp only [p0', p2', hl1, hl2, Bool.true_and, Bool.false_and, Bool.and_false, Bool.and_true]
                  rw [hv]
                  clear hv
                  go_enter Tryz.func110, Tryz.ntmps110
                  go_wp2
                  go_ret
                  exact ⟨rfl, HB.out⟩
              · have hz : (size == 0) = false := beq_false_of_ne z0
                by_cases z1 : off + (nd : Int) ≤ size
                · by_cases z2 : red ≤ size
                  · by_cases z3 : size ≤ 65536
                    · first | (exfalso; omega) | skip
                      all_goals
                        have hl1 : lenB red (off + (nd : Int)) = true := lenB_yes (by omega)
                        have hl2 : lenB size (max (off + (nd : Int)) red) = true := lenB_yes (by omega)
                        have hv : (decide (1 ≤ (nd : Int)) && (decide (off + (nd : Int) ≤ 65536) && (lenB red (off + (nd : Int)) && lenB size (max (off + (nd : Int)) red)))) = true := by simp only [p0', p2', hl1, hl2, Bool.true_and, Bool.false_and, Bool.and_false, Bool.and_true]
                        rw [hv]
                        clear hv
                        go_enter Tryz.func110, Tryz.ntmps110
                        go_wp2
                        go_ret
                        exact ⟨rfl, HB.out⟩
                    · first | (exfalso; omega) | skip
                      all_goals
                        have hl1 : lenB red (off + (nd : Int)) = true := lenB_yes (by omega)
                        have hl2 : lenB size (max (off + (nd : Int)) red) = false := lenB_no (by omega)
                        have hv : (decide (1 ≤ (nd : Int)) && (decide (off + (nd : Int) ≤ 65536) && (lenB red (off + (nd : Int)) && lenB size (max (off + (nd : Int)) red)))) = false := by simp only [p0', p2', hl1, hl2, Bool.true_and, Bool.false_and, Bool.and_false, Bool.and_true]
                        rw [hv]
                        clear hv
                        go_enter Tryz.func110, Tryz.ntmps110
                        go_wp2
                        go_ret
                        exact ⟨rfl, HB.out⟩
                  · first | (exfalso; omega) | skip
                    all_goals
                      have hl1 : lenB red (off + (nd : Int)) = true := lenB_yes (by omega)
                      have hl2 : lenB size (max (off + (nd : Int)) red) = false := lenB_no (by omega)
                      have hv : (decide (1 ≤ (nd : Int)) && (decide (off + (nd : Int) ≤ 65536) && (lenB red (off + (nd : Int)) && lenB size (max (off + (nd : Int)) red)))) = false := by simp only [p0', p2', hl1, hl2, Bool.true_and, Bool.false_and, Bool.and_false, Bool.and_true]
                      rw [hv]
                      clear hv
                      go_enter Tryz.func110, Tryz.ntmps110
                      go_wp2
                      go_ret
                      exact ⟨rfl, HB.out⟩
                · first | (exfalso; omega) | skip
                  all_goals
                    have hl1 : lenB red (off + (nd : Int)) = true := lenB_yes (by omega)
                    have hl2 : lenB size (max (off + (nd : Int)) red) = false := lenB_no (by omega)
                    have hv : (decide (1 ≤ (nd : Int)) && (decide (off + (nd : Int) ≤ 65536) && (lenB red (off + (nd : Int)) && lenB size (max (off + (nd : Int)) red)))) = false := by simp only [p0', p2', hl1, hl2, Bool.true_and, Bool.false_and, Bool.and_false, Bool.and_true]
                    rw [hv]
                    clear hv
                    go_enter Tryz.func110, Tryz.ntmps110
                    go_wp2
                    go_ret
                    exact ⟨rfl, HB.out⟩
            · by_cases z0 : size = 0
              · have hz : (size == 0) = true := beq_iff_eq.mpr z0
                first | (exfalso; omega) | skip
                all_goals
                  have hl1 : lenB red (off + (nd : Int)) = false := lenB_no (by omega)
                  have hl2 : lenB size (max (off + (nd : Int)) red) = true := lenB_yes (by omega)
                  clear z0
                  have hv : (decide (1 ≤ (nd : Int)) && (decide (off + (nd : Int) ≤ 65536) && (lenB red (off + (nd : Int)) && lenB size (max (off + (nd : Int)) red)))) = false := by simp only [p0', p2', hl1, hl2, Bool.true_and, Bool.false_and, Bool.and_false, Bool.and_true]
                  rw [hv]
                  clear hv
                  go_enter Tryz.func110, Tryz.ntmps110
                  go_wp2
                  go_ret
                  exact ⟨rfl, HB.out⟩
              · have hz : (size == 0) = false := beq_false_of_ne z0
                by_cases z1 : off + (nd : Int) ≤ size
                · by_cases z2 : red ≤ size
                  · by_cases z3 : size ≤ 65536
                    · first | (exfalso; omega) | skip
                      all_goals
                        have hl1 : lenB red (off + (nd : Int)) = false := lenB_no (by omega)
                        have hl2 : lenB size (max (off + (nd : Int)) red) = true := lenB_yes (by omega)
                        have hv : (decide (1 ≤ (nd : Int)) && (decide (off + (nd : Int) ≤ 65536) && (lenB red (off + (nd : Int)) && lenB size (max (off + (nd : Int)) red)))) = false := by simp only [p0', p2', hl1, hl2, Bool.true_and, Bool.false_and, Bool.and_false, Bool.and_true]
                        rw [hv]
                        clear hv
                        go_enter Tryz.func110, Tryz.ntmps110
                        go_wp2
                        go_ret
                        exact ⟨rfl, HB.out⟩
                    · first | (exfalso; omega) | skip
                      all_goals
                        have hl1 : lenB red (off + (nd : Int)) = false := lenB_no (by omega)
                        have hl2 : lenB size (max (off + (nd : Int)) red) = false := lenB_no (by omega)
                        have hv : (decide (1 ≤ (nd : Int)) && (decide (off + (nd : Int) ≤ 65536) && (lenB red (off + (nd : Int)) && lenB size (max (off + (nd : Int)) red)))) = false := by simp only [p0', p2', hl1, hl2, Bool.true_and, Bool.false_and, Bool.and_false, Bool.and_true]
                        rw [hv]
                        clear hv
                        go_enter Tryz.func110, Tryz.ntmps110
                        go_wp2
                        go_ret
                        exact ⟨rfl, HB.out⟩
                  · first | (exfalso; omega) | skip
                    all_goals
                      have hl1 : lenB red (off + (nd : Int)) = false := lenB_no (by omega)
                      have hl2 : lenB size (max (off + (nd : Int)) red) = false := lenB_no (by omega)
                      have hv : (decide (1 ≤ (nd : Int)) && (decide (off + (nd : Int) ≤ 65536) && (lenB red (off + (nd : Int)) && lenB size (max (off + (nd : Int)) red)))) = false := by simp only [p0', p2', hl1, hl2, Bool.true_and, Bool.false_and, Bool.and_false, Bool.and_true]
                      rw [hv]
                      clear hv
                      go_enter Tryz.func110, Tryz.ntmps110
                      go_wp2
                      go_ret
                      exact ⟨rfl, HB.out⟩
                · first | (exfalso; omega) | skip
                  all_goals
                    have hl1 : lenB red (off + (nd : Int)) = false := lenB_no (by omega)
                    have hl2 : lenB size (max (off + (nd : Int)) red) = false := lenB_no (by omega)
                    have hv : (decide (1 ≤ (nd : Int)) && (decide (off + (nd : Int) ≤ 65536) && (lenB red (off + (nd : Int)) && lenB size (max (off + (nd : Int)) red)))) = false := by simp only [p0', p2', hl1, hl2, Bool.true_and, Bool.false_and, Bool.and_false, Bool.and_true]
                    rw [hv]
                    clear hv
                    go_enter Tryz.func110, Tryz.ntmps110
                    go_wp2
                    go_ret
                    exact ⟨rfl, HB.out⟩
          · by_cases z0 : size = 0
            · have hz : (size == 0) = true := beq_iff_eq.mpr z0
              first | (exfalso; omega) | skip
              all_goals
                have hl1 : lenB red (off + (nd : Int)) = false := lenB_no (by omega)
                have hl2 : lenB size (max (off + (nd : Int)) red) = true := lenB_yes (by omega)
                clear z0
                have hv : (decide (1 ≤ (nd : Int)) && (decide (off + (nd : Int) ≤ 65536) && (lenB red (off + (nd : Int)) && lenB size (max (off + (nd : Int)) red)))) = false := by simp only [p0', p2', hl1, hl2, Bool.true_and, Bool.false_and, Bool.and_false, Bool.and_true]
                rw [hv]
                clear hv
                go_enter Tryz.func110, Tryz.ntmps110
                go_wp2
                go_ret
                exact ⟨rfl, HB.out⟩
            · have hz : (size == 0) = false := beq_false_of_ne z0
              by_cases z1 : off + (nd : Int) ≤ size
              · by_cases z2 : red ≤ size
                · by_cases z3 : size ≤ 65536
                  · first | (exfalso; omega) | skip
                    all_goals
                      have hl1 : lenB red (off + (nd : Int)) = false := lenB_no (by omega)
                      have hl2 : lenB size (max (off + (nd : Int)) red) = true := lenB_yes (by omega)
                      have hv : (decide (1 ≤ (nd : Int)) && (decide (off + (nd : Int) ≤ 65536) && (lenB red (off + (nd : Int)) && lenB size (max (off + (nd : Int)) red)))) = false := by simp only [p0', p2', hl1, hl2, Bool.true_and, Bool.false_and, Bool.and_false, Bool.and_true]
                      rw [hv]
                      clear hv
                      go_enter Tryz.func110, Tryz.ntmps110
                      go_wp2
                      go_ret
                      exact ⟨rfl, HB.out⟩
                  · first | (exfalso; omega) | skip
                    all_goals
                      have hl1 : lenB red (off + (nd : Int)) = false := lenB_no (by omega)
                      have hl2 : lenB size (max (off + (nd : Int)) red) = false := lenB_no (by omega)
                      have hv : (decide (1 ≤ (nd : Int)) && (decide (off + (nd : Int) ≤ 65536) && (lenB red (off + (nd : Int)) && lenB size (max (off + (nd : Int)) red)))) = false := by simp only [p0', p2', hl1, hl2, Bool.true_and, Bool.false_and, Bool.and_false, Bool.and_true]
                      rw [hv]
                      clear hv
                      go_enter Tryz.func110, Tryz.ntmps110
                      go_wp2
                      go_ret
                      exact ⟨rfl, HB.out⟩
                · first | (exfalso; omega) | skip
                  all_goals
                    have hl1 : lenB red (off + (nd : Int)) = false := lenB_no (by omega)
                    have hl2 : lenB size (max (off + (nd : Int)) red) = false := lenB_no (by omega)
                    have hv : (decide (1 ≤ (nd : Int)) && (decide (off + (nd : Int) ≤ 65536) && (lenB red (off + (nd : Int)) && lenB size (max (off + (nd : Int)) red)))) = false := by simp only [p0', p2', hl1, hl2, Bool.true_and, Bool.false_and, Bool.and_false, Bool.and_true]
                    rw [hv]
                    clear hv
                    go_enter Tryz.func110, Tryz.ntmps110
                    go_wp2
                    go_ret
                    exact ⟨rfl, HB.out⟩
              · first | (exfalso; omega) | skip
                all_goals
                  have hl1 : lenB red (off + (nd : Int)) = false := lenB_no (by omega)
                  have hl2 : lenB size (max (off + (nd : Int)) red) = false := lenB_no (by omega)
                  have hv : (decide (1 ≤ (nd : Int)) && (decide (off + (nd : Int) ≤ 65536) && (lenB red (off + (nd : Int)) && lenB size (max (off + (nd : Int)) red)))) = false := by simp only [p0', p2', hl1, hl2, Bool.true_and, Bool.false_and, Bool.and_false, Bool.and_true]
                  rw [hv]
                  clear hv
                  go_enter Tryz.func110, Tryz.ntmps110
                  go_wp2
                  go_ret
                  exact ⟨rfl, HB.out⟩
      · have p2' : decide (off + (nd : Int) ≤ 65536) = false := decide_eq_false p2
        have hv : (decide (1 ≤ (nd : Int)) && (decide (off + (nd : Int) ≤ 65536) && (lenB red (off + (nd : Int)) && lenB size (max (off + (nd : Int)) red)))) = false := by simp only [p0', p2', Bool.true_and, Bool.false_and, Bool.and_false, Bool.and_true]
        rw [hv]
        clear hv
        go_enter Tryz.func110, Tryz.ntmps110
        go_wp2
        go_ret
        exact ⟨rfl, HB.out⟩
    · have p2' : decide (off + (nd : Int) ≤ 65536) = false := decide_eq_false (by omega)
      have hv : (decide (1 ≤ (nd : Int)) && (decide (off + (nd : Int) ≤ 65536) && (lenB red (off + (nd : Int)) && lenB size (max (off + (nd : Int)) red)))) = false := by simp only [p0', p2', Bool.true_and, Bool.false_and, Bool.and_false, Bool.and_true]
      rw [hv]
      clear hv
      go_enter Tryz.func110, Tryz.ntmps110
      go_wp2
      go_ret
      exact ⟨rfl, HB.out⟩
  · have p0' : decide (1 ≤ (nd : Int)) = false := decide_eq_false p0
    have hv : (decide (1 ≤ (nd : Int)) && (decide (off + (nd : Int) ≤ 65536) && (lenB red (off + (nd : Int)) && lenB size (max (off + (nd : Int)) red)))) = false := by simp only [p0', Bool.true_and, Bool.false_and, Bool.and_false, Bool.and_true]
    rw [hv]
    clear hv
    go_enter Tryz.func110, Tryz.ntmps110
    go_wp2
    go_ret
    exact ⟨rfl, HB.out⟩
end Go.Proofs.YtllhbhogfffedaaGreatDoor

namespace Go.Proofs.YtllhbhogfffedaaGreatDoor
open Go.RowKit
set_option linter.unusedVariables false
set_option linter.unusedSimpArgs false

set_option maxRecDepth 100000 in
set_option maxHeartbeats 4000000 in
theorem fit_k11 (r : Rc) (sa da : Option Addr) (ns nd sc dc : Nat) (w : World) (hns : r.spans.length = ns) (hs : C.Ls w (.slice sa ns sc) r.spans) (hk : r.kind = 11) :
    Calls Tryz.prog 110 #[.agg (rcC r (.slice sa ns sc) (.slice da nd dc))] w fun e w' => e = .returned (.bool (suitB r)) ∧ Below w.heap.size w w' := by
  have HB : Hid (Below w.heap.size w (w.alloc (rcO r (.slice sa ns sc) (.slice da nd dc)))) := (Below.refl _ _).alloc (Nat.le_refl _) _
  have HX : Hid ((w.alloc (rcO r (.slice sa ns sc) (.slice da nd dc))).heap[w.heap.size]? = some (rcO r (.slice sa ns sc) (.slice da nd dc))) := heap_new6 w _
  have HR : Hid (Calls Tryz.prog 115 #[.slice sa ns sc] (w.alloc (rcO r (.slice sa ns sc) (.slice da nd dc))) fun e w' => e = .returned (.bool (C.setB r.spans)) ∧ Below (w.alloc (rcO r (.slice sa ns sc) (.slice da nd dc))).heap.size (w.alloc (rcO r (.slice sa ns sc) (.slice da nd dc))) w') := by
    have h1 := hs.below HB.out
    obtain ⟨a', c', hv, hsp, _, _⟩ := h1.shape
    simp only [Value.slice.injEq] at hv
    obtain ⟨rfl, _, rfl⟩ := hv
    have h2 := C.refright_any sa sc r.spans (w.alloc (rcO r (.slice sa ns sc) (.slice da nd dc))) hsp h1.small
    rw [hns] at h2
    exact h2
  have HS : Hid (suitB r = (decide (1 ≤ r.size) && ((decide (1 ≤ (ns : Int)) && decide ((ns : Int) ≤ 500)) && (C.setB r.spans && decide (1 ≤ (r.spans.head?.getD (0, 0)).1))))) := by
    unfold Hid suitB
    rw [hk, if_neg (by decide), if_neg (by decide), if_neg (by decide), if_neg (by decide), if_neg (by decide), if_neg (by decide), if_pos rfl]
    unfold tombB
    rw [hns]
  have HC : Hid (1 ≤ (ns : Int) → ∃ g off, sa = some ⟨g, off, none⟩ ∧ ∀ W, Below w.heap.size w W → W.cell? ⟨g, off, none⟩ = some (.int .i64 (r.spans.head?.getD (0, 0)).1)) := fun h1 => by
    obtain ⟨a', c', hv, hsp, _, _⟩ := hs.shape
    simp only [Value.slice.injEq] at hv
    obtain ⟨rfl, _, rfl⟩ := hv
    rcases hsp with h0 | ⟨g, off, rfl, hc⟩
    · rw [h0] at hns; simp at hns; omega
    · obtain ⟨p, ps, hp⟩ : ∃ p ps, r.spans = p :: ps := by
        cases hq : r.spans with
        | nil => rw [hq] at hns; simp at hns; omega
        | cons p ps => exact ⟨p, ps, rfl⟩
      refine ⟨g, off, rfl, fun W hW => ?_⟩
      have h2 := (hc 0 p (by rw [hp]; rfl)).1
      simp only [Nat.zero_mul, Nat.add_zero] at h2
      rw [hp]
      exact C.cell_below h2 hW
  generalize (r.spans.head?.getD (0, 0)).1 = fr at *
  generalize C.setB r.spans = b at *
  generalize suitB r = S at *
  obtain ⟨kind, org, num, peer, srv, off, red, size, how, spans, data⟩ := r
  simp only at HS hk
  subst hk
  clear hns hs
  rw [HS.out]
  clear HS
  by_cases p0 : 1 ≤ size
  · have p0' : decide (1 ≤ size) = true := decide_eq_true p0
    cases b with
    | false =>
      have hv : (decide (1 ≤ size) && ((decide (1 ≤ (ns : Int)) && decide ((ns : Int) ≤ 500)) && (false && decide (1 ≤ fr)))) = false := by simp
      rw [hv]
      clear hv
      go_enter Tryz.func110, Tryz.ntmps110
      go_wp2_with (go_at_call 115; refine HR.out.mono ?_; rintro e w1 ⟨rfl, hb1⟩; obtain ⟨c0, c1, c2, c3, c4, c5, c6, c7, c8, c9, c10⟩ := rc_cells ((hb1.block _ (by simp)).trans HX.out))
      go_ret
      exact ⟨rfl, HB.out.trans (hb1.mono HB.out.size)⟩
    | true =>
      by_cases p1 : 1 ≤ (ns : Int)
      · have p1' : decide (1 ≤ (ns : Int)) = true := decide_eq_true p1
        obtain ⟨g, off', rfl, hcl⟩ := HC.out p1
        have HCL : Hid (∀ W, Below w.heap.size w W → W.cell? ⟨g, off', none⟩ = some (.int .i64 fr)) := hcl
        clear hcl HC
        by_cases p2 : (ns : Int) ≤ 500
        · have p2' : decide ((ns : Int) ≤ 500) = true := decide_eq_true p2
          have hv : (decide (1 ≤ size) && ((decide (1 ≤ (ns : Int)) && decide ((ns : Int) ≤ 500)) && (true && decide (1 ≤ fr)))) = decide (1 ≤ fr) := by rw [p0', p1', p2']; simp
          rw [hv]
          clear hv
          go_enter Tryz.func110, Tryz.ntmps110
          go_wp2_with (go_at_call 115; refine HR.out.mono ?_; rintro e w1 ⟨rfl, hb1⟩; obtain ⟨c0, c1, c2, c3, c4, c5, c6, c7, c8, c9, c10⟩ := rc_cells ((hb1.block _ (by simp)).trans HX.out); have hcl1 := HCL.out w1 (HB.out.trans (hb1.mono HB.out.size)))
          go_ret
          exact ⟨rfl, HB.out.trans (hb1.mono HB.out.size)⟩
        · have p2' : decide ((ns : Int) ≤ 500) = false := decide_eq_false p2
          have hv : (decide (1 ≤ size) && ((decide (1 ≤ (ns : Int)) && decide ((ns : Int) ≤ 500)) && (true && decide (1 ≤ fr)))) = false := by rw [p2']; simp
          rw [hv]
          clear hv
          go_enter Tryz.func110, Tryz.ntmps110
          go_wp2_with (go_at_call 115; refine HR.out.mono ?_; rintro e w1 ⟨rfl, hb1⟩; obtain ⟨c0, c1, c2, c3, c4, c5, c6, c7, c8, c9, c10⟩ := rc_cells ((hb1.block _ (by simp)).trans HX.out))
          go_ret
          exact ⟨rfl, HB.out.trans (hb1.mono HB.out.size)⟩
      · have p1' : decide (1 ≤ (ns : Int)) = false := decide_eq_false p1
        have hv : (decide (1 ≤ size) && ((decide (1 ≤ (ns : Int)) && decide ((ns : Int) ≤ 500)) && (true && decide (1 ≤ fr)))) = false := by rw [p1']; simp
        rw [hv]
        clear hv HC
        go_enter Tryz.func110, Tryz.ntmps110
        go_wp2_with (go_at_call 115; refine HR.out.mono ?_; rintro e w1 ⟨rfl, hb1⟩; obtain ⟨c0, c1, c2, c3, c4, c5, c6, c7, c8, c9, c10⟩ := rc_cells ((hb1.block _ (by simp)).trans HX.out))
        go_ret
        exact ⟨rfl, HB.out.trans (hb1.mono HB.out.size)⟩
  · have p0' : decide (1 ≤ size) = false := decide_eq_false p0
    rw [p0', Bool.false_and]
    clear HC
    go_enter Tryz.func110, Tryz.ntmps110
    go_wp2_with (go_at_call 115; refine HR.out.mono ?_; rintro e w1 ⟨rfl, hb1⟩; obtain ⟨c0, c1, c2, c3, c4, c5, c6, c7, c8, c9, c10⟩ := rc_cells ((hb1.block _ (by simp)).trans HX.out))
    go_ret
    exact ⟨rfl, HB.out.trans (hb1.mono HB.out.size)⟩

/-- The reference's fit, of numbers that may be. -/
theorem fit2_any (r : Rc) (sa da : Option Addr) (ns nd sc dc : Nat) (w : World) (hns : r.spans.length = ns) (hnd : r.data.length = nd) (hm : nd ≤ 140737488355328) (hs : C.Ls w (.slice sa ns sc) r.spans) (hb : ∀ i < 8, 0 ≤ nmA r i ∧ nmA r i ≤ 4611686018427387903) :
    Calls Tryz.prog 110 #[.agg (rcC r (.slice sa ns sc) (.slice da nd dc))] w fun e w' => e = .returned (.bool (suitB r)) ∧ Below w.heap.size w w' := by
  by_cases k1 : r.kind = 1
  · exact fit_k1 r sa da ns nd sc dc w hns hnd hm hs hb k1
  by_cases k2 : r.kind = 2
  · exact fit_k2 r sa da ns nd sc dc w hns hnd hm hs hb k2
  by_cases k3 : r.kind = 3
  · exact fit_k3 r sa da ns nd sc dc w hns hnd hm hs hb k3
  by_cases k4 : r.kind = 4
  · exact fit_k4 r sa da ns nd sc dc w hns hnd hm hs hb k4
  by_cases k6 : r.kind = 6
  · exact fit_k6 r sa da ns nd sc dc w hns hnd hm hs hb k6
  by_cases k8 : r.kind = 8
  · exact fit_k8 r sa da ns nd sc dc w hns hnd hm hs hb k8
  by_cases k11 : r.kind = 11
  · exact fit_k11 r sa da ns nd sc dc w hns hs k11
  by_cases k12 : r.kind = 12
  · exact fit_k12 r sa da ns nd sc dc w hns hnd hm hs hb k12
  exact fit_no r sa da ns nd sc dc w hns hnd hm hs hb ⟨k1, k2, k3, k4, k6, k8, k11, k12⟩
end Go.Proofs.YtllhbhogfffedaaGreatDoor
