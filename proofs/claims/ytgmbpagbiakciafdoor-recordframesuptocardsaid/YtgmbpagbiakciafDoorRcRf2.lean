import Derived.Test.YtgmbpagbiakciafDoorRcRf1
import Derived.Test.YtgmbpagbiakciafDoorRgt2
namespace Go.Proofs.YtgmbpagbiakciafDoor
open Go.RowKit
set_option linter.unusedVariables false
set_option linter.unusedSimpArgs false
theorem lenB_yes {n low : Int} (h : n = 0 ∨ (low ≤ n ∧ n ≤ 65536)) : lenB n low = true := by
  unfold lenB
  rcases h with h | h
  · subst h; rfl
  · rw [decide_eq_true h.1, decide_eq_true h.2, Bool.and_true, Bool.or_true]
theorem lenB_no {n low : Int} (h : ¬ n = 0 ∧ ¬ (low ≤ n ∧ n ≤ 65536)) : lenB n low = false := by
  unfold lenB
  rw [beq_false_of_ne h.1, Bool.false_or]
  by_cases h1 : low ≤ n
  · rw [decide_eq_true h1, decide_eq_false (fun h2 => h.2 ⟨h1, h2⟩)]; rfl
  · rw [decide_eq_false h1]; rfl
set_option maxRecDepth 100000 in
set_option maxHeartbeats 4000000 in
theorem fit_k1 (r : Rc) (sa da : Option Addr) (ns nd sc dc : Nat) (w : World) (hns : r.spans.length = ns) (hnd : r.data.length = nd) (hm : nd ≤ 140737488355328) (hs : C.Ls w (.slice sa ns sc) r.spans) (hb : ∀ i < 8, 0 ≤ nmA r i ∧ nmA r i ≤ 4611686018427387903) (hk : r.kind = 1) :
    Calls Tryd.prog 47 #[.agg (rcC r (.slice sa ns sc) (.slice da nd dc))] w fun e w' => e = .returned (.bool (suitB r)) ∧ Below w.heap.size w w' := by
  have HB : Hid (Below w.heap.size w (w.alloc (rcO r (.slice sa ns sc) (.slice da nd dc)))) := (Below.refl _ _).alloc (Nat.le_refl _) _
  have HS : Hid (suitB r = (decide (1 ≤ r.size) && decide (r.size ≤ 1073741824))) := by unfold Hid suitB; rw [hk, if_pos rfl]
  generalize suitB r = S at *
  clear hb
  obtain ⟨kind, org, num, peer, srv, off, red, size, how, spans, data⟩ := r
  simp only at HS hk
  subst hk
  clear hns hnd hs
  rw [HS.out]
  clear HS
  by_cases p0 : 1 ≤ size
  · have p0' : decide (1 ≤ size) = true := decide_eq_true p0
    have hv : (decide (1 ≤ size) && decide (size ≤ 1073741824)) = decide (size ≤ 1073741824) := by simp only [p0', Bool.true_and, Bool.false_and, Bool.and_false, Bool.and_true]
    rw [hv]
    clear hv
    go_enter Tryd.func47, Tryd.ntmps47
    go_wp2
    go_ret
    exact ⟨rfl, HB.out⟩
  · have p0' : decide (1 ≤ size) = false := decide_eq_false p0
    have hv : (decide (1 ≤ size) && decide (size ≤ 1073741824)) = false := by simp only [p0', Bool.true_and, Bool.false_and, Bool.and_false, Bool.and_true]
    rw [hv]
    clear hv
    go_enter Tryd.func47, Tryd.ntmps47
    go_wp2
    go_ret
    exact ⟨rfl, HB.out⟩
set_option maxRecDepth 100000 in
set_option maxHeartbeats 4000000 in
theorem fit_k2 (r : Rc) (sa da : Option Addr) (ns nd sc dc : Nat) (w : World) (hns : r.spans.length = ns) (hnd : r.data.length = nd) (hm : nd ≤ 140737488355328) (hs : C.Ls w (.slice sa ns sc) r.spans) (hb : ∀ i < 8, 0 ≤ nmA r i ∧ nmA r i ≤ 4611686018427387903) (hk : r.kind = 2) :
    Calls Tryd.prog 47 #[.agg (rcC r (.slice sa ns sc) (.slice da nd dc))] w fun e w' => e = .returned (.bool (suitB r)) ∧ Below w.heap.size w w' := by
  have HB : Hid (Below w.heap.size w (w.alloc (rcO r (.slice sa ns sc) (.slice da nd dc)))) := (Below.refl _ _).alloc (Nat.le_refl _) _
  have HS : Hid (suitB r = (decide (1 ≤ r.size))) := by unfold Hid suitB; rw [hk, if_neg (by decide), if_pos rfl]
  generalize suitB r = S at *
  clear hb
  obtain ⟨kind, org, num, peer, srv, off, red, size, how, spans, data⟩ := r
  simp only at HS hk
  subst hk
  clear hns hnd hs
  rw [HS.out]
  clear HS
  go_enter Tryd.func47, Tryd.ntmps47
  go_wp2
  go_ret
  exact ⟨rfl, HB.out⟩
set_option maxRecDepth 100000 in
set_option maxHeartbeats 4000000 in
theorem fit_k3 (r : Rc) (sa da : Option Addr) (ns nd sc dc : Nat) (w : World) (hns : r.spans.length = ns) (hnd : r.data.length = nd) (hm : nd ≤ 140737488355328) (hs : C.Ls w (.slice sa ns sc) r.spans) (hb : ∀ i < 8, 0 ≤ nmA r i ∧ nmA r i ≤ 4611686018427387903) (hk : r.kind = 3) :
    Calls Tryd.prog 47 #[.agg (rcC r (.slice sa ns sc) (.slice da nd dc))] w fun e w' => e = .returned (.bool (suitB r)) ∧ Below w.heap.size w w' := by
  have HB : Hid (Below w.heap.size w (w.alloc (rcO r (.slice sa ns sc) (.slice da nd dc)))) := (Below.refl _ _).alloc (Nat.le_refl _) _
  have HS : Hid (suitB r = (decide (1 ≤ r.peer) && ((decide (1 ≤ r.red) && decide (r.red ≤ r.size)) && (decide (r.size ≤ 65536) && ((nd : Int) == r.red))))) := by unfold Hid suitB; rw [hk, if_neg (by decide), if_neg (by decide), if_pos rfl]; rw [hnd]
  generalize suitB r = S at *
  clear hb
  obtain ⟨kind, org, num, peer, srv, off, red, size, how, spans, data⟩ := r
  simp only at HS hk
  subst hk
  clear hns hnd hs
  rw [HS.out]
  clear HS
  by_cases p0 : 1 ≤ peer
  · have p0' : decide (1 ≤ peer) = true := decide_eq_true p0
    by_cases p1 : 1 ≤ red
    · have p1' : decide (1 ≤ red) = true := decide_eq_true p1
      by_cases p2 : red ≤ size
      · have p2' : decide (red ≤ size) = true := decide_eq_true p2
        by_cases p3 : size ≤ 65536
        · have p3' : decide (size ≤ 65536) = true := decide_eq_true p3
          have hv : (decide (1 ≤ peer) && ((decide (1 ≤ red) && decide (red ≤ size)) && (decide (size ≤ 65536) && ((nd : Int) == red)))) = ((nd : Int) == red) := by simp only [p0', p1', p2', p3', Bool.true_and, Bool.false_and, Bool.and_false, Bool.and_true]
          rw [hv]
          clear hv
          go_enter Tryd.func47, Tryd.ntmps47
          go_wp2
          go_ret
          exact ⟨rfl, HB.out⟩
        · have p3' : decide (size ≤ 65536) = false := decide_eq_false p3
          have hv : (decide (1 ≤ peer) && ((decide (1 ≤ red) && decide (red ≤ size)) && (decide (size ≤ 65536) && ((nd : Int) == red)))) = false := by simp only [p0', p1', p2', p3', Bool.true_and, Bool.false_and, Bool.and_false, Bool.and_true]
          rw [hv]
          clear hv
          go_enter Tryd.func47, Tryd.ntmps47
          go_wp2
          go_ret
          exact ⟨rfl, HB.out⟩
      · have p2' : decide (red ≤ size) = false := decide_eq_false p2
        have hv : (decide (1 ≤ peer) && ((decide (1 ≤ red) && decide (red ≤ size)) && (decide (size ≤ 65536) && ((nd : Int) == red)))) = false := by simp only [p0', p1', p2', Bool.true_and, Bool.false_and, Bool.and_false, Bool.and_true]
        rw [hv]
        clear hv
        go_enter Tryd.func47, Tryd.ntmps47
        go_wp2
        go_ret
        exact ⟨rfl, HB.out⟩
    · have p1' : decide (1 ≤ red) = false := decide_eq_false p1
      have hv : (decide (1 ≤ peer) && ((decide (1 ≤ red) && decide (red ≤ size)) && (decide (size ≤ 65536) && ((nd : Int) == red)))) = false := by simp only [p0', p1', Bool.true_and, Bool.false_and, Bool.and_false, Bool.and_true]
      rw [hv]
      clear hv
      go_enter Tryd.func47, Tryd.ntmps47
      go_wp2
      go_ret
      exact ⟨rfl, HB.out⟩
  · have p0' : decide (1 ≤ peer) = false := decide_eq_false p0
    have hv : (decide (1 ≤ peer) && ((decide (1 ≤ red) && decide (red ≤ size)) && (decide (size ≤ 65536) && ((nd : Int) == red)))) = false := by simp only [p0', Bool.true_and, Bool.false_and, Bool.and_false, Bool.and_true]
    rw [hv]
    clear hv
    go_enter Tryd.func47, Tryd.ntmps47
    go_wp2
    go_ret
    exact ⟨rfl, HB.out⟩
set_option maxRecDepth 100000 in
set_option maxHeartbeats 4000000 in
theorem fit_k4 (r : Rc) (sa da : Option Addr) (ns nd sc dc : Nat) (w : World) (hns : r.spans.length = ns) (hnd : r.data.length = nd) (hm : nd ≤ 140737488355328) (hs : C.Ls w (.slice sa ns sc) r.spans) (hb : ∀ i < 8, 0 ≤ nmA r i ∧ nmA r i ≤ 4611686018427387903) (hk : r.kind = 4) :
    Calls Tryd.prog 47 #[.agg (rcC r (.slice sa ns sc) (.slice da nd dc))] w fun e w' => e = .returned (.bool (suitB r)) ∧ Below w.heap.size w w' := by
  have HB : Hid (Below w.heap.size w (w.alloc (rcO r (.slice sa ns sc) (.slice da nd dc)))) := (Below.refl _ _).alloc (Nat.le_refl _) _
  have HS : Hid (suitB r = (decide (r.how ≤ 6))) := by unfold Hid suitB; rw [hk, if_neg (by decide), if_neg (by decide), if_neg (by decide), if_pos rfl]
  generalize suitB r = S at *
  clear hb
  obtain ⟨kind, org, num, peer, srv, off, red, size, how, spans, data⟩ := r
  simp only at HS hk
  subst hk
  clear hns hnd hs
  rw [HS.out]
  clear HS
  go_enter Tryd.func47, Tryd.ntmps47
  go_wp2
  go_ret
  exact ⟨rfl, HB.out⟩
set_option maxRecDepth 100000 in
set_option maxHeartbeats 4000000 in
theorem fit_k8 (r : Rc) (sa da : Option Addr) (ns nd sc dc : Nat) (w : World) (hns : r.spans.length = ns) (hnd : r.data.length = nd) (hm : nd ≤ 140737488355328) (hs : C.Ls w (.slice sa ns sc) r.spans) (hb : ∀ i < 8, 0 ≤ nmA r i ∧ nmA r i ≤ 4611686018427387903) (hk : r.kind = 8) :
    Calls Tryd.prog 47 #[.agg (rcC r (.slice sa ns sc) (.slice da nd dc))] w fun e w' => e = .returned (.bool (suitB r)) ∧ Below w.heap.size w w' := by
  have HB : Hid (Below w.heap.size w (w.alloc (rcO r (.slice sa ns sc) (.slice da nd dc)))) := (Below.refl _ _).alloc (Nat.le_refl _) _
  have HS : Hid (suitB r = (decide (r.how ≤ 5))) := by unfold Hid suitB; rw [hk, if_neg (by decide), if_neg (by decide), if_neg (by decide), if_neg (by decide), if_neg (by decide), if_pos rfl]
  generalize suitB r = S at *
  clear hb
  obtain ⟨kind, org, num, peer, srv, off, red, size, how, spans, data⟩ := r
  simp only at HS hk
  subst hk
  clear hns hnd hs
  rw [HS.out]
  clear HS
  go_enter Tryd.func47, Tryd.ntmps47
  go_wp2
  go_ret
  exact ⟨rfl, HB.out⟩
set_option maxRecDepth 100000 in
set_option maxHeartbeats 8000000 in
theorem fit_k12 (r : Rc) (sa da : Option Addr) (ns nd sc dc : Nat) (w : World) (hns : r.spans.length = ns) (hnd : r.data.length = nd) (hm : nd ≤ 140737488355328) (hs : C.Ls w (.slice sa ns sc) r.spans) (hb : ∀ i < 8, 0 ≤ nmA r i ∧ nmA r i ≤ 4611686018427387903) (hk : r.kind = 12) :
    Calls Tryd.prog 47 #[.agg (rcC r (.slice sa ns sc) (.slice da nd dc))] w fun e w' => e = .returned (.bool (suitB r)) ∧ Below w.heap.size w w' := by
  have HB : Hid (Below w.heap.size w (w.alloc (rcO r (.slice sa ns sc) (.slice da nd dc)))) := (Below.refl _ _).alloc (Nat.le_refl _) _
  have HS : Hid (suitB r = ((decide (1 ≤ r.red) && decide (r.red ≤ 65536)) && lenB r.size r.red)) := by unfold Hid suitB; rw [hk, if_neg (by decide), if_neg (by decide), if_neg (by decide), if_neg (by decide), if_neg (by decide), if_neg (by decide), if_neg (by decide), if_pos rfl]
  have hoff := hb 4 (by omega)
  rw [show nmA r 4 = r.off from rfl] at hoff
  clear hb
  generalize suitB r = S at *
  obtain ⟨kind, org, num, peer, srv, off, red, size, how, spans, data⟩ := r
  simp only at HS hk hoff
  subst hk
  clear hns hnd hs
  rw [HS.out]
  clear HS
  by_cases p0 : 1 ≤ red
  · have p0' : decide (1 ≤ red) = true := decide_eq_true p0
    by_cases p1 : red ≤ 65536
    · have p1' : decide (red ≤ 65536) = true := decide_eq_true p1
      by_cases z0 : size = 0
      · have hz : (size == 0) = true := beq_iff_eq.mpr z0
        have hl : lenB size red = true := lenB_yes (by omega)
        clear z0
        have hv : ((decide (1 ≤ red) && decide (red ≤ 65536)) && lenB size red) = true := by simp only [p0', p1', hl, Bool.true_and, Bool.false_and, Bool.and_false, Bool.and_true]
        rw [hv]
        clear hv
        go_enter Tryd.func47, Tryd.ntmps47
        go_wp2
        go_ret
        exact ⟨rfl, HB.out⟩
      · have hz : (size == 0) = false := beq_false_of_ne z0
        by_cases z1 : red ≤ size
        · by_cases z2 : size ≤ 65536
          · have hl : lenB size red = true := lenB_yes (by omega)
            have hv : ((decide (1 ≤ red) && decide (red ≤ 65536)) && lenB size red) = true := by simp only [p0', p1', hl, Bool.true_and, Bool.false_and, Bool.and_false, Bool.and_true]
            rw [hv]
            clear hv
            go_enter Tryd.func47, Tryd.ntmps47
            go_wp2
            go_ret
            exact ⟨rfl, HB.out⟩
          · have hl : lenB size red = false := lenB_no (by omega)
            have hv : ((decide (1 ≤ red) && decide (red ≤ 65536)) && lenB size red) = false := by simp only [p0', p1', hl, Bool.true_and, Bool.false_and, Bool.and_false, Bool.and_true]
            rw [hv]
            clear hv
            go_enter Tryd.func47, Tryd.ntmps47
            go_wp2
            go_ret
            exact ⟨rfl, HB.out⟩
        · have hl : lenB size red = false := lenB_no (by omega)
          have hv : ((decide (1 ≤ red) && decide (red ≤ 65536)) && lenB size red) = false := by simp only [p0', p1', hl, Bool.true_and, Bool.false_and, Bool.and_false, Bool.and_true]
          rw [hv]
          clear hv
          go_enter Tryd.func47, Tryd.ntmps47
          go_wp2
          go_ret
          exact ⟨rfl, HB.out⟩
    · have p1' : decide (red ≤ 65536) = false := decide_eq_false p1
      have hv : ((decide (1 ≤ red) && decide (red ≤ 65536)) && lenB size red) = false := by simp only [p0', p1', Bool.true_and, Bool.false_and, Bool.and_false, Bool.and_true]
      rw [hv]
      clear hv
      go_enter Tryd.func47, Tryd.ntmps47
      go_wp2
      go_ret
      exact ⟨rfl, HB.out⟩
  · have p0' : decide (1 ≤ red) = false := decide_eq_false p0
    have hv : ((decide (1 ≤ red) && decide (red ≤ 65536)) && lenB size red) = false := by simp only [p0', Bool.true_and, Bool.false_and, Bool.and_false, Bool.and_true]
    rw [hv]
    clear hv
    go_enter Tryd.func47, Tryd.ntmps47
    go_wp2
    go_ret
    exact ⟨rfl, HB.out⟩
set_option maxRecDepth 100000 in
set_option maxHeartbeats 8000000 in
theorem fit_no (r : Rc) (sa da : Option Addr) (ns nd sc dc : Nat) (w : World) (hns : r.spans.length = ns) (hnd : r.data.length = nd) (hm : nd ≤ 140737488355328) (hs : C.Ls w (.slice sa ns sc) r.spans) (hb : ∀ i < 8, 0 ≤ nmA r i ∧ nmA r i ≤ 4611686018427387903) (hk : r.kind ≠ 1 ∧ r.kind ≠ 2 ∧ r.kind ≠ 3 ∧ r.kind ≠ 4 ∧ r.kind ≠ 6 ∧ r.kind ≠ 8 ∧ r.kind ≠ 11 ∧ r.kind ≠ 12) :
    Calls Tryd.prog 47 #[.agg (rcC r (.slice sa ns sc) (.slice da nd dc))] w fun e w' => e = .returned (.bool (suitB r)) ∧ Below w.heap.size w w' := by
  have HB : Hid (Below w.heap.size w (w.alloc (rcO r (.slice sa ns sc) (.slice da nd dc)))) := (Below.refl _ _).alloc (Nat.le_refl _) _
  obtain ⟨k1, k2, k3, k4, k6, k8, k11, k12⟩ := hk
  have HS : Hid (suitB r = true) := by unfold Hid suitB; rw [if_neg k1, if_neg k2, if_neg k3, if_neg k4, if_neg k6, if_neg k8, if_neg k11, if_neg k12]
  rw [HS.out]
  clear HS hs hb
  go_enter Tryd.func47, Tryd.ntmps47
  go_wp2
  go_ret
  exact ⟨rfl, HB.out⟩
end Go.Proofs.YtgmbpagbiakciafDoor
