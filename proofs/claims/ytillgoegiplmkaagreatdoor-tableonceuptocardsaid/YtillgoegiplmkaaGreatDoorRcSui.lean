import Derived.Test.YtillgoegiplmkaaGreatDoorRcMay
import Derived.Test.YtillgoegiplmkaaGreatDoorJoi
namespace Go.Proofs.YtillgoegiplmkaaGreatDoor
open Go.RowKit

def lenB (n low : Int) : Bool := n == 0 || (decide (low ≤ n) && decide (n ≤ 65536))
set_option maxHeartbeats 400000 in
theorem isLength_any (n low : Int) (w : World) :
    Calls Tryz.prog 156 #[.int .i64 n, .int .i64 low] w fun e w' => e = .returned (.bool (lenB n low)) ∧ w = w' := by
  have HL : Hid (lenB n low = (n == 0 || (decide (low ≤ n) && decide (n ≤ 65536)))) := rfl
  by_cases h : n = 0
  · subst h
    go_enter Tryz.func156, Tryz.ntmps156
    go_wp2_with (go_at_call 155; refine (rbetween_any _ _ _ _).mono ?_; rintro e w' ⟨rfl, rfl⟩)
    go_ret
    exact ⟨rfl, rfl⟩
  · have h' : (n == 0) = false := by simpa using h
    rw [h', Bool.false_or] at HL
    rw [HL.out]
    generalize hq : (decide (low ≤ n) && decide (n ≤ 65536)) = q at *
    have HC : Hid (∀ W, Calls Tryz.prog 155 #[.int .i64 n, .int .i64 low, .int .i64 65536] W fun e w' => e = .returned (.bool q) ∧ W = w') := fun W => hq ▸ rbetween_any n low 65536 W
    clear hq HL
    go_enter Tryz.func156, Tryz.ntmps156
    go_wp2_with (go_at_call 155; refine (HC.out _).mono ?_; rintro e w' ⟨rfl, rfl⟩)
    go_ret
    exact ⟨rfl, rfl⟩

/-- Spans that may be tombs. -/
def tombB (l : List (Int × Int)) : Bool := (decide (1 ≤ (l.length : Int)) && decide ((l.length : Int) ≤ 500)) && (C.setB l && decide (1 ≤ (l.head?.getD (0, 0)).1))
set_option maxRecDepth 100000 in
set_option maxHeartbeats 1000000 in
theorem areTombs_any (l : List (Int × Int)) (a : Option Addr) (n c : Nat) (w : World) (hn : l.length = n) (h : C.Ls w (.slice a n c) l) :
    Calls Tryz.prog 157 #[.slice a n c] w fun e w' => e = .returned (.bool (tombB l)) ∧ Below w.heap.size w w' := by
  have HT : Hid (tombB l = ((decide (1 ≤ (n : Int)) && decide ((n : Int) ≤ 500)) && (C.setB l && decide (1 ≤ (l.head?.getD (0, 0)).1)))) := by unfold Hid tombB; rw [hn]
  have HR : Hid (∀ W, Below w.heap.size w W → Calls Tryz.prog 160 #[.slice a n c] W fun e w' => e = .returned (.bool (C.setB l)) ∧ Below W.heap.size W w') := fun W hW => C.right_ls (h.below hW)
  obtain ⟨q, hq⟩ : ∃ q, (decide (1 ≤ (n : Int)) && decide ((n : Int) ≤ 500)) = q := ⟨_, rfl⟩
  have HC : Hid (∀ W, Calls Tryz.prog 155 #[.int .i64 n, .int .i64 1, .int .i64 500] W fun e w' => e = .returned (.bool q) ∧ W = w') := fun W => hq ▸ rbetween_any n 1 500 W
  rw [hq] at HT
  cases q with
  | false =>
    rw [HT.out]
    clear hq h HT HR
    go_enter Tryz.func157, Tryz.ntmps157
    go_wp2_with (go_at_call 155; refine (HC.out _).mono ?_; rintro e w' ⟨rfl, rfl⟩)
    go_ret
    exact ⟨rfl, Below.refl _ _⟩
  | true =>
    have hn1 : 1 ≤ (n : Int) := by simp at hq; omega
    obtain ⟨p, ps, rfl⟩ : ∃ p ps, l = p :: ps := by
      cases l with
      | nil => simp at hn; omega
      | cons p ps => exact ⟨p, ps, rfl⟩
    obtain ⟨a', c', hv, hs, hx1, hx2⟩ := h.shape
    clear hx1 hx2
    simp only [Value.slice.injEq] at hv
    obtain ⟨rfl, hv2, rfl⟩ := hv
    clear hv2
    rcases hs with h0 | ⟨g, off, rfl, hcell⟩
    · cases h0
    have hc0 := (hcell 0 p rfl).1
    simp only [Nat.zero_mul, Nat.add_zero] at hc0
    have HC0 : Hid (∀ W, Below w.heap.size w W → W.cell? ⟨g, off, none⟩ = some (.int .i64 p.1)) := fun W hW => C.cell_below hc0 hW
    rw [show ((p :: ps).head?.getD (0, 0)).1 = p.1 from rfl] at HT
    generalize C.setB (p :: ps) = s at *
    clear hq h hcell hc0 hn
    cases s with
    | false =>
      rw [HT.out]
      clear HT
      go_enter Tryz.func157, Tryz.ntmps157
      go_wp2_with (first | (go_at_call 155; refine (HC.out _).mono ?_; rintro e w' ⟨rfl, rfl⟩) | (go_at_call 160; refine (HR.out _ (Below.refl _ _)).mono ?_; rintro e w2 ⟨rfl, hb2⟩))
      go_ret
      exact ⟨rfl, hb2⟩
    | true =>
      rw [HT.out]
      clear HT
      go_enter Tryz.func157, Tryz.ntmps157
      go_wp2_with (first | (go_at_call 155; refine (HC.out _).mono ?_; rintro e w' ⟨rfl, rfl⟩) | (go_at_call 160; refine (HR.out _ (Below.refl _ _)).mono ?_; rintro e w2 ⟨rfl, hb2⟩; have hc2 := HC0.out _ hb2; clear HR))
      go_ret
      exact ⟨rfl, hb2⟩
end Go.Proofs.YtillgoegiplmkaaGreatDoor

namespace Go.Proofs.YtillgoegiplmkaaGreatDoor
open Go.RowKit
set_option linter.unusedVariables false

/-- As a kind asks for. -/
def suitB (r : Rc) : Bool :=
  if r.kind = 1 then decide (1 ≤ r.size) && decide (r.size ≤ 1073741824)
  else if r.kind = 2 then decide (1 ≤ r.size)
  else if r.kind = 3 then decide (1 ≤ r.peer) && ((decide (1 ≤ r.red) && decide (r.red ≤ r.size)) && (decide (r.size ≤ 65536) && ((r.data.length : Int) == r.red)))
  else if r.kind = 4 then decide (r.how ≤ 6)
  else if r.kind = 6 then decide (1 ≤ (r.data.length : Int)) && (decide (r.off + (r.data.length : Int) ≤ 65536) && (lenB r.red (r.off + (r.data.length : Int)) && lenB r.size (max (r.off + (r.data.length : Int)) r.red)))
  else if r.kind = 8 then decide (r.how ≤ 5)
  else if r.kind = 11 then decide (1 ≤ r.size) && tombB r.spans
  else if r.kind = 12 then (decide (1 ≤ r.red) && decide (r.red ≤ 65536)) && lenB r.size r.red
  else true

set_option maxRecDepth 100000 in
set_option maxHeartbeats 4000000 in
theorem suits_k1 (r : Rc) (sa da : Option Addr) (ns nd sc dc : Nat) (w : World) (hns : r.spans.length = ns) (hnd : r.data.length = nd) (hm : nd ≤ 140737488355328) (hs : C.Ls w (.slice sa ns sc) r.spans) (ho : 0 ≤ r.off ∧ r.off ≤ 4611686018427387903) (hk : r.kind = 1) :
    Calls Tryz.prog 129 #[.agg (rcC r (.slice sa ns sc) (.slice da nd dc))] w fun e w' => e = .returned (.bool (suitB r)) ∧ Below w.heap.size w w' := by
  have HB : Hid (Below w.heap.size w (w.alloc (rcO r (.slice sa ns sc) (.slice da nd dc)))) := (Below.refl _ _).alloc (Nat.le_refl _) _
  have HS : Hid (suitB r = (decide (1 ≤ r.size) && decide (r.size ≤ 1073741824))) := by unfold Hid suitB; rw [hk, if_pos rfl]
  generalize suitB r = S at *
  obtain ⟨kind, org, num, peer, srv, off, red, size, how, spans, data⟩ := r
  simp only at HS ho hk
  subst hk
  clear hns hnd hs
  obtain ⟨ho0, ho1⟩ := ho
  rw [HS.out]
  go_enter Tryz.func129, Tryz.ntmps129
  go_wp2_with (go_at_call 155; refine (rbetween_any _ _ _ _).mono ?_; rintro e w' ⟨rfl, rfl⟩)
  go_ret
  exact ⟨rfl, HB.out⟩
set_option maxRecDepth 100000 in
set_option maxHeartbeats 4000000 in
theorem suits_k2 (r : Rc) (sa da : Option Addr) (ns nd sc dc : Nat) (w : World) (hns : r.spans.length = ns) (hnd : r.data.length = nd) (hm : nd ≤ 140737488355328) (hs : C.Ls w (.slice sa ns sc) r.spans) (ho : 0 ≤ r.off ∧ r.off ≤ 4611686018427387903) (hk : r.kind = 2) :
    Calls Tryz.prog 129 #[.agg (rcC r (.slice sa ns sc) (.slice da nd dc))] w fun e w' => e = .returned (.bool (suitB r)) ∧ Below w.heap.size w w' := by
  have HB : Hid (Below w.heap.size w (w.alloc (rcO r (.slice sa ns sc) (.slice da nd dc)))) := (Below.refl _ _).alloc (Nat.le_refl _) _
  have HS : Hid (suitB r = (decide (1 ≤ r.size))) := by unfold Hid suitB; rw [hk, if_neg (by decide), if_pos rfl]
  generalize suitB r = S at *
  obtain ⟨kind, org, num, peer, srv, off, red, size, how, spans, data⟩ := r
  simp only at HS ho hk
  subst hk
  clear hns hnd hs
  obtain ⟨ho0, ho1⟩ := ho
  rw [HS.out]
  go_enter Tryz.func129, Tryz.ntmps129
  go_wp2
  go_ret
  exact ⟨rfl, HB.out⟩
set_option maxRecDepth 100000 in
set_option maxHeartbeats 4000000 in
theorem suits_k3 (r : Rc) (sa da : Option Addr) (ns nd sc dc : Nat) (w : World) (hns : r.spans.length = ns) (hnd : r.data.length = nd) (hm : nd ≤ 140737488355328) (hs : C.Ls w (.slice sa ns sc) r.spans) (ho : 0 ≤ r.off ∧ r.off ≤ 4611686018427387903) (hk : r.kind = 3) :
    Calls Tryz.prog 129 #[.agg (rcC r (.slice sa ns sc) (.slice da nd dc))] w fun e w' => e = .returned (.bool (suitB r)) ∧ Below w.heap.size w w' := by
  have HB : Hid (Below w.heap.size w (w.alloc (rcO r (.slice sa ns sc) (.slice da nd dc)))) := (Below.refl _ _).alloc (Nat.le_refl _) _
  have HS : Hid (suitB r = (decide (1 ≤ r.peer) && ((decide (1 ≤ r.red) && decide (r.red ≤ r.size)) && (decide (r.size ≤ 65536) && ((nd : Int) == r.red))))) := by unfold Hid suitB; rw [hk, if_neg (by decide), if_neg (by decide), if_pos rfl]; rw [hnd]
  generalize suitB r = S at *
  obtain ⟨kind, org, num, peer, srv, off, red, size, how, spans, data⟩ := r
  simp only at HS ho hk
  subst hk
  clear hns hnd hs
  obtain ⟨ho0, ho1⟩ := ho
  rw [HS.out]
  have HC : Hid (∀ W, Calls Tryz.prog 155 #[.int .i64 red, .int .i64 1, .int .i64 size] W fun e w' => e = .returned (.bool (decide (1 ≤ red) && decide (red ≤ size))) ∧ W = w') := fun W => rbetween_any red 1 size W
  generalize (decide (1 ≤ red) && decide (red ≤ size)) = b2 at *
  by_cases p1 : 1 ≤ peer
  · have p1' : decide (1 ≤ peer) = true := decide_eq_true p1
    rw [p1', Bool.true_and]
    cases b2 with
    | false =>
      go_enter Tryz.func129, Tryz.ntmps129
      go_wp2_with (go_at_call 155; refine (HC.out _).mono ?_; rintro e w' ⟨rfl, rfl⟩)
      go_ret
      exact ⟨rfl, HB.out⟩
    | true =>
      by_cases p3 : size ≤ 65536
      · have p3' : decide (size ≤ 65536) = true := decide_eq_true p3
        rw [p3']
        go_enter Tryz.func129, Tryz.ntmps129
        go_wp2_with (go_at_call 155; refine (HC.out _).mono ?_; rintro e w' ⟨rfl, rfl⟩)
        go_ret
        exact ⟨rfl, HB.out⟩
      · have p3' : decide (size ≤ 65536) = false := decide_eq_false p3
        rw [p3']
        go_enter Tryz.func129, Tryz.ntmps129
        go_wp2_with (go_at_call 155; refine (HC.out _).mono ?_; rintro e w' ⟨rfl, rfl⟩)
        go_ret
        exact ⟨rfl, HB.out⟩
  · have p1' : decide (1 ≤ peer) = false := decide_eq_false p1
    rw [p1']
    go_enter Tryz.func129, Tryz.ntmps129
    go_wp2_with (go_at_call 155; refine (HC.out _).mono ?_; rintro e w' ⟨rfl, rfl⟩)
    go_ret
    exact ⟨rfl, HB.out⟩
set_option maxRecDepth 100000 in
set_option maxHeartbeats 4000000 in
theorem suits_k4 (r : Rc) (sa da : Option Addr) (ns nd sc dc : Nat) (w : World) (hns : r.spans.length = ns) (hnd : r.data.length = nd) (hm : nd ≤ 140737488355328) (hs : C.Ls w (.slice sa ns sc) r.spans) (ho : 0 ≤ r.off ∧ r.off ≤ 4611686018427387903) (hk : r.kind = 4) :
    Calls Tryz.prog 129 #[.agg (rcC r (.slice sa ns sc) (.slice da nd dc))] w fun e w' => e = .returned (.bool (suitB r)) ∧ Below w.heap.size w w' := by
  have HB : Hid (Below w.heap.size w (w.alloc (rcO r (.slice sa ns sc) (.slice da nd dc)))) := (Below.refl _ _).alloc (Nat.le_refl _) _
  have HS : Hid (suitB r = (decide (r.how ≤ 6))) := by unfold Hid suitB; rw [hk, if_neg (by decide), if_neg (by decide), if_neg (by decide), if_pos rfl]
  generalize suitB r = S at *
  obtain ⟨kind, org, num, peer, srv, off, red, size, how, spans, data⟩ := r
  simp only at HS ho hk
  subst hk
  clear hns hnd hs
  obtain ⟨ho0, ho1⟩ := ho
  rw [HS.out]
  go_enter Tryz.func129, Tryz.ntmps129
  go_wp2
  go_ret
  exact ⟨rfl, HB.out⟩
set_option maxRecDepth 100000 in
set_option maxHeartbeats 4000000 in
theorem suits_k6 (r : Rc) (sa da : Option Addr) (ns nd sc dc : Nat) (w : World) (hns : r.spans.length = ns) (hnd : r.data.length = nd) (hm : nd ≤ 140737488355328) (hs : C.Ls w (.slice sa ns sc) r.spans) (ho : 0 ≤ r.off ∧ r.off ≤ 4611686018427387903) (hk : r.kind = 6) :
    Calls Tryz.prog 129 #[.agg (rcC r (.slice sa ns sc) (.slice da nd dc))] w fun e w' => e = .returned (.bool (suitB r)) ∧ Below w.heap.size w w' := by
  have HB : Hid (Below w.heap.size w (w.alloc (rcO r (.slice sa ns sc) (.slice da nd dc)))) := (Below.refl _ _).alloc (Nat.le_refl _) _
  have HS : Hid (suitB r = (decide (1 ≤ (nd : Int)) && (decide (r.off + (nd : Int) ≤ 65536) && (lenB r.red (r.off + (nd : Int)) && lenB r.size (max (r.off + (nd : Int)) r.red))))) := by unfold Hid suitB; rw [hk, if_neg (by decide), if_neg (by decide), if_neg (by decide), if_neg (by decide), if_pos rfl]; rw [hnd]
  generalize suitB r = S at *
  obtain ⟨kind, org, num, peer, srv, off, red, size, how, spans, data⟩ := r
  simp only at HS ho hk
  subst hk
  clear hns hnd hs
  obtain ⟨ho0, ho1⟩ := ho
  rw [HS.out]
  have hwe : IntKind.i64.wrap (off + (nd : Int)) = off + (nd : Int) := by rw [IntKind.wrap_i64]; omega
  have HL1 : Hid (∀ W, Calls Tryz.prog 156 #[.int .i64 red, .int .i64 (off + (nd : Int))] W fun e w' => e = .returned (.bool (lenB red (off + (nd : Int)))) ∧ W = w') := fun W => isLength_any _ _ W
  have HL2 : Hid (∀ W, Calls Tryz.prog 156 #[.int .i64 size, .int .i64 (max (off + (nd : Int)) red)] W fun e w' => e = .returned (.bool (lenB size (max (off + (nd : Int)) red))) ∧ W = w') := fun W => isLength_any _ _ W
  generalize lenB red (off + (nd : Int)) = b3 at *
  generalize lenB size (max (off + (nd : Int)) red) = b4 at *
  by_cases p1 : 1 ≤ (nd : Int)
  · have p1' : decide (1 ≤ (nd : Int)) = true := decide_eq_true p1
    rw [p1', Bool.true_and]
    by_cases p2 : off + (nd : Int) ≤ 65536
    · have p2' : decide (off + (nd : Int) ≤ 65536) = true := decide_eq_true p2
      rw [p2', Bool.true_and]
      cases b3 with
      | false =>
        go_enter Tryz.func129, Tryz.ntmps129
        go_wp2_with (go_at_call 156; refine (HL1.out _).mono ?_; rintro e w' ⟨rfl, rfl⟩)
        go_ret
        exact ⟨rfl, HB.out⟩
      | true =>
        go_enter Tryz.func129, Tryz.ntmps129
        go_wp2_with fail
        refine (HL1.out _).mono ?_
        rintro e w' ⟨rfl, rfl⟩
        go_wp2_with fail
        refine (HL2.out _).mono ?_
        rintro e w' ⟨rfl, rfl⟩
        go_wp2
        go_ret
        exact ⟨rfl, HB.out⟩
    · have p2' : decide (off + (nd : Int) ≤ 65536) = false := decide_eq_false p2
      rw [p2']
      go_enter Tryz.func129, Tryz.ntmps129
      go_wp2
      go_ret
      exact ⟨rfl, HB.out⟩
  · have p1' : decide (1 ≤ (nd : Int)) = false := decide_eq_false p1
    rw [p1']
    go_enter Tryz.func129, Tryz.ntmps129
    go_wp2
    go_ret
    exact ⟨rfl, HB.out⟩
set_option maxRecDepth 100000 in
set_option maxHeartbeats 4000000 in
theorem suits_k8 (r : Rc) (sa da : Option Addr) (ns nd sc dc : Nat) (w : World) (hns : r.spans.length = ns) (hnd : r.data.length = nd) (hm : nd ≤ 140737488355328) (hs : C.Ls w (.slice sa ns sc) r.spans) (ho : 0 ≤ r.off ∧ r.off ≤ 4611686018427387903) (hk : r.kind = 8) :
    Calls Tryz.prog 129 #[.agg (rcC r (.slice sa ns sc) (.slice da nd dc))] w fun e w' => e = .returned (.bool (suitB r)) ∧ Below w.heap.size w w' := by
  have HB : Hid (Below w.heap.size w (w.alloc (rcO r (.slice sa ns sc) (.slice da nd dc)))) := (Below.refl _ _).alloc (Nat.le_refl _) _
  have HS : Hid (suitB r = (decide (r.how ≤ 5))) := by unfold Hid suitB; rw [hk, if_neg (by decide), if_neg (by decide), if_neg (by decide), if_neg (by decide), if_neg (by decide), if_pos rfl]
  generalize suitB r = S at *
  obtain ⟨kind, org, num, peer, srv, off, red, size, how, spans, data⟩ := r
  simp only at HS ho hk
  subst hk
  clear hns hnd hs
  obtain ⟨ho0, ho1⟩ := ho
  rw [HS.out]
  go_enter Tryz.func129, Tryz.ntmps129
  go_wp2
  go_ret
  exact ⟨rfl, HB.out⟩
set_option maxRecDepth 100000 in
set_option maxHeartbeats 4000000 in
theorem suits_k11 (r : Rc) (sa da : Option Addr) (ns nd sc dc : Nat) (w : World) (hns : r.spans.length = ns) (hnd : r.data.length = nd) (hm : nd ≤ 140737488355328) (hs : C.Ls w (.slice sa ns sc) r.spans) (ho : 0 ≤ r.off ∧ r.off ≤ 4611686018427387903) (hk : r.kind = 11) :
    Calls Tryz.prog 129 #[.agg (rcC r (.slice sa ns sc) (.slice da nd dc))] w fun e w' => e = .returned (.bool (suitB r)) ∧ Below w.heap.size w w' := by
  have HB : Hid (Below w.heap.size w (w.alloc (rcO r (.slice sa ns sc) (.slice da nd dc)))) := (Below.refl _ _).alloc (Nat.le_refl _) _
  have HT : Hid (Calls Tryz.prog 157 #[.slice sa ns sc] (w.alloc (rcO r (.slice sa ns sc) (.slice da nd dc))) fun e w' => e = .returned (.bool (tombB r.spans)) ∧ Below (w.alloc (rcO r (.slice sa ns sc) (.slice da nd dc))).heap.size (w.alloc (rcO r (.slice sa ns sc) (.slice da nd dc))) w') := areTombs_any r.spans sa ns sc _ hns (hs.below HB.out)
  have HS : Hid (suitB r = (decide (1 ≤ r.size) && tombB r.spans)) := by unfold Hid suitB; rw [hk, if_neg (by decide), if_neg (by decide), if_neg (by decide), if_neg (by decide), if_neg (by decide), if_neg (by decide), if_pos rfl]
  generalize suitB r = S at *
  generalize tombB r.spans = tb at *
  obtain ⟨kind, org, num, peer, srv, off, red, size, how, spans, data⟩ := r
  simp only at HS ho hk
  subst hk
  clear hns hnd hs
  obtain ⟨ho0, ho1⟩ := ho
  rw [HS.out]
  by_cases p1 : 1 ≤ size
  · have p1' : decide (1 ≤ size) = true := decide_eq_true p1
    rw [p1', Bool.true_and]
    go_enter Tryz.func129, Tryz.ntmps129
    go_wp2_with (go_at_call 157; refine HT.out.mono ?_; rintro e w2 ⟨rfl, hb2⟩)
    go_ret
    exact ⟨rfl, HB.out.trans (hb2.mono HB.out.size)⟩
  · have p1' : decide (1 ≤ size) = false := decide_eq_false p1
    rw [p1']
    go_enter Tryz.func129, Tryz.ntmps129
    go_wp2
    go_ret
    exact ⟨rfl, HB.out⟩
set_option maxRecDepth 100000 in
set_option maxHeartbeats 4000000 in
theorem suits_k12 (r : Rc) (sa da : Option Addr) (ns nd sc dc : Nat) (w : World) (hns : r.spans.length = ns) (hnd : r.data.length = nd) (hm : nd ≤ 140737488355328) (hs : C.Ls w (.slice sa ns sc) r.spans) (ho : 0 ≤ r.off ∧ r.off ≤ 4611686018427387903) (hk : r.kind = 12) :
    Calls Tryz.prog 129 #[.agg (rcC r (.slice sa ns sc) (.slice da nd dc))] w fun e w' => e = .returned (.bool (suitB r)) ∧ Below w.heap.size w w' := by
  have HB : Hid (Below w.heap.size w (w.alloc (rcO r (.slice sa ns sc) (.slice da nd dc)))) := (Below.refl _ _).alloc (Nat.le_refl _) _
  have HS : Hid (suitB r = ((decide (1 ≤ r.red) && decide (r.red ≤ 65536)) && lenB r.size r.red)) := by unfold Hid suitB; rw [hk, if_neg (by decide), if_neg (by decide), if_neg (by decide), if_neg (by decide), if_neg (by decide), if_neg (by decide), if_neg (by decide), if_pos rfl]
  generalize suitB r = S at *
  obtain ⟨kind, org, num, peer, srv, off, red, size, how, spans, data⟩ := r
  simp only at HS ho hk
  subst hk
  clear hns hnd hs
  obtain ⟨ho0, ho1⟩ := ho
  rw [HS.out]
  have HC : Hid (∀ W, Calls Tryz.prog 155 #[.int .i64 red, .int .i64 1, .int .i64 65536] W fun e w' => e = .returned (.bool (decide (1 ≤ red) && decide (red ≤ 65536))) ∧ W = w') := fun W => rbetween_any red 1 65536 W
  generalize (decide (1 ≤ red) && decide (red ≤ 65536)) = b2 at *
  cases b2 with
  | false =>
    go_enter Tryz.func129, Tryz.ntmps129
    go_wp2_with (go_at_call 155; refine (HC.out _).mono ?_; rintro e w' ⟨rfl, rfl⟩)
    go_ret
    exact ⟨rfl, HB.out⟩
  | true =>
    go_enter Tryz.func129, Tryz.ntmps129
    go_wp2_with (first | (go_at_call 155; refine (HC.out _).mono ?_; rintro e w' ⟨rfl, rfl⟩) | (go_at_call 156; refine (isLength_any _ _ _).mono ?_; rintro e w' ⟨rfl, rfl⟩))
    go_ret
    exact ⟨rfl, HB.out⟩
set_option maxRecDepth 100000 in
set_option maxHeartbeats 4000000 in
theorem suits_no (r : Rc) (sa da : Option Addr) (ns nd sc dc : Nat) (w : World) (hns : r.spans.length = ns) (hnd : r.data.length = nd) (hm : nd ≤ 140737488355328) (hs : C.Ls w (.slice sa ns sc) r.spans) (ho : 0 ≤ r.off ∧ r.off ≤ 4611686018427387903) (hk : r.kind ≠ 1 ∧ r.kind ≠ 2 ∧ r.kind ≠ 3 ∧ r.kind ≠ 4 ∧ r.kind ≠ 6 ∧ r.kind ≠ 8 ∧ r.kind ≠ 11 ∧ r.kind ≠ 12) :
    Calls Tryz.prog 129 #[.agg (rcC r (.slice sa ns sc) (.slice da nd dc))] w fun e w' => e = .returned (.bool (suitB r)) ∧ Below w.heap.size w w' := by
  have HB : Hid (Below w.heap.size w (w.alloc (rcO r (.slice sa ns sc) (.slice da nd dc)))) := (Below.refl _ _).alloc (Nat.le_refl _) _
  obtain ⟨k1, k2, k3, k4, k6, k8, k11, k12⟩ := hk
  have HS : Hid (suitB r = true) := by unfold Hid suitB; rw [if_neg k1, if_neg k2, if_neg k3, if_neg k4, if_neg k6, if_neg k8, if_neg k11, if_neg k12]
  rw [HS.out]
  clear HS hs
  go_enter Tryz.func129, Tryz.ntmps129
  go_wp2
  go_ret
  exact ⟨rfl, HB.out⟩
theorem suits_any (r : Rc) (sa da : Option Addr) (ns nd sc dc : Nat) (w : World) (hns : r.spans.length = ns) (hnd : r.data.length = nd) (hm : nd ≤ 140737488355328) (hs : C.Ls w (.slice sa ns sc) r.spans) (ho : 0 ≤ r.off ∧ r.off ≤ 4611686018427387903) :
    Calls Tryz.prog 129 #[.agg (rcC r (.slice sa ns sc) (.slice da nd dc))] w fun e w' => e = .returned (.bool (suitB r)) ∧ Below w.heap.size w w' := by
  by_cases k1 : r.kind = 1
  · exact suits_k1 r sa da ns nd sc dc w hns hnd hm hs ho k1
  by_cases k2 : r.kind = 2
  · exact suits_k2 r sa da ns nd sc dc w hns hnd hm hs ho k2
  by_cases k3 : r.kind = 3
  · exact suits_k3 r sa da ns nd sc dc w hns hnd hm hs ho k3
  by_cases k4 : r.kind = 4
  · exact suits_k4 r sa da ns nd sc dc w hns hnd hm hs ho k4
  by_cases k6 : r.kind = 6
  · exact suits_k6 r sa da ns nd sc dc w hns hnd hm hs ho k6
  by_cases k8 : r.kind = 8
  · exact suits_k8 r sa da ns nd sc dc w hns hnd hm hs ho k8
  by_cases k11 : r.kind = 11
  · exact suits_k11 r sa da ns nd sc dc w hns hnd hm hs ho k11
  by_cases k12 : r.kind = 12
  · exact suits_k12 r sa da ns nd sc dc w hns hnd hm hs ho k12
  exact suits_no r sa da ns nd sc dc w hns hnd hm hs ho ⟨k1, k2, k3, k4, k6, k8, k11, k12⟩
end Go.Proofs.YtillgoegiplmkaaGreatDoor

namespace Go.Proofs.YtillgoegiplmkaaGreatDoor
open Go.RowKit

/-- May a record be? -/
def mayB6 (r : Rc) : Bool := (kf r.kind != 0) && (allowB (kf r.kind) r && suitB r)
theorem okN_bd {f : Int} {i : Nat} {n : Int} (h : okN f i n = true) : 0 ≤ n ∧ n ≤ 4611686018427387903 := by
  unfold okN at h
  split at h
  · unfold numB at h
    split at h
    · simp at h; omega
    · split at h
      · simp at h; omega
      · simp at h; omega
  · simp at h; omega
theorem okNs_at {f : Int} {r : Rc} {k i : Nat} (h : okNs f r k = true) (hi : i < k) : okN f i (nmA r i) = true := by
  unfold okNs at h
  rw [List.all_eq_true] at h
  exact h i (List.mem_range.mpr hi)
theorem allow_nums {f : Int} {r : Rc} (h : allowB f r = true) : okNs f r 8 = true := by
  unfold allowB at h
  rw [Bool.and_eq_true] at h
  exact h.1

set_option maxRecDepth 100000 in
set_option maxHeartbeats 2000000 in
theorem mayBe_any (r : Rc) (sa da : Option Addr) (ns nd sc dc : Nat) (w : World) (hT : Tab6 w) (hns : r.spans.length = ns) (hnd : r.data.length = nd) (hm : nd ≤ 140737488355328) (hs : C.Ls w (.slice sa ns sc) r.spans) :
    Calls Tryz.prog 70 #[.agg (rcC r (.slice sa ns sc) (.slice da nd dc))] w fun e w' => e = .returned (.bool (mayB6 r)) ∧ Below w.heap.size w w' := by
  have HB : Hid (Below w.heap.size w (w.alloc (rcO r (.slice sa ns sc) (.slice da nd dc)))) := (Below.refl _ _).alloc (Nat.le_refl _) _
  have HX : Hid ((w.alloc (rcO r (.slice sa ns sc) (.slice da nd dc))).heap[w.heap.size]? = some (rcO r (.slice sa ns sc) (.slice da nd dc))) := heap_new6 w _
  have HF : Hid (Calls Tryz.prog 127 #[.int .i64 r.kind] (w.alloc (rcO r (.slice sa ns sc) (.slice da nd dc))) fun e w' => e = .returned (.int .u16 (kf r.kind)) ∧ (w.alloc (rcO r (.slice sa ns sc) (.slice da nd dc))) = w') := fieldsOf_any r.kind _ (hT.below HB.out (tab6_pos hT))
  have HA : Hid (∀ W, Calls Tryz.prog 128 #[.int .u16 (kf r.kind), .agg (rcC r (.slice sa ns sc) (.slice da nd dc))] W fun e w' => e = .returned (.bool (allowB (kf r.kind) r)) ∧ Below W.heap.size W w') := fun W => by
    have := allow_any (kf r.kind) r sa da sc dc W
    rw [hns, hnd] at this; exact this
  have HS : Hid (allowB (kf r.kind) r = true → ∀ W, Below w.heap.size w W → Calls Tryz.prog 129 #[.agg (rcC r (.slice sa ns sc) (.slice da nd dc))] W fun e w' => e = .returned (.bool (suitB r)) ∧ Below W.heap.size W w') := fun h W hW => suits_any r sa da ns nd sc dc W hns hnd hm (hs.below hW) (okN_bd (i := 4) (okNs_at (allow_nums h) (by omega)))
  have HM : Hid (mayB6 r = ((kf r.kind != 0) && (allowB (kf r.kind) r && suitB r))) := rfl
  clear hT hs hns hnd
  generalize kf r.kind = f at *
  generalize mayB6 r = M at *
  generalize suitB r = S at *
  generalize allowB f r = A at *
  by_cases hf : f = 0
  · subst hf
    rw [HM.out]
    clear HM HS HA
    go_enter Tryz.func70, Tryz.ntmps70
    go_wp2_with (go_at_call 127; refine HF.out.mono ?_; rintro e w1 ⟨rfl, rfl⟩)
    go_ret
    exact ⟨rfl, HB.out⟩
  · have hf' : (f != 0) = true := by simpa using hf
    rw [hf', Bool.true_and] at HM
    rw [HM.out]
    clear HM
    cases A with
    | false =>
      clear HS
      go_enter Tryz.func70, Tryz.ntmps70
      go_wp2_with (first | (go_at_call 127; refine HF.out.mono ?_; rintro e w1 ⟨rfl, rfl⟩) | (go_at_call 128; refine (HA.out _).mono ?_; rintro e w2 ⟨rfl, hb2⟩))
      go_ret
      exact ⟨rfl, HB.out.trans (hb2.mono HB.out.size)⟩
    | true =>
      have HS' : Hid (∀ W, Below w.heap.size w W → Calls Tryz.prog 129 #[.agg (rcC r (.slice sa ns sc) (.slice da nd dc))] W fun e w' => e = .returned (.bool S) ∧ Below W.heap.size W w') := HS.out rfl
      clear HS
      go_enter Tryz.func70, Tryz.ntmps70
      go_wp2_with (first | (go_at_call 127; refine HF.out.mono ?_; rintro e w1 ⟨rfl, rfl⟩) | (go_at_call 128; refine (HA.out _).mono ?_; rintro e w2 ⟨rfl, hb2⟩; have HB2 : Hid (Below w.heap.size w w2) := HB.out.trans (hb2.mono HB.out.size); have HX2 : w2.heap[w.heap.size]? = some (rcO r (.slice sa ns sc) (.slice da nd dc)) := (hb2.block _ (by simp)).trans HX.out; obtain ⟨c0, c1, c2, c3, c4, c5, c6, c7, c8, c9, c10⟩ := rc_cells HX2; clear hb2 HX2) | (go_at_call 129; refine (HS'.out _ HB2.out).mono ?_; rintro e w3 ⟨rfl, hb3⟩))
      go_ret
      exact ⟨by simp, HB2.out.trans (hb3.mono HB2.out.size)⟩

/-- Spans as bytes. -/
def spB1 (p : Int × Int) : List Int := enc p.1 ++ enc (p.2 - p.1)
def spB (l : List (Int × Int)) : List Int := enc l.length ++ l.flatMap spB1
def SpOk (l : List (Int × Int)) : Prop := ∀ p ∈ l, 0 ≤ p.1 ∧ p.1 ≤ p.2 ∧ p.2 ≤ 4611686018427387903
/-- Where spans that came in lie, whatever is written above. -/
def SpIn (w0 : World) (a : Option Addr) (l : List (Int × Int)) : Prop := ∀ W, Below w0.heap.size w0 W → C.Spa W a l

end Go.Proofs.YtillgoegiplmkaaGreatDoor
