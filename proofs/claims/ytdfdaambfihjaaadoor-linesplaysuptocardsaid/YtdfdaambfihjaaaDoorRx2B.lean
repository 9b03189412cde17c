import Derived.Test.YtdfdaambfihjaaaDoorRx1
namespace Go.Proofs.YtdfdaambfihjaaaDoor
open Go.RowKit
set_option linter.unusedVariables false
set_option linter.unusedSimpArgs false

set_option maxRecDepth 100000 in
set_option maxHeartbeats 16000000 in
theorem rqF_7 (s : Sg) (ah at2 ad ac : Option Addr) (nh ch nt ct nd cd nc cc : Nat) (hx tx : List Xr) (w : World) (hs : SIn w s (.slice ah nh ch) (.slice at2 nt ct) (.slice ad nd cd) (.slice ac nc cc) hx tx) (hnd : s.data.length = nd) (hnc : s.clm.length = nc) (ht : s.typ = 1 ∨ s.typ = 2 ∨ s.typ = 3) :
    Calls Tryd.prog 71 #[.agg (svC s (.slice ah nh ch) (.slice at2 nt ct) (.slice ad nd cd) (.slice ac nc cc))] w fun e w' => e = .returned (.bool (may 7 s hx tx)) ∧ Below w.heap.size w w' := by
  obtain ⟨qm, hqm⟩ : ∃ q, may 7 s hx tx = q := ⟨_, rfl⟩
  have HM : Hid (qm = true ↔ ((1 ≤ s.org ∧ s.org ≤ 4611686018427387903) ∧ (1 ≤ s.num ∧ s.num ≤ 4611686018427387902) ∧ xsOk hx = true ∧ xsOk tx = true ∧ (0 ≤ s.srv ∧ s.srv ≤ 4611686018427387903) ∧ (1 ≤ (s.data.length : Int) ∧ (s.data.length : Int) ≤ 65536) ∧ (0 ≤ s.off ∧ s.off ≤ 65536 - (s.data.length : Int)) ∧ (1 ≤ s.chk ∧ s.chk ≤ 4611686018427387903) ∧ (0 ≤ s.rep ∧ s.rep ≤ 4611686018427387903) ∧ s.upp = 0 ∧ s.low = 0 ∧ (s.clm.length : Int) = 0 ∧ clOk s.upp s.low s.clm = true ∧ s.rsn = 0)) := by show _ ↔ _; rw [← hqm]; exact may_sh7 s hx tx
  rw [hqm]
  have HND : Hid (s.data.length = nd) := hnd
  have HNC : Hid (s.clm.length = nc) := hnc
  have hdm : nd ≤ 1048576 := by rw [← hnd]; exact hs.data.small
  have hcm : nc ≤ 1048576 := by rw [← hnc]; exact hs.clm.small
  obtain ⟨W, hW⟩ : ∃ W, w.alloc (.cells (svC s (.slice ah nh ch) (.slice at2 nt ct) (.slice ad nd cd) (.slice ac nc cc)) 37) = W := ⟨_, rfl⟩
  have HWe : Hid (w.alloc (.cells (svC s (.slice ah nh ch) (.slice at2 nt ct) (.slice ad nd cd) (.slice ac nc cc)) 37) = W) := hW
  have hbW : Below w.heap.size w W := by rw [← hW]; exact (Below.refl _ _).alloc (Nat.le_refl _) _
  have HBW : Hid (Below w.heap.size w W) := hbW
  have HR : Hid (∀ V, Below W.heap.size W V → V.heap[w.heap.size]? = some (.cells (svC s (.slice ah nh ch) (.slice at2 nt ct) (.slice ad nd cd) (.slice ac nc cc)) 37 (0, 0))) := fun V hV => by
    have h1 : W.heap[w.heap.size]? = some (.cells (svC s (.slice ah nh ch) (.slice at2 nt ct) (.slice ad nd cd) (.slice ac nc cc)) 37 (0, 0)) := by rw [← hW]; exact al_new _ _
    exact (hV.block _ (Array.getElem?_eq_some_iff.1 h1).1).trans h1
  obtain ⟨qs, hqs⟩ : ∃ q, decide ((1 ≤ s.org ∧ s.org ≤ 4611686018427387903) ∧ (1 ≤ s.num ∧ s.num ≤ 4611686018427387902)) = q := ⟨_, rfl⟩
  have HQS : Hid (qs = true ↔ ((1 ≤ s.org ∧ s.org ≤ 4611686018427387903) ∧ (1 ≤ s.num ∧ s.num ≤ 4611686018427387902))) := by show _ ↔ _; rw [← hqs, decide_eq_true_eq]
  have hSe := rqSession_any s.org s.num W
  rw [hqs] at hSe
  obtain ⟨qh, hqh⟩ : ∃ q, xsOk hx = q := ⟨_, rfl⟩
  have HQH : Hid (xsOk hx = qh) := hqh
  have HEh : Hid (∀ V, Below W.heap.size W V → Calls Tryd.prog 84 #[(.slice ah nh ch)] V fun e w' => e = .returned (.bool qh) ∧ V = w') := fun V hV => rqExts_any _ hx V ((hs.head.below hbW).below hV) qh hqh
  obtain ⟨qt, hqt⟩ : ∃ q, xsOk tx = q := ⟨_, rfl⟩
  have HQT : Hid (xsOk tx = qt) := hqt
  have HEt : Hid (∀ V, Below W.heap.size W V → Calls Tryd.prog 84 #[(.slice at2 nt ct)] V fun e w' => e = .returned (.bool qt) ∧ V = w') := fun V hV => rqExts_any _ tx V ((hs.tail.below hbW).below hV) qt hqt
  have hD : ∀ V, Calls Tryd.prog 85 #[.int .i64 s.typ] V fun e w' => e = .returned (.bool true) ∧ V = w' := fun V => by
    exact rqDa_1 _ V (by omega) (by omega)
  have hK : ∀ V, Calls Tryd.prog 86 #[.int .i64 s.typ] V fun e w' => e = .returned (.bool true) ∧ V = w' := fun V => by
    exact rqCh_1 _ V (by omega) (by omega)
  obtain ⟨qv, hqv⟩ : ∃ q, decide (0 ≤ s.srv ∧ s.srv ≤ 4611686018427387903) = q := ⟨_, rfl⟩
  have HQv : Hid (qv = true ↔ (0 ≤ s.srv ∧ s.srv ≤ 4611686018427387903)) := by show _ ↔ _; rw [← hqv, decide_eq_true_eq]
  have hNv : ∀ V, Calls Tryd.prog 87 #[.int .i64 s.srv] V fun e w' => e = .returned (.bool qv) ∧ V = w' := fun V => rqNumber_v _ V _ hqv
  obtain ⟨qc, hqc⟩ : ∃ q, decide (0 ≤ s.chk ∧ s.chk ≤ 4611686018427387903) = q := ⟨_, rfl⟩
  have HQc : Hid (qc = true ↔ (0 ≤ s.chk ∧ s.chk ≤ 4611686018427387903)) := by show _ ↔ _; rw [← hqc, decide_eq_true_eq]
  have hNc : ∀ V, Calls Tryd.prog 87 #[.int .i64 s.chk] V fun e w' => e = .returned (.bool qc) ∧ V = w' := fun V => rqNumber_v _ V _ hqc
  obtain ⟨qr, hqr⟩ : ∃ q, decide (0 ≤ s.rep ∧ s.rep ≤ 4611686018427387903) = q := ⟨_, rfl⟩
  have HQr : Hid (qr = true ↔ (0 ≤ s.rep ∧ s.rep ≤ 4611686018427387903)) := by show _ ↔ _; rw [← hqr, decide_eq_true_eq]
  have hNr : ∀ V, Calls Tryd.prog 87 #[.int .i64 s.rep] V fun e w' => e = .returned (.bool qr) ∧ V = w' := fun V => rqNumber_v _ V _ hqr
  have t8 : (s.typ == 8) = false := by simp; omega
  have u8 : (s.typ != 8) = true := by simp; omega
  have t9 : (s.typ == 9) = false := by simp; omega
  have u9 : (s.typ != 9) = true := by simp; omega
  have t12 : (s.typ == 12) = false := by simp; omega
  have u12 : (s.typ != 12) = true := by simp; omega
  have t14 : (s.typ == 14) = false := by simp; omega
  have u14 : (s.typ != 14) = true := by simp; omega
  have HBad : Hid ((qm = true → False) → qm = false) := fun h => Bool.eq_false_iff.mpr h
  obtain ⟨y0, y1, y2, y3, y4, y5, y6, y7, y8, y9, y10, y11, y12, y13⟩ := s14_cells (HR.out W (Below.refl _ _))
  clear hW hbW hqm hqs hqh hqt hqc hqr hnd hnc hqv hs ht
  go_enter Tryd.func71, Tryd.ntmps71
  go_wp2_with fail
  rw [HWe.out]
  refine hSe.mono ?_
  rintro e w1 ⟨rfl, hb1⟩
  clear y0 y1 y2 y3 y4 y5 y6 y7 y8 y9 y10 y11 y12 y13 hSe
  obtain ⟨y0, y1, y2, y3, y4, y5, y6, y7, y8, y9, y10, y11, y12, y13⟩ := s14_cells (HR.out w1 hb1)
  have HB1 : Hid (Below W.heap.size W w1) := hb1
  have HF1 : Hid (Below w.heap.size w w1) := HBW.out.trans (hb1.mono HBW.out.size)
  clear hb1
  go_wp2_with fail
  refine (HEh.out w1 HB1.out).mono ?_
  rintro e w1' ⟨rfl, hw1⟩
  subst hw1
  go_wp2_with fail
  refine (HEt.out w1 HB1.out).mono ?_
  rintro e w1' ⟨rfl, hw1⟩
  subst hw1
  cases qs with
  | false =>
    have HV : Hid (qm = false) := HBad.out fun hm => by
      obtain ⟨p0, p1, p2, p3, p4, p5, p6, p7, p8, p9, p10, p11, p12, p13⟩ := HM.out.mp hm
      have := HQS.out.mpr ⟨p0, p1⟩; cases this
    go_wp2
    go_ret
    exact ⟨retB HV.out, HF1.out⟩
  | true =>
  cases qh with
  | false =>
    have HV : Hid (qm = false) := HBad.out fun hm => by
      obtain ⟨p0, p1, p2, p3, p4, p5, p6, p7, p8, p9, p10, p11, p12, p13⟩ := HM.out.mp hm
      rw [HQH.out] at p2; cases p2
    go_wp2
    go_ret
    exact ⟨retB HV.out, HF1.out⟩
  | true =>
  cases qt with
  | false =>
    have HV : Hid (qm = false) := HBad.out fun hm => by
      obtain ⟨p0, p1, p2, p3, p4, p5, p6, p7, p8, p9, p10, p11, p12, p13⟩ := HM.out.mp hm
      rw [HQT.out] at p3; cases p3
    go_wp2
    go_ret
    exact ⟨retB HV.out, HF1.out⟩
  | true =>
  go_wp2_with fail
  refine (hD _).mono ?_
  rintro e w1' ⟨rfl, hw1⟩
  subst hw1
  go_wp2_with fail
  refine (hK _).mono ?_
  rintro e w1' ⟨rfl, hw1⟩
  subst hw1
  go_wp2_with fail
  refine (hNv _).mono ?_
  rintro e w1' ⟨rfl, hw1⟩
  subst hw1
  cases qv with
  | false =>
    have HV : Hid (qm = false) := HBad.out fun hm => by
      obtain ⟨p0, p1, p2, p3, p4, p5, p6, p7, p8, p9, p10, p11, p12, p13⟩ := HM.out.mp hm
      have := HQv.out.mpr p4; cases this
    go_wp2
    go_ret
    exact ⟨retB HV.out, HF1.out⟩
  | true =>
  by_cases c5 : (nd : Int) < 1
  · have c5' : decide ((nd : Int) < 1) = true := by simp [c5]
    have HV : Hid (qm = false) := HBad.out fun hm => by
      obtain ⟨p0, p1, p2, p3, p4, p5, p6, p7, p8, p9, p10, p11, p12, p13⟩ := HM.out.mp hm
      have := HND.out; omega
    go_wp2
    go_ret
    exact ⟨retB HV.out, HF1.out⟩
  have c5' : decide ((nd : Int) < 1) = false := decide_eq_false c5
  by_cases c6 : s.off < 0
  · have c6' : decide (s.off < 0) = true := by simp [c6]
    have HV : Hid (qm = false) := HBad.out fun hm => by
      obtain ⟨p0, p1, p2, p3, p4, p5, p6, p7, p8, p9, p10, p11, p12, p13⟩ := HM.out.mp hm
      have := HND.out; omega
    go_wp2
    go_ret
    exact ⟨retB HV.out, HF1.out⟩
  have c6' : decide (s.off < 0) = false := decide_eq_false c6
  by_cases c7 : (65536 : Int) < s.off
  · have c7' : decide ((65536 : Int) < s.off) = true := by simp [c7]
    have HV : Hid (qm = false) := HBad.out fun hm => by
      obtain ⟨p0, p1, p2, p3, p4, p5, p6, p7, p8, p9, p10, p11, p12, p13⟩ := HM.out.mp hm
      have := HND.out; omega
    go_wp2
    go_ret
    exact ⟨retB HV.out, HF1.out⟩
  have c7' : decide ((65536 : Int) < s.off) = false := decide_eq_false c7
  have hwo : IntKind.i64.wrap (s.off + (nd : Int)) = s.off + (nd : Int) := by rw [IntKind.wrap_i64]; omega
  by_cases c8 : (65536 : Int) < s.off + (nd : Int)
  · have c8' : decide ((65536 : Int) < s.off + (nd : Int)) = true := by simp [c8]
    have HV : Hid (qm = false) := HBad.out fun hm => by
      obtain ⟨p0, p1, p2, p3, p4, p5, p6, p7, p8, p9, p10, p11, p12, p13⟩ := HM.out.mp hm
      have := HND.out; omega
    go_wp2
    go_ret
    exact ⟨retB HV.out, HF1.out⟩
  have c8' : decide ((65536 : Int) < s.off + (nd : Int)) = false := decide_eq_false c8
  have K5 : Hid (1 ≤ nd ∧ 0 ≤ s.off ∧ s.off + (nd : Int) ≤ 65536) := by show _ ∧ _ ∧ _; omega
  go_upto_region 14 with fail
  clear c5 c5' c6 c6' c7 c7' c8 c8' hwo
  go_wp2_with fail
  refine (hNc _).mono ?_
  rintro e w1' ⟨rfl, hw1⟩
  subst hw1
  go_wp2_with fail
  refine (hNr _).mono ?_
  rintro e w1' ⟨rfl, hw1⟩
  subst hw1
  cases qc with
  | false =>
    have HV : Hid (qm = false) := HBad.out fun hm => by
      obtain ⟨p0, p1, p2, p3, p4, p5, p6, p7, p8, p9, p10, p11, p12, p13⟩ := HM.out.mp hm
      have := HQc.out.mpr (by omega); cases this
    go_wp2
    go_ret
    exact ⟨retB HV.out, HF1.out⟩
  | true =>
  cases qr with
  | false =>
    have HV : Hid (qm = false) := HBad.out fun hm => by
      obtain ⟨p0, p1, p2, p3, p4, p5, p6, p7, p8, p9, p10, p11, p12, p13⟩ := HM.out.mp hm
      have := HQr.out.mpr (by omega); cases this
    go_wp2
    go_ret
    exact ⟨retB HV.out, HF1.out⟩
  | true =>
  by_cases k7 : s.chk < 1
  · have k7' : decide (s.chk < 1) = true := by simp [k7]
    have HV : Hid (qm = false) := HBad.out fun hm => by
      obtain ⟨p0, p1, p2, p3, p4, p5, p6, p7, p8, p9, p10, p11, p12, p13⟩ := HM.out.mp hm
      omega
    go_wp2
    go_ret
    exact ⟨retB HV.out, HF1.out⟩
  have k7' : decide (s.chk < 1) = false := decide_eq_false k7
  by_cases a1 : s.upp = 0
  rotate_left
  · have a1' : (s.upp != 0) = true := bne_iff_ne.mpr a1
    have HV : Hid (qm = false) := HBad.out fun hm => by
      obtain ⟨p0, p1, p2, p3, p4, p5, p6, p7, p8, p9, p10, p11, p12, p13⟩ := HM.out.mp hm
      omega
    go_wp2
    go_ret
    exact ⟨retB HV.out, HF1.out⟩
  have a1' : (s.upp != 0) = false := by rw [a1]; rfl
  by_cases a2 : s.low = 0
  rotate_left
  · have a2' : (s.low != 0) = true := bne_iff_ne.mpr a2
    have HV : Hid (qm = false) := HBad.out fun hm => by
      obtain ⟨p0, p1, p2, p3, p4, p5, p6, p7, p8, p9, p10, p11, p12, p13⟩ := HM.out.mp hm
      omega
    go_wp2
    go_ret
    exact ⟨retB HV.out, HF1.out⟩
  have a2' : (s.low != 0) = false := by rw [a2]; rfl
  by_cases a3 : (nc : Int) = 0
  rotate_left
  · have a3' : ((nc : Int) != 0) = true := bne_iff_ne.mpr a3
    have HV : Hid (qm = false) := HBad.out fun hm => by
      obtain ⟨p0, p1, p2, p3, p4, p5, p6, p7, p8, p9, p10, p11, p12, p13⟩ := HM.out.mp hm
      have := HNC.out; omega
    go_wp2
    go_ret
    exact ⟨retB HV.out, HF1.out⟩
  have a3' : ((nc : Int) != 0) = false := by rw [a3]; rfl
  by_cases z : s.rsn = 0
  rotate_left
  · have z' : (s.rsn == 0) = false := by simp [z]
    have HV : Hid (qm = false) := HBad.out fun hm => by
      obtain ⟨p0, p1, p2, p3, p4, p5, p6, p7, p8, p9, p10, p11, p12, p13⟩ := HM.out.mp hm
      omega
    go_wp2
    go_ret
    exact ⟨retB HV.out, HF1.out⟩
  have z' : (s.rsn == 0) = true := by simp [z]
  have HV : Hid (qm = true) := by
    have k0 := HQS.out.mp (by trivial)
    have k5 := K5.out
    have kc := HQc.out.mp (by trivial)
    have kr := HQr.out.mp (by trivial)
    have knd := HND.out
    exact HM.out.mpr ⟨k0.1, k0.2, HQH.out, HQT.out, HQv.out.mp (by trivial), by omega, by omega, by omega, by omega, by omega, by omega, by have := HNC.out; omega, by rw [List.eq_nil_of_length_eq_zero (l := s.clm) (by rw [HNC.out]; omega)]; rfl, by omega⟩
  go_wp2
  go_ret
  exact ⟨retB HV.out, HF1.out⟩

end Go.Proofs.YtdfdaambfihjaaaDoor

namespace Go.Proofs.YtdfdaambfihjaaaDoor
open Go.RowKit
set_option linter.unusedVariables false
set_option linter.unusedSimpArgs false

set_option maxRecDepth 100000 in
set_option maxHeartbeats 16000000 in
theorem rqF_9 (s : Sg) (ah at2 ad ac : Option Addr) (nh ch nt ct nd cd nc cc : Nat) (hx tx : List Xr) (w : World) (hs : SIn w s (.slice ah nh ch) (.slice at2 nt ct) (.slice ad nd cd) (.slice ac nc cc) hx tx) (hnd : s.data.length = nd) (hnc : s.clm.length = nc) (ht : s.typ = 8) :
    Calls Tryd.prog 71 #[.agg (svC s (.slice ah nh ch) (.slice at2 nt ct) (.slice ad nd cd) (.slice ac nc cc))] w fun e w' => e = .returned (.bool (may 9 s hx tx)) ∧ Below w.heap.size w w' := by
  obtain ⟨qm, hqm⟩ : ∃ q, may 9 s hx tx = q := ⟨_, rfl⟩
  have HM : Hid (qm = true ↔ ((1 ≤ s.org ∧ s.org ≤ 4611686018427387903) ∧ (1 ≤ s.num ∧ s.num ≤ 4611686018427387902) ∧ xsOk hx = true ∧ xsOk tx = true ∧ s.srv = 0 ∧ (s.data.length : Int) = 0 ∧ s.off = 0 ∧ (0 ≤ s.chk ∧ s.chk ≤ 4611686018427387903) ∧ (1 ≤ s.rep ∧ s.rep ≤ 4611686018427387903) ∧ (1 ≤ s.upp ∧ s.upp ≤ 65536) ∧ (0 ≤ s.low ∧ s.low ≤ s.upp - 1) ∧ (1 ≤ (s.clm.length : Int) ∧ (s.clm.length : Int) ≤ 1000) ∧ clOk s.upp s.low s.clm = true ∧ s.rsn = 0)) := by show _ ↔ _; rw [← hqm]; exact may_sh9 s hx tx
  rw [hqm]
  have HND : Hid (s.data.length = nd) := hnd
  have HNC : Hid (s.clm.length = nc) := hnc
  have hdm : nd ≤ 1048576 := by rw [← hnd]; exact hs.data.small
  have hcm : nc ≤ 1048576 := by rw [← hnc]; exact hs.clm.small
  obtain ⟨W, hW⟩ : ∃ W, w.alloc (.cells (svC s (.slice ah nh ch) (.slice at2 nt ct) (.slice ad nd cd) (.slice ac nc cc)) 37) = W := ⟨_, rfl⟩
  have HWe : Hid (w.alloc (.cells (svC s (.slice ah nh ch) (.slice at2 nt ct) (.slice ad nd cd) (.slice ac nc cc)) 37) = W) := hW
  have hbW : Below w.heap.size w W := by rw [← hW]; exact (Below.refl _ _).alloc (Nat.le_refl _) _
  have HBW : Hid (Below w.heap.size w W) := hbW
  have HR : Hid (∀ V, Below W.heap.size W V → V.heap[w.heap.size]? = some (.cells (svC s (.slice ah nh ch) (.slice at2 nt ct) (.slice ad nd cd) (.slice ac nc cc)) 37 (0, 0))) := fun V hV => by
    have h1 : W.heap[w.heap.size]? = some (.cells (svC s (.slice ah nh ch) (.slice at2 nt ct) (.slice ad nd cd) (.slice ac nc cc)) 37 (0, 0)) := by rw [← hW]; exact al_new _ _
    exact (hV.block _ (Array.getElem?_eq_some_iff.1 h1).1).trans h1
  obtain ⟨qs, hqs⟩ : ∃ q, decide ((1 ≤ s.org ∧ s.org ≤ 4611686018427387903) ∧ (1 ≤ s.num ∧ s.num ≤ 4611686018427387902)) = q := ⟨_, rfl⟩
  have HQS : Hid (qs = true ↔ ((1 ≤ s.org ∧ s.org ≤ 4611686018427387903) ∧ (1 ≤ s.num ∧ s.num ≤ 4611686018427387902))) := by show _ ↔ _; rw [← hqs, decide_eq_true_eq]
  have hSe := rqSession_any s.org s.num W
  rw [hqs] at hSe
  obtain ⟨qh, hqh⟩ : ∃ q, xsOk hx = q := ⟨_, rfl⟩
  have HQH : Hid (xsOk hx = qh) := hqh
  have HEh : Hid (∀ V, Below W.heap.size W V → Calls Tryd.prog 84 #[(.slice ah nh ch)] V fun e w' => e = .returned (.bool qh) ∧ V = w') := fun V hV => rqExts_any _ hx V ((hs.head.below hbW).below hV) qh hqh
  obtain ⟨qt, hqt⟩ : ∃ q, xsOk tx = q := ⟨_, rfl⟩
  have HQT : Hid (xsOk tx = qt) := hqt
  have HEt : Hid (∀ V, Below W.heap.size W V → Calls Tryd.prog 84 #[(.slice at2 nt ct)] V fun e w' => e = .returned (.bool qt) ∧ V = w') := fun V hV => rqExts_any _ tx V ((hs.tail.below hbW).below hV) qt hqt
  have hD : ∀ V, Calls Tryd.prog 85 #[.int .i64 s.typ] V fun e w' => e = .returned (.bool false) ∧ V = w' := fun V => by
    exact rqDa_4 _ V (by omega)
  have hK : ∀ V, Calls Tryd.prog 86 #[.int .i64 s.typ] V fun e w' => e = .returned (.bool false) ∧ V = w' := fun V => by
    exact rqCh_2 _ V (by omega)
  obtain ⟨qc, hqc⟩ : ∃ q, decide (0 ≤ s.chk ∧ s.chk ≤ 4611686018427387903) = q := ⟨_, rfl⟩
  have HQc : Hid (qc = true ↔ (0 ≤ s.chk ∧ s.chk ≤ 4611686018427387903)) := by show _ ↔ _; rw [← hqc, decide_eq_true_eq]
  have hNc : ∀ V, Calls Tryd.prog 87 #[.int .i64 s.chk] V fun e w' => e = .returned (.bool qc) ∧ V = w' := fun V => rqNumber_v _ V _ hqc
  obtain ⟨qr, hqr⟩ : ∃ q, decide (0 ≤ s.rep ∧ s.rep ≤ 4611686018427387903) = q := ⟨_, rfl⟩
  have HQr : Hid (qr = true ↔ (0 ≤ s.rep ∧ s.rep ≤ 4611686018427387903)) := by show _ ↔ _; rw [← hqr, decide_eq_true_eq]
  have hNr : ∀ V, Calls Tryd.prog 87 #[.int .i64 s.rep] V fun e w' => e = .returned (.bool qr) ∧ V = w' := fun V => rqNumber_v _ V _ hqr
  have hSc := fun V => rqScope_any s.low s.upp V
  obtain ⟨qo, hqo⟩ : ∃ q, decide (0 ≤ s.low ∧ s.low < s.upp ∧ s.upp ≤ 65536) = q := ⟨_, rfl⟩
  have HQo : Hid (qo = true ↔ (0 ≤ s.low ∧ s.low < s.upp ∧ s.upp ≤ 65536)) := by show _ ↔ _; rw [← hqo, decide_eq_true_eq]
  simp only [hqo] at hSc
  obtain ⟨ql, hql⟩ : ∃ q, (decide (1 ≤ nc ∧ nc ≤ 1000) && clOk s.upp s.low s.clm) = q := ⟨_, rfl⟩
  have HQl : Hid (ql = true ↔ (1 ≤ nc ∧ nc ≤ 1000) ∧ clOk s.upp s.low s.clm = true) := by show _ ↔ _; rw [← hql, Bool.and_eq_true, decide_eq_true_eq]
  have HCl : Hid (∀ V, Below W.heap.size W V → Calls Tryd.prog 89 #[.slice ac nc cc, .int .i64 s.low, .int .i64 s.upp] V fun e w' => e = .returned (.bool ql) ∧ Below V.heap.size V w') := fun V hV => rqClaims_any ac nc cc s.clm s.low s.upp V ((hs.clm.below hbW).below hV) hnc ql hql
  have t8 : (s.typ == 8) = true := by simp; omega
  have u8 : (s.typ != 8) = false := by simp; omega
  have t9 : (s.typ == 9) = false := by simp; omega
  have u9 : (s.typ != 9) = true := by simp; omega
  have t12 : (s.typ == 12) = false := by simp; omega
  have u12 : (s.typ != 12) = true := by simp; omega
  have t14 : (s.typ == 14) = false := by simp; omega
  have u14 : (s.typ != 14) = true := by simp; omega
  have HBad : Hid ((qm = true → False) → qm = false) := fun h => Bool.eq_false_iff.mpr h
  obtain ⟨y0, y1, y2, y3, y4, y5, y6, y7, y8, y9, y10, y11, y12, y13⟩ := s14_cells (HR.out W (Below.refl _ _))
  clear hW hbW hqm hqs hqh hqt hqc hqr hnd hnc hqo hql hs ht
  go_enter Tryd.func71, Tryd.ntmps71
  go_wp2_with fail
  rw [HWe.out]
  refine hSe.mono ?_
  rintro e w1 ⟨rfl, hb1⟩
  clear y0 y1 y2 y3 y4 y5 y6 y7 y8 y9 y10 y11 y12 y13 hSe
  obtain ⟨y0, y1, y2, y3, y4, y5, y6, y7, y8, y9, y10, y11, y12, y13⟩ := s14_cells (HR.out w1 hb1)
  have HB1 : Hid (Below W.heap.size W w1) := hb1
  have HF1 : Hid (Below w.heap.size w w1) := HBW.out.trans (hb1.mono HBW.out.size)
  clear hb1
  go_wp2_with fail
  refine (HEh.out w1 HB1.out).mono ?_
  rintro e w1' ⟨rfl, hw1⟩
  subst hw1
  go_wp2_with fail
  refine (HEt.out w1 HB1.out).mono ?_
  rintro e w1' ⟨rfl, hw1⟩
  subst hw1
  cases qs with
  | false =>
    have HV : Hid (qm = false) := HBad.out fun hm => by
      obtain ⟨p0, p1, p2, p3, p4, p5, p6, p7, p8, p9, p10, p11, p12, p13⟩ := HM.out.mp hm
      have := HQS.out.mpr ⟨p0, p1⟩; cases this
    go_wp2
    go_ret
    exact ⟨retB HV.out, HF1.out⟩
  | true =>
  cases qh with
  | false =>
    have HV : Hid (qm = false) := HBad.out fun hm => by
      obtain ⟨p0, p1, p2, p3, p4, p5, p6, p7, p8, p9, p10, p11, p12, p13⟩ := HM.out.mp hm
      rw [HQH.out] at p2; cases p2
    go_wp2
    go_ret
    exact ⟨retB HV.out, HF1.out⟩
  | true =>
  cases qt with
  | false =>
    have HV : Hid (qm = false) := HBad.out fun hm => by
      obtain ⟨p0, p1, p2, p3, p4, p5, p6, p7, p8, p9, p10, p11, p12, p13⟩ := HM.out.mp hm
      rw [HQT.out] at p3; cases p3
    go_wp2
    go_ret
    exact ⟨retB HV.out, HF1.out⟩
  | true =>
  go_wp2_with fail
  refine (hD _).mono ?_
  rintro e w1' ⟨rfl, hw1⟩
  subst hw1
  go_wp2_with fail
  refine (hK _).mono ?_
  rintro e w1' ⟨rfl, hw1⟩
  subst hw1
  by_cases c4 : s.srv = 0
  rotate_left
  · have c4' : (s.srv != 0) = true := bne_iff_ne.mpr c4
    have HV : Hid (qm = false) := HBad.out fun hm => by
      obtain ⟨p0, p1, p2, p3, p4, p5, p6, p7, p8, p9, p10, p11, p12, p13⟩ := HM.out.mp hm
      omega
    go_wp2
    go_ret
    exact ⟨retB HV.out, HF1.out⟩
  have c4' : (s.srv != 0) = false := by rw [c4]; rfl
  by_cases c6 : s.off = 0
  rotate_left
  · have c6' : (s.off != 0) = true := bne_iff_ne.mpr c6
    have HV : Hid (qm = false) := HBad.out fun hm => by
      obtain ⟨p0, p1, p2, p3, p4, p5, p6, p7, p8, p9, p10, p11, p12, p13⟩ := HM.out.mp hm
      omega
    go_wp2
    go_ret
    exact ⟨retB HV.out, HF1.out⟩
  have c6' : (s.off != 0) = false := by rw [c6]; rfl
  by_cases c5 : (nd : Int) = 0
  rotate_left
  · have c5' : ((nd : Int) != 0) = true := bne_iff_ne.mpr c5
    have HV : Hid (qm = false) := HBad.out fun hm => by
      obtain ⟨p0, p1, p2, p3, p4, p5, p6, p7, p8, p9, p10, p11, p12, p13⟩ := HM.out.mp hm
      have := HND.out; omega
    go_wp2
    go_ret
    exact ⟨retB HV.out, HF1.out⟩
  have c5' : ((nd : Int) != 0) = false := by rw [c5]; rfl
  have K5 : Hid (s.srv = 0 ∧ s.off = 0 ∧ nd = 0) := by show _ ∧ _ ∧ _; omega
  go_upto_region 14 with fail
  clear c4' c6' c5'
  go_wp2_with fail
  refine (hNc _).mono ?_
  rintro e w1' ⟨rfl, hw1⟩
  subst hw1
  go_wp2_with fail
  refine (hNr _).mono ?_
  rintro e w1' ⟨rfl, hw1⟩
  subst hw1
  cases qc with
  | false =>
    have HV : Hid (qm = false) := HBad.out fun hm => by
      obtain ⟨p0, p1, p2, p3, p4, p5, p6, p7, p8, p9, p10, p11, p12, p13⟩ := HM.out.mp hm
      have := HQc.out.mpr (by omega); cases this
    go_wp2
    go_ret
    exact ⟨retB HV.out, HF1.out⟩
  | true =>
  cases qr with
  | false =>
    have HV : Hid (qm = false) := HBad.out fun hm => by
      obtain ⟨p0, p1, p2, p3, p4, p5, p6, p7, p8, p9, p10, p11, p12, p13⟩ := HM.out.mp hm
      have := HQr.out.mpr (by omega); cases this
    go_wp2
    go_ret
    exact ⟨retB HV.out, HF1.out⟩
  | true =>
  by_cases k8 : s.rep < 1
  · have k8' : decide (s.rep < 1) = true := by simp [k8]
    have HV : Hid (qm = false) := HBad.out fun hm => by
      obtain ⟨p0, p1, p2, p3, p4, p5, p6, p7, p8, p9, p10, p11, p12, p13⟩ := HM.out.mp hm
      omega
    go_wp2
    go_ret
    exact ⟨retB HV.out, HF1.out⟩
  have k8' : decide (s.rep < 1) = false := decide_eq_false k8
  go_wp2_with fail
  refine (hSc _).mono ?_
  rintro e w1' ⟨rfl, hw1⟩
  subst hw1
  have hCl := HCl.out w1 HB1.out
  go_wp2_with fail
  refine hCl.mono ?_
  rintro e w2 ⟨rfl, hb2⟩
  have HB2 : Hid (Below W.heap.size W w2) := HB1.out.trans (hb2.mono HB1.out.size)
  have HF2 : Hid (Below w.heap.size w w2) := HBW.out.trans (HB2.out.mono HBW.out.size)
  clear y0 y1 y2 y3 y4 y5 y6 y7 y8 y9 y10 y11 y12 y13 hCl HCl
  obtain ⟨y0, y1, y2, y3, y4, y5, y6, y7, y8, y9, y10, y11, y12, y13⟩ := s14_cells (HR.out w2 HB2.out)
  clear hb2
  cases qo with
  | false =>
    have HV : Hid (qm = false) := HBad.out fun hm => by
      obtain ⟨p0, p1, p2, p3, p4, p5, p6, p7, p8, p9, p10, p11, p12, p13⟩ := HM.out.mp hm
      have := HQo.out.mpr (by omega); cases this
    go_wp2
    go_ret
    exact ⟨retB HV.out, HF2.out⟩
  | true =>
  cases ql with
  | false =>
    have HV : Hid (qm = false) := HBad.out fun hm => by
      obtain ⟨p0, p1, p2, p3, p4, p5, p6, p7, p8, p9, p10, p11, p12, p13⟩ := HM.out.mp hm
      have := HQl.out.mpr ⟨by have := HNC.out; omega, p12⟩; cases this
    go_wp2
    go_ret
    exact ⟨retB HV.out, HF2.out⟩
  | true =>
  by_cases z : s.rsn = 0
  rotate_left
  · have z' : (s.rsn == 0) = false := by simp [z]
    have HV : Hid (qm = false) := HBad.out fun hm => by
      obtain ⟨p0, p1, p2, p3, p4, p5, p6, p7, p8, p9, p10, p11, p12, p13⟩ := HM.out.mp hm
      omega
    go_wp2
    go_ret
    exact ⟨retB HV.out, HF2.out⟩
  have z' : (s.rsn == 0) = true := by simp [z]
  have HV : Hid (qm = true) := by
    have k0 := HQS.out.mp (by trivial)
    have k5 := K5.out
    have kc := HQc.out.mp (by trivial)
    have kr := HQr.out.mp (by trivial)
    have knd := HND.out
    exact HM.out.mpr ⟨k0.1, k0.2, HQH.out, HQT.out, by omega, by omega, by omega, by omega, by omega, by have := HQo.out.mp (by trivial); omega, by have := HQo.out.mp (by trivial); omega, by have := (HQl.out.mp (by trivial)).1; have := HNC.out; omega, (HQl.out.mp (by trivial)).2, by omega⟩
  go_wp2
  go_ret
  exact ⟨retB HV.out, HF2.out⟩

end Go.Proofs.YtdfdaambfihjaaaDoor
