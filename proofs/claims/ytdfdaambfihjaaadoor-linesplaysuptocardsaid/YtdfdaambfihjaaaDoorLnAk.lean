import Derived.Test.YtdfdaambfihjaaaDoorLnTk
namespace Go.Proofs.YtdfdaambfihjaaaDoor.L
open Go.RowKit
set_option linter.unusedVariables false
set_option linter.unusedSimpArgs false

theorem Cc_eq (o : Lo) : Cc o = Wt o 0 ++ Wt o 1 ++ Wt o 2 := by
  show ((([] ++ Wt o 0) ++ Wt o 1) ++ Wt o 2) = _
  simp
set_option maxRecDepth 100000 in
set_option maxHeartbeats 16000000 in
/-- awake: an answer goes first, and a second one finds no room. -/
theorem awk11_any (w : World) (hT : Tab w) : Calls Tryd.prog 5 #[] w fun e w' => e = .returned (.bool true) ∧ Below w.heap.size w w' := by
  have h00 : 0 < w.heap.size := World.block_lt_of_cell? w ⟨0, 0, none⟩ (hT 0 (by omega))
  have hNew := new_any 1 2 w
  obtain ⟨p, hp⟩ : ∃ p, w.heap.size + 1 = p := ⟨_, rfl⟩
  obtain ⟨m, hm⟩ : ∃ m, w.heap.size = m := ⟨_, rfl⟩
  have HT : Hid (∀ V, Below w.heap.size w V → Tab V) := fun V hV => hT.below hV h00
  rw [hp] at hNew
  have HM : Hid (w.heap.size = m ∧ 0 < m) := ⟨hm, by omega⟩
  clear hT hp
  go_enter Tryd.func5, Tryd.ntmps5
  go_wp2_with fail
  refine hNew.mono ?_
  rintro e w1 ⟨rfl, l1, b1⟩
  rw [HM.out.1] at l1
  have H1 : Hid (Lw w1 p m 1 2 none 0 ∧ Below w.heap.size w w1) := ⟨l1, b1⟩
  have hC1 := cancel_any w1
  clear hNew l1 b1
  go_wp2_with fail
  refine hC1.mono ?_
  rintro e w2 ⟨rfl, b2⟩
  have H2 : Hid (Lw w2 p m 1 2 none 0 ∧ Below w.heap.size w w2) := ⟨H1.out.1.below b2, H1.out.2.trans (b2.mono H1.out.2.size)⟩
  have hP1 := put_any w2 p m 1 2 none 0 H2.out.1 (by omega) (by omega) (by omega) sC nl nl nl nl [] [] (fun V _ => sin_nil sC V rfl rfl rfl rfl) (HT.out w2 H2.out.2) 0 prtC
  clear hC1 b2
  go_wp2_with fail
  refine hP1.mono ?_
  intro e w3 hr
  rcases hr with ⟨r, hr0, rfl, _, _, ⟨hz, _⟩ | ⟨_, hk, _, _⟩⟩ | ⟨_, _, rfl, o3, yC, lo3, hi3, P3⟩
  · exact absurd rfl hz
  · exact absurd hk (by decide)
  have H3 : Hid (PtP w2 w3 p m 1 2 none o3 0 sC yC lo3 hi3 ∧ Below w.heap.size w w3) := by
    refine ⟨P3, ?_⟩
    have k := (Kl.of_below (S := Fo m none) H2.out.2).then P3.kl (fun _ _ e => e)
    exact ⟨k.os, k.tape, k.output, k.size, fun g hg => k.block g hg (fun e => by
      rcases e with e | e
      · have := HM.out.1; omega
      · exact e)⟩
  have hA1 := ack_any w3
  clear hP1 P3
  go_wp2_with fail
  refine hA1.mono ?_
  rintro e w4 ⟨rfl, b4⟩
  have H4 : Hid (Lw w4 p m 1 2 o3 1 ∧ Below w.heap.size w w4 ∧ Below w3.heap.size w3 w4) := ⟨H3.out.1.lw.below b4, H3.out.2.trans (b4.mono H3.out.2.size), b4⟩
  have hP2 := put_any w4 p m 1 2 o3 1 H4.out.1 (by omega) (by omega) (by omega) sA nl nl nl nl [] [] (fun V _ => sin_nil sA V rfl rfl rfl rfl) (HT.out w4 H4.out.2.1) 0 prtA
  clear hA1 b4
  go_wp2_with fail
  refine hP2.mono ?_
  intro e w5 hr
  have hW30 : Wt o3 0 = [] := by rw [H3.out.1.wt 0 (by omega)]; rfl
  have hW31 : Wt o3 1 = [yC] := by rw [H3.out.1.wt 1 (by omega)]; rfl
  have hW32 : Wt o3 2 = [] := by rw [H3.out.1.wt 2 (by omega)]; rfl
  rcases hr with ⟨r, hr0, rfl, _, _, ⟨hz, _⟩ | ⟨_, hk, hge, _⟩⟩ | ⟨_, _, rfl, o5, yA, lo5, hi5, P5⟩
  · exact absurd rfl hz
  · rw [hW30] at hge; exact absurd hge (by decide)
  have hFm : ∀ g, Fo m o3 g → m ≤ g := fun g hg => by
    rcases H3.out.1.fo g hg with e | e
    · rcases e with e | e
      · omega
      · exact e.elim
    · have := H2.out.2.size; have := HM.out.1; omega
  have H5 : Hid (PtP w4 w5 p m 1 2 o3 o5 1 sA yA lo5 hi5 ∧ Below w.heap.size w w5 ∧ (∀ g, Fo m o3 g → m ≤ g) ∧ Wt o5 0 = [yA] ∧ Wt o5 1 = [yC] ∧ Wt o5 2 = []) := by
    refine ⟨P5, ?_, hFm, by rw [P5.wt 0 (by omega), hW30]; rfl, by rw [P5.wt 1 (by omega), hW31]; rfl, by rw [P5.wt 2 (by omega), hW32]; rfl⟩
    have k := (Kl.of_below (S := Fo m o3) H4.out.2.1).then P5.kl (fun _ _ e => e)
    exact ⟨k.os, k.tape, k.output, k.size, fun g hg => k.block g hg (fun e => by have := hFm g e; have := HM.out.1; omega)⟩
  have hA2 := ack_any w5
  clear hP2 P5 hW30 hW31 hW32 hFm
  go_wp2_with fail
  refine hA2.mono ?_
  rintro e w6 ⟨rfl, b6⟩
  have H6 : Hid (Lw w6 p m 1 2 o5 2 ∧ Below w.heap.size w w6 ∧ Below w5.heap.size w5 w6) := ⟨H5.out.1.lw.below b6, H5.out.2.1.trans (b6.mono H5.out.2.1.size), b6⟩
  have hP3 := put_any w6 p m 1 2 o5 2 H6.out.1 (by omega) (by omega) (by omega) sA nl nl nl nl [] [] (fun V _ => sin_nil sA V rfl rfl rfl rfl) (HT.out w6 H6.out.2.1) 0 prtA
  clear hA2 b6
  go_wp2_with fail
  refine hP3.mono ?_
  intro e w7 hr
  rcases hr with ⟨r, hr0, rfl, l7, b7, ⟨hz, _⟩ | ⟨_, hk, hge, rfl⟩⟩ | ⟨_, hlt, _⟩
  · exact absurd rfl hz
  case inr => have h := hlt (by decide); rw [H5.out.2.2.2.1] at h; exact absurd h (by simp)
  have H7 : Hid (Lw w7 p m 1 2 o5 2 ∧ Below w.heap.size w w7 ∧ Below w6.heap.size w6 w7) := ⟨l7, H6.out.2.1.trans (b7.mono H6.out.2.1.size), b7⟩
  have hCn := lcount_any w7 p m 1 2 o5 2 H7.out.1 (by omega)
  have hcn : cnt o5 = 2 := by unfold cnt; rw [H5.out.2.2.2.1, H5.out.2.2.2.2.1, H5.out.2.2.2.2.2]; rfl
  rw [hcn] at hCn
  clear hP3 l7 b7 hr0 hge hk hcn
  go_wp2_with fail
  refine hCn.mono ?_
  rintro e w8 ⟨rfl, b8⟩
  have H8 : Hid (Lw w8 p m 1 2 o5 2 ∧ Below w.heap.size w w8 ∧ Below w7.heap.size w7 w8) := ⟨H7.out.1.below b8, H7.out.2.1.trans (b8.mono H7.out.2.1.size), b8⟩
  have hTk := take_any w8 p m 1 2 o5 2 2 H8.out.1 (by omega) (by omega)
  clear hCn b8
  go_wp2_with fail
  refine hTk.mono ?_
  rintro e w9 ⟨ov, o9, rfl, P9⟩
  have hCc : (Cc o5).take 2 = [yA, yC] := by rw [Cc_eq, H5.out.2.2.2.1, H5.out.2.2.2.2.1, H5.out.2.2.2.2.2]; rfl
  have hrow := P9.out
  rw [hCc] at hrow
  have hRw := own_rw hrow
  obtain ⟨a, c, hov, hsd⟩ := hRw
  subst hov
  obtain ⟨g, off, rfl, sd⟩ : ∃ g off, a = some ⟨g, off, none⟩ ∧ Sd w9 g off [yA, yC] := hsd.resolve_left (by simp)
  have hFm5 : ∀ g, Fo m o5 g → m ≤ g := fun g hg => by
    rcases H5.out.1.fo g hg with e | e
    · exact H5.out.2.2.1 g e
    · have := H4.out.2.1.size; have := HM.out.1; omega
  have H9 : Hid (Below w.heap.size w w9 ∧ SAt w9 yA ∧ SAt w9 yC ∧ yA.s = sA ∧ yC.s = sC) := by
    have k := (Kl.of_below (S := Fo m o5) H8.out.2.1).then P9.kl (fun _ _ e => e)
    have sA5 : Sta (Fo m o5) w5 yA := H5.out.1.sta (fun g hg => H5.out.1.nf g hg)
    have sC3 : Sta (Fo m o3) w3 yC := H3.out.1.sta (fun g hg => H3.out.1.nf g hg)
    have sC4 : Sta (Fo m o3) w4 yC := sC3.step (Kl.of_below (S := fun _ => False) H4.out.2.2) (fun _ _ e => e.elim) (fun _ _ e => e)
    have sC5 : Sta (Fo m o5) w5 yC := sC4.step H5.out.1.kl (fun _ _ e => e) (fun g hg e => by
      rcases H5.out.1.fo g e with e | e
      · exact e
      · omega)
    have b58 : Below w5.heap.size w5 w8 := (H6.out.2.2.trans (H7.out.2.2.mono H6.out.2.2.size)).trans (H8.out.2.2.mono (H6.out.2.2.trans (H7.out.2.2.mono H6.out.2.2.size)).size)
    have k59 : Kl (Fo m o5) w5 w9 := (Kl.of_below b58).then P9.kl (fun _ _ e => e)
    exact ⟨⟨k.os, k.tape, k.output, k.size, fun g hg => k.block g hg (fun e => by have := hFm5 g e; have := HM.out.1; omega)⟩, sA5 w9 k59, sC5 w9 k59, H5.out.1.ys, H3.out.1.ys⟩
  have HSd : Hid (Sd w9 g off [yA, yC]) := sd
  have hl2 : ([yA, yC] : List Sv).length = 2 := rfl
  rw [hl2]
  clear hTk P9 hCc hrow hsd sd hFm5 hl2
  have HC0 : Hid (∀ V : World, Below w9.heap.size w9 V → V.cell? ⟨g, off, none⟩ = some (.int .i64 yA.s.typ) ∧ V.cell? ⟨g, off + 1, none⟩ = some (.int .i64 yA.s.org) ∧ V.cell? ⟨g, off + 2, none⟩ = some (.int .i64 yA.s.num) ∧ V.cell? ⟨g, off + 3, none⟩ = some yA.hv ∧ V.cell? ⟨g, off + 4, none⟩ = some yA.tv ∧ V.cell? ⟨g, off + 5, none⟩ = some (.int .i64 yA.s.srv) ∧ V.cell? ⟨g, off + 6, none⟩ = some (.int .i64 yA.s.off) ∧ V.cell? ⟨g, off + 7, none⟩ = some yA.dv ∧ V.cell? ⟨g, off + 8, none⟩ = some (.int .i64 yA.s.chk) ∧ V.cell? ⟨g, off + 9, none⟩ = some (.int .i64 yA.s.rep) ∧ V.cell? ⟨g, off + 10, none⟩ = some (.int .i64 yA.s.upp) ∧ V.cell? ⟨g, off + 11, none⟩ = some (.int .i64 yA.s.low) ∧ V.cell? ⟨g, off + 12, none⟩ = some yA.cv ∧ V.cell? ⟨g, off + 13, none⟩ = some (.int .i64 yA.s.rsn)) := fun V hV => by
    have h := sd_cells (HSd.out.below hV) (k := 0) (y := yA) rfl
    rw [Nat.zero_mul, Nat.add_zero] at h
    exact h
  have HC1 : Hid (∀ V : World, Below w9.heap.size w9 V → V.cell? ⟨g, off + 14, none⟩ = some (.int .i64 yC.s.typ) ∧ V.cell? ⟨g, off + 14 + 1, none⟩ = some (.int .i64 yC.s.org) ∧ V.cell? ⟨g, off + 14 + 2, none⟩ = some (.int .i64 yC.s.num) ∧ V.cell? ⟨g, off + 14 + 3, none⟩ = some yC.hv ∧ V.cell? ⟨g, off + 14 + 4, none⟩ = some yC.tv ∧ V.cell? ⟨g, off + 14 + 5, none⟩ = some (.int .i64 yC.s.srv) ∧ V.cell? ⟨g, off + 14 + 6, none⟩ = some (.int .i64 yC.s.off) ∧ V.cell? ⟨g, off + 14 + 7, none⟩ = some yC.dv ∧ V.cell? ⟨g, off + 14 + 8, none⟩ = some (.int .i64 yC.s.chk) ∧ V.cell? ⟨g, off + 14 + 9, none⟩ = some (.int .i64 yC.s.rep) ∧ V.cell? ⟨g, off + 14 + 10, none⟩ = some (.int .i64 yC.s.upp) ∧ V.cell? ⟨g, off + 14 + 11, none⟩ = some (.int .i64 yC.s.low) ∧ V.cell? ⟨g, off + 14 + 12, none⟩ = some yC.cv ∧ V.cell? ⟨g, off + 14 + 13, none⟩ = some (.int .i64 yC.s.rsn)) := fun V hV => by
    have h := sd_cells (HSd.out.below hV) (k := 1) (y := yC) rfl
    rw [Nat.one_mul] at h
    exact h
  have hA3 := ack_any w9.drew
  have T0 := HC0.out w9 (Below.refl _ _)
  go_wp2_with fail
  go_region_held3 (fun V => V.cell? ⟨g, off, none⟩ = some (.int .i64 yA.s.typ) ∧ V.cell? ⟨g, off + 1, none⟩ = some (.int .i64 yA.s.org) ∧ V.cell? ⟨g, off + 2, none⟩ = some (.int .i64 yA.s.num) ∧ V.cell? ⟨g, off + 3, none⟩ = some yA.hv ∧ V.cell? ⟨g, off + 4, none⟩ = some yA.tv ∧ V.cell? ⟨g, off + 5, none⟩ = some (.int .i64 yA.s.srv) ∧ V.cell? ⟨g, off + 6, none⟩ = some (.int .i64 yA.s.off) ∧ V.cell? ⟨g, off + 7, none⟩ = some yA.dv ∧ V.cell? ⟨g, off + 8, none⟩ = some (.int .i64 yA.s.chk) ∧ V.cell? ⟨g, off + 9, none⟩ = some (.int .i64 yA.s.rep) ∧ V.cell? ⟨g, off + 10, none⟩ = some (.int .i64 yA.s.upp) ∧ V.cell? ⟨g, off + 11, none⟩ = some (.int .i64 yA.s.low) ∧ V.cell? ⟨g, off + 12, none⟩ = some yA.cv ∧ V.cell? ⟨g, off + 13, none⟩ = some (.int .i64 yA.s.rsn))
    (first | exact T0 | exact T1.out | exact T2.out)
    (first
      | (go_at_call 26
         refine hSm.mono ?_
         rintro e U2 ⟨rfl, hU2⟩
         have HU2 : Hid (Below w9.heap.size w9 U2) := HU.out.trans (hU2.mono HU.out.size)
         have T2 : Hid (U2.cell? ⟨g, off, none⟩ = some (.int .i64 yA.s.typ) ∧ U2.cell? ⟨g, off + 1, none⟩ = some (.int .i64 yA.s.org) ∧ U2.cell? ⟨g, off + 2, none⟩ = some (.int .i64 yA.s.num) ∧ U2.cell? ⟨g, off + 3, none⟩ = some yA.hv ∧ U2.cell? ⟨g, off + 4, none⟩ = some yA.tv ∧ U2.cell? ⟨g, off + 5, none⟩ = some (.int .i64 yA.s.srv) ∧ U2.cell? ⟨g, off + 6, none⟩ = some (.int .i64 yA.s.off) ∧ U2.cell? ⟨g, off + 7, none⟩ = some yA.dv ∧ U2.cell? ⟨g, off + 8, none⟩ = some (.int .i64 yA.s.chk) ∧ U2.cell? ⟨g, off + 9, none⟩ = some (.int .i64 yA.s.rep) ∧ U2.cell? ⟨g, off + 10, none⟩ = some (.int .i64 yA.s.upp) ∧ U2.cell? ⟨g, off + 11, none⟩ = some (.int .i64 yA.s.low) ∧ U2.cell? ⟨g, off + 12, none⟩ = some yA.cv ∧ U2.cell? ⟨g, off + 13, none⟩ = some (.int .i64 yA.s.rsn)) := HC0.out U2 HU2.out
         clear hU2)
      | (go_at_call 25
         refine hA3.mono ?_
         rintro e U ⟨rfl, hU⟩
         have HU : Hid (Below w9.heap.size w9 U) := ⟨hU.os, hU.tape, hU.output, hU.size, hU.block⟩
         have T1 : Hid (U.cell? ⟨g, off, none⟩ = some (.int .i64 yA.s.typ) ∧ U.cell? ⟨g, off + 1, none⟩ = some (.int .i64 yA.s.org) ∧ U.cell? ⟨g, off + 2, none⟩ = some (.int .i64 yA.s.num) ∧ U.cell? ⟨g, off + 3, none⟩ = some yA.hv ∧ U.cell? ⟨g, off + 4, none⟩ = some yA.tv ∧ U.cell? ⟨g, off + 5, none⟩ = some (.int .i64 yA.s.srv) ∧ U.cell? ⟨g, off + 6, none⟩ = some (.int .i64 yA.s.off) ∧ U.cell? ⟨g, off + 7, none⟩ = some yA.dv ∧ U.cell? ⟨g, off + 8, none⟩ = some (.int .i64 yA.s.chk) ∧ U.cell? ⟨g, off + 9, none⟩ = some (.int .i64 yA.s.rep) ∧ U.cell? ⟨g, off + 10, none⟩ = some (.int .i64 yA.s.upp) ∧ U.cell? ⟨g, off + 11, none⟩ = some (.int .i64 yA.s.low) ∧ U.cell? ⟨g, off + 12, none⟩ = some yA.cv ∧ U.cell? ⟨g, off + 13, none⟩ = some (.int .i64 yA.s.rsn)) := HC0.out U HU.out
         have hSm := same_ok (y := ⟨sA, nl, nl, nl, nl⟩) (H9.out.2.1.below HU.out) ⟨[], [], sin_nil sA U rfl rfl rfl rfl⟩ H9.out.2.2.2.1
         clear hU))
  clear hA3 hSm T0
  have hC3 := cancel_any U2.drew
  have T0 := HC1.out U2 HU2.out
  go_wp2_with fail
  go_region_held3 (fun V => V.cell? ⟨g, off + 14, none⟩ = some (.int .i64 yC.s.typ) ∧ V.cell? ⟨g, off + 14 + 1, none⟩ = some (.int .i64 yC.s.org) ∧ V.cell? ⟨g, off + 14 + 2, none⟩ = some (.int .i64 yC.s.num) ∧ V.cell? ⟨g, off + 14 + 3, none⟩ = some yC.hv ∧ V.cell? ⟨g, off + 14 + 4, none⟩ = some yC.tv ∧ V.cell? ⟨g, off + 14 + 5, none⟩ = some (.int .i64 yC.s.srv) ∧ V.cell? ⟨g, off + 14 + 6, none⟩ = some (.int .i64 yC.s.off) ∧ V.cell? ⟨g, off + 14 + 7, none⟩ = some yC.dv ∧ V.cell? ⟨g, off + 14 + 8, none⟩ = some (.int .i64 yC.s.chk) ∧ V.cell? ⟨g, off + 14 + 9, none⟩ = some (.int .i64 yC.s.rep) ∧ V.cell? ⟨g, off + 14 + 10, none⟩ = some (.int .i64 yC.s.upp) ∧ V.cell? ⟨g, off + 14 + 11, none⟩ = some (.int .i64 yC.s.low) ∧ V.cell? ⟨g, off + 14 + 12, none⟩ = some yC.cv ∧ V.cell? ⟨g, off + 14 + 13, none⟩ = some (.int .i64 yC.s.rsn))
    (first | exact T0 | exact T3.out | exact T4.out)
    (first
      | (go_at_call 26
         refine hSm.mono ?_
         rintro e U4 ⟨rfl, hU4⟩
         have HU4 : Hid (Below w9.heap.size w9 U4) := HU3.out.trans (hU4.mono HU3.out.size)
         have T4 : Hid (U4.cell? ⟨g, off + 14, none⟩ = some (.int .i64 yC.s.typ) ∧ U4.cell? ⟨g, off + 14 + 1, none⟩ = some (.int .i64 yC.s.org) ∧ U4.cell? ⟨g, off + 14 + 2, none⟩ = some (.int .i64 yC.s.num) ∧ U4.cell? ⟨g, off + 14 + 3, none⟩ = some yC.hv ∧ U4.cell? ⟨g, off + 14 + 4, none⟩ = some yC.tv ∧ U4.cell? ⟨g, off + 14 + 5, none⟩ = some (.int .i64 yC.s.srv) ∧ U4.cell? ⟨g, off + 14 + 6, none⟩ = some (.int .i64 yC.s.off) ∧ U4.cell? ⟨g, off + 14 + 7, none⟩ = some yC.dv ∧ U4.cell? ⟨g, off + 14 + 8, none⟩ = some (.int .i64 yC.s.chk) ∧ U4.cell? ⟨g, off + 14 + 9, none⟩ = some (.int .i64 yC.s.rep) ∧ U4.cell? ⟨g, off + 14 + 10, none⟩ = some (.int .i64 yC.s.upp) ∧ U4.cell? ⟨g, off + 14 + 11, none⟩ = some (.int .i64 yC.s.low) ∧ U4.cell? ⟨g, off + 14 + 12, none⟩ = some yC.cv ∧ U4.cell? ⟨g, off + 14 + 13, none⟩ = some (.int .i64 yC.s.rsn)) := HC1.out U4 HU4.out
         clear hU4)
      | (go_at_call 24
         refine hC3.mono ?_
         rintro e U3 ⟨rfl, hU3⟩
         have HU3 : Hid (Below w9.heap.size w9 U3) := HU2.out.trans ((show Below U2.heap.size U2 U3 from ⟨hU3.os, hU3.tape, hU3.output, hU3.size, hU3.block⟩).mono HU2.out.size)
         have T3 : Hid (U3.cell? ⟨g, off + 14, none⟩ = some (.int .i64 yC.s.typ) ∧ U3.cell? ⟨g, off + 14 + 1, none⟩ = some (.int .i64 yC.s.org) ∧ U3.cell? ⟨g, off + 14 + 2, none⟩ = some (.int .i64 yC.s.num) ∧ U3.cell? ⟨g, off + 14 + 3, none⟩ = some yC.hv ∧ U3.cell? ⟨g, off + 14 + 4, none⟩ = some yC.tv ∧ U3.cell? ⟨g, off + 14 + 5, none⟩ = some (.int .i64 yC.s.srv) ∧ U3.cell? ⟨g, off + 14 + 6, none⟩ = some (.int .i64 yC.s.off) ∧ U3.cell? ⟨g, off + 14 + 7, none⟩ = some yC.dv ∧ U3.cell? ⟨g, off + 14 + 8, none⟩ = some (.int .i64 yC.s.chk) ∧ U3.cell? ⟨g, off + 14 + 9, none⟩ = some (.int .i64 yC.s.rep) ∧ U3.cell? ⟨g, off + 14 + 10, none⟩ = some (.int .i64 yC.s.upp) ∧ U3.cell? ⟨g, off + 14 + 11, none⟩ = some (.int .i64 yC.s.low) ∧ U3.cell? ⟨g, off + 14 + 12, none⟩ = some yC.cv ∧ U3.cell? ⟨g, off + 14 + 13, none⟩ = some (.int .i64 yC.s.rsn)) := HC1.out U3 HU3.out
         have hSm := same_ok (y := ⟨sC, nl, nl, nl, nl⟩) (H9.out.2.2.1.below HU3.out) ⟨[], [], sin_nil sC U3 rfl rfl rfl rfl⟩ H9.out.2.2.2.2
         clear hU3))
  clear hC3 hSm T0
  go_wp2
  go_ret
  exact ⟨by first | rfl | simp, H9.out.1.trans (HU4.out.mono H9.out.1.size)⟩

end Go.Proofs.YtdfdaambfihjaaaDoor.L

namespace Go.Proofs.YtdfdaambfihjaaaDoor.L
open Go.RowKit
set_option linter.unusedVariables false
set_option linter.unusedSimpArgs false

/-! ## The law's world: two lines, and the row of what was put -/
def Nm (ma mb : Nat) (oa ob : Lo) (iv : Value) (g : Nat) : Prop := Fo ma oa g ∨ Fo mb ob g ∨ iv.ownBlock = some g
structure Od (w0 wr : World) (pa ma pb mb : Nat) (oa ob : Lo) (M : Nat) (iv : Value) (I : List Sv) (A B : Nat → List Sg) : Prop where
  la : Lw wr pa ma 1073741824 3 oa M
  lb : Lw wr pb mb 1073741824 3 ob M
  bw : Below w0.heap.size w0 wr
  nn : ∀ g, Nm ma mb oa ob iv g → w0.heap.size ≤ g
  dab : ∀ g, Fo ma oa g → ¬ Fo mb ob g
  dpa : ¬ Fo mb ob pa
  dpb : ¬ Fo ma oa pb
  di : ∀ g, iv.ownBlock = some g → ¬ Fo ma oa g ∧ ¬ Fo mb ob g ∧ g ≠ pa ∧ g ≠ pb
  row : wr.ownsRow 0 37 14 iv I.length (seg I)
  qa : ∀ k, k < 3 → (Wt oa k).map Sv.s = A k
  qb : ∀ k, k < 3 → (Wt ob k).map Sv.s = B k
  sa : ∀ k y, k < 3 → y ∈ Wt oa k → Sta (Nm ma mb oa ob iv) wr y
  sb : ∀ k y, k < 3 → y ∈ Wt ob k → Sta (Nm ma mb oa ob iv) wr y
  it : ∀ y ∈ I, SAt w0 y ∧ 0 ≤ y.s.typ
/-! ## What the lists say -/
/-- The kinds of what was put. -/
def Kd (I : List Sv) (k : Nat) : List Sg := (I.filter (fun y => decide (kdn y.s.typ = k))).map Sv.s
theorem kd_typ {t : Int} : (kdn t = 0 → t = 9 ∨ t = 13 ∨ t = 15) ∧ (kdn t = 1 → t = 8 ∨ t = 12 ∨ t = 14) := by
  unfold kdn kd
  refine ⟨fun h => ?_, fun h => ?_⟩
  · repeat' split at h
    all_goals (first | omega | simp at h)
  · repeat' split at h
    all_goals (first | omega | simp at h)
def dr1 (S1 S2 : Int) (all : Bool) (l : List Sg) : List Sg := l.filter fun s => !mnt S1 S2 all s
/-- What is left of the kinds, by the program and by the law. -/
def Al (I : List Sv) (S1 S2 : Int) (dr all : Bool) (k : Nat) : List Sg := if dr = true ∧ 0 < k then dr1 S1 S2 all (Kd I k) else Kd I k
end Go.Proofs.YtdfdaambfihjaaaDoor.L

namespace Go.Proofs.YtdfdaambfihjaaaDoor.L
open Go.RowKit
set_option linter.unusedVariables false
set_option linter.unusedSimpArgs false

/-! ## What the reference's Take takes: numbers and lists alone -/
def isK (K : Int) (k : Nat) (x : Wa) : Bool := decide (x.p = K) && decide (kdn x.y.s.typ = k)
def Fk (K : Int) (k : Nat) (ws : List Wa) : List Sv := (ws.filter (isK K k)).map Wa.y
def Pf (K : Int) (ws : List Wa) : Nat → List Sv
  | 0 => []
  | k + 1 => Pf K ws k ++ Fk K k ws
theorem Fk_app (K : Int) (k : Nat) (a b : List Wa) : Fk K k (a ++ b) = Fk K k a ++ Fk K k b := by simp [Fk]
theorem Fk_one (K : Int) (k : Nat) (x : Wa) : Fk K k [x] = if isK K k x = true then [x.y] else [] := by
  unfold Fk
  by_cases h : isK K k x = true <;> simp [h]
theorem Fk_step {K : Int} {k i : Nat} {ws : List Wa} {x : Wa} (hx : ws[i]? = some x) : Fk K k (ws.take (i + 1)) = Fk K k (ws.take i) ++ (if isK K k x = true then [x.y] else []) := by
  rw [List.take_add_one, hx, Fk_app, ← Fk_one]
  rfl
theorem Fk_cut (K : Int) (k i : Nat) (ws : List Wa) : Fk K k ws = Fk K k (ws.take i) ++ Fk K k (ws.drop i) := by rw [← Fk_app, List.take_append_drop]
theorem Fk_len_le (K : Int) (k : Nat) (ws : List Wa) : (Fk K k ws).length ≤ ws.length := by
  unfold Fk
  rw [List.length_map]
  exact List.length_filter_le _ _
theorem Fk_le {K : Int} {k i j : Nat} (ws : List Wa) (h : i ≤ j) : (Fk K k (ws.take i)).length ≤ (Fk K k (ws.take j)).length := by
  have h1 := Fk_cut K k i (ws.take j)
  rw [List.take_take, Nat.min_eq_left h] at h1
  rw [h1, List.length_append]
  omega
/-- Which were taken, so far. -/
def tkb (K : Int) (most : Nat) (ws : List Wa) (k i j : Nat) (x : Wa) : Bool := decide (x.p = K ∧ (kdn x.y.s.typ < k ∨ (kdn x.y.s.typ = k ∧ j < i)) ∧ (Pf K ws (kdn x.y.s.typ)).length + (Fk K (kdn x.y.s.typ) (ws.take j)).length < most)
def TkR (K : Int) (most : Nat) (ws : List Wa) (k i : Nat) (T : List Bool) : Prop := T.length = ws.length ∧ ∀ j x, ws[j]? = some x → T[j]? = some (tkb K most ws k i j x)
theorem TkR.zero (K : Int) (most : Nat) (ws : List Wa) : TkR K most ws 0 0 (List.replicate ws.length false) := by
  refine ⟨by simp, fun j x hx => ?_⟩
  have hj := (List.getElem?_eq_some_iff.mp hx).1
  have : tkb K most ws 0 0 j x = false := by simp [tkb]
  rw [this]
  simp [List.getElem?_replicate, hj]
/-- One that is not taken. -/
theorem TkR.skip {K : Int} {most : Nat} {ws : List Wa} {k i : Nat} {T : List Bool} {x : Wa} (h : TkR K most ws k i T) (hx : ws[i]? = some x) (hn : isK K k x = false) : TkR K most ws k (i + 1) T := by
  refine ⟨h.1, fun j y hy => ?_⟩
  rw [h.2 j y hy]
  congr 1
  by_cases e : j = i
  · subst e
    rw [hx] at hy
    cases hy
    have hn' : ¬ (x.p = K ∧ kdn x.y.s.typ = k) := by simpa [isK] using hn
    unfold tkb
    rw [decide_eq_decide]
    constructor
    · rintro ⟨h1, h2, h3⟩; exact ⟨h1, h2.imp id (fun h => ⟨h.1, by omega⟩), h3⟩
    · rintro ⟨h1, h2, h3⟩
      refine ⟨h1, h2.imp id (fun h => absurd ⟨h1, h.1⟩ hn'), h3⟩
  · unfold tkb
    rw [decide_eq_decide]
    constructor
    · rintro ⟨h1, h2, h3⟩; exact ⟨h1, h2.imp id (fun h => ⟨h.1, by omega⟩), h3⟩
    · rintro ⟨h1, h2, h3⟩; exact ⟨h1, h2.imp id (fun h => ⟨h.1, by omega⟩), h3⟩
/-- One that is taken. -/
theorem TkR.take {K : Int} {most : Nat} {ws : List Wa} {k i : Nat} {T : List Bool} {x : Wa} (h : TkR K most ws k i T) (hx : ws[i]? = some x) (hn : isK K k x = true) (hm : (Pf K ws k).length + (Fk K k (ws.take i)).length < most) : TkR K most ws k (i + 1) (T.set i true) := by
  have hi := (List.getElem?_eq_some_iff.mp hx).1
  have hn' : x.p = K ∧ kdn x.y.s.typ = k := by simpa [isK] using hn
  refine ⟨by rw [List.length_set]; exact h.1, fun j y hy => ?_⟩
  by_cases e : j = i
  · subst e
    rw [hx] at hy
    cases hy
    rw [List.getElem?_set_self (by rw [h.1]; exact hi)]
    congr 1
    symm
    unfold tkb
    rw [decide_eq_true_eq]
    exact ⟨hn'.1, .inr ⟨hn'.2, by omega⟩, by rw [hn'.2]; exact hm⟩
  · rw [List.getElem?_set_ne (Ne.symm e), h.2 j y hy]
    congr 1
    unfold tkb
    rw [decide_eq_decide]
    constructor
    · rintro ⟨h1, h2, h3⟩; exact ⟨h1, h2.imp id (fun h => ⟨h.1, by omega⟩), h3⟩
    · rintro ⟨h1, h2, h3⟩; exact ⟨h1, h2.imp id (fun h => ⟨h.1, by omega⟩), h3⟩
/-- The next kind. -/
theorem TkR.next {K : Int} {most : Nat} {ws : List Wa} {k i : Nat} {T : List Bool} (h : TkR K most ws k i T) (he : i = ws.length ∨ most ≤ (Pf K ws k).length + (Fk K k (ws.take i)).length) : TkR K most ws (k + 1) 0 T := by
  refine ⟨h.1, fun j y hy => ?_⟩
  have hj := (List.getElem?_eq_some_iff.mp hy).1
  rw [h.2 j y hy]
  congr 1
  unfold tkb
  rw [decide_eq_decide]
  constructor
  · rintro ⟨h1, h2, h3⟩
    exact ⟨h1, .inl (by omega), h3⟩
  · rintro ⟨h1, h2, h3⟩
    refine ⟨h1, ?_, h3⟩
    by_cases e : kdn y.y.s.typ = k
    · refine .inr ⟨e, ?_⟩
      rcases he with he | he
      · omega
      · apply Classical.byContradiction
        intro hji
        have := Fk_le (K := K) (k := k) ws (show i ≤ j by omega)
        rw [e] at h3
        omega
    · exact .inl (by omega)
def Oo (K : Int) (most : Nat) (ws : List Wa) (k i : Nat) : List Sv := (Pf K ws k ++ Fk K k (ws.take i)).take most
theorem Oo_lt {K : Int} {most : Nat} {ws : List Wa} {k i : Nat} (h : (Oo K most ws k i).length < most) : (Pf K ws k).length + (Fk K k (ws.take i)).length < most ∧ Oo K most ws k i = Pf K ws k ++ Fk K k (ws.take i) := by
  unfold Oo at *
  rw [List.length_take, List.length_append] at h
  refine ⟨by omega, List.take_of_length_le (by rw [List.length_append]; omega)⟩
theorem Oo_skip {K : Int} {most : Nat} {ws : List Wa} {k i : Nat} {x : Wa} (hx : ws[i]? = some x) (hn : isK K k x = false) : Oo K most ws k (i + 1) = Oo K most ws k i := by
  unfold Oo
  rw [Fk_step hx]
  simp [hn]
theorem Oo_take {K : Int} {most : Nat} {ws : List Wa} {k i : Nat} {x : Wa} (hx : ws[i]? = some x) (hn : isK K k x = true) (hl : (Oo K most ws k i).length < most) : Oo K most ws k (i + 1) = Oo K most ws k i ++ [x.y] := by
  obtain ⟨h1, h2⟩ := Oo_lt hl
  rw [h2]
  unfold Oo
  rw [Fk_step hx, if_pos hn, ← List.append_assoc, List.take_of_length_le (by simp; omega)]
theorem Oo_next {K : Int} {most : Nat} {ws : List Wa} {k i : Nat} (he : i = ws.length ∨ most ≤ (Oo K most ws k i).length) : Oo K most ws (k + 1) 0 = Oo K most ws k i ∧ (i = ws.length ∨ most ≤ (Pf K ws k).length + (Fk K k (ws.take i)).length) := by
  have e0 : Oo K most ws (k + 1) 0 = (Pf K ws k ++ Fk K k ws).take most := by
    show ((Pf K ws k ++ Fk K k ws) ++ Fk K (k + 1) (ws.take 0)).take most = _
    simp [Fk]
  rcases he with rfl | he
  · refine ⟨?_, .inl rfl⟩
    rw [e0]
    unfold Oo
    rw [List.take_length]
  · have h1 : most ≤ (Pf K ws k).length + (Fk K k (ws.take i)).length := by
      unfold Oo at he
      rw [List.length_take, List.length_append] at he
      omega
    refine ⟨?_, .inr h1⟩
    rw [e0, Fk_cut K k i ws, ← List.append_assoc]
    unfold Oo
    rw [List.take_append_of_le_length (by rw [List.length_append]; exact h1)]
theorem Oo_len {K : Int} {most : Nat} {ws : List Wa} {k i : Nat} (hk : k < 3) : (Oo K most ws k i).length ≤ 4 * ws.length := by
  have h0 := Fk_len_le K 0 ws
  have h1 := Fk_len_le K 1 ws
  have h2 := Fk_len_le K k (ws.take i)
  have h3 : (ws.take i).length ≤ ws.length := by rw [List.length_take]; omega
  unfold Oo
  rw [List.length_take, List.length_append]
  rcases three hk with rfl | rfl | rfl <;> simp [Pf] <;> omega
/-- What is left, so far. -/
structure LfI (K : Int) (most : Nat) (ws : List Wa) (i : Nat) (L : List Wa) : Prop where
  mem : ∀ x ∈ L, x ∈ ws
  len : L.length ≤ i
  me : ∀ k, k < 3 → Fk K k L = (Fk K k (ws.take i)).drop (most - (Pf K ws k).length)
  ot : ∀ K' k, K' ≠ K → Fk K' k L = Fk K' k (ws.take i)
theorem LfI.zero (K : Int) (most : Nat) (ws : List Wa) : LfI K most ws 0 [] := ⟨fun x hx => (by cases hx), by simp, fun k _ => by simp [Fk], fun K' k _ => by simp [Fk]⟩
theorem LfI.next {K : Int} {most : Nat} {ws : List Wa} {i : Nat} {L : List Wa} {x : Wa} (h : LfI K most ws i L) (hx : ws[i]? = some x) (b : Bool) (hb : b = tkb K most ws 3 0 i x) : LfI K most ws (i + 1) (L ++ (if b = true then [] else [x])) := by
  have hk3 := (kd_n x.y.s.typ).2
  have hbt : b = true ↔ (x.p = K ∧ (Pf K ws (kdn x.y.s.typ)).length + (Fk K (kdn x.y.s.typ) (ws.take i)).length < most) := by
    rw [hb]
    unfold tkb
    rw [decide_eq_true_eq]
    constructor
    · rintro ⟨h1, _, h3⟩; exact ⟨h1, h3⟩
    · rintro ⟨h1, h3⟩; exact ⟨h1, .inl hk3, h3⟩
  refine ⟨fun z hz => ?_, ?_, fun k hk => ?_, fun K' k hK => ?_⟩
  · rcases List.mem_append.mp hz with hz | hz
    · exact h.mem z hz
    · split at hz
      · cases hz
      · simp at hz
        subst hz
        exact List.mem_of_getElem? hx
  · rw [List.length_append]
    have := h.len
    split <;> simp <;> omega
  · rw [Fk_app, h.me k hk, Fk_step hx]
    by_cases e : isK K k x = true
    · have e' : x.p = K ∧ kdn x.y.s.typ = k := by simpa [isK] using e
      rw [if_pos e]
      by_cases hbb : b = true
      · have := hbt.mp hbb
        rw [e'.2] at this
        rw [if_pos hbb, List.drop_of_length_le (l := Fk K k (ws.take i)) (by omega), List.drop_of_length_le (l := Fk K k (ws.take i) ++ [x.y]) (by simp; omega)]
        rfl
      · have : ¬ ((Pf K ws k).length + (Fk K k (ws.take i)).length < most) := fun h2 => hbb (hbt.mpr ⟨e'.1, by rw [e'.2]; exact h2⟩)
        rw [if_neg hbb, Fk_one, if_pos e, List.drop_append, show most - (Pf K ws k).length - (Fk K k (ws.take i)).length = 0 by omega]
        rfl
    · rw [if_neg e]
      have : Fk K k (if b = true then [] else [x]) = [] := by
        split
        · rfl
        · rw [Fk_one, if_neg e]
      rw [this, List.append_nil, List.append_nil]
  · rw [Fk_app, h.ot K' k hK, Fk_step hx]
    congr 1
    by_cases hbb : b = true
    · have h1 := hbt.mp hbb
      have : isK K' k x = false := by
        unfold isK
        rw [decide_eq_false (fun e => hK (e.symm.trans h1.1))]
        rfl
      rw [if_pos hbb, this]
      rfl
    · rw [if_neg hbb, Fk_one]

end Go.Proofs.YtdfdaambfihjaaaDoor.L
