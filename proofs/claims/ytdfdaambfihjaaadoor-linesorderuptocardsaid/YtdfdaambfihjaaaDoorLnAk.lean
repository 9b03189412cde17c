import Derived.Test.YtdfdaambfihjaaaDoorLnAw
namespace Go.Proofs.YtdfdaambfihjaaaDoor.L
open Go.RowKit
set_option linter.unusedVariables false
set_option linter.unusedSimpArgs false

theorem Tab.kl {S : Nat → Prop} {w w' : World} (h : Tab w) (hk : Kl S w w') (h0 : ¬ S 0) : Tab w' := fun i hi => hk.cell (h i hi) h0
theorem Cc_eq (o : Lo) : Cc o = Wt o 0 ++ Wt o 1 ++ Wt o 2 := by
  show ((([] ++ Wt o 0) ++ Wt o 1) ++ Wt o 2) = _
  simp
set_option maxRecDepth 100000 in
set_option maxHeartbeats 16000000 in
/-- awake: an answer goes first, and a second one finds no room. -/
theorem awake_any (w : World) (hT : Tab w) : Calls Tryd.prog 5 #[] w fun e w' => e = .returned (.bool true) ∧ Below w.heap.size w w' := by
  have h00 : 0 < w.heap.size := World.block_lt_of_cell? w ⟨0, 0, none⟩ (hT 0 (by omega))
  have hNew := new_any 1 2 w
  obtain ⟨p, hp⟩ : ∃ p, w.heap.size + 1 = p := ⟨_, rfl⟩
  obtain ⟨m, hm⟩ : ∃ m, w.heap.size = m := ⟨_, rfl⟩
  have HT : Hid (∀ V, Below w.heap.size w V → Tab V) := fun V hV => hT.below hV h00
  rw [hp] at hNew
  have HM : Hid (w.heap.size = m ∧ 0 < m) := ⟨hm, by omega⟩
  clear hT hp
  go_enter Tryd.func5, Tryd.ntmps5
  go_wp2_with fail
  refine hNew.mono ?_
  rintro e w1 ⟨rfl, l1, b1⟩
  rw [HM.out.1] at l1
  have H1 : Hid (Lw w1 p m 1 2 none 0 ∧ Below w.heap.size w w1) := ⟨l1, b1⟩
  have hC1 := cancel_any w1
  clear hNew l1 b1
  go_wp2_with fail
  refine hC1.mono ?_
  rintro e w2 ⟨rfl, b2⟩
  have H2 : Hid (Lw w2 p m 1 2 none 0 ∧ Below w.heap.size w w2) := ⟨H1.out.1.below b2, H1.out.2.trans (b2.mono H1.out.2.size)⟩
  have hP1 := put_any w2 p m 1 2 none 0 H2.out.1 (by omega) (by omega) (by omega) sC nl nl nl nl [] [] (fun V _ => sin_nil sC V rfl rfl rfl rfl) (HT.out w2 H2.out.2) 0 prtC
  clear hC1 b2
  go_wp2_with fail
  refine hP1.mono ?_
  intro e w3 hr
  rcases hr with ⟨r, hr0, rfl, _, _, ⟨hz, _⟩ | ⟨_, hk, _, _⟩⟩ | ⟨_, _, rfl, o3, yC, lo3, hi3, P3⟩
  · exact absurd rfl hz
  · exact absurd hk (by decide)
  have H3 : Hid (PtP w2 w3 p m 1 2 none o3 0 sC yC lo3 hi3 ∧ Below w.heap.size w w3) := by
    refine ⟨P3, ?_⟩
    have k := (Kl.of_below (S := Fo m none) H2.out.2).then P3.kl (fun _ _ e => e)
    exact ⟨k.os, k.tape, k.output, k.size, fun g hg => k.block g hg (fun e => by
      rcases e with e | e
      · have := HM.out.1; omega
      · exact e)⟩
  have hA1 := ack_any w3
  clear hP1 P3
  go_wp2_with fail
  refine hA1.mono ?_
  rintro e w4 ⟨rfl, b4⟩
  have H4 : Hid (Lw w4 p m 1 2 o3 1 ∧ Below w.heap.size w w4 ∧ Below w3.heap.size w3 w4) := ⟨H3.out.1.lw.below b4, H3.out.2.trans (b4.mono H3.out.2.size), b4⟩
  have hP2 := put_any w4 p m 1 2 o3 1 H4.out.1 (by omega) (by omega) (by omega) sA nl nl nl nl [] [] (fun V _ => sin_nil sA V rfl rfl rfl rfl) (HT.out w4 H4.out.2.1) 0 prtA
  clear hA1 b4
  go_wp2_with fail
  refine hP2.mono ?_
  intro e w5 hr
  have hW30 : Wt o3 0 = [] := by rw [H3.out.1.wt 0 (by omega)]; rfl
  have hW31 : Wt o3 1 = [yC] := by rw [H3.out.1.wt 1 (by omega)]; rfl
  have hW32 : Wt o3 2 = [] := by rw [H3.out.1.wt 2 (by omega)]; rfl
  rcases hr with ⟨r, hr0, rfl, _, _, ⟨hz, _⟩ | ⟨_, hk, hge, _⟩⟩ | ⟨_, _, rfl, o5, yA, lo5, hi5, P5⟩
  · exact absurd rfl hz
  · rw [hW30] at hge; exact absurd hge (by decide)
  have hFm : ∀ g, Fo m o3 g → m ≤ g := fun g hg => by
    rcases H3.out.1.fo g hg with e | e
    · rcases e with e | e
      · omega
      · exact e.elim
    · have := H2.out.2.size; have := HM.out.1; omega
  have H5 : Hid (PtP w4 w5 p m 1 2 o3 o5 1 sA yA lo5 hi5 ∧ Below w.heap.size w w5 ∧ (∀ g, Fo m o3 g → m ≤ g) ∧ Wt o5 0 = [yA] ∧ Wt o5 1 = [yC] ∧ Wt o5 2 = []) := by
    refine ⟨P5, ?_, hFm, by rw [P5.wt 0 (by omega), hW30]; rfl, by rw [P5.wt 1 (by omega), hW31]; rfl, by rw [P5.wt 2 (by omega), hW32]; rfl⟩
    have k := (Kl.of_below (S := Fo m o3) H4.out.2.1).then P5.kl (fun _ _ e => e)
    exact ⟨k.os, k.tape, k.output, k.size, fun g hg => k.block g hg (fun e => by have := hFm g e; have := HM.out.1; omega)⟩
  have hA2 := ack_any w5
  clear hP2 P5 hW30 hW31 hW32 hFm
  go_wp2_with fail
  refine hA2.mono ?_
  rintro e w6 ⟨rfl, b6⟩
  have H6 : Hid (Lw w6 p m 1 2 o5 2 ∧ Below w.heap.size w w6 ∧ Below w5.heap.size w5 w6) := ⟨H5.out.1.lw.below b6, H5.out.2.1.trans (b6.mono H5.out.2.1.size), b6⟩
  have hP3 := put_any w6 p m 1 2 o5 2 H6.out.1 (by omega) (by omega) (by omega) sA nl nl nl nl [] [] (fun V _ => sin_nil sA V rfl rfl rfl rfl) (HT.out w6 H6.out.2.1) 0 prtA
  clear hA2 b6
  go_wp2_with fail
  refine hP3.mono ?_
  intro e w7 hr
  rcases hr with ⟨r, hr0, rfl, l7, b7, ⟨hz, _⟩ | ⟨_, hk, hge, rfl⟩⟩ | ⟨_, hlt, _⟩
  · exact absurd rfl hz
  case inr => have h := hlt (by decide); rw [H5.out.2.2.2.1] at h; exact absurd h (by simp)
  have H7 : Hid (Lw w7 p m 1 2 o5 2 ∧ Below w.heap.size w w7 ∧ Below w6.heap.size w6 w7) := ⟨l7, H6.out.2.1.trans (b7.mono H6.out.2.1.size), b7⟩
  have hCn := lcount_any w7 p m 1 2 o5 2 H7.out.1 (by omega)
  have hcn : cnt o5 = 2 := by unfold cnt; rw [H5.out.2.2.2.1, H5.out.2.2.2.2.1, H5.out.2.2.2.2.2]; rfl
  rw [hcn] at hCn
  clear hP3 l7 b7 hr0 hge hk hcn
  go_wp2_with fail
  refine hCn.mono ?_
  rintro e w8 ⟨rfl, b8⟩
  have H8 : Hid (Lw w8 p m 1 2 o5 2 ∧ Below w.heap.size w w8 ∧ Below w7.heap.size w7 w8) := ⟨H7.out.1.below b8, H7.out.2.1.trans (b8.mono H7.out.2.1.size), b8⟩
  have hTk := take_any w8 p m 1 2 o5 2 2 H8.out.1 (by omega) (by omega)
  clear hCn b8
  go_wp2_with fail
  refine hTk.mono ?_
  rintro e w9 ⟨ov, o9, rfl, P9⟩
  have hCc : (Cc o5).take 2 = [yA, yC] := by rw [Cc_eq, H5.out.2.2.2.1, H5.out.2.2.2.2.1, H5.out.2.2.2.2.2]; rfl
  have hrow := P9.out
  rw [hCc] at hrow
  have hRw := own_rw hrow
  obtain ⟨a, c, hov, hsd⟩ := hRw
  subst hov
  obtain ⟨g, off, rfl, sd⟩ : ∃ g off, a = some ⟨g, off, none⟩ ∧ Sd w9 g off [yA, yC] := hsd.resolve_left (by simp)
  have hFm5 : ∀ g, Fo m o5 g → m ≤ g := fun g hg => by
    rcases H5.out.1.fo g hg with e | e
    · exact H5.out.2.2.1 g e
    · have := H4.out.2.1.size; have := HM.out.1; omega
  have H9 : Hid (Below w.heap.size w w9 ∧ SAt w9 yA ∧ SAt w9 yC ∧ yA.s = sA ∧ yC.s = sC) := by
    have k := (Kl.of_below (S := Fo m o5) H8.out.2.1).then P9.kl (fun _ _ e => e)
    have sA5 : Sta (Fo m o5) w5 yA := H5.out.1.sta (fun g hg => H5.out.1.nf g hg)
    have sC3 : Sta (Fo m o3) w3 yC := H3.out.1.sta (fun g hg => H3.out.1.nf g hg)
    have sC4 : Sta (Fo m o3) w4 yC := sC3.step (Kl.of_below (S := fun _ => False) H4.out.2.2) (fun _ _ e => e.elim) (fun _ _ e => e)
    have sC5 : Sta (Fo m o5) w5 yC := sC4.step H5.out.1.kl (fun _ _ e => e) (fun g hg e => by
      rcases H5.out.1.fo g e with e | e
      · exact e
      · omega)
    have b58 : Below w5.heap.size w5 w8 := (H6.out.2.2.trans (H7.out.2.2.mono H6.out.2.2.size)).trans (H8.out.2.2.mono (H6.out.2.2.trans (H7.out.2.2.mono H6.out.2.2.size)).size)
    have k59 : Kl (Fo m o5) w5 w9 := (Kl.of_below b58).then P9.kl (fun _ _ e => e)
    exact ⟨⟨k.os, k.tape, k.output, k.size, fun g hg => k.block g hg (fun e => by have := hFm5 g e; have := HM.out.1; omega)⟩, sA5 w9 k59, sC5 w9 k59, H5.out.1.ys, H3.out.1.ys⟩
  have HSd : Hid (Sd w9 g off [yA, yC]) := sd
  have hl2 : ([yA, yC] : List Sv).length = 2 := rfl
  rw [hl2]
  clear hTk P9 hCc hrow hsd sd hFm5 hl2
  have HC0 : Hid (∀ V : World, Below w9.heap.size w9 V → V.cell? ⟨g, off, none⟩ = some (.int .i64 yA.s.typ) ∧ V.cell? ⟨g, off + 1, none⟩ = some (.int .i64 yA.s.org) ∧ V.cell? ⟨g, off + 2, none⟩ = some (.int .i64 yA.s.num) ∧ V.cell? ⟨g, off + 3, none⟩ = some yA.hv ∧ V.cell? ⟨g, off + 4, none⟩ = some yA.tv ∧ V.cell? ⟨g, off + 5, none⟩ = some (.int .i64 yA.s.srv) ∧ V.cell? ⟨g, off + 6, none⟩ = some (.int .i64 yA.s.off) ∧ V.cell? ⟨g, off + 7, none⟩ = some yA.dv ∧ V.cell? ⟨g, off + 8, none⟩ = some (.int .i64 yA.s.chk) ∧ V.cell? ⟨g, off + 9, none⟩ = some (.int .i64 yA.s.rep) ∧ V.cell? ⟨g, off + 10, none⟩ = some (.int .i64 yA.s.upp) ∧ V.cell? ⟨g, off + 11, none⟩ = some (.int .i64 yA.s.low) ∧ V.cell? ⟨g, off + 12, none⟩ = some yA.cv ∧ V.cell? ⟨g, off + 13, none⟩ = some (.int .i64 yA.s.rsn)) := fun V hV => by
    have h := sd_cells (HSd.out.below hV) (k := 0) (y := yA) rfl
    rw [Nat.zero_mul, Nat.add_zero] at h
    exact h
  have HC1 : Hid (∀ V : World, Below w9.heap.size w9 V → V.cell? ⟨g, off + 14, none⟩ = some (.int .i64 yC.s.typ) ∧ V.cell? ⟨g, off + 14 + 1, none⟩ = some (.int .i64 yC.s.org) ∧ V.cell? ⟨g, off + 14 + 2, none⟩ = some (.int .i64 yC.s.num) ∧ V.cell? ⟨g, off + 14 + 3, none⟩ = some yC.hv ∧ V.cell? ⟨g, off + 14 + 4, none⟩ = some yC.tv ∧ V.cell? ⟨g, off + 14 + 5, none⟩ = some (.int .i64 yC.s.srv) ∧ V.cell? ⟨g, off + 14 + 6, none⟩ = some (.int .i64 yC.s.off) ∧ V.cell? ⟨g, off + 14 + 7, none⟩ = some yC.dv ∧ V.cell? ⟨g, off + 14 + 8, none⟩ = some (.int .i64 yC.s.chk) ∧ V.cell? ⟨g, off + 14 + 9, none⟩ = some (.int .i64 yC.s.rep) ∧ V.cell? ⟨g, off + 14 + 10, none⟩ = some (.int .i64 yC.s.upp) ∧ V.cell? ⟨g, off + 14 + 11, none⟩ = some (.int .i64 yC.s.low) ∧ V.cell? ⟨g, off + 14 + 12, none⟩ = some yC.cv ∧ V.cell? ⟨g, off + 14 + 13, none⟩ = some (.int .i64 yC.s.rsn)) := fun V hV => by
    have h := sd_cells (HSd.out.below hV) (k := 1) (y := yC) rfl
    rw [Nat.one_mul] at h
    exact h
  have hA3 := ack_any w9.drew
  have T0 := HC0.out w9 (Below.refl _ _)
  go_wp2_with fail
  go_region_held3 (fun V => V.cell? ⟨g, off, none⟩ = some (.int .i64 yA.s.typ) ∧ V.cell? ⟨g, off + 1, none⟩ = some (.int .i64 yA.s.org) ∧ V.cell? ⟨g, off + 2, none⟩ = some (.int .i64 yA.s.num) ∧ V.cell? ⟨g, off + 3, none⟩ = some yA.hv ∧ V.cell? ⟨g, off + 4, none⟩ = some yA.tv ∧ V.cell? ⟨g, off + 5, none⟩ = some (.int .i64 yA.s.srv) ∧ V.cell? ⟨g, off + 6, none⟩ = some (.int .i64 yA.s.off) ∧ V.cell? ⟨g, off + 7, none⟩ = some yA.dv ∧ V.cell? ⟨g, off + 8, none⟩ = some (.int .i64 yA.s.chk) ∧ V.cell? ⟨g, off + 9, none⟩ = some (.int .i64 yA.s.rep) ∧ V.cell? ⟨g, off + 10, none⟩ = some (.int .i64 yA.s.upp) ∧ V.cell? ⟨g, off + 11, none⟩ = some (.int .i64 yA.s.low) ∧ V.cell? ⟨g, off + 12, none⟩ = some yA.cv ∧ V.cell? ⟨g, off + 13, none⟩ = some (.int .i64 yA.s.rsn))
    (first | exact T0 | exact T1.out | exact T2.out)
    (first
      | (go_at_call 26
         refine hSm.mono ?_
         rintro e U2 ⟨rfl, hU2⟩
         have HU2 : Hid (Below w9.heap.size w9 U2) := HU.out.trans (hU2.mono HU.out.size)
         have T2 : Hid (U2.cell? ⟨g, off, none⟩ = some (.int .i64 yA.s.typ) ∧ U2.cell? ⟨g, off + 1, none⟩ = some (.int .i64 yA.s.org) ∧ U2.cell? ⟨g, off + 2, none⟩ = some (.int .i64 yA.s.num) ∧ U2.cell? ⟨g, off + 3, none⟩ = some yA.hv ∧ U2.cell? ⟨g, off + 4, none⟩ = some yA.tv ∧ U2.cell? ⟨g, off + 5, none⟩ = some (.int .i64 yA.s.srv) ∧ U2.cell? ⟨g, off + 6, none⟩ = some (.int .i64 yA.s.off) ∧ U2.cell? ⟨g, off + 7, none⟩ = some yA.dv ∧ U2.cell? ⟨g, off + 8, none⟩ = some (.int .i64 yA.s.chk) ∧ U2.cell? ⟨g, off + 9, none⟩ = some (.int .i64 yA.s.rep) ∧ U2.cell? ⟨g, off + 10, none⟩ = some (.int .i64 yA.s.upp) ∧ U2.cell? ⟨g, off + 11, none⟩ = some (.int .i64 yA.s.low) ∧ U2.cell? ⟨g, off + 12, none⟩ = some yA.cv ∧ U2.cell? ⟨g, off + 13, none⟩ = some (.int .i64 yA.s.rsn)) := HC0.out U2 HU2.out
         clear hU2)
      | (go_at_call 25
         refine hA3.mono ?_
         rintro e U ⟨rfl, hU⟩
         have HU : Hid (Below w9.heap.size w9 U) := ⟨hU.os, hU.tape, hU.output, hU.size, hU.block⟩
         have T1 : Hid (U.cell? ⟨g, off, none⟩ = some (.int .i64 yA.s.typ) ∧ U.cell? ⟨g, off + 1, none⟩ = some (.int .i64 yA.s.org) ∧ U.cell? ⟨g, off + 2, none⟩ = some (.int .i64 yA.s.num) ∧ U.cell? ⟨g, off + 3, none⟩ = some yA.hv ∧ U.cell? ⟨g, off + 4, none⟩ = some yA.tv ∧ U.cell? ⟨g, off + 5, none⟩ = some (.int .i64 yA.s.srv) ∧ U.cell? ⟨g, off + 6, none⟩ = some (.int .i64 yA.s.off) ∧ U.cell? ⟨g, off + 7, none⟩ = some yA.dv ∧ U.cell? ⟨g, off + 8, none⟩ = some (.int .i64 yA.s.chk) ∧ U.cell? ⟨g, off + 9, none⟩ = some (.int .i64 yA.s.rep) ∧ U.cell? ⟨g, off + 10, none⟩ = some (.int .i64 yA.s.upp) ∧ U.cell? ⟨g, off + 11, none⟩ = some (.int .i64 yA.s.low) ∧ U.cell? ⟨g, off + 12, none⟩ = some yA.cv ∧ U.cell? ⟨g, off + 13, none⟩ = some (.int .i64 yA.s.rsn)) := HC0.out U HU.out
         have hSm := same_ok (y := ⟨sA, nl, nl, nl, nl⟩) (H9.out.2.1.below HU.out) ⟨[], [], sin_nil sA U rfl rfl rfl rfl⟩ H9.out.2.2.2.1
         clear hU))
  clear hA3 hSm T0
  have hC3 := cancel_any U2.drew
  have T0 := HC1.out U2 HU2.out
  go_wp2_with fail
  go_region_held3 (fun V => V.cell? ⟨g, off + 14, none⟩ = some (.int .i64 yC.s.typ) ∧ V.cell? ⟨g, off + 14 + 1, none⟩ = some (.int .i64 yC.s.org) ∧ V.cell? ⟨g, off + 14 + 2, none⟩ = some (.int .i64 yC.s.num) ∧ V.cell? ⟨g, off + 14 + 3, none⟩ = some yC.hv ∧ V.cell? ⟨g, off + 14 + 4, none⟩ = some yC.tv ∧ V.cell? ⟨g, off + 14 + 5, none⟩ = some (.int .i64 yC.s.srv) ∧ V.cell? ⟨g, off + 14 + 6, none⟩ = some (.int .i64 yC.s.off) ∧ V.cell? ⟨g, off + 14 + 7, none⟩ = some yC.dv ∧ V.cell? ⟨g, off + 14 + 8, none⟩ = some (.int .i64 yC.s.chk) ∧ V.cell? ⟨g, off + 14 + 9, none⟩ = some (.int .i64 yC.s.rep) ∧ V.cell? ⟨g, off + 14 + 10, none⟩ = some (.int .i64 yC.s.upp) ∧ V.cell? ⟨g, off + 14 + 11, none⟩ = some (.int .i64 yC.s.low) ∧ V.cell? ⟨g, off + 14 + 12, none⟩ = some yC.cv ∧ V.cell? ⟨g, off + 14 + 13, none⟩ = some (.int .i64 yC.s.rsn))
    (first | exact T0 | exact T3.out | exact T4.out)
    (first
      | (go_at_call 26
         refine hSm.mono ?_
         rintro e U4 ⟨rfl, hU4⟩
         have HU4 : Hid (Below w9.heap.size w9 U4) := HU3.out.trans (hU4.mono HU3.out.size)
         have T4 : Hid (U4.cell? ⟨g, off + 14, none⟩ = some (.int .i64 yC.s.typ) ∧ U4.cell? ⟨g, off + 14 + 1, none⟩ = some (.int .i64 yC.s.org) ∧ U4.cell? ⟨g, off + 14 + 2, none⟩ = some (.int .i64 yC.s.num) ∧ U4.cell? ⟨g, off + 14 + 3, none⟩ = some yC.hv ∧ U4.cell? ⟨g, off + 14 + 4, none⟩ = some yC.tv ∧ U4.cell? ⟨g, off + 14 + 5, none⟩ = some (.int .i64 yC.s.srv) ∧ U4.cell? ⟨g, off + 14 + 6, none⟩ = some (.int .i64 yC.s.off) ∧ U4.cell? ⟨g, off + 14 + 7, none⟩ = some yC.dv ∧ U4.cell? ⟨g, off + 14 + 8, none⟩ = some (.int .i64 yC.s.chk) ∧ U4.cell? ⟨g, off + 14 + 9, none⟩ = some (.int .i64 yC.s.rep) ∧ U4.cell? ⟨g, off + 14 + 10, none⟩ = some (.int .i64 yC.s.upp) ∧ U4.cell? ⟨g, off + 14 + 11, none⟩ = some (.int .i64 yC.s.low) ∧ U4.cell? ⟨g, off + 14 + 12, none⟩ = some yC.cv ∧ U4.cell? ⟨g, off + 14 + 13, none⟩ = some (.int .i64 yC.s.rsn)) := HC1.out U4 HU4.out
         clear hU4)
      | (go_at_call 24
         refine hC3.mono ?_
         rintro e U3 ⟨rfl, hU3⟩
         have HU3 : Hid (Below w9.heap.size w9 U3) := HU2.out.trans ((show Below U2.heap.size U2 U3 from ⟨hU3.os, hU3.tape, hU3.output, hU3.size, hU3.block⟩).mono HU2.out.size)
         have T3 : Hid (U3.cell? ⟨g, off + 14, none⟩ = some (.int .i64 yC.s.typ) ∧ U3.cell? ⟨g, off + 14 + 1, none⟩ = some (.int .i64 yC.s.org) ∧ U3.cell? ⟨g, off + 14 + 2, none⟩ = some (.int .i64 yC.s.num) ∧ U3.cell? ⟨g, off + 14 + 3, none⟩ = some yC.hv ∧ U3.cell? ⟨g, off + 14 + 4, none⟩ = some yC.tv ∧ U3.cell? ⟨g, off + 14 + 5, none⟩ = some (.int .i64 yC.s.srv) ∧ U3.cell? ⟨g, off + 14 + 6, none⟩ = some (.int .i64 yC.s.off) ∧ U3.cell? ⟨g, off + 14 + 7, none⟩ = some yC.dv ∧ U3.cell? ⟨g, off + 14 + 8, none⟩ = some (.int .i64 yC.s.chk) ∧ U3.cell? ⟨g, off + 14 + 9, none⟩ = some (.int .i64 yC.s.rep) ∧ U3.cell? ⟨g, off + 14 + 10, none⟩ = some (.int .i64 yC.s.upp) ∧ U3.cell? ⟨g, off + 14 + 11, none⟩ = some (.int .i64 yC.s.low) ∧ U3.cell? ⟨g, off + 14 + 12, none⟩ = some yC.cv ∧ U3.cell? ⟨g, off + 14 + 13, none⟩ = some (.int .i64 yC.s.rsn)) := HC1.out U3 HU3.out
         have hSm := same_ok (y := ⟨sC, nl, nl, nl, nl⟩) (H9.out.2.2.1.below HU3.out) ⟨[], [], sin_nil sC U3 rfl rfl rfl rfl⟩ H9.out.2.2.2.2
         clear hU3))
  clear hC3 hSm T0
  go_wp2
  go_ret
  exact ⟨by first | rfl | simp, H9.out.1.trans (HU4.out.mono H9.out.1.size)⟩

end Go.Proofs.YtdfdaambfihjaaaDoor.L
