import Derived.Test.YtillgoegiplmkaaGreatDoorTbCh
import Derived.Test.YtillgoegiplmkaaGreatDoorTbCg
namespace Go.Proofs.YtillgoegiplmkaaGreatDoor.B
open C
open Go.RowKit Go.Maps
set_option linter.unusedVariables false
set_option linter.unusedSimpArgs false

theorem i_w {x : Int} (h : -9223372036854775808 ≤ x ∧ x ≤ 9223372036854775807) : iW x = true := iW_iff.mpr h
theorem MayR.sw {r : Rc} (h : MayR r) (h1 : ¬ r.kind = 1) (h2 : ¬ r.kind = 2) (h3 : ¬ r.kind = 11) : sW (sR r) := by
  obtain ⟨a, b, c, d⟩ := h.ses h1 h2 h3
  have e : r.org ≤ 4611686018427387903 := b
  have f : r.num < 4611686018427387903 := d
  exact ⟨i_w ⟨by show _ ≤ r.org; omega, by show r.org ≤ _; omega⟩, i_w ⟨by show _ ≤ r.num; omega, by show r.num ≤ _; omega⟩⟩
/-- What Add says of a table's set. -/
theorem ar_un {l : List Sp} {s : Sp} {u : List Sp} {n er : Int} (h : AR l s u n er) (hl : IsSet l) (h0 : 0 ≤ s.1) (h2 : s.1 < s.2) (h3 : s.2 ≤ 4611686018427387903) : (er = 0 ∧ (un l s).length ≤ 2000 ∧ u = un l s) ∨ (er = 3 ∧ ¬ (un l s).length ≤ 2000) := by
  have hs : IsSet [s] := ⟨by simp, h0, h2, h3, trivial⟩
  rcases h.1 with ⟨q, _⟩ | ⟨_, _, U, hU, q⟩
  · exact absurd ⟨hl, hs⟩ q
  · have e := un_of hl.2 h0 h2 h3 hU
    subst e
    rcases q with ⟨q1, q2, q3⟩ | ⟨q1, q2, _⟩
    · exact .inl ⟨q2, q1, q3⟩
    · exact .inr ⟨q2, by omega⟩
theorem at_set {T : T8} (hok : T.Ok) (s : Int × Int) : IsSet (T.at s).hv := by
  unfold T8.at
  split
  · rename_i i hi
    exact ⟨(hok.fi hi).1.few, (hok.fi hi).1.rt⟩
  · exact ⟨by simp [emp], trivial⟩
set_option maxRecDepth 8000 in
set_option maxHeartbeats 4000000 in
theorem fits8_any {w : World} {z : Tz} {T : T8} (h : Tw w z T) (hok : T.Ok) (r : Rc) (hm : MayR r) (sa da : Option Addr) (ns nd sc dc : Nat) (hd : r.data.length = nd) : Calls Tryz.prog 35 #[tP z, .agg (rcC r (.slice sa ns sc) (.slice da nd dc))] w fun e w' => e = .returned (.bool (T.fits r)) ∧ Below w.heap.size w w' := by
  have hbx : Below w.heap.size w (w.alloc (rcO r (.slice sa ns sc) (.slice da nd dc))) := (Below.refl _ _).alloc (Nat.le_refl _) _
  unfold T8.fits
  by_cases hk : r.kind = 6
  · have k6 := hm.k6 hk
    have hg := grown8_any (h.below hbx) hok r (hm.sw (by omega) (by omega) (by omega)) sa ns sc da nd dc hd ⟨k6.2.1, by omega⟩ (by omega)
    have HA : Hid (∀ u n er, AR (T.at (sR r)).hv (plc r) u n er → (er = 0 ∧ (un (T.at (sR r)).hv (plc r)).length ≤ 2000 ∧ u = un (T.at (sR r)).hv (plc r)) ∨ (er = 3 ∧ ¬ (un (T.at (sR r)).hv (plc r)).length ≤ 2000)) := fun u n er q => ar_un q (at_set hok _) k6.2.1 (by unfold plc; simp only; omega) (by unfold plc; simp only; omega)
    have HG : Hid (Calls Tryz.prog 71 #[tP z, .agg (rcC r (.slice sa ns sc) (.slice da nd dc))] (w.alloc (rcO r (.slice sa ns sc) (.slice da nd dc))) (GwP (T.at (sR r)).hv (plc r) (w.alloc (rcO r (.slice sa ns sc) (.slice da nd dc))))) := hg
    rw [if_pos hk]
    have q6 : (r.kind != 6) = false := by simp [hk]
    have HK : Hid (r.kind = 6) := hk
    have HX : Hid (Below w.heap.size w (w.alloc (rcO r (.slice sa ns sc) (.slice da nd dc)))) := hbx
    clear h hok hm hd hbx k6 hg hk
    go_enter Tryz.func35, Tryz.ntmps35
    go_wp2_with (go_at_call 71; refine HG.out.mono ?_; rintro e w1 ⟨v, u, er, rfl, hso, ⟨n, har⟩, hb1⟩)
    have HB : Hid (Below w.heap.size w w1) := HX.out.trans (hb1.mono HX.out.size)
    rcases HA.out u n er har with ⟨rfl, q1, _⟩ | ⟨rfl, q1⟩
    · clear har hso hb1
      go_ret
      exact ⟨by simp [q1], HB.out⟩
    · clear har hso hb1
      go_ret
      exact ⟨by simp [q1], HB.out⟩
  · rw [if_neg hk]
    have q6 : (r.kind != 6) = true := by simp [hk]
    have q7 : decide (r.kind = 6) = false := by simp [hk]
    have HX : Hid (Below w.heap.size w (w.alloc (rcO r (.slice sa ns sc) (.slice da nd dc)))) := hbx
    clear h hok hm hd hbx
    go_enter Tryz.func35, Tryz.ntmps35
    go_wp2_with fail
    go_ret
    exact ⟨rfl, HX.out⟩
theorem Ok.bt {T : T8} (h : T.Ok) : 0 ≤ T.boots ∧ T.boots ≤ 1073741824 := by
  by_cases q : T.id = 0
  · rw [h.none q]; decide
  · have := h.boots q; omega
theorem follows_any {w : World} {z : Tz} {T : T8} (h : Tw w z T) (hok : T.Ok) (r : Rc) (hm : MayR r) (sa da : Option Addr) (ns nd sc dc : Nat) : Calls Tryz.prog 34 #[tP z, .agg (rcC r (.slice sa ns sc) (.slice da nd dc))] w fun e w' => e = .returned (.bool (T.folw r)) ∧ Below w.heap.size w w' := by
  have ht := hm.top
  have hbt := Ok.bt hok
  by_cases hid : T.id = 0
  · by_cases h1 : r.kind = 1
    · have e : T.folw r = ((T.id == 0 || T.id == r.org) && (T.boots == 0 || T.boots + 1 == r.size)) := by unfold T8.folw; rw [if_pos h1]
      rw [e]
      exact follows_gen h r sa da ns sc nd dc 90 91 _ (.inr ⟨hid, h1⟩) (fun W => by rw [h1]; exact rowOf_any 1 _ _ rfl rfl (by omega) W) (enters_of Tryz.func90 (by kernel_rfl) rfl) (fun W hW => canBoot_any (h.below hW) hbt r _ _)
    · have e : T.folw r = false := by unfold T8.folw; rw [if_neg h1, if_pos hid]
      rw [e]
      exact follows_no h r sa da ns sc nd dc hid h1
  · have : r.kind = 1 ∨ r.kind = 2 ∨ r.kind = 3 ∨ r.kind = 4 ∨ r.kind = 5 ∨ r.kind = 6 ∨ r.kind = 7 ∨ r.kind = 8 ∨ r.kind = 9 ∨ r.kind = 10 ∨ r.kind = 11 ∨ r.kind = 12 := by omega
    rcases this with hk | hk | hk | hk | hk | hk | hk | hk | hk | hk | hk | hk
    · have e : T.folw r = ((T.id == 0 || T.id == r.org) && (T.boots == 0 || T.boots + 1 == r.size)) := by unfold T8.folw; rw [if_pos hk]; all_goals rfl
      rw [e]
      exact follows_gen h r sa da ns sc nd dc 90 91 _ (.inl hid) (fun W => by rw [hk]; exact rowOf_any 1 _ _ rfl rfl (by omega) W) (enters_of Tryz.func90 (by kernel_rfl) rfl) (fun W hW => canBoot_any (h.below hW) hbt r _ _)
    · have e : T.folw r = (decide (T.next ≤ r.size)) := by unfold T8.folw; rw [if_neg (by omega), if_neg hid, if_pos hk]; all_goals rfl
      rw [e]
      exact follows_gen h r sa da ns sc nd dc 92 93 _ (.inl hid) (fun W => by rw [hk]; exact rowOf_any 2 _ _ rfl rfl (by omega) W) (enters_of Tryz.func92 (by kernel_rfl) rfl) (fun W hW => canSkip_any (h.below hW) r _ _)
    · have e : T.folw r = (r.org == T.id && (decide (T.next ≤ r.num) && decide (r.peer ≠ T.id))) := by unfold T8.folw; rw [if_neg (by omega), if_neg hid, if_neg (by omega), if_pos hk]; all_goals rfl
      rw [e]
      exact follows_gen h r sa da ns sc nd dc 94 95 _ (.inl hid) (fun W => by rw [hk]; exact rowOf_any 3 _ _ rfl rfl (by omega) W) (enters_of Tryz.func94 (by kernel_rfl) rfl) (fun W hW => canOpen_any (h.below hW) r _ _)
    · have e : T.folw r = (match T.fe (sR r) with | some x => !x.ended | none => false) := by unfold T8.folw; rw [if_neg (by omega), if_neg hid, if_neg (by omega), if_neg (by omega), if_pos hk]; all_goals rfl
      rw [e]
      have hr := hm.sw (by omega) (by omega) (by omega)
      exact follows_gen h r sa da ns sc nd dc 96 97 _ (.inl hid) (fun W => by rw [hk]; exact rowOf_any 4 _ _ rfl rfl (by omega) W) (enters_of Tryz.func96 (by kernel_rfl) rfl) (fun W hW => canEnd_any (h.below hW) r hr _ _)
    · have e : T.folw r = (match T.fe (sR r) with | some x => x.ended | none => false) := by unfold T8.folw; rw [if_neg (by omega), if_neg hid, if_neg (by omega), if_neg (by omega), if_neg (by omega), if_pos hk]; all_goals rfl
      rw [e]
      have hr := hm.sw (by omega) (by omega) (by omega)
      exact follows_gen h r sa da ns sc nd dc 98 99 _ (.inl hid) (fun W => by rw [hk]; exact rowOf_any 5 _ _ rfl rfl (by omega) W) (enters_of Tryz.func98 (by kernel_rfl) rfl) (fun W hW => canForget_any (h.below hW) r hr _ _)
    · have e : T.folw r = (T.beg (sR r) || (T.und (sR r) && ((T.at (sR r)).srv == r.srv && (agr (T.at (sR r)).red r.red (T.at (sR r)).data.length && agr (T.at (sR r)).size r.size (T.at (sR r)).data.length)))) := by unfold T8.folw; rw [if_neg (by omega), if_neg hid, if_neg (by omega), if_neg (by omega), if_neg (by omega), if_neg (by omega), if_pos hk]; all_goals rfl
      rw [e]
      have hr := hm.sw (by omega) (by omega) (by omega)
      exact follows_gen h r sa da ns sc nd dc 100 101 _ (.inl hid) (fun W => by rw [hk]; exact rowOf_any 6 _ _ rfl rfl (by omega) W) (enters_of Tryz.func100 (by kernel_rfl) rfl) (fun W hW => canTake_any (h.below hW) hok r hr _ _)
    · have e : T.folw r = (T.und (sR r) && (decide ((T.at (sR r)).red ≠ 0) && cov (T.at (sR r)).hv (0, (T.at (sR r)).red))) := by unfold T8.folw; rw [if_neg (by omega), if_neg hid, if_neg (by omega), if_neg (by omega), if_neg (by omega), if_neg (by omega), if_neg (by omega), if_pos hk]; all_goals rfl
      rw [e]
      have hr := hm.sw (by omega) (by omega) (by omega)
      exact follows_gen h r sa da ns sc nd dc 102 103 _ (.inl hid) (fun W => by rw [hk]; exact rowOf_any 7 _ _ rfl rfl (by omega) W) (enters_of Tryz.func102 (by kernel_rfl) rfl) (fun W hW => canDeliver_any (h.below hW) hok r hr _ _)
    · have e : T.folw r = (T.beg (sR r) || T.und (sR r)) := by unfold T8.folw; rw [if_neg (by omega), if_neg hid, if_neg (by omega), if_neg (by omega), if_neg (by omega), if_neg (by omega), if_neg (by omega), if_neg (by omega), if_pos hk]; all_goals rfl
      rw [e]
      have hr := hm.sw (by omega) (by omega) (by omega)
      exact follows_gen h r sa da ns sc nd dc 104 105 _ (.inl hid) (fun W => by rw [hk]; exact rowOf_any 8 _ _ rfl rfl (by omega) W) (enters_of Tryz.func104 (by kernel_rfl) rfl) (fun W hW => canCancel_any (h.below hW) hok r hr _ _)
    · have e : T.folw r = (match T.fi (sR r) with | some i => (i.done || i.gone) && !i.heard | none => false) := by unfold T8.folw; rw [if_neg (by omega), if_neg hid, if_neg (by omega), if_neg (by omega), if_neg (by omega), if_neg (by omega), if_neg (by omega), if_neg (by omega), if_neg (by omega), if_pos hk]; all_goals rfl
      rw [e]
      have hr := hm.sw (by omega) (by omega) (by omega)
      exact follows_gen h r sa da ns sc nd dc 106 107 _ (.inl hid) (fun W => by rw [hk]; exact rowOf_any 9 _ _ rfl rfl (by omega) W) (enters_of Tryz.func106 (by kernel_rfl) rfl) (fun W hW => canHear_any (h.below hW) r hr _ _)
    · have e : T.folw r = (match T.fi (sR r) with | some i => i.done && !i.shut | none => false) := by unfold T8.folw; rw [if_neg (by omega), if_neg hid, if_neg (by omega), if_neg (by omega), if_neg (by omega), if_neg (by omega), if_neg (by omega), if_neg (by omega), if_neg (by omega), if_neg (by omega), if_pos hk]; all_goals rfl
      rw [e]
      have hr := hm.sw (by omega) (by omega) (by omega)
      exact follows_gen h r sa da ns sc nd dc 108 109 _ (.inl hid) (fun W => by rw [hk]; exact rowOf_any 10 _ _ rfl rfl (by omega) W) (enters_of Tryz.func108 (by kernel_rfl) rfl) (fun W hW => canShut_any (h.below hW) r hr _ _)
    · have e : T.folw r = (decide (r.size ≠ T.id)) := by unfold T8.folw; rw [if_neg (by omega), if_neg hid, if_neg (by omega), if_neg (by omega), if_neg (by omega), if_neg (by omega), if_neg (by omega), if_neg (by omega), if_neg (by omega), if_neg (by omega), if_neg (by omega), if_pos hk]; all_goals rfl
      rw [e]
      exact follows_gen h r sa da ns sc nd dc 110 111 _ (.inl hid) (fun W => by rw [hk]; exact rowOf_any 11 _ _ rfl rfl (by omega) W) (enters_of Tryz.func110 (by kernel_rfl) rfl) (fun W hW => canBury_any (h.below hW) r _ _)
    · have e : T.folw r = (T.beg (sR r)) := by unfold T8.folw; rw [if_neg (by omega), if_neg hid, if_neg (by omega), if_neg (by omega), if_neg (by omega), if_neg (by omega), if_neg (by omega), if_neg (by omega), if_neg (by omega), if_neg (by omega), if_neg (by omega), if_neg (by omega)]; all_goals rfl
      rw [e]
      have hr := hm.sw (by omega) (by omega) (by omega)
      exact follows_gen h r sa da ns sc nd dc 112 113 _ (.inl hid) (fun W => by rw [hk]; exact rowOf_any 12 _ _ rfl rfl (by omega) W) (enters_of Tryz.func112 (by kernel_rfl) rfl) (fun W hW => canRecall_any (h.below hW) hok r hr _ _)
set_option maxRecDepth 8000 in
set_option maxHeartbeats 4000000 in
theorem can_any {w : World} {z : Tz} {T : T8} (h : Tw w z T) (hok : T.Ok) (hT : Tab6 w) (r : Rc) (sa da : Option Addr) (ns nd sc dc : Nat) (hr : RIn w r sa da ns nd sc dc) : Calls Tryz.prog 12 #[tP z, .agg (rcC r (.slice sa ns sc) (.slice da nd dc))] w fun e w' => e = .returned (.int .i64 (T.can r)) ∧ Below w.heap.size w w' := by
  have hbx : Below w.heap.size w (w.alloc (rcO r (.slice sa ns sc) (.slice da nd dc))) := (Below.refl _ _).alloc (Nat.le_refl _) _
  have HB : Hid (∀ V : World, Below (w.heap.size + 1) (w.alloc (rcO r (.slice sa ns sc) (.slice da nd dc))) V → Below w.heap.size w V) := fun V hV => hbx.trans (hV.mono (by omega))
  have HP : Hid (∀ V : World, Below (w.heap.size + 1) (w.alloc (rcO r (.slice sa ns sc) (.slice da nd dc))) V → V.heap[w.heap.size]? = some (rcO r (.slice sa ns sc) (.slice da nd dc))) := fun V hV => (hV.block _ (by omega)).trans (heap_alloc_new' w _)
  have hR : Calls Tryz.prog 33 #[.agg (rcC r (.slice sa ns sc) (.slice da nd dc))] (w.alloc (rcO r (.slice sa ns sc) (.slice da nd dc))) fun e w' => e = .returned (.int .i64 (prR r).2) ∧ Below (w.heap.size + 1) (w.alloc (rcO r (.slice sa ns sc) (.slice da nd dc))) w' := (rright_any r sa da ns nd sc dc _ (hT.below hbx (tab6_pos hT)) (hr.below hbx)).mono fun e w' q => ⟨q.1, bt (Below.refl _ _) (by simp) q.2⟩
  cases hmb : mayB6 r with
  | false =>
    have e1 : (prR r).2 = 60 := by unfold prR; rw [hmb]; rfl
    have e2 : T.can r = 60 := by unfold T8.can; rw [if_pos hmb]
    rw [e1] at hR
    rw [e2]
    have HR : Hid (Calls Tryz.prog 33 #[.agg (rcC r (.slice sa ns sc) (.slice da nd dc))] (w.alloc (rcO r (.slice sa ns sc) (.slice da nd dc))) fun e w' => e = .returned (.int .i64 60) ∧ Below (w.heap.size + 1) (w.alloc (rcO r (.slice sa ns sc) (.slice da nd dc))) w') := hR
    clear h hok hT hr hbx hR hmb e1 e2 HP
    go_enter Tryz.func12, Tryz.ntmps12
    go_wp2_with (go_at_call 33; refine HR.out.mono ?_; rintro e w1 ⟨rfl, hb1⟩)
    go_ret
    exact ⟨rfl, HB.out _ hb1⟩
  | true =>
    have hm := may_r hmb
    have e1 : (prR r).2 = 0 := by unfold prR; rw [hmb]; rfl
    rw [e1] at hR
    have HR : Hid (Calls Tryz.prog 33 #[.agg (rcC r (.slice sa ns sc) (.slice da nd dc))] (w.alloc (rcO r (.slice sa ns sc) (.slice da nd dc))) fun e w' => e = .returned (.int .i64 0) ∧ Below (w.heap.size + 1) (w.alloc (rcO r (.slice sa ns sc) (.slice da nd dc))) w') := hR
    have HF : Hid (∀ V : World, Below (w.heap.size + 1) (w.alloc (rcO r (.slice sa ns sc) (.slice da nd dc))) V → Calls Tryz.prog 34 #[tP z, .agg (rcC r (.slice sa ns sc) (.slice da nd dc))] V fun e w' => e = .returned (.bool (T.folw r)) ∧ Below (w.heap.size + 1) (w.alloc (rcO r (.slice sa ns sc) (.slice da nd dc))) w') := fun V hV => (follows_any (h.below (HB.out V hV)) hok r hm sa da ns nd sc dc).mono fun e w' q => ⟨q.1, bt hV (by simp) q.2⟩
    have HI : Hid (∀ V : World, Below (w.heap.size + 1) (w.alloc (rcO r (.slice sa ns sc) (.slice da nd dc))) V → Calls Tryz.prog 35 #[tP z, .agg (rcC r (.slice sa ns sc) (.slice da nd dc))] V fun e w' => e = .returned (.bool (T.fits r)) ∧ Below (w.heap.size + 1) (w.alloc (rcO r (.slice sa ns sc) (.slice da nd dc))) w') := fun V hV => (fits8_any (h.below (HB.out V hV)) hok r hm sa da ns nd sc dc hr.dat).mono fun e w' q => ⟨q.1, bt hV (by simp) q.2⟩
    have e2 : T.can r = if T.folw r = false then 80 else if T.fits r = false then 3 else 0 := by unfold T8.can; rw [if_neg (by simp [hmb])]
    rw [e2]
    clear h hok hT hr hbx hR hmb e1 e2 hm
    generalize T.folw r = bf at *
    generalize T.fits r = bi at *
    cases bf <;> cases bi
    all_goals
      go_enter Tryz.func12, Tryz.ntmps12
      go_wp2_with (first
        | (go_at_call 33; refine HR.out.mono ?_; rintro e w1 ⟨rfl, hb1⟩; obtain ⟨k0, k1, k2, k3, k4, k5, k6, k7, k8, k9, k10⟩ := rc_cells (HP.out _ hb1))
        | (go_at_call 34; refine (HF.out _ hb1).mono ?_; rintro e w2 ⟨rfl, hb2⟩; obtain ⟨j0, j1, j2, j3, j4, j5, j6, j7, j8, j9, j10⟩ := rc_cells (HP.out _ hb2))
        | (go_at_call 35; refine (HI.out _ hb2).mono ?_; rintro e w3 ⟨rfl, hb3⟩))
      go_ret
      first | exact ⟨rfl, HB.out _ hb3⟩ | exact ⟨rfl, HB.out _ hb2⟩
end Go.Proofs.YtillgoegiplmkaaGreatDoor.B
