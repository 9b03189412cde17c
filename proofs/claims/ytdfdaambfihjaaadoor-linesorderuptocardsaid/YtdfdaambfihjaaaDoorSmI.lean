import Derived.Test.YtdfdaambfihjaaaDoorSmG
import Derived.BigQuiet
namespace Go.Proofs.YtdfdaambfihjaaaDoor
open Go.RowKit

set_option maxRecDepth 100000 in
set_option maxHeartbeats 8000000 in
theorem same_gen2 (s t : Sg) (hv tv dv cv hv' tv' dv' cv' : Value) (hx tx hx' tx' : List Xr) (w : World) (h : SIn w s hv tv dv cv hx tx) (h' : SIn w t hv' tv' dv' cv' hx' tx') :
    Calls Tryd.prog 26 #[.agg (svC s hv tv dv cv), .agg (svC t hv' tv' dv' cv')] w (SmPost (s = t) w) := by
  obtain ⟨ah, ch, rfl, _⟩ := h.head.shape
  obtain ⟨at', ct, rfl, _⟩ := h.tail.shape
  obtain ⟨ad, cd, rfl, _⟩ := h.data.shape
  obtain ⟨ac, cc, rfl, _⟩ := h.clm.shape
  obtain ⟨bh, eh, rfl, _⟩ := h'.head.shape
  obtain ⟨bt, et, rfl, _⟩ := h'.tail.shape
  obtain ⟨bd, ed, rfl, _⟩ := h'.data.shape
  obtain ⟨bc, ec, rfl, _⟩ := h'.clm.shape
  have HE1 : Hid (s = t → hx.map Xr.ex = hx'.map Xr.ex) := fun e => by rw [← h.headEq, ← h'.headEq, e]
  have HE2 : Hid (s = t → tx.map Xr.ex = tx'.map Xr.ex) := fun e => by rw [← h.tailEq, ← h'.tailEq, e]
  have HE3 : Hid (s = t → s.clm = t.clm) := fun e => by rw [e]
  have HX0 : Hid (((w.alloc (svO s (.slice ah hx.length ch) (.slice at' tx.length ct) (.slice ad s.data.length cd) (.slice ac s.clm.length cc))).alloc (svO t (.slice bh hx'.length eh) (.slice bt tx'.length et) (.slice bd t.data.length ed) (.slice bc t.clm.length ec))).heap[w.heap.size]? = some (svO s (.slice ah hx.length ch) (.slice at' tx.length ct) (.slice ad s.data.length cd) (.slice ac s.clm.length cc))) := (Below.heap_alloc _ _ _ (by simp)).trans (heap_alloc_new' w _)
  have HX1 : Hid (((w.alloc (svO s (.slice ah hx.length ch) (.slice at' tx.length ct) (.slice ad s.data.length cd) (.slice ac s.clm.length cc))).alloc (svO t (.slice bh hx'.length eh) (.slice bt tx'.length et) (.slice bd t.data.length ed) (.slice bc t.clm.length ec))).heap[w.heap.size + 1]? = some (svO t (.slice bh hx'.length eh) (.slice bt tx'.length et) (.slice bd t.data.length ed) (.slice bc t.clm.length ec))) := by
    have := heap_alloc_new' (w.alloc (svO s (.slice ah hx.length ch) (.slice at' tx.length ct) (.slice ad s.data.length cd) (.slice ac s.clm.length cc))) (svO t (.slice bh hx'.length eh) (.slice bt tx'.length et) (.slice bd t.data.length ed) (.slice bc t.clm.length ec))
    rw [World.size_alloc] at this; exact this
  have hb0 : Below w.heap.size w ((w.alloc (svO s (.slice ah hx.length ch) (.slice at' tx.length ct) (.slice ad s.data.length cd) (.slice ac s.clm.length cc))).alloc (svO t (.slice bh hx'.length eh) (.slice bt tx'.length et) (.slice bd t.data.length ed) (.slice bc t.clm.length ec))) := ((Below.refl _ _).alloc (Nat.le_refl _) _).alloc (by simp) _
  have hsz : ((w.alloc (svO s (.slice ah hx.length ch) (.slice at' tx.length ct) (.slice ad s.data.length cd) (.slice ac s.clm.length cc))).alloc (svO t (.slice bh hx'.length eh) (.slice bt tx'.length et) (.slice bd t.data.length ed) (.slice bc t.clm.length ec))).heap.size = w.heap.size + 2 := by simp
  have HS : Hid (∀ W, Below w.heap.size w W → SIn W s (.slice ah hx.length ch) (.slice at' tx.length ct) (.slice ad s.data.length cd) (.slice ac s.clm.length cc) hx tx ∧ SIn W t (.slice bh hx'.length eh) (.slice bt tx'.length et) (.slice bd t.data.length ed) (.slice bc t.clm.length ec) hx' tx') := fun W hW => ⟨h.below hW, h'.below hW⟩
  clear h h'
  go_enter Tryd.func26, Tryd.ntmps26
  go_wp2_with fail
  generalize ((w.alloc (svO s (.slice ah hx.length ch) (.slice at' tx.length ct) (.slice ad s.data.length cd) (.slice ac s.clm.length cc))).alloc (svO t (.slice bh hx'.length eh) (.slice bt tx'.length et) (.slice bd t.data.length ed) (.slice bc t.clm.length ec))) = W0 at *
  have HB0 : Hid (Below w.heap.size w W0) := hb0
  have HZ : Hid (W0.heap.size = w.heap.size + 2) := hsz
  clear hb0 hsz
  refine (sameExts_gen _ _ hx hx' W0 (HS.out W0 HB0.out).1.head (HS.out W0 HB0.out).2.head).mono ?_
  rintro e w1 ⟨q1, rfl, hq1, hb1⟩
  have HQ1 : Hid (s = t → q1 = true) := fun e => hq1 (HE1.out e)
  have HY1 : Hid (Below W0.heap.size W0 w1) := hb1
  have HB1 : Hid (Below w.heap.size w w1) := HB0.out.trans (hb1.mono HB0.out.size)
  clear hq1 hb1 HE1
  have x4 := cell_of_row _ w.heap.size 4 _ _ _ ((HY1.out.block _ (by have := HZ.out; omega)).trans HX0.out)
  have y4 := cell_of_row _ (w.heap.size + 1) 4 _ _ _ ((HY1.out.block _ (by have := HZ.out; omega)).trans HX1.out)
  simp only [List.getElem?_toArray, List.getElem?_cons_succ, List.getElem?_cons_zero] at x4 y4
  go_wp2_with fail
  refine (sameExts_gen _ _ tx tx' w1 (HS.out w1 HB1.out).1.tail (HS.out w1 HB1.out).2.tail).mono ?_
  rintro e w2 ⟨q2, rfl, hq2, hb2⟩
  have HQ2 : Hid (s = t → q2 = true) := fun e => hq2 (HE2.out e)
  have HY2 : Hid (Below W0.heap.size W0 w2) := HY1.out.trans (hb2.mono HY1.out.size)
  have HB2 : Hid (Below w.heap.size w w2) := HB1.out.trans (hb2.mono HB1.out.size)
  clear hq2 hb2 HE2 HB1 HY1 x4 y4
  have x12 := cell_of_row _ w.heap.size 12 _ _ _ ((HY2.out.block _ (by have := HZ.out; omega)).trans HX0.out)
  have y12 := cell_of_row _ (w.heap.size + 1) 12 _ _ _ ((HY2.out.block _ (by have := HZ.out; omega)).trans HX1.out)
  simp only [List.getElem?_toArray, List.getElem?_cons_succ, List.getElem?_cons_zero] at x12 y12
  go_wp2_with fail
  refine (sameSpans_gen _ _ s.clm t.clm w2 (HS.out w2 HB2.out).1.clm (HS.out w2 HB2.out).2.clm).mono ?_
  rintro e w3 ⟨q3, rfl, hq3, hb3⟩
  have HQ3 : Hid (s = t → q3 = true) := fun e => hq3 (HE3.out e)
  have HY3 : Hid (Below W0.heap.size W0 w3) := HY2.out.trans (hb3.mono HY2.out.size)
  have HB3 : Hid (Below w.heap.size w w3) := HB2.out.trans (hb3.mono HB2.out.size)
  clear hq3 hb3 HE3 HB2 HY2 x12 y12
  have x0 := cell_of_row _ w.heap.size 0 _ _ _ ((HY3.out.block _ (by have := HZ.out; omega)).trans HX0.out)
  have y0 := cell_of_row _ (w.heap.size + 1) 0 _ _ _ ((HY3.out.block _ (by have := HZ.out; omega)).trans HX1.out)
  have x1 := cell_of_row _ w.heap.size 1 _ _ _ ((HY3.out.block _ (by have := HZ.out; omega)).trans HX0.out)
  have y1 := cell_of_row _ (w.heap.size + 1) 1 _ _ _ ((HY3.out.block _ (by have := HZ.out; omega)).trans HX1.out)
  have x2 := cell_of_row _ w.heap.size 2 _ _ _ ((HY3.out.block _ (by have := HZ.out; omega)).trans HX0.out)
  have y2 := cell_of_row _ (w.heap.size + 1) 2 _ _ _ ((HY3.out.block _ (by have := HZ.out; omega)).trans HX1.out)
  have x5 := cell_of_row _ w.heap.size 5 _ _ _ ((HY3.out.block _ (by have := HZ.out; omega)).trans HX0.out)
  have y5 := cell_of_row _ (w.heap.size + 1) 5 _ _ _ ((HY3.out.block _ (by have := HZ.out; omega)).trans HX1.out)
  have x6 := cell_of_row _ w.heap.size 6 _ _ _ ((HY3.out.block _ (by have := HZ.out; omega)).trans HX0.out)
  have y6 := cell_of_row _ (w.heap.size + 1) 6 _ _ _ ((HY3.out.block _ (by have := HZ.out; omega)).trans HX1.out)
  have x7 := cell_of_row _ w.heap.size 7 _ _ _ ((HY3.out.block _ (by have := HZ.out; omega)).trans HX0.out)
  have y7 := cell_of_row _ (w.heap.size + 1) 7 _ _ _ ((HY3.out.block _ (by have := HZ.out; omega)).trans HX1.out)
  have x8 := cell_of_row _ w.heap.size 8 _ _ _ ((HY3.out.block _ (by have := HZ.out; omega)).trans HX0.out)
  have y8 := cell_of_row _ (w.heap.size + 1) 8 _ _ _ ((HY3.out.block _ (by have := HZ.out; omega)).trans HX1.out)
  have x9 := cell_of_row _ w.heap.size 9 _ _ _ ((HY3.out.block _ (by have := HZ.out; omega)).trans HX0.out)
  have y9 := cell_of_row _ (w.heap.size + 1) 9 _ _ _ ((HY3.out.block _ (by have := HZ.out; omega)).trans HX1.out)
  have x10 := cell_of_row _ w.heap.size 10 _ _ _ ((HY3.out.block _ (by have := HZ.out; omega)).trans HX0.out)
  have y10 := cell_of_row _ (w.heap.size + 1) 10 _ _ _ ((HY3.out.block _ (by have := HZ.out; omega)).trans HX1.out)
  have x11 := cell_of_row _ w.heap.size 11 _ _ _ ((HY3.out.block _ (by have := HZ.out; omega)).trans HX0.out)
  have y11 := cell_of_row _ (w.heap.size + 1) 11 _ _ _ ((HY3.out.block _ (by have := HZ.out; omega)).trans HX1.out)
  have x13 := cell_of_row _ w.heap.size 13 _ _ _ ((HY3.out.block _ (by have := HZ.out; omega)).trans HX0.out)
  have y13 := cell_of_row _ (w.heap.size + 1) 13 _ _ _ ((HY3.out.block _ (by have := HZ.out; omega)).trans HX1.out)
  simp only [List.getElem?_toArray, List.getElem?_cons_succ, List.getElem?_cons_zero] at x0 y0 x1 y1 x2 y2 x5 y5 x6 y6 x7 y7 x8 y8 x9 y9 x10 y10 x11 y11 x13 y13
  obtain ⟨a1, c1, hv1, hl1, _⟩ := (HS.out w3 HB3.out).1.data.shape
  obtain ⟨a2, c2, hv2, hl2, _⟩ := (HS.out w3 HB3.out).2.data.shape
  simp only [Value.slice.injEq, true_and] at hv1 hv2
  obtain ⟨rfl, rfl⟩ := hv1
  obtain ⟨rfl, rfl⟩ := hv2
  have k1 := conv_any w3 _ _ cd s.data rfl hl1
  have k2 := conv_any w3 _ _ ed t.data rfl hl2
  have HD : Hid (s = t → strOfNums s.data = strOfNums t.data) := fun e => by rw [e]
  clear hl1 hl2 HS HX0 HX1 HY3 HB0 HZ
  generalize strOfNums s.data = S1 at *
  generalize strOfNums t.data = S2 at *
  go_upto_region 4 with fail
  simp only [List.append_eq, List.cons_append, List.nil_append]
  cases q1
  · have HV : Hid (¬ s = t) := fun e => by have := HQ1.out e; cases this
    clear HQ1 HQ2 HQ3 HD
    go_wp2
    go_ret
    exact ⟨_, rfl, fun h => absurd h HV.out, HB3.out⟩
  cases q2
  · have HV : Hid (¬ s = t) := fun e => by have := HQ2.out e; cases this
    clear HQ1 HQ2 HQ3 HD
    go_wp2
    go_ret
    exact ⟨_, rfl, fun h => absurd h HV.out, HB3.out⟩
  cases q3
  · have HV : Hid (¬ s = t) := fun e => by have := HQ3.out e; cases this
    clear HQ1 HQ2 HQ3 HD
    go_wp2
    go_ret
    exact ⟨_, rfl, fun h => absurd h HV.out, HB3.out⟩
  by_cases e_typ : s.typ = t.typ
  rotate_left
  · have HV : Hid (¬ s = t) := fun e => e_typ (by rw [e])
    have e0 : (s.typ == t.typ) = false := by simp [e_typ]
    clear HQ1 HQ2 HQ3 HD
    go_wp2
    go_ret
    exact ⟨_, rfl, fun h => absurd h HV.out, HB3.out⟩
  by_cases e_org : s.org = t.org
  rotate_left
  · have HV : Hid (¬ s = t) := fun e => e_org (by rw [e])
    have e0 : (s.org == t.org) = false := by simp [e_org]
    clear HQ1 HQ2 HQ3 HD
    go_wp2
    go_ret
    exact ⟨_, rfl, fun h => absurd h HV.out, HB3.out⟩
  by_cases e_num : s.num = t.num
  rotate_left
  · have HV : Hid (¬ s = t) := fun e => e_num (by rw [e])
    have e0 : (s.num == t.num) = false := by simp [e_num]
    clear HQ1 HQ2 HQ3 HD
    go_wp2
    go_ret
    exact ⟨_, rfl, fun h => absurd h HV.out, HB3.out⟩
  by_cases e_srv : s.srv = t.srv
  rotate_left
  · have HV : Hid (¬ s = t) := fun e => e_srv (by rw [e])
    have e0 : (s.srv == t.srv) = false := by simp [e_srv]
    clear HQ1 HQ2 HQ3 HD
    go_wp2
    go_ret
    exact ⟨_, rfl, fun h => absurd h HV.out, HB3.out⟩
  by_cases e_off : s.off = t.off
  rotate_left
  · have HV : Hid (¬ s = t) := fun e => e_off (by rw [e])
    have e0 : (s.off == t.off) = false := by simp [e_off]
    clear HQ1 HQ2 HQ3 HD
    go_wp2
    go_ret
    exact ⟨_, rfl, fun h => absurd h HV.out, HB3.out⟩
  by_cases eS : S1.toList = S2.toList
  rotate_left
  · have HV : Hid (¬ s = t) := fun e => eS (by rw [HD.out e])
    have e0 : (S1.toList == S2.toList) = false := by simp [eS]
    clear HQ1 HQ2 HQ3 HD
    go_wp2
    go_ret
    exact ⟨_, rfl, fun h => absurd h HV.out, HB3.out⟩
  have eS2 : (S1.toList == S2.toList) = true := by simp [eS]
  by_cases e_chk : s.chk = t.chk
  rotate_left
  · have HV : Hid (¬ s = t) := fun e => e_chk (by rw [e])
    have e0 : (s.chk == t.chk) = false := by simp [e_chk]
    clear HQ1 HQ2 HQ3 HD
    go_wp2
    go_ret
    exact ⟨_, rfl, fun h => absurd h HV.out, HB3.out⟩
  by_cases e_rep : s.rep = t.rep
  rotate_left
  · have HV : Hid (¬ s = t) := fun e => e_rep (by rw [e])
    have e0 : (s.rep == t.rep) = false := by simp [e_rep]
    clear HQ1 HQ2 HQ3 HD
    go_wp2
    go_ret
    exact ⟨_, rfl, fun h => absurd h HV.out, HB3.out⟩
  by_cases e_upp : s.upp = t.upp
  rotate_left
  · have HV : Hid (¬ s = t) := fun e => e_upp (by rw [e])
    have e0 : (s.upp == t.upp) = false := by simp [e_upp]
    clear HQ1 HQ2 HQ3 HD
    go_wp2
    go_ret
    exact ⟨_, rfl, fun h => absurd h HV.out, HB3.out⟩
  by_cases e_low : s.low = t.low
  rotate_left
  · have HV : Hid (¬ s = t) := fun e => e_low (by rw [e])
    have e0 : (s.low == t.low) = false := by simp [e_low]
    clear HQ1 HQ2 HQ3 HD
    go_wp2
    go_ret
    exact ⟨_, rfl, fun h => absurd h HV.out, HB3.out⟩
  by_cases e_rsn : s.rsn = t.rsn
  rotate_left
  · have HV : Hid (¬ s = t) := fun e => e_rsn (by rw [e])
    have e0 : (s.rsn == t.rsn) = false := by simp [e_rsn]
    clear HQ1 HQ2 HQ3 HD
    go_wp2
    go_ret
    exact ⟨_, rfl, fun h => absurd h HV.out, HB3.out⟩
  clear HQ1 HQ2 HQ3 HD
  go_wp2
  go_ret
  exact ⟨true, rfl, fun _ => rfl, HB3.out⟩

end Go.Proofs.YtdfdaambfihjaaaDoor
