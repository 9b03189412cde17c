import Derived.Test.YtkkmoplijicmpaeDoorRg5
import Derived.Test.YtkkmoplijicmpaeDoorReport
import Derived.BigQuiet
namespace Go.Proofs.YtkkmoplijicmpaeDoor
open Go.RowKit
set_option linter.unusedVariables false
set_option linter.unusedSimpArgs false

/-- What Segment answered prints, if it told no error. -/
theorem prt_sg {o m : Int} {r : Rr} (h : sgE o m r = 0) : (prt (sgR o m r) [] []).1 = 0 ∧ (sgR o m r).typ = 8 ∧ ofR (sgR o m r) [] [] = r ∧ ofE (sgR o m r) [] [] = 0 := by
  have hs : ((1 ≤ o ∧ o ≤ 4611686018427387903) ∧ (1 ≤ m ∧ m ≤ 4611686018427387902)) ∧ mb5 r = true := by
    unfold sgE at h
    split at h
    · rename_i h1
      split at h
      · rename_i h2; exact ⟨h1, h2⟩
      · cases h
    · cases h
  have e : sgR o m r = rpS o m r.ser r.chk r.upp r.low r.clm := by unfold sgR; rw [if_pos hs]
  have hr := mb5_ok hs.2
  have hm := (mb5_iff r).mp hs.2
  have hp : (prt (rpS o m r.ser r.chk r.upp r.low r.clm) [] []).1 = 0 := by
    have hl := lay5_len (k := ⟨o, m, 80, 0, 0⟩) (qu_ok hs.1) hr
    have e2 : sg5 ⟨o, m, 80, 0, 0⟩ r = rpS o m r.ser r.chk r.upp r.low r.clm := rfl
    rw [e2] at hl
    have hsh : shp (rpS o m r.ser r.chk r.upp r.low r.clm).typ = 9 := by show shp 8 = 9; decide
    rw [hsh] at hl
    unfold prt
    rw [hsh, if_neg (by decide)]
    have hmay : may 9 (rpS o m r.ser r.chk r.upp r.low r.clm) [] [] = true := by
      refine (may_sh9 _ _ _).mpr ⟨hs.1.1, hs.1.2, by decide, by decide, rfl, rfl, rfl, hr.chk, hr.ser, ?_, ?_, ?_, hr.cls, rfl⟩
      · show 1 ≤ r.upp ∧ r.upp ≤ 65536; have := hr.low; have := hr.mid; have := hr.upp; omega
      · show 0 ≤ r.low ∧ r.low ≤ r.upp - 1; have := hr.low; have := hr.mid; omega
      · exact hm.2.2.2.1
    rw [hmay, if_neg (by simp), if_neg (by omega)]
  rw [e]
  refine ⟨hp, rfl, ?_, ?_⟩
  · unfold ofR; rw [if_pos ⟨hp, rfl⟩]; rfl
  · unfold ofE; rw [if_pos hp]; exact if_pos rfl

/-- A box of a segment that was just made. -/
theorem box_s (u : World) (cs : Array Value) (hc : cs.size = 14) : Below u.heap.size u ((u.alloc (.cells zsC 81)).setRow u.heap.size cs) ∧ ((u.alloc (.cells zsC 81)).setRow u.heap.size cs).heap[u.heap.size]? = some (.cells cs 81 (0, 0)) ∧ ((u.alloc (.cells zsC 81)).setRow u.heap.size cs).heap.size = u.heap.size + 1 :=
  ⟨bl_setRow2 ((Below.refl _ _).alloc (Nat.le_refl _) _) (Nat.le_refl _) _, setRow_heap _ _ _ _ _ _ (al_new _ _), by simp [World.setRow]⟩
theorem box_r (u : World) (cs : Array Value) (hc : cs.size = 5) : Below u.heap.size u ((u.alloc (.cells zrC 75)).setRow u.heap.size cs) ∧ ((u.alloc (.cells zrC 75)).setRow u.heap.size cs).heap[u.heap.size]? = some (.cells cs 75 (0, 0)) ∧ ((u.alloc (.cells zrC 75)).setRow u.heap.size cs).heap.size = u.heap.size + 1 :=
  ⟨bl_setRow2 ((Below.refl _ _).alloc (Nat.le_refl _) _) (Nat.le_refl _) _, setRow_heap _ _ _ _ _ _ (al_new _ _), by simp [World.setRow]⟩
theorem r5_cells {W : World} {g : Nat} {v0 v1 v2 v3 v4 : Value} {t : TypeId} (h : W.heap[g]? = some (.cells #[v0, v1, v2, v3, v4] t (0, 0))) : W.cell? ⟨g, 0, none⟩ = some v0 ∧ W.cell? ⟨g, 1, none⟩ = some v1 ∧ W.cell? ⟨g, 2, none⟩ = some v2 ∧ W.cell? ⟨g, 3, none⟩ = some v3 ∧ W.cell? ⟨g, 4, none⟩ = some v4 :=
  ⟨(cell_of_row _ _ _ _ _ _ h).trans rfl, (cell_of_row _ _ _ _ _ _ h).trans rfl, (cell_of_row _ _ _ _ _ _ h).trans rfl, (cell_of_row _ _ _ _ _ _ h).trans rfl, (cell_of_row _ _ _ _ _ _ h).trans rfl⟩
/-- A lent list's own row: room for two more. -/
theorem lent_row2 {w : World} {b g n : Nat} {l : List (Int × Int)} (h : C.SOwn w b (.slice (some ⟨g, 0, none⟩) (n + 2) (n + 2)) (C.mkL l)) (hn : l.length = n) : C.SOwn w b (.slice (some ⟨g, 0, none⟩) n (n + 2)) l := by
  obtain ⟨k1, ⟨e, _⟩ | ⟨g', cap, cur, e, h1, h2, h3, h4, h5, h6⟩⟩ := h
  · cases e
  · simp only [Value.slice.injEq, Option.some.injEq, Addr.mk.injEq, and_true, true_and] at e
    obtain ⟨rfl, e2, rfl⟩ := e
    refine ⟨by rw [C.spc_len], .inr ⟨g, n + 2, cur, by rw [hn], h1, h2, by rw [hn]; omega, h4, h5, ?_⟩⟩
    have e3 : cur.toList.take (l.length * 2) = (cur.toList.take ((C.mkL l).length * 2)).take (l.length * 2) := by
      rw [List.take_take, Nat.min_eq_left (by unfold C.mkL; simp; omega)]
    rw [e3, h6]
    unfold C.mkL
    rw [List.flatMap_append, List.take_append_of_le_length (by rw [C.spc_len]; exact Nat.le_refl _), List.take_of_length_le (by rw [C.spc_len]; exact Nat.le_refl _)]
/-- Rows of spans, told apart by when they were made. -/
theorem rws_spans {w : World} {pr : Nat} {bv sv ev v0 : Value} {V cs ss : List Value} {w0 : World} {kb ks ke : Nat} (hT : TkS w0 w pr v0 V kb ks ke cs bv sv ev) (hss : V ++ cs.take ks = ss) (Cs : Nat → List C.Sp) (tm : Nat → Nat) (ti : Nat → Nat)
    (hinj : ∀ i j, i < ss.length → j < ss.length → ti i = ti j → i = j) (hstep : ∀ j, tm j ≤ tm (j + 1))
    (hrow : ∀ (j : Nat) v, ss[j]? = some v → C.SOwn w 0 v (Cs j) ∧ ∀ g, v.ownBlock = some g → tm (ti j) ≤ g ∧ g < tm (ti j + 1))
    (hlen : ss.length = V.length + ks) (hs0 : 0 < ss.length) (hs1 : ss.length ≤ 1000) (hb : kb ≤ 1000) (he : ke ≤ 1000) (hl : ∀ j, (Cs j).length ≤ 1048600) :
    ∃ oS ab asp ae cb cS ce, Rws w pr (fun _ => 0) oS (fun _ => 0) ab asp ae cb cS ce (List.replicate kb nl) ss (List.replicate ke nl) (fun _ => []) Cs (fun _ => []) ∧ ∀ g, (∀ (j : Nat) v, ss[j]? = some v → v.ownBlock ≠ some g) → oS g = 0 := by
  have hmono : ∀ i j, i ≤ j → tm i ≤ tm j := fun i j h => by
    induction j with
    | zero => rw [Nat.le_zero.mp h]; exact Nat.le_refl _
    | succ j ih => rcases Nat.lt_or_ge j i with q | q; rw [show i = j + 1 by omega]; exact Nat.le_refl _; exact Nat.le_trans (ih q) (hstep j)
  have dis : ∀ (i j : Nat) v u g, ss[i]? = some v → ss[j]? = some u → v.ownBlock = some g → u.ownBlock = some g → i = j := fun i j v u g hi hj hv hu => by
    have q1 := (hrow i v hi).2 g hv
    have q2 := (hrow j u hj).2 g hu
    refine hinj i j (List.getElem?_eq_some_iff.mp hi).1 (List.getElem?_eq_some_iff.mp hj).1 ?_
    rcases Nat.lt_trichotomy (ti i) (ti j) with h | h | h
    · have := hmono (ti i + 1) (ti j) (by omega); omega
    · exact h
    · have := hmono (ti j + 1) (ti i) (by omega); omega
  obtain ⟨oS, ho1, ho2⟩ := own_tags2 ss dis
  obtain ⟨ab, cb, hbv⟩ := own_sl5 hT.rb
  obtain ⟨asp, cS, hsv⟩ := own_sl5 hT.rs
  obtain ⟨ae, ce, hev⟩ := own_sl5 hT.re
  subst hbv hsv hev
  have hrs : w.ownsRow 0 26 1 (.slice asp ss.length cS) ss.length ss := by have h := hT.rs; rw [hss, ← hlen] at h; exact h
  have nilB : ∀ (j : Nat) v, (List.replicate kb nl)[j]? = some v → v = nl := fun j v hv => (List.mem_replicate.mp (List.mem_of_getElem? hv)).2
  have nilE : ∀ (j : Nat) v, (List.replicate ke nl)[j]? = some v → v = nl := fun j v hv => (List.mem_replicate.mp (List.mem_of_getElem? hv)).2
  have zero : ∀ g, (∀ (j : Nat) v, ss[j]? = some v → v.ownBlock ≠ some g) → oS g = 0 := ho2
  have nam : ∀ {n c : Nat} {a : Option Addr} {e : TypeId} {xs : List Value} (o : Nat → Nat), w.ownsRow 0 e 1 (.slice a n c) n xs → (∀ g, a = some ⟨g, 0, none⟩ → o g = 0) → C.Nam o w a xs := fun {n c a e xs} o h h0 => by
    obtain ⟨k1, ⟨e1, e0⟩ | ⟨g, cap, cur, e1, _⟩⟩ := id h
    · left; exact List.eq_nil_of_length_eq_zero (by omega)
    · simp only [Value.slice.injEq] at e1
      obtain ⟨rfl, _, rfl⟩ := e1
      refine .inr ⟨g, 0, rfl, h0 g rfl, fun i v hi => ?_⟩
      have hil := (List.getElem?_eq_some_iff.mp hi).1
      rw [Nat.zero_add]
      exact (World.ownsRow.cellAt h i (by omega)).trans hi
  refine ⟨oS, ab, asp, ae, cb, cS, ce, ⟨by rw [List.length_replicate, List.length_replicate, hlen]; exact hT.box, ⟨rfl, zero pr fun j v hj => own_hp (hrow j v hj).1 hT.box (by decide)⟩, ⟨fun j v _ hv => ?_, fun j v g _ hv hg => ?_⟩, ⟨fun j v _ hv => (hrow j v hv).1, fun j v g _ hv hg => ho1 j v g hv hg⟩, ⟨fun j v _ hv => ?_, fun j v g _ hv hg => ?_⟩, nam _ hT.rb (fun _ _ => rfl), nam _ hrs (fun g hg => zero g fun j v hj hv => own_ty (hrow j v hj).1 hrs (by decide) hv (by rw [hg]; rfl)), nam _ hT.re (fun _ _ => rfl), fun _ _ _ => rfl, fun g _ h => absurd rfl h, fun _ _ _ => rfl, fun gl off e => ⟨rfl, zero gl fun j v hj hv => ?_⟩, ⟨by rw [List.length_replicate]; omega, by omega, by rw [List.length_replicate]; omega⟩, ⟨fun _ => Nat.zero_le _, hl, fun _ => Nat.zero_le _⟩⟩, zero⟩
  · rw [nilB j v hv]; exact World.ownsRow_nil _ _ _ _
  · rw [nilB j v hv] at hg; cases hg
  · rw [nilE j v hv]; exact World.ownsRow_nil _ _ _ _
  · rw [nilE j v hv] at hg; cases hg
  · obtain ⟨_, ⟨e1, _⟩ | ⟨g, cap, cur, e1, _⟩⟩ := id hT.re
    · rw [e] at e1; cases e1
    · have e2 : gl = g := by rw [e] at e1; simp only [Value.slice.injEq, Option.some.injEq, Addr.mk.injEq] at e1; exact e1.1.1
      exact own_ty (hrow j v hj).1 hT.re (by decide) hv (by rw [e1, e2]; rfl)

end Go.Proofs.YtkkmoplijicmpaeDoor

namespace Go.Proofs.YtkkmoplijicmpaeDoor
open Go.RowKit

set_option maxRecDepth 100000 in
set_option maxHeartbeats 8000000 in
theorem same_gen2 (s t : Sg) (hv tv dv cv hv' tv' dv' cv' : Value) (hx tx hx' tx' : List Xr) (w : World) (h : SIn w s hv tv dv cv hx tx) (h' : SIn w t hv' tv' dv' cv' hx' tx') :
    Calls Tryd.prog 39 #[.agg (svC s hv tv dv cv), .agg (svC t hv' tv' dv' cv')] w (SmPost (s = t) w) := by
  obtain ⟨ah, ch, rfl, _⟩ := h.head.shape
  obtain ⟨at', ct, rfl, _⟩ := h.tail.shape
  obtain ⟨ad, cd, rfl, _⟩ := h.data.shape
  obtain ⟨ac, cc, rfl, _⟩ := h.clm.shape
  obtain ⟨bh, eh, rfl, _⟩ := h'.head.shape
  obtain ⟨bt, et, rfl, _⟩ := h'.tail.shape
  obtain ⟨bd, ed, rfl, _⟩ := h'.data.shape
  obtain ⟨bc, ec, rfl, _⟩ := h'.clm.shape
  have HE1 : Hid (s = t → hx.map Xr.ex = hx'.map Xr.ex) := fun e => by rw [← h.headEq, ← h'.headEq, e]
  have HE2 : Hid (s = t → tx.map Xr.ex = tx'.map Xr.ex) := fun e => by rw [← h.tailEq, ← h'.tailEq, e]
  have HE3 : Hid (s = t → s.clm = t.clm) := fun e => by rw [e]
  have HX0 : Hid (((w.alloc (svO s (.slice ah hx.length ch) (.slice at' tx.length ct) (.slice ad s.data.length cd) (.slice ac s.clm.length cc))).alloc (svO t (.slice bh hx'.length eh) (.slice bt tx'.length et) (.slice bd t.data.length ed) (.slice bc t.clm.length ec))).heap[w.heap.size]? = some (svO s (.slice ah hx.length ch) (.slice at' tx.length ct) (.slice ad s.data.length cd) (.slice ac s.clm.length cc))) := (Below.heap_alloc _ _ _ (by simp)).trans (heap_alloc_new' w _)
  have HX1 : Hid (((w.alloc (svO s (.slice ah hx.length ch) (.slice at' tx.length ct) (.slice ad s.data.length cd) (.slice ac s.clm.length cc))).alloc (svO t (.slice bh hx'.length eh) (.slice bt tx'.length et) (.slice bd t.data.length ed) (.slice bc t.clm.length ec))).heap[w.heap.size + 1]? = some (svO t (.slice bh hx'.length eh) (.slice bt tx'.length et) (.slice bd t.data.length ed) (.slice bc t.clm.length ec))) := by
    have := heap_alloc_new' (w.alloc (svO s (.slice ah hx.length ch) (.slice at' tx.length ct) (.slice ad s.data.length cd) (.slice ac s.clm.length cc))) (svO t (.slice bh hx'.length eh) (.slice bt tx'.length et) (.slice bd t.data.length ed) (.slice bc t.clm.length ec))
    rw [World.size_alloc] at this; exact this
  have hb0 : Below w.heap.size w ((w.alloc (svO s (.slice ah hx.length ch) (.slice at' tx.length ct) (.slice ad s.data.length cd) (.slice ac s.clm.length cc))).alloc (svO t (.slice bh hx'.length eh) (.slice bt tx'.length et) (.slice bd t.data.length ed) (.slice bc t.clm.length ec))) := ((Below.refl _ _).alloc (Nat.le_refl _) _).alloc (by simp) _
  have hsz : ((w.alloc (svO s (.slice ah hx.length ch) (.slice at' tx.length ct) (.slice ad s.data.length cd) (.slice ac s.clm.length cc))).alloc (svO t (.slice bh hx'.length eh) (.slice bt tx'.length et) (.slice bd t.data.length ed) (.slice bc t.clm.length ec))).heap.size = w.heap.size + 2 := by simp
  have HS : Hid (∀ W, Below w.heap.size w W → SIn W s (.slice ah hx.length ch) (.slice at' tx.length ct) (.slice ad s.data.length cd) (.slice ac s.clm.length cc) hx tx ∧ SIn W t (.slice bh hx'.length eh) (.slice bt tx'.length et) (.slice bd t.data.length ed) (.slice bc t.clm.length ec) hx' tx') := fun W hW => ⟨h.below hW, h'.below hW⟩
  clear h h'
  go_enter Tryd.func39, Tryd.ntmps39
  go_wp2_with fail
  generalize ((w.alloc (svO s (.slice ah hx.length ch) (.slice at' tx.length ct) (.slice ad s.data.length cd) (.slice ac s.clm.length cc))).alloc (svO t (.slice bh hx'.length eh) (.slice bt tx'.length et) (.slice bd t.data.length ed) (.slice bc t.clm.length ec))) = W0 at *
  have HB0 : Hid (Below w.heap.size w W0) := hb0
  have HZ : Hid (W0.heap.size = w.heap.size + 2) := hsz
  clear hb0 hsz
  refine (sameExts_gen _ _ hx hx' W0 (HS.out W0 HB0.out).1.head (HS.out W0 HB0.out).2.head).mono ?_
  rintro e w1 ⟨q1, rfl, hq1, hb1⟩
  have HQ1 : Hid (s = t → q1 = true) := fun e => hq1 (HE1.out e)
  have HY1 : Hid (Below W0.heap.size W0 w1) := hb1
  have HB1 : Hid (Below w.heap.size w w1) := HB0.out.trans (hb1.mono HB0.out.size)
  clear hq1 hb1 HE1
  have x4 := cell_of_row _ w.heap.size 4 _ _ _ ((HY1.out.block _ (by have := HZ.out; omega)).trans HX0.out)
  have y4 := cell_of_row _ (w.heap.size + 1) 4 _ _ _ ((HY1.out.block _ (by have := HZ.out; omega)).trans HX1.out)
  simp only [List.getElem?_toArray, List.getElem?_cons_succ, List.getElem?_cons_zero] at x4 y4
  go_wp2_with fail
  refine (sameExts_gen _ _ tx tx' w1 (HS.out w1 HB1.out).1.tail (HS.out w1 HB1.out).2.tail).mono ?_
  rintro e w2 ⟨q2, rfl, hq2, hb2⟩
  have HQ2 : Hid (s = t → q2 = true) := fun e => hq2 (HE2.out e)
  have HY2 : Hid (Below W0.heap.size W0 w2) := HY1.out.trans (hb2.mono HY1.out.size)
  have HB2 : Hid (Below w.heap.size w w2) := HB1.out.trans (hb2.mono HB1.out.size)
  clear hq2 hb2 HE2 HB1 HY1 x4 y4
  have x12 := cell_of_row _ w.heap.size 12 _ _ _ ((HY2.out.block _ (by have := HZ.out; omega)).trans HX0.out)
  have y12 := cell_of_row _ (w.heap.size + 1) 12 _ _ _ ((HY2.out.block _ (by have := HZ.out; omega)).trans HX1.out)
  simp only [List.getElem?_toArray, List.getElem?_cons_succ, List.getElem?_cons_zero] at x12 y12
  go_wp2_with fail
  refine (sameSpans_gen _ _ s.clm t.clm w2 (HS.out w2 HB2.out).1.clm (HS.out w2 HB2.out).2.clm).mono ?_
  rintro e w3 ⟨q3, rfl, hq3, hb3⟩
  have HQ3 : Hid (s = t → q3 = true) := fun e => hq3 (HE3.out e)
  have HY3 : Hid (Below W0.heap.size W0 w3) := HY2.out.trans (hb3.mono HY2.out.size)
  have HB3 : Hid (Below w.heap.size w w3) := HB2.out.trans (hb3.mono HB2.out.size)
  clear hq3 hb3 HE3 HB2 HY2 x12 y12
  have x0 := cell_of_row _ w.heap.size 0 _ _ _ ((HY3.out.block _ (by have := HZ.out; omega)).trans HX0.out)
  have y0 := cell_of_row _ (w.heap.size + 1) 0 _ _ _ ((HY3.out.block _ (by have := HZ.out; omega)).trans HX1.out)
  have x1 := cell_of_row _ w.heap.size 1 _ _ _ ((HY3.out.block _ (by have := HZ.out; omega)).trans HX0.out)
  have y1 := cell_of_row _ (w.heap.size + 1) 1 _ _ _ ((HY3.out.block _ (by have := HZ.out; omega)).trans HX1.out)
  have x2 := cell_of_row _ w.heap.size 2 _ _ _ ((HY3.out.block _ (by have := HZ.out; omega)).trans HX0.out)
  have y2 := cell_of_row _ (w.heap.size + 1) 2 _ _ _ ((HY3.out.block _ (by have := HZ.out; omega)).trans HX1.out)
  have x5 := cell_of_row _ w.heap.size 5 _ _ _ ((HY3.out.block _ (by have := HZ.out; omega)).trans HX0.out)
  have y5 := cell_of_row _ (w.heap.size + 1) 5 _ _ _ ((HY3.out.block _ (by have := HZ.out; omega)).trans HX1.out)
  have x6 := cell_of_row _ w.heap.size 6 _ _ _ ((HY3.out.block _ (by have := HZ.out; omega)).trans HX0.out)
  have y6 := cell_of_row _ (w.heap.size + 1) 6 _ _ _ ((HY3.out.block _ (by have := HZ.out; omega)).trans HX1.out)
  have x7 := cell_of_row _ w.heap.size 7 _ _ _ ((HY3.out.block _ (by have := HZ.out; omega)).trans HX0.out)
  have y7 := cell_of_row _ (w.heap.size + 1) 7 _ _ _ ((HY3.out.block _ (by have := HZ.out; omega)).trans HX1.out)
  have x8 := cell_of_row _ w.heap.size 8 _ _ _ ((HY3.out.block _ (by have := HZ.out; omega)).trans HX0.out)
  have y8 := cell_of_row _ (w.heap.size + 1) 8 _ _ _ ((HY3.out.block _ (by have := HZ.out; omega)).trans HX1.out)
  have x9 := cell_of_row _ w.heap.size 9 _ _ _ ((HY3.out.block _ (by have := HZ.out; omega)).trans HX0.out)
  have y9 := cell_of_row _ (w.heap.size + 1) 9 _ _ _ ((HY3.out.block _ (by have := HZ.out; omega)).trans HX1.out)
  have x10 := cell_of_row _ w.heap.size 10 _ _ _ ((HY3.out.block _ (by have := HZ.out; omega)).trans HX0.out)
  have y10 := cell_of_row _ (w.heap.size + 1) 10 _ _ _ ((HY3.out.block _ (by have := HZ.out; omega)).trans HX1.out)
  have x11 := cell_of_row _ w.heap.size 11 _ _ _ ((HY3.out.block _ (by have := HZ.out; omega)).trans HX0.out)
  have y11 := cell_of_row _ (w.heap.size + 1) 11 _ _ _ ((HY3.out.block _ (by have := HZ.out; omega)).trans HX1.out)
  have x13 := cell_of_row _ w.heap.size 13 _ _ _ ((HY3.out.block _ (by have := HZ.out; omega)).trans HX0.out)
  have y13 := cell_of_row _ (w.heap.size + 1) 13 _ _ _ ((HY3.out.block _ (by have := HZ.out; omega)).trans HX1.out)
  simp only [List.getElem?_toArray, List.getElem?_cons_succ, List.getElem?_cons_zero] at x0 y0 x1 y1 x2 y2 x5 y5 x6 y6 x7 y7 x8 y8 x9 y9 x10 y10 x11 y11 x13 y13
  obtain ⟨a1, c1, hv1, hl1, _⟩ := (HS.out w3 HB3.out).1.data.shape
  obtain ⟨a2, c2, hv2, hl2, _⟩ := (HS.out w3 HB3.out).2.data.shape
  simp only [Value.slice.injEq, true_and] at hv1 hv2
  obtain ⟨rfl, rfl⟩ := hv1
  obtain ⟨rfl, rfl⟩ := hv2
  have k1 := conv_any w3 _ _ cd s.data rfl hl1
  have k2 := conv_any w3 _ _ ed t.data rfl hl2
  have HD : Hid (s = t → strOfNums s.data = strOfNums t.data) := fun e => by rw [e]
  clear hl1 hl2 HS HX0 HX1 HY3 HB0 HZ
  generalize strOfNums s.data = S1 at *
  generalize strOfNums t.data = S2 at *
  go_upto_region 4 with fail
  simp only [List.append_eq, List.cons_append, List.nil_append]
  cases q1
  · have HV : Hid (¬ s = t) := fun e => by have := HQ1.out e; cases this
    clear HQ1 HQ2 HQ3 HD
    go_wp2
    go_ret
    exact ⟨_, rfl, fun h => absurd h HV.out, HB3.out⟩
  cases q2
  · have HV : Hid (¬ s = t) := fun e => by have := HQ2.out e; cases this
    clear HQ1 HQ2 HQ3 HD
    go_wp2
    go_ret
    exact ⟨_, rfl, fun h => absurd h HV.out, HB3.out⟩
  cases q3
  · have HV : Hid (¬ s = t) := fun e => by have := HQ3.out e; cases this
    clear HQ1 HQ2 HQ3 HD
    go_wp2
    go_ret
    exact ⟨_, rfl, fun h => absurd h HV.out, HB3.out⟩
  by_cases e_typ : s.typ = t.typ
  rotate_left
  · have HV : Hid (¬ s = t) := fun e => e_typ (by rw [e])
    have e0 : (s.typ == t.typ) = false := by simp [e_typ]
    clear HQ1 HQ2 HQ3 HD
    go_wp2
    go_ret
    exact ⟨_, rfl, fun h => absurd h HV.out, HB3.out⟩
  by_cases e_org : s.org = t.org
  rotate_left
  · have HV : Hid (¬ s = t) := fun e => e_org (by rw [e])
    have e0 : (s.org == t.org) = false := by simp [e_org]
    clear HQ1 HQ2 HQ3 HD
    go_wp2
    go_ret
    exact ⟨_, rfl, fun h => absurd h HV.out, HB3.out⟩
  by_cases e_num : s.num = t.num
  rotate_left
  · have HV : Hid (¬ s = t) := fun e => e_num (by rw [e])
    have e0 : (s.num == t.num) = false := by simp [e_num]
    clear HQ1 HQ2 HQ3 HD
    go_wp2
    go_ret
    exact ⟨_, rfl, fun h => absurd h HV.out, HB3.out⟩
  by_cases e_srv : s.srv = t.srv
  rotate_left
  · have HV : Hid (¬ s = t) := fun e => e_srv (by rw [e])
    have e0 : (s.srv == t.srv) = false := by simp [e_srv]
    clear HQ1 HQ2 HQ3 HD
    go_wp2
    go_ret
    exact ⟨_, rfl, fun h => absurd h HV.out, HB3.out⟩
  by_cases e_off : s.off = t.off
  rotate_left
  · have HV : Hid (¬ s = t) := fun e => e_off (by rw [e])
    have e0 : (s.off == t.off) = false := by simp [e_off]
    clear HQ1 HQ2 HQ3 HD
    go_wp2
    go_ret
    exact ⟨_, rfl, fun h => absurd h HV.out, HB3.out⟩
  by_cases eS : S1.toList = S2.toList
  rotate_left
  · have HV : Hid (¬ s = t) := fun e => eS (by rw [HD.out e])
    have e0 : (S1.toList == S2.toList) = false := by simp [eS]
    clear HQ1 HQ2 HQ3 HD
    go_wp2
    go_ret
    exact ⟨_, rfl, fun h => absurd h HV.out, HB3.out⟩
  have eS2 : (S1.toList == S2.toList) = true := by simp [eS]
  by_cases e_chk : s.chk = t.chk
  rotate_left
  · have HV : Hid (¬ s = t) := fun e => e_chk (by rw [e])
    have e0 : (s.chk == t.chk) = false := by simp [e_chk]
    clear HQ1 HQ2 HQ3 HD
    go_wp2
    go_ret
    exact ⟨_, rfl, fun h => absurd h HV.out, HB3.out⟩
  by_cases e_rep : s.rep = t.rep
  rotate_left
  · have HV : Hid (¬ s = t) := fun e => e_rep (by rw [e])
    have e0 : (s.rep == t.rep) = false := by simp [e_rep]
    clear HQ1 HQ2 HQ3 HD
    go_wp2
    go_ret
    exact ⟨_, rfl, fun h => absurd h HV.out, HB3.out⟩
  by_cases e_upp : s.upp = t.upp
  rotate_left
  · have HV : Hid (¬ s = t) := fun e => e_upp (by rw [e])
    have e0 : (s.upp == t.upp) = false := by simp [e_upp]
    clear HQ1 HQ2 HQ3 HD
    go_wp2
    go_ret
    exact ⟨_, rfl, fun h => absurd h HV.out, HB3.out⟩
  by_cases e_low : s.low = t.low
  rotate_left
  · have HV : Hid (¬ s = t) := fun e => e_low (by rw [e])
    have e0 : (s.low == t.low) = false := by simp [e_low]
    clear HQ1 HQ2 HQ3 HD
    go_wp2
    go_ret
    exact ⟨_, rfl, fun h => absurd h HV.out, HB3.out⟩
  by_cases e_rsn : s.rsn = t.rsn
  rotate_left
  · have HV : Hid (¬ s = t) := fun e => e_rsn (by rw [e])
    have e0 : (s.rsn == t.rsn) = false := by simp [e_rsn]
    clear HQ1 HQ2 HQ3 HD
    go_wp2
    go_ret
    exact ⟨_, rfl, fun h => absurd h HV.out, HB3.out⟩
  clear HQ1 HQ2 HQ3 HD
  go_wp2
  go_ret
  exact ⟨true, rfl, fun _ => rfl, HB3.out⟩

end Go.Proofs.YtkkmoplijicmpaeDoor
