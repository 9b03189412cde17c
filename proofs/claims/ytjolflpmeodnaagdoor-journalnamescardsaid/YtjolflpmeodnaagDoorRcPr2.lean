import Derived.Test.YtjolflpmeodnaagDoorRcPrt
namespace Go.Proofs.YtjolflpmeodnaagDoor
open Go.RowKit

theorem kf_cases {k : Int} (h : kf k ≠ 0) : k = 1 ∨ k = 2 ∨ k = 3 ∨ k = 4 ∨ k = 5 ∨ k = 6 ∨ k = 7 ∨ k = 8 ∨ k = 9 ∨ k = 10 ∨ k = 11 ∨ k = 12 := by
  have hb := kf_bd h
  by_cases h0 : k = 0
  · subst h0; exact absurd rfl h
  · omega
theorem has8 {k : Int} (h : kf k ≠ 0) (h8 : hasB (kf k) 8 = true) : k = 11 := by
  rcases kf_cases h with rfl | rfl | rfl | rfl | rfl | rfl | rfl | rfl | rfl | rfl | rfl | rfl <;> first | rfl | exact absurd h8 (by decide)
theorem has9 {k : Int} (h : kf k ≠ 0) (h9 : hasB (kf k) 9 = true) : k = 3 ∨ k = 6 := by
  rcases kf_cases h with rfl | rfl | rfl | rfl | rfl | rfl | rfl | rfl | rfl | rfl | rfl | rfl <;> first | exact .inl rfl | exact .inr rfl | exact absurd h9 (by decide)
theorem tomb_ok {l : List (Int × Int)} (h : tombB l = true) : l.length ≤ 500 ∧ SpOk l := by
  unfold tombB at h
  simp only [Bool.and_eq_true, decide_eq_true_eq] at h
  refine ⟨by omega, fun p hp => ?_⟩
  have := (C.setB_iff.mp h.2.1).2.mem p hp
  omega
theorem may_parts {r : Rc} (h : mayB6 r = true) : kf r.kind ≠ 0 ∧ okNs (kf r.kind) r 8 = true ∧ (hasB (kf r.kind) 8 = true → r.spans.length ≤ 500 ∧ SpOk r.spans) ∧ (hasB (kf r.kind) 9 = true → r.data.length ≤ 65536) := by
  unfold mayB6 at h
  simp only [Bool.and_eq_true] at h
  have hk : kf r.kind ≠ 0 := by simpa using h.1
  have hok := allow_nums h.2.1
  refine ⟨hk, hok, fun h8 => ?_, fun h9 => ?_⟩
  · have h11 := has8 hk h8
    have hs := h.2.2
    unfold suitB at hs
    rw [h11, if_neg (by decide), if_neg (by decide), if_neg (by decide), if_neg (by decide), if_neg (by decide), if_neg (by decide), if_pos rfl, Bool.and_eq_true] at hs
    exact tomb_ok hs.2
  · have hs := h.2.2
    have ho := okN_bd (okNs_at hok (show 4 < 8 by omega))
    have ho' : nmA r 4 = r.off := rfl
    unfold suitB at hs
    rcases has9 hk h9 with h3 | h6
    · rw [h3, if_neg (by decide), if_neg (by decide), if_pos rfl] at hs
      simp only [Bool.and_eq_true, decide_eq_true_eq, beq_iff_eq] at hs
      omega
    · rw [h6, if_neg (by decide), if_neg (by decide), if_neg (by decide), if_neg (by decide), if_pos rfl] at hs
      simp only [Bool.and_eq_true, decide_eq_true_eq] at hs
      omega

/-- What Print answers. -/
def prR (r : Rc) : List Int × Int := if mayB6 r then (prB r, 0) else ([], 60)
def PrPost (p : List Int × Int) (w : World) (e : Ending) (w' : World) : Prop :=
  ∃ v', e = .returned (.tuple #[v', .int .i64 p.2]) ∧ w'.ownsRow w.heap.size 5 1 v' p.1.length (p.1.map (Value.int .u8)) ∧ Below w.heap.size w w'
/-- A record that lies somewhere. -/
structure RIn (w : World) (r : Rc) (sa da : Option Addr) (ns nd sc dc : Nat) : Prop where
  spn : r.spans.length = ns
  dat : r.data.length = nd
  big : nd ≤ 140737488355328
  spa : C.Ls w (.slice sa ns sc) r.spans
  lie : Lies .u8 w da r.data
  nil : da = none → nd = 0 ∧ dc = 0
theorem RIn.below {w w' : World} {r : Rc} {sa da : Option Addr} {ns nd sc dc : Nat} (h : RIn w r sa da ns nd sc dc) (hb : Below w.heap.size w w') : RIn w' r sa da ns nd sc dc :=
  ⟨h.spn, h.dat, h.big, h.spa.below hb, h.lie.below hb, h.nil⟩
theorem RIn.spin {w : World} {r : Rc} {sa da : Option Addr} {ns nd sc dc : Nat} (h : RIn w r sa da ns nd sc dc) : SpIn w sa r.spans := fun W hW => by
  obtain ⟨a', c', hv, hs, _, _⟩ := (h.spa.below hW).shape
  simp only [Value.slice.injEq] at hv
  obtain ⟨rfl, _, _⟩ := hv
  exact hs

set_option maxRecDepth 100000 in
set_option maxHeartbeats 1000000 in
theorem rprint_any (r : Rc) (sa da : Option Addr) (ns nd sc dc : Nat) (w : World) (hT : Tab6 w) (hr : RIn w r sa da ns nd sc dc) :
    Calls Tryd.prog 7 #[.agg (rcC r (.slice sa ns sc) (.slice da nd dc))] w (PrPost (prR r) w) := by
  have HB : Hid (Below w.heap.size w (w.alloc (rcO r (.slice sa ns sc) (.slice da nd dc)))) := (Below.refl _ _).alloc (Nat.le_refl _) _
  have HX : Hid ((w.alloc (rcO r (.slice sa ns sc) (.slice da nd dc))).heap[w.heap.size]? = some (rcO r (.slice sa ns sc) (.slice da nd dc))) := heap_new6 w _
  have hr1 := hr.below HB.out
  have HM : Hid (Calls Tryd.prog 18 #[.agg (rcC r (.slice sa ns sc) (.slice da nd dc))] (w.alloc (rcO r (.slice sa ns sc) (.slice da nd dc))) fun e w' => e = .returned (.bool (mayB6 r)) ∧ Below (w.alloc (rcO r (.slice sa ns sc) (.slice da nd dc))).heap.size (w.alloc (rcO r (.slice sa ns sc) (.slice da nd dc))) w') := mayBe_any r sa da ns nd sc dc _ (hT.below HB.out (tab6_pos hT)) hr1.spn hr1.dat hr1.big hr1.spa
  cases hm : mayB6 r with
  | false =>
    have HP : Hid (prR r = ([], 60)) := by unfold Hid prR; rw [hm]; rfl
    rw [hm] at HM
    rw [HP.out]
    clear HP hm hr hr1 hT
    go_enter Tryd.func7, Tryd.ntmps7
    go_wp2_with (go_at_call 18; refine HM.out.mono ?_; rintro e w1 ⟨rfl, hb1⟩)
    go_ret2
    exact ⟨_, rfl, World.ownsRow_nil _ _ _ _, HB.out.trans (hb1.mono HB.out.size)⟩
  | true =>
    obtain ⟨h1, h2, h3, h4⟩ := may_parts hm
    have HP : Hid (prR r = (prB r, 0)) := by unfold Hid prR; rw [hm]; rfl
    rw [hm] at HM
    rw [HP.out]
    have HF : Hid (∀ W, Below w.heap.size w W → Calls Tryd.prog 19 #[.agg (rcC r (.slice sa ns sc) (.slice da nd dc))] W fun e w' => ∃ v', e = .returned v' ∧ w'.ownsRow W.heap.size 5 1 v' (prB r).length ((prB r).map (Value.int .u8)) ∧ Below W.heap.size W w') := fun W hW =>
      have hw := hr.below hW
      form_any r sa da ns nd sc dc W (hT.below hW (tab6_pos hT)) hw.spn hw.dat h1 h2 (fun h => by have := h3 h; rw [hw.spn] at this; exact this) (fun h => by have := h4 h; rw [hw.dat] at this; exact this) hw.spin (fun V hV => hw.lie.below hV) hw.nil
    clear HP hm hr hr1 hT h1 h2 h3 h4
    go_enter Tryd.func7, Tryd.ntmps7
    go_wp2_with (first | (go_at_call 18; refine HM.out.mono ?_; rintro e w1 ⟨rfl, hb1⟩; have HB1 : Hid (Below w.heap.size w w1) := HB.out.trans (hb1.mono HB.out.size); obtain ⟨c0, c1, c2, c3, c4, c5, c6, c7, c8, c9, c10⟩ := rc_cells ((hb1.block _ (by simp)).trans HX.out); clear hb1) | (go_at_call 19; refine (HF.out _ HB1.out).mono ?_; rintro e w2 ⟨v2, rfl, ho2, hb2⟩))
    go_ret2
    exact ⟨v2, rfl, own_base6 ho2 HB1.out.size, HB1.out.trans (hb2.mono HB1.out.size)⟩

set_option maxRecDepth 100000 in
set_option maxHeartbeats 1000000 in
theorem rright_any (r : Rc) (sa da : Option Addr) (ns nd sc dc : Nat) (w : World) (hT : Tab6 w) (hr : RIn w r sa da ns nd sc dc) :
    Calls Tryd.prog 8 #[.agg (rcC r (.slice sa ns sc) (.slice da nd dc))] w fun e w' => e = .returned (.int .i64 (prR r).2) ∧ Below w.heap.size w w' := by
  have HB : Hid (Below w.heap.size w (w.alloc (rcO r (.slice sa ns sc) (.slice da nd dc)))) := (Below.refl _ _).alloc (Nat.le_refl _) _
  have hr1 := hr.below HB.out
  have HM : Hid (Calls Tryd.prog 18 #[.agg (rcC r (.slice sa ns sc) (.slice da nd dc))] (w.alloc (rcO r (.slice sa ns sc) (.slice da nd dc))) fun e w' => e = .returned (.bool (mayB6 r)) ∧ Below (w.alloc (rcO r (.slice sa ns sc) (.slice da nd dc))).heap.size (w.alloc (rcO r (.slice sa ns sc) (.slice da nd dc))) w') := mayBe_any r sa da ns nd sc dc _ (hT.below HB.out (tab6_pos hT)) hr1.spn hr1.dat hr1.big hr1.spa
  cases hm : mayB6 r with
  | false =>
    have HP : Hid (prR r = ([], 60)) := by unfold Hid prR; rw [hm]; rfl
    rw [hm] at HM
    rw [HP.out]
    clear HP hm hr hr1 hT
    go_enter Tryd.func8, Tryd.ntmps8
    go_wp2_with (go_at_call 18; refine HM.out.mono ?_; rintro e w1 ⟨rfl, hb1⟩)
    go_ret
    exact ⟨rfl, HB.out.trans (hb1.mono HB.out.size)⟩
  | true =>
    have HP : Hid (prR r = (prB r, 0)) := by unfold Hid prR; rw [hm]; rfl
    rw [hm] at HM
    rw [HP.out]
    clear HP hm hr hr1 hT
    go_enter Tryd.func8, Tryd.ntmps8
    go_wp2_with (go_at_call 18; refine HM.out.mono ?_; rintro e w1 ⟨rfl, hb1⟩)
    go_ret
    exact ⟨rfl, HB.out.trans (hb1.mono HB.out.size)⟩
end Go.Proofs.YtjolflpmeodnaagDoor
