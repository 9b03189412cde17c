import Derived.Test.YtdfdaambfihjaaaDoorLnPu
import Derived.Test.YtdfdaambfihjaaaDoorLnCs
import Derived.Test.YtdfdaambfihjaaaDoorLnCq
namespace Go.Proofs.YtdfdaambfihjaaaDoor.L
open Go.RowKit
set_option linter.unusedVariables false
set_option linter.unusedSimpArgs false

/-- What Put leaves where it takes a segment. -/
structure PtG (w w' : World) (p m : Nat) (lim K : Int) (S S' : Pm) (M c' : Nat) (E' : List En) (s : Sg) (y : Sv) (hx' tx' : List Xr) (lo hi : Nat) : Prop where
  ys : y.s = s
  lg : Lg w' p m lim S' (M + 1) c' E'
  wt : ∀ i, i < 3 → Wt (S' K) i = Wt (S K) i ++ (if i = kdn s.typ then [y] else [])
  ot : ∀ K', K' ≠ K → S' K' = S K'
  fo : ∀ g, FL m S' g → FL m S g ∨ w.heap.size ≤ g
  kl : Kl (FL m S) w w'
  l0 : w.heap.size ≤ lo
  h0 : hi ≤ w'.heap.size
  nf : ∀ g, FL m S' g → ¬ (lo ≤ g ∧ g < hi)
  st : StR (SgO lo hi y hx' tx') lo hi w'
def PrG (w : World) (p m : Nat) (lim K : Int) (S : Pm) (M c : Nat) (E : List En) (s : Sg) (z : Int) (e : Ending) (w' : World) : Prop :=
  (∃ r : Int, r ≠ 0 ∧ e = .returned (.int .i64 r) ∧ Lg w' p m lim S M c E ∧ Below w.heap.size w w' ∧ ((z ≠ 0 ∧ r = z) ∨ (z = 0 ∧ kdn s.typ = 0 ∧ lim ≤ ((Wt (S K) 0).length : Nat) ∧ r = 110))) ∨
  (z = 0 ∧ (kdn s.typ = 0 → ((Wt (S K) 0).length : Nat) < lim) ∧ e = .returned (.int .i64 0) ∧ ∃ S' c' E' y hx' tx' lo hi, PtG w w' p m lim K S S' M c' E' s y hx' tx' lo hi)

/-- A peer that can't be. -/
theorem putNo (w : World) (p : Nat) (K : Int) (hK : ¬ (1 ≤ K ∧ K ≤ 4611686018427387903)) (s : Sg) (hv tv dv cv : Value) :
    Calls Tryd.prog 17 #[.pointer (some ⟨p, 0, none⟩), .int .i64 K, .agg (svC s hv tv dv cv)] w fun e w' => e = .returned (.int .i64 1) ∧ Below w.heap.size w w' := by
  have HB : Hid (Below w.heap.size w (w.alloc (.cells (svC s hv tv dv cv) 37))) := (Below.refl _ _).alloc (Nat.le_refl _) _
  by_cases h1 : K < 1
  · clear hK
    go_enter Tryd.func17, Tryd.ntmps17
    go_wp2
    go_ret
    exact ⟨rfl, HB.out⟩
  · have h2 : 4611686018427387903 < K := by omega
    clear hK
    go_enter Tryd.func17, Tryd.ntmps17
    go_wp2
    go_ret
    exact ⟨rfl, HB.out⟩

set_option maxRecDepth 100000 in
set_option maxHeartbeats 8000000 in
theorem putG (w : World) (p m : Nat) (lim K : Int) (S : Pm) (M c : Nat) (E : List En) (h : Lg w p m lim S M c E) (hM : M ≤ 68719476735) (hK1 : 1 ≤ K) (hK2 : K ≤ 4611686018427387903) (s : Sg) (hv tv dv cv : Value) (hx tx : List Xr) (hs : ∀ V, Kl (FL m S) w V → SIn V s hv tv dv cv hx tx) (hT : Tab w) (z : Int) (hz : (prt s hx tx).1 = z) :
    Calls Tryd.prog 17 #[.pointer (some ⟨p, 0, none⟩), .int .i64 K, .agg (svC s hv tv dv cv)] w (PrG w p m lim K S M c E s z) := by
  have h00 : 0 < w.heap.size := World.block_lt_of_cell? w ⟨0, 0, none⟩ (hT 0 (by omega))
  obtain ⟨W, hW⟩ : ∃ W, w.alloc (.cells (svC s hv tv dv cv) 37) = W := ⟨_, rfl⟩
  have HWe : Hid (w.alloc (.cells (svC s hv tv dv cv) 37) = W) := hW
  have bW : Below w.heap.size w W := by rw [← hW]; exact (Below.refl _ _).alloc (Nat.le_refl _) _
  have hnw : W.heap[w.heap.size]? = some (.cells (svC s hv tv dv cv) 37 (0, 0)) := by rw [← hW]; exact heap_alloc_new' _ _
  obtain ⟨B, hB⟩ : ∃ B, w.heap.size = B := ⟨_, rfl⟩
  have HBx : Hid (∀ V : World, V.heap[B]? = W.heap[B]? → V.heap[B]? = some (.cells (svC s hv tv dv cv) 37 (0, 0))) := fun V hV => by rw [hV, ← hB]; exact hnw
  have HS : Hid (∀ V : World, Below w.heap.size w V → SIn V s hv tv dv cv hx tx ∧ Tab V ∧ Lg V p m lim S M c E) := fun V hV => ⟨hs V (Kl.of_below hV), hT.below hV h00, h.below hV⟩
  have HbW : Hid (Below w.heap.size w W) := bW
  have hR := rightS_any s hv tv dv cv hx tx W (HS.out W bW).1 (HS.out W bW).2.1
  rw [hz] at hR
  obtain ⟨y0, y1, y2, y3, y4, y5, y6, y7, y8, y9, y10, y11, y12, y13⟩ := s14_cells hnw
  rw [hB] at y0 y1 y2 y3 y4 y5 y6 y7 y8 y9 y10 y11 y12 y13
  have hk1 : ¬ K < 1 := by omega
  have hk2 : ¬ 4611686018427387903 < K := by omega
  have HB : Hid (w.heap.size = B) := hB
  have HSs : Hid (∀ V, Kl (FL m S) w V → SIn V s hv tv dv cv hx tx) := hs
  have HL : Hid (Lg w p m lim S M c E) := h
  have HZ : Hid ((prt s hx tx).1 = z) := hz
  clear h hs hT hW bW hz
  go_enter Tryd.func17, Tryd.ntmps17
  go_upto_region 3 with fail
  rw [HWe.out]
  go_wp2_with fail
  refine hR.mono ?_
  rintro e W1 ⟨rfl, hb1⟩
  have bW1 : Below w.heap.size w W1 := HbW.out.trans (hb1.mono HbW.out.size)
  have HbW1 : Hid (Below w.heap.size w W1) := bW1
  have hb1B : W1.heap[B]? = some (.cells (svC s hv tv dv cv) 37 (0, 0)) := HBx.out W1 (hb1.block B (by rw [← HB.out]; exact (Array.getElem?_eq_some_iff.1 hnw).1))
  obtain ⟨v0, v1, v2, v3, v4, v5, v6, v7, v8, v9, v10, v11, v12, v13⟩ := s14_cells hb1B
  clear y0 y1 y2 y3 y4 y5 y6 y7 y8 y9 y10 y11 y12 y13 hR hb1 hnw bW1
  by_cases hz0 : z = 0
  · subst hz0
    have hkk := kindOf_any s hv tv dv cv W1
    obtain ⟨kn, hkn⟩ : ∃ kn, kdn s.typ = kn := ⟨_, rfl⟩
    have hk3 : kn < 3 := by rw [← hkn]; exact (kd_n _).2
    rw [(kd_n s.typ).1, hkn] at hkk
    have HKN : Hid (kdn s.typ = kn) := hkn
    clear hkn
    go_wp2_with fail
    refine hkk.mono ?_
    rintro e W2 ⟨rfl, hb2⟩
    have bW2 : Below w.heap.size w W2 := HbW1.out.trans (hb2.mono HbW1.out.size)
    have HbW2 : Hid (Below w.heap.size w W2) := bW2
    have hb2B : W2.heap[B]? = some (.cells (svC s hv tv dv cv) 37 (0, 0)) := (hb2.block B (Array.getElem?_eq_some_iff.1 hb1B).1).trans hb1B
    have HBB : Hid (W2.heap[B]? = some (.cells (svC s hv tv dv cv) 37 (0, 0))) := hb2B
    clear v0 v1 v2 v3 v4 v5 v6 v7 v8 v9 v10 v11 v12 v13 hkk hb2 hb1B
    have HTake : Hid (∀ W3, Below W2.heap.size W2 W3 → ∀ W4 x q c4 E4, LoP W3 W4 p m lim K S M x q c4 E4 → ∀ W5 y hx' tx', y.s = s → y.Sl → Below W4.heap.size W4 W5 → Stb (SgO W4.heap.size W5.heap.size y hx' tx') W4.heap.size W5 → ∀ W6 v', Ln W6 x (upq q kn ⟨v', (q kn).f, (q kn).Z, (q kn).L ++ [y]⟩) (M + 1) → (∀ g, Fq x (upq q kn ⟨v', (q kn).f, (q kn).Z, (q kn).L ++ [y]⟩) g → Fq x q g ∨ W5.heap.size ≤ g) → Kl (Fq x q) W5 W6 → PtG w W6 p m lim K S (setS S K (some (x, upq q kn ⟨v', (q kn).f, (q kn).Z, (q kn).L ++ [y]⟩))) M c4 E4 s y hx' tx' W4.heap.size W5.heap.size) := fun W3 h3 W4 x q c4 E4 l4 W5 y hx' tx' ys yl h5 st5 W6 v' l6 f6 k6 => by
      have b3 : Below w.heap.size w W3 := HbW2.out.trans (h3.mono HbW2.out.size)
      have l5 := l4.lg.below h5
      have hK5 : setS S K (some (x, q)) K = some (x, q) := setS_same _ _ _
      have inF : ∀ g, Fq x q g → FL m (setS S K (some (x, q))) g := fun g hg => .inr ⟨K, x, q, hK5, hg⟩
      have l7 := l5.line hK5 (Nat.le_succ M) l6 k6 (fun g e => .inl e) f6
      rw [setS_twice'] at l7
      have k15 : Kl (fun g => g = m) w W5 := ((Kl.of_below (S := fun g => g = m) b3).then l4.kl (fun _ _ e => e)).below h5
      have hs5 : w.heap.size ≤ W4.heap.size := Nat.le_trans b3.size l4.kl.size
      have hnew : ∀ g, FL m (setS S K (some (x, upq q kn ⟨v', (q kn).f, (q kn).Z, (q kn).L ++ [y]⟩))) g → FL m (setS S K (some (x, q))) g ∨ W5.heap.size ≤ g := fun g hg => by
        rcases hg with e | ⟨K', x', q', hs, hg⟩
        · exact .inl (.inl e)
        · by_cases e : K' = K
          · subst e
            rw [setS_same] at hs
            cases hs
            rcases f6 g hg with e | e
            · exact .inl (inF g e)
            · exact .inr e
          · rw [setS_other S _ e] at hs
            exact .inl (.inr ⟨K', x', q', by rw [setS_other S _ e]; exact hs, hg⟩)
      refine ⟨ys, l7, fun i hi => ?_, fun K' hK' => setS_other S _ hK', fun g hg => ?_, k15.mono (fun g _ e => .inl e) |>.then k6 (fun g hg e => ?_), hs5, k6.size, fun g hg => ?_, fun V hV => st5 V (fun g h0 h1 => (hV g h0 h1).trans (k6.block g h1 (fun e => ?_)))⟩
      · rw [setS_same]
        by_cases e : i = kn
        · subst e
          show (upq q i _ i).L = _
          rw [upq_same, if_pos HKN.out.symm, l4.qs i hi]
        · show (upq q kn _ i).L = _
          rw [upq_other q _ e, if_neg (by rw [HKN.out]; exact e), l4.qs i hi, List.append_nil]
      · rcases hnew g hg with e | e
        · rcases l4.fo g e with e | e
          · exact .inl e
          · exact .inr (Nat.le_trans b3.size e)
        · exact .inr (Nat.le_trans hs5 (Nat.le_trans h5.size e))
      · rcases l4.fo g (inF g e) with e | e
        · exact e
        · exact absurd (Nat.le_trans b3.size e) (by omega)
      · rintro ⟨e1, e2⟩
        rcases hnew g hg with e | e
        · have := l4.lg.lt e; omega
        · omega
      · have := l4.lg.lt (inF g e); omega
    have HOk : Hid (XsB hx ∧ XsB tx) := prt_ok HZ.out
    have c0 : W2.cell? ⟨p, 0, none⟩ = some (.int .i64 lim) := (cell_of_row _ _ _ _ _ _ (HL.out.below HbW2.out).box).trans rfl
    by_cases hk0 : kn = 0
    · subst hk0
      obtain ⟨L0, hL0⟩ : ∃ L0, (Wt (S K) 0).length = L0 := ⟨_, rfl⟩
      have hAn := answersG W2.drew p m lim K S M c E (HL.out.below ⟨HbW2.out.os, HbW2.out.tape, HbW2.out.output, HbW2.out.size, HbW2.out.block⟩) (by omega)
      rw [hL0] at hAn
      have HL0 : Hid ((Wt (S K) 0).length = L0) := hL0
      have HC : Hid (W2.cell? ⟨p, 0, none⟩ = some (.int .i64 lim)) := c0
      by_cases hge : lim ≤ (L0 : Int)
      · go_wp2_with fail
        go_region_held3 (fun V => V.cell? ⟨p, 0, none⟩ = some (.int .i64 lim))
          (first | exact HC.out | exact HU.out)
          (first
            | (go_at_call 40
               refine hAn.mono ?_
               rintro e W3 ⟨rfl, hb3⟩
               have HU : Hid (W3.cell? ⟨p, 0, none⟩ = some (.int .i64 lim)) := cell_below (w := W2.drew) HC.out hb3
               have Hb3 : Hid (Below W2.heap.size W2 W3) := ⟨hb3.os, hb3.tape, hb3.output, hb3.size, hb3.block⟩
               clear hb3))
        all_goals (
          go_wp2
          go_ret
          have b3 := HbW2.out.trans (Hb3.out.mono HbW2.out.size)
          exact .inl ⟨110, by decide, rfl, HL.out.below b3, b3, .inr ⟨rfl, HKN.out, by rw [HL0.out]; exact hge, rfl⟩⟩)
      · have hge' : (L0 : Int) < lim := by omega
        go_wp2_with fail
        go_region_held3 (fun V => V.cell? ⟨p, 0, none⟩ = some (.int .i64 lim))
          (first | exact HC.out | exact HU.out)
          (first
            | (go_at_call 40
               refine hAn.mono ?_
               rintro e W3 ⟨rfl, hb3⟩
               have HU : Hid (W3.cell? ⟨p, 0, none⟩ = some (.int .i64 lim)) := cell_below (w := W2.drew) HC.out hb3
               have Hb3 : Hid (Below W2.heap.size W2 W3) := ⟨hb3.os, hb3.tape, hb3.output, hb3.size, hb3.block⟩
               clear hb3))
        have HB3 : Hid (W3.heap[B]? = some (.cells (svC s hv tv dv cv) 37 (0, 0))) := (Hb3.out.block B (Array.getElem?_eq_some_iff.1 HBB.out).1).trans HBB.out
        have HSk : Hid (∀ W4, Kl (fun g => g = m) W3 W4 → SIn W4 s hv tv dv cv hx tx) := fun W4 h4 => HSs.out W4 ((Kl.of_below (HbW2.out.trans (Hb3.out.mono HbW2.out.size))).then h4 (fun g _ e => .inl e))
        clear c0 hAn hL0 hb2B bW2
        have HBu : Hid (∀ V : World, V.heap[B]? = W3.heap[B]? → V.cell? ⟨B, 0, none⟩ = some (.int .i64 s.typ) ∧ V.cell? ⟨B, 1, none⟩ = some (.int .i64 s.org) ∧ V.cell? ⟨B, 2, none⟩ = some (.int .i64 s.num) ∧ V.cell? ⟨B, 3, none⟩ = some hv ∧ V.cell? ⟨B, 4, none⟩ = some tv ∧ V.cell? ⟨B, 5, none⟩ = some (.int .i64 s.srv) ∧ V.cell? ⟨B, 6, none⟩ = some (.int .i64 s.off) ∧ V.cell? ⟨B, 7, none⟩ = some dv ∧ V.cell? ⟨B, 8, none⟩ = some (.int .i64 s.chk) ∧ V.cell? ⟨B, 9, none⟩ = some (.int .i64 s.rep) ∧ V.cell? ⟨B, 10, none⟩ = some (.int .i64 s.upp) ∧ V.cell? ⟨B, 11, none⟩ = some (.int .i64 s.low) ∧ V.cell? ⟨B, 12, none⟩ = some cv ∧ V.cell? ⟨B, 13, none⟩ = some (.int .i64 s.rsn)) := fun V hV => s14_cells (hV.trans HB3.out)
        have hLn := lineOfG W3.drew p m lim K S M c E ((HL.out.below HbW2.out).below ⟨Hb3.out.os, Hb3.out.tape, Hb3.out.output, Hb3.out.size, Hb3.out.block⟩)
        have HC0 := HBu.out W3 rfl
        go_wp2_with fail
        go_region_held3 (fun V => V.cell? ⟨B, 0, none⟩ = some (.int .i64 s.typ) ∧ V.cell? ⟨B, 1, none⟩ = some (.int .i64 s.org) ∧ V.cell? ⟨B, 2, none⟩ = some (.int .i64 s.num) ∧ V.cell? ⟨B, 3, none⟩ = some hv ∧ V.cell? ⟨B, 4, none⟩ = some tv ∧ V.cell? ⟨B, 5, none⟩ = some (.int .i64 s.srv) ∧ V.cell? ⟨B, 6, none⟩ = some (.int .i64 s.off) ∧ V.cell? ⟨B, 7, none⟩ = some dv ∧ V.cell? ⟨B, 8, none⟩ = some (.int .i64 s.chk) ∧ V.cell? ⟨B, 9, none⟩ = some (.int .i64 s.rep) ∧ V.cell? ⟨B, 10, none⟩ = some (.int .i64 s.upp) ∧ V.cell? ⟨B, 11, none⟩ = some (.int .i64 s.low) ∧ V.cell? ⟨B, 12, none⟩ = some cv ∧ V.cell? ⟨B, 13, none⟩ = some (.int .i64 s.rsn))
          (first | exact HC0 | exact HC1.out | exact HC2.out | exact HC3.out)
          (first
            | (go_at_call 42
               refine hPt.mono ?_
               rintro e W6 ⟨⟨u6, rfl⟩, v6, l6, f6, k6⟩
               have HR6 : Hid (∃ S' c' E' y hx' tx' lo hi, PtG w W6 p m lim K S S' M c' E' s y hx' tx' lo hi) := ⟨_, _, _, _, _, _, _, _, HTake.out W3 Hb3.out W4 x q c4 E4 H4.out W5 y hx5 tx5 H5.out.1 H5.out.2.1 H5.out.2.2.1 H5.out.2.2.2 W6 v6 l6 f6 k6⟩
               have HC3 : Hid (W6.cell? ⟨B, 0, none⟩ = some (.int .i64 s.typ) ∧ W6.cell? ⟨B, 1, none⟩ = some (.int .i64 s.org) ∧ W6.cell? ⟨B, 2, none⟩ = some (.int .i64 s.num) ∧ W6.cell? ⟨B, 3, none⟩ = some hv ∧ W6.cell? ⟨B, 4, none⟩ = some tv ∧ W6.cell? ⟨B, 5, none⟩ = some (.int .i64 s.srv) ∧ W6.cell? ⟨B, 6, none⟩ = some (.int .i64 s.off) ∧ W6.cell? ⟨B, 7, none⟩ = some dv ∧ W6.cell? ⟨B, 8, none⟩ = some (.int .i64 s.chk) ∧ W6.cell? ⟨B, 9, none⟩ = some (.int .i64 s.rep) ∧ W6.cell? ⟨B, 10, none⟩ = some (.int .i64 s.upp) ∧ W6.cell? ⟨B, 11, none⟩ = some (.int .i64 s.low) ∧ W6.cell? ⟨B, 12, none⟩ = some cv ∧ W6.cell? ⟨B, 13, none⟩ = some (.int .i64 s.rsn)) := HBu.out W6 ((k6.block B (Nat.lt_of_lt_of_le H4b.out.1 H5.out.2.2.1.size) (fun e => H4b.out.2.2 (.inr ⟨K, x, q, setS_same _ _ _, e⟩))).trans ((H5.out.2.2.1.block B H4b.out.1).trans H4b.out.2.1))
               clear l6 f6 k6)
            | (go_at_call 43
               refine hCp.mono ?_
               rintro e W5 ⟨y, hys, rfl, hyl, hb5, hx5, tx5, hst5⟩
               have H5 : Hid (y.s = s ∧ y.Sl ∧ Below W4.heap.size W4 W5 ∧ Stb (SgO W4.heap.size W5.heap.size y hx5 tx5) W4.heap.size W5) := ⟨hys, hyl, hb5, hst5⟩
               have HC2 : Hid (W5.cell? ⟨B, 0, none⟩ = some (.int .i64 s.typ) ∧ W5.cell? ⟨B, 1, none⟩ = some (.int .i64 s.org) ∧ W5.cell? ⟨B, 2, none⟩ = some (.int .i64 s.num) ∧ W5.cell? ⟨B, 3, none⟩ = some hv ∧ W5.cell? ⟨B, 4, none⟩ = some tv ∧ W5.cell? ⟨B, 5, none⟩ = some (.int .i64 s.srv) ∧ W5.cell? ⟨B, 6, none⟩ = some (.int .i64 s.off) ∧ W5.cell? ⟨B, 7, none⟩ = some dv ∧ W5.cell? ⟨B, 8, none⟩ = some (.int .i64 s.chk) ∧ W5.cell? ⟨B, 9, none⟩ = some (.int .i64 s.rep) ∧ W5.cell? ⟨B, 10, none⟩ = some (.int .i64 s.upp) ∧ W5.cell? ⟨B, 11, none⟩ = some (.int .i64 s.low) ∧ W5.cell? ⟨B, 12, none⟩ = some cv ∧ W5.cell? ⟨B, 13, none⟩ = some (.int .i64 s.rsn)) := HBu.out W5 ((hb5.block B H4b.out.1).trans H4b.out.2.1)
               have hl5 := (H4.out.lg.below hb5).ln K x q (setS_same _ _ _)
               have hPt := lput hl5 (i := 0) (by omega) (by omega) y hyl
               clear hys hyl hb5 hst5 hl5)
            | (go_at_call 41
               refine hLn.mono ?_
               rintro e W4 ⟨x, q, c4, E4, rfl, l4⟩
               have k4' : Kl (fun g => g = m) W3 W4 := ⟨l4.kl.os, l4.kl.tape, l4.kl.output, l4.kl.size, l4.kl.block⟩
               have H4 : Hid (LoP W3 W4 p m lim K S M x q c4 E4) := ⟨l4.lg, l4.qs, l4.fo, k4'⟩
               have hBl3 : B < W3.heap.size := (Array.getElem?_eq_some_iff.1 HB3.out).1
               have hFB : ¬ FL m (setS S K (some (x, q))) B := fun e => by
                 rcases l4.fo B e with e | e
                 · have := HL.out.lt e; have := HB.out; omega
                 · exact absurd e (by show ¬ W3.heap.size ≤ B; omega)
               have hmB : B ≠ m := fun e => hFB (.inl e)
               have H4b : Hid (B < W4.heap.size ∧ W4.heap[B]? = W3.heap[B]? ∧ ¬ FL m (setS S K (some (x, q))) B) := ⟨Nat.lt_of_lt_of_le hBl3 k4'.size, k4'.block B hBl3 hmB, hFB⟩
               have HC1 : Hid (W4.cell? ⟨B, 0, none⟩ = some (.int .i64 s.typ) ∧ W4.cell? ⟨B, 1, none⟩ = some (.int .i64 s.org) ∧ W4.cell? ⟨B, 2, none⟩ = some (.int .i64 s.num) ∧ W4.cell? ⟨B, 3, none⟩ = some hv ∧ W4.cell? ⟨B, 4, none⟩ = some tv ∧ W4.cell? ⟨B, 5, none⟩ = some (.int .i64 s.srv) ∧ W4.cell? ⟨B, 6, none⟩ = some (.int .i64 s.off) ∧ W4.cell? ⟨B, 7, none⟩ = some dv ∧ W4.cell? ⟨B, 8, none⟩ = some (.int .i64 s.chk) ∧ W4.cell? ⟨B, 9, none⟩ = some (.int .i64 s.rep) ∧ W4.cell? ⟨B, 10, none⟩ = some (.int .i64 s.upp) ∧ W4.cell? ⟨B, 11, none⟩ = some (.int .i64 s.low) ∧ W4.cell? ⟨B, 12, none⟩ = some cv ∧ W4.cell? ⟨B, 13, none⟩ = some (.int .i64 s.rsn)) := HBu.out W4 H4b.out.2.1
               have hS4 : SIn W4 s hv tv dv cv hx tx := HSk.out W4 k4'
               have hCp := copyOfG s hv tv dv cv hx tx W4 hS4 HOk.out.1 HOk.out.2
               clear l4 k4' hBl3 hFB hmB hS4))
        all_goals (
          go_wp2
          go_ret
          exact .inr ⟨rfl, fun _ => by rw [HL0.out]; exact hge', rfl, HR6.out⟩)
    · have hk0' : ¬ (kn : Int) = 0 := by omega
      have hk3' : (kn : Int) < 3 := by omega
      have hk00 : 0 ≤ (kn : Int) := by omega
      have hk4 : ¬ (kn : Int) < 0 := by omega
      have hk0b : ((kn : Int) == 0) = false := by simpa using hk0'
      go_wp2_with fail
      go_region
      all_goals (
        obtain ⟨W3, hW3⟩ : ∃ W3, W2.drew = W3 := ⟨_, rfl⟩
        have Hb3 : Hid (Below W2.heap.size W2 W3) := by rw [← hW3]; exact ⟨rfl, rfl, rfl, Nat.le_refl _, fun _ _ => rfl⟩
        try rw [hW3]
        clear hW3
        have HB3 : Hid (W3.heap[B]? = some (.cells (svC s hv tv dv cv) 37 (0, 0))) := (Hb3.out.block B (Array.getElem?_eq_some_iff.1 HBB.out).1).trans HBB.out
        have HSk : Hid (∀ W4, Kl (fun g => g = m) W3 W4 → SIn W4 s hv tv dv cv hx tx) := fun W4 h4 => HSs.out W4 ((Kl.of_below (HbW2.out.trans (Hb3.out.mono HbW2.out.size))).then h4 (fun g _ e => .inl e))
        clear c0 hb2B bW2
        have HBu : Hid (∀ V : World, V.heap[B]? = W3.heap[B]? → V.cell? ⟨B, 0, none⟩ = some (.int .i64 s.typ) ∧ V.cell? ⟨B, 1, none⟩ = some (.int .i64 s.org) ∧ V.cell? ⟨B, 2, none⟩ = some (.int .i64 s.num) ∧ V.cell? ⟨B, 3, none⟩ = some hv ∧ V.cell? ⟨B, 4, none⟩ = some tv ∧ V.cell? ⟨B, 5, none⟩ = some (.int .i64 s.srv) ∧ V.cell? ⟨B, 6, none⟩ = some (.int .i64 s.off) ∧ V.cell? ⟨B, 7, none⟩ = some dv ∧ V.cell? ⟨B, 8, none⟩ = some (.int .i64 s.chk) ∧ V.cell? ⟨B, 9, none⟩ = some (.int .i64 s.rep) ∧ V.cell? ⟨B, 10, none⟩ = some (.int .i64 s.upp) ∧ V.cell? ⟨B, 11, none⟩ = some (.int .i64 s.low) ∧ V.cell? ⟨B, 12, none⟩ = some cv ∧ V.cell? ⟨B, 13, none⟩ = some (.int .i64 s.rsn)) := fun V hV => s14_cells (hV.trans HB3.out)
        have hLn := lineOfG W3.drew p m lim K S M c E ((HL.out.below HbW2.out).below ⟨Hb3.out.os, Hb3.out.tape, Hb3.out.output, Hb3.out.size, Hb3.out.block⟩)
        have HC0 := HBu.out W3 rfl
        go_wp2_with fail
        go_region_held3 (fun V => V.cell? ⟨B, 0, none⟩ = some (.int .i64 s.typ) ∧ V.cell? ⟨B, 1, none⟩ = some (.int .i64 s.org) ∧ V.cell? ⟨B, 2, none⟩ = some (.int .i64 s.num) ∧ V.cell? ⟨B, 3, none⟩ = some hv ∧ V.cell? ⟨B, 4, none⟩ = some tv ∧ V.cell? ⟨B, 5, none⟩ = some (.int .i64 s.srv) ∧ V.cell? ⟨B, 6, none⟩ = some (.int .i64 s.off) ∧ V.cell? ⟨B, 7, none⟩ = some dv ∧ V.cell? ⟨B, 8, none⟩ = some (.int .i64 s.chk) ∧ V.cell? ⟨B, 9, none⟩ = some (.int .i64 s.rep) ∧ V.cell? ⟨B, 10, none⟩ = some (.int .i64 s.upp) ∧ V.cell? ⟨B, 11, none⟩ = some (.int .i64 s.low) ∧ V.cell? ⟨B, 12, none⟩ = some cv ∧ V.cell? ⟨B, 13, none⟩ = some (.int .i64 s.rsn))
          (first | exact HC0 | exact HC1.out | exact HC2.out | exact HC3.out)
          (first
            | (go_at_call 42
               refine hPt.mono ?_
               rintro e W6 ⟨⟨u6, rfl⟩, v6, l6, f6, k6⟩
               have HR6 : Hid (∃ S' c' E' y hx' tx' lo hi, PtG w W6 p m lim K S S' M c' E' s y hx' tx' lo hi) := ⟨_, _, _, _, _, _, _, _, HTake.out W3 Hb3.out W4 x q c4 E4 H4.out W5 y hx5 tx5 H5.out.1 H5.out.2.1 H5.out.2.2.1 H5.out.2.2.2 W6 v6 l6 f6 k6⟩
               have HC3 : Hid (W6.cell? ⟨B, 0, none⟩ = some (.int .i64 s.typ) ∧ W6.cell? ⟨B, 1, none⟩ = some (.int .i64 s.org) ∧ W6.cell? ⟨B, 2, none⟩ = some (.int .i64 s.num) ∧ W6.cell? ⟨B, 3, none⟩ = some hv ∧ W6.cell? ⟨B, 4, none⟩ = some tv ∧ W6.cell? ⟨B, 5, none⟩ = some (.int .i64 s.srv) ∧ W6.cell? ⟨B, 6, none⟩ = some (.int .i64 s.off) ∧ W6.cell? ⟨B, 7, none⟩ = some dv ∧ W6.cell? ⟨B, 8, none⟩ = some (.int .i64 s.chk) ∧ W6.cell? ⟨B, 9, none⟩ = some (.int .i64 s.rep) ∧ W6.cell? ⟨B, 10, none⟩ = some (.int .i64 s.upp) ∧ W6.cell? ⟨B, 11, none⟩ = some (.int .i64 s.low) ∧ W6.cell? ⟨B, 12, none⟩ = some cv ∧ W6.cell? ⟨B, 13, none⟩ = some (.int .i64 s.rsn)) := HBu.out W6 ((k6.block B (Nat.lt_of_lt_of_le H4b.out.1 H5.out.2.2.1.size) (fun e => H4b.out.2.2 (.inr ⟨K, x, q, setS_same _ _ _, e⟩))).trans ((H5.out.2.2.1.block B H4b.out.1).trans H4b.out.2.1))
               clear l6 f6 k6)
            | (go_at_call 43
               refine hCp.mono ?_
               rintro e W5 ⟨y, hys, rfl, hyl, hb5, hx5, tx5, hst5⟩
               have H5 : Hid (y.s = s ∧ y.Sl ∧ Below W4.heap.size W4 W5 ∧ Stb (SgO W4.heap.size W5.heap.size y hx5 tx5) W4.heap.size W5) := ⟨hys, hyl, hb5, hst5⟩
               have HC2 : Hid (W5.cell? ⟨B, 0, none⟩ = some (.int .i64 s.typ) ∧ W5.cell? ⟨B, 1, none⟩ = some (.int .i64 s.org) ∧ W5.cell? ⟨B, 2, none⟩ = some (.int .i64 s.num) ∧ W5.cell? ⟨B, 3, none⟩ = some hv ∧ W5.cell? ⟨B, 4, none⟩ = some tv ∧ W5.cell? ⟨B, 5, none⟩ = some (.int .i64 s.srv) ∧ W5.cell? ⟨B, 6, none⟩ = some (.int .i64 s.off) ∧ W5.cell? ⟨B, 7, none⟩ = some dv ∧ W5.cell? ⟨B, 8, none⟩ = some (.int .i64 s.chk) ∧ W5.cell? ⟨B, 9, none⟩ = some (.int .i64 s.rep) ∧ W5.cell? ⟨B, 10, none⟩ = some (.int .i64 s.upp) ∧ W5.cell? ⟨B, 11, none⟩ = some (.int .i64 s.low) ∧ W5.cell? ⟨B, 12, none⟩ = some cv ∧ W5.cell? ⟨B, 13, none⟩ = some (.int .i64 s.rsn)) := HBu.out W5 ((hb5.block B H4b.out.1).trans H4b.out.2.1)
               have hl5 := (H4.out.lg.below hb5).ln K x q (setS_same _ _ _)
               have hPt := lput hl5 (i := kn) hk3 (by omega) y hyl
               clear hys hyl hb5 hst5 hl5)
            | (go_at_call 41
               refine hLn.mono ?_
               rintro e W4 ⟨x, q, c4, E4, rfl, l4⟩
               have k4' : Kl (fun g => g = m) W3 W4 := ⟨l4.kl.os, l4.kl.tape, l4.kl.output, l4.kl.size, l4.kl.block⟩
               have H4 : Hid (LoP W3 W4 p m lim K S M x q c4 E4) := ⟨l4.lg, l4.qs, l4.fo, k4'⟩
               have hBl3 : B < W3.heap.size := (Array.getElem?_eq_some_iff.1 HB3.out).1
               have hFB : ¬ FL m (setS S K (some (x, q))) B := fun e => by
                 rcases l4.fo B e with e | e
                 · have := HL.out.lt e; have := HB.out; omega
                 · exact absurd e (by show ¬ W3.heap.size ≤ B; omega)
               have hmB : B ≠ m := fun e => hFB (.inl e)
               have H4b : Hid (B < W4.heap.size ∧ W4.heap[B]? = W3.heap[B]? ∧ ¬ FL m (setS S K (some (x, q))) B) := ⟨Nat.lt_of_lt_of_le hBl3 k4'.size, k4'.block B hBl3 hmB, hFB⟩
               have HC1 : Hid (W4.cell? ⟨B, 0, none⟩ = some (.int .i64 s.typ) ∧ W4.cell? ⟨B, 1, none⟩ = some (.int .i64 s.org) ∧ W4.cell? ⟨B, 2, none⟩ = some (.int .i64 s.num) ∧ W4.cell? ⟨B, 3, none⟩ = some hv ∧ W4.cell? ⟨B, 4, none⟩ = some tv ∧ W4.cell? ⟨B, 5, none⟩ = some (.int .i64 s.srv) ∧ W4.cell? ⟨B, 6, none⟩ = some (.int .i64 s.off) ∧ W4.cell? ⟨B, 7, none⟩ = some dv ∧ W4.cell? ⟨B, 8, none⟩ = some (.int .i64 s.chk) ∧ W4.cell? ⟨B, 9, none⟩ = some (.int .i64 s.rep) ∧ W4.cell? ⟨B, 10, none⟩ = some (.int .i64 s.upp) ∧ W4.cell? ⟨B, 11, none⟩ = some (.int .i64 s.low) ∧ W4.cell? ⟨B, 12, none⟩ = some cv ∧ W4.cell? ⟨B, 13, none⟩ = some (.int .i64 s.rsn)) := HBu.out W4 H4b.out.2.1
               have hS4 : SIn W4 s hv tv dv cv hx tx := HSk.out W4 k4'
               have hCp := copyOfG s hv tv dv cv hx tx W4 hS4 HOk.out.1 HOk.out.2
               clear l4 k4' hBl3 hFB hmB hS4))
        all_goals (
          go_wp2
          go_ret
          exact .inr ⟨rfl, fun e => absurd (HKN.out.symm.trans e) hk0, rfl, HR6.out⟩))
  · have hz2 : (z == 0) = false := by simpa using hz0
    have HZ0 : Hid (z ≠ 0) := hz0
    go_wp2
    go_ret
    exact .inl ⟨z, HZ0.out, rfl, (HS.out _ HbW1.out).2.2, HbW1.out, .inl ⟨HZ0.out, rfl⟩⟩

end Go.Proofs.YtdfdaambfihjaaaDoor.L
