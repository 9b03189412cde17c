import Derived.Test.YtdfdaambfihjaaaDoorLnDr
import Derived.Test.YtdfdaambfihjaaaDoorOw2
namespace Go.Proofs.YtdfdaambfihjaaaDoor.L
open Go.RowKit
set_option linter.unusedVariables false
set_option linter.unusedSimpArgs false

/-- The copy under way: its block B, the answer's block, what is below. -/
structure Cs (w wx : World) (s : Sg) (hv tv dv cv : Value) : Prop where
  b0 : wx.heap[w.heap.size]? = some (.cells (svC s hv tv dv cv) 37 (0, 0))
  b1 : wx.heap[w.heap.size + 1]? = some (.cells zseg 37 (0, 0))
  low : Below w.heap.size w wx
theorem Cs.below {w wx wy : World} {s : Sg} {hv tv dv cv : Value} (h : Cs w wx s hv tv dv cv) (hb : Below wx.heap.size wx wy) : Cs w wy s hv tv dv cv :=
  ⟨(hb.block _ (Array.getElem?_eq_some_iff.1 h.b0).1).trans h.b0, (hb.block _ (Array.getElem?_eq_some_iff.1 h.b1).1).trans h.b1, h.low.trans (hb.mono h.low.size)⟩
theorem Cs.sz {w wx : World} {s : Sg} {hv tv dv cv : Value} (h : Cs w wx s hv tv dv cv) : w.heap.size + 2 ≤ wx.heap.size := (Array.getElem?_eq_some_iff.1 h.b1).1
theorem Cs.cell {w wx : World} {s : Sg} {hv tv dv cv : Value} (h : Cs w wx s hv tv dv cv) {j : Nat} {u : Value} (hj : (svC s hv tv dv cv)[j]? = some u) : wx.cell? ⟨w.heap.size, j, none⟩ = some u := (cell_of_row _ _ _ _ _ _ h.b0).trans hj
theorem Cs.fz {w wx : World} {s : Sg} {hv tv dv cv : Value} (h : Cs w wx s hv tv dv cv) (j : Nat) : wx.frozen? ⟨w.heap.size, j, none⟩ = false := frozen_of_row _ _ _ _ _ h.b0
/-- Two of its cells were written. -/
theorem Cs.set2 {w wx : World} {s : Sg} {hv tv dv cv hv' tv' dv' cv' u1 u2 : Value} {i j : Nat} (h : Cs w wx s hv tv dv cv) (e : ((svC s hv tv dv cv).setIfInBounds i u1).setIfInBounds j u2 = svC s hv' tv' dv' cv') :
    Cs w ((wx.setCell ⟨w.heap.size, i, none⟩ u1).setCell ⟨w.heap.size, j, none⟩ u2) s hv' tv' dv' cv' := by
  have h1 := heap_setCell_same wx w.heap.size i _ _ u1 h.b0
  have h2 := heap_setCell_same _ w.heap.size j _ _ u2 h1
  rw [e] at h2
  refine ⟨h2, ?_, (h.low.setCell (Nat.le_refl _) _).setCell (Nat.le_refl _) _⟩
  rw [heap_setCell_other _ _ _ _ (by simp), heap_setCell_other _ _ _ _ (by simp)]
  exact h.b1
theorem stb_set2 {P : World → Prop} {lo B i j : Nat} {w : World} {u1 u2 : Value} (h : Stb P lo w) (hB : B < lo) : Stb P lo ((w.setCell ⟨B, i, none⟩ u1).setCell ⟨B, j, none⟩ u2) :=
  h.keep (by simp [World.setCell]) (fun g h0 h1 => by rw [heap_setCell_other _ _ _ _ (by simp; omega), heap_setCell_other _ _ _ _ (by simp; omega)])

def setA : Array Value → Nat → List Value → Array Value
  | cs, _, [] => cs
  | cs, o, v :: r => setA (cs.setIfInBounds o v) (o + 1) r
theorem heap_setA (g : Nat) (t : TypeId) : ∀ (l : List Value) (cs : Array Value) (o : Nat) (w : World), w.heap[g]? = some (.cells cs t (0, 0)) → (w.setCells g o l).heap[g]? = some (.cells (setA cs o l) t (0, 0))
  | [], cs, o, w, h => h
  | v :: r, cs, o, w, h => heap_setA g t r _ (o + 1) _ (heap_setCell_same w g o cs t v h)

set_option maxRecDepth 100000 in
set_option maxHeartbeats 8000000 in
theorem copyOf_any (s : Sg) (hv tv dv cv : Value) (hx tx : List Xr) (w : World) (hs : SIn w s hv tv dv cv hx tx) (hh : XsB hx) (ht : XsB tx) :
    Calls Tryd.prog 43 #[.agg (svC s hv tv dv cv)] w fun e w' => ∃ y : Sv, y.s = s ∧ e = .returned (.agg (svC y.s y.hv y.tv y.dv y.cv)) ∧ y.Sl ∧ Below w.heap.size w w' ∧ Stb (fun W => SAt W y) w.heap.size w' := by
  have HH : Hid (∀ V, Below w.heap.size w V → Calls Tryd.prog 59 #[hv] V fun e w' => ∃ a c, e = .returned (.slice a hx.length c) ∧ Stb (fun W => ∃ ys, XIn W (.slice a hx.length c) ys ∧ ys.map Xr.ex = hx.map Xr.ex) V.heap.size w' ∧ Below V.heap.size V w') := fun V hV => cpX (hs.head.below hV) hh
  have HT : Hid (∀ V, Below w.heap.size w V → Calls Tryd.prog 59 #[tv] V fun e w' => ∃ a c, e = .returned (.slice a tx.length c) ∧ Stb (fun W => ∃ ys, XIn W (.slice a tx.length c) ys ∧ ys.map Xr.ex = tx.map Xr.ex) V.heap.size w' ∧ Below V.heap.size V w') := fun V hV => cpX (hs.tail.below hV) ht
  have HD : Hid (∀ V, Below w.heap.size w V → Calls Tryd.prog 60 #[dv] V fun e w' => ∃ a c, e = .returned (.slice a s.data.length c) ∧ Stb (fun W => BIn W (.slice a s.data.length c) s.data) V.heap.size w' ∧ Below V.heap.size V w') := fun V hV => cpB (hs.data.below hV)
  have HC : Hid (∀ V, Below w.heap.size w V → Calls Tryd.prog 61 #[cv] V fun e w' => ∃ a c, e = .returned (.slice a s.clm.length c) ∧ Stb (fun W => CIn W (.slice a s.clm.length c) s.clm) V.heap.size w' ∧ Below V.heap.size V w') := fun V hV => cpS (hs.clm.below hV)
  have HE : Hid (s.head = hx.map Xr.ex ∧ s.tail = tx.map Xr.ex) := ⟨hs.headEq, hs.tailEq⟩
  obtain ⟨h1, h2, h3, h4⟩ := SAt.sl (y := ⟨s, hv, tv, dv, cv⟩) ⟨hx, tx, hs⟩
  obtain ⟨ha, hn, hc, rfl⟩ := h1
  obtain ⟨ta, tn, tc, rfl⟩ := h2
  obtain ⟨da, dn, dc, rfl⟩ := h3
  obtain ⟨ca, cn, cc, rfl⟩ := h4
  obtain ⟨W0, hW0⟩ : ∃ W, (w.alloc (.cells (svC s (.slice ha hn hc) (.slice ta tn tc) (.slice da dn dc) (.slice ca cn cc)) 37)).alloc (.cells zseg 37) = W := ⟨_, rfl⟩
  have HW0 : Hid ((w.alloc (.cells (svC s (.slice ha hn hc) (.slice ta tn tc) (.slice da dn dc) (.slice ca cn cc)) 37)).alloc (.cells zseg 37) = W0) := hW0
  have HS0 : Hid (Cs w W0 s (.slice ha hn hc) (.slice ta tn tc) (.slice da dn dc) (.slice ca cn cc)) := by
    rw [← hW0]
    refine ⟨?_, ?_, ((Below.refl _ _).alloc (Nat.le_refl _) _).alloc (by simp) _⟩
    · rw [Below.heap_alloc _ _ _ (by simp)]; exact heap_alloc_new' _ _
    · have := heap_alloc_new' (w.alloc (.cells (svC s (.slice ha hn hc) (.slice ta tn tc) (.slice da dn dc) (.slice ca cn cc)) 37)) (.cells zseg 37)
      rw [World.size_alloc] at this
      exact this
  obtain ⟨B, hB⟩ : ∃ B, w.heap.size = B := ⟨_, rfl⟩
  clear hs hh ht hW0
  go_enter Tryd.func43, Tryd.ntmps43
  go_upto_region 1 with fail
  have hWW : (w.alloc (.cells (svC s (.slice ha hn hc) (.slice ta tn tc) (.slice da dn dc) (.slice ca cn cc)) 37)).alloc (.cells #[.int .i64 0, .int .i64 0, .int .i64 0, .slice none 0 0, .slice none 0 0, .int .i64 0, .int .i64 0, .slice none 0 0, .int .i64 0, .int .i64 0, .int .i64 0, .int .i64 0, .slice none 0 0, .int .i64 0] 37) = W0 := HW0.out
  rw [hWW]
  clear hWW
  have HBe : Hid (w.heap.size = B) := hB
  have hcell : ∀ (V : World) (h t d c : Value), Cs w V s h t d c → V.cell? ⟨B, 3, none⟩ = some h ∧ V.cell? ⟨B, 4, none⟩ = some t ∧ V.cell? ⟨B, 7, none⟩ = some d ∧ V.cell? ⟨B, 12, none⟩ = some c ∧ V.frozen? ⟨B, 3, none⟩ = false ∧ V.frozen? ⟨B, 4, none⟩ = false ∧ V.frozen? ⟨B, 7, none⟩ = false ∧ V.frozen? ⟨B, 12, none⟩ = false := fun V h t d c hh => by
    rw [← hB]
    exact ⟨hh.cell rfl, hh.cell rfl, hh.cell rfl, hh.cell rfl, hh.fz 3, hh.fz 4, hh.fz 7, hh.fz 12⟩
  have HCell : Hid (∀ (V : World) (h t d c : Value), Cs w V s h t d c → V.cell? ⟨B, 3, none⟩ = some h ∧ V.cell? ⟨B, 4, none⟩ = some t ∧ V.cell? ⟨B, 7, none⟩ = some d ∧ V.cell? ⟨B, 12, none⟩ = some c ∧ V.frozen? ⟨B, 3, none⟩ = false ∧ V.frozen? ⟨B, 4, none⟩ = false ∧ V.frozen? ⟨B, 7, none⟩ = false ∧ V.frozen? ⟨B, 12, none⟩ = false) := hcell
  obtain ⟨c3, c4, c7, c12, f3, f4, f7, f12⟩ := hcell _ _ _ _ _ HS0.out
  clear hcell
  have HS1 : Hid (Below w.heap.size w W0.drew) := ⟨HS0.out.low.os, HS0.out.low.tape, HS0.out.low.output, HS0.out.low.size, HS0.out.low.block⟩
  have hH1 := HH.out _ HS1.out
  generalize hAg : Value.agg (svC s (.slice ha hn hc) (.slice ta tn tc) (.slice da dn dc) (.slice ca cn cc)) = A0
  clear hAg
  go_cut [1] from 3 to 19 (fun i wx => i = .pointer (some ⟨B, 0, none⟩) ∧ ∃ a5 k5 a8 k8, Hid (Cs w wx s (.slice a5 hx.length k5) (.slice a8 tx.length k8) (.slice da dn dc) (.slice ca cn cc) ∧ Stb (fun W => ∃ ys, XIn W (.slice a5 hx.length k5) ys ∧ ys.map Xr.ex = hx.map Xr.ex) (B + 2) wx ∧ Stb (fun W => ∃ ys, XIn W (.slice a8 tx.length k8) ys ∧ ys.map Xr.ex = tx.map Xr.ex) (B + 2) wx))
  case first =>
    go_region_with (first
        | (go_at_call 59
           refine hT1.mono ?_
           rintro e U2 ⟨a8, k8, rfl, hst8, hbU2⟩
           have HCU2 : Hid (Cs w U2 s (.slice ha hn hc) (.slice ta tn tc) (.slice da dn dc) (.slice ca cn cc)) := HCU.out.below hbU2
           have HX8 : Hid (Stb (fun W => ∃ ys, XIn W (.slice a8 tx.length k8) ys ∧ ys.map Xr.ex = tx.map Xr.ex) (B + 2) U2) := hst8.low (by have h := HCU.out.sz; rw [HBe.out] at h; exact h)
           have HX5' : Hid (Stb (fun W => ∃ ys, XIn W (.slice a5 hx.length k5) ys ∧ ys.map Xr.ex = hx.map Xr.ex) (B + 2) U2) := HX5.out.keep hbU2.size (fun g _ h1 => hbU2.block g h1)
           obtain ⟨c3, c4, c7, c12, f3, f4, f7, f12⟩ := HCell.out _ _ _ _ _ HCU2.out
           clear hst8 hbU2)
        | (go_at_call 59
           refine hH1.mono ?_
           rintro e U ⟨a5, k5, rfl, hst5, hbU⟩
           have HCU : Hid (Cs w U s (.slice ha hn hc) (.slice ta tn tc) (.slice da dn dc) (.slice ca cn cc)) := HS0.out.below ⟨hbU.os, hbU.tape, hbU.output, hbU.size, hbU.block⟩
           have HX5 : Hid (Stb (fun W => ∃ ys, XIn W (.slice a5 hx.length k5) ys ∧ ys.map Xr.ex = hx.map Xr.ex) (B + 2) U) := hst5.low (by have h := HS0.out.sz; rw [HBe.out] at h; exact h)
           obtain ⟨c3, c4, c7, c12, f3, f4, f7, f12⟩ := HCell.out _ _ _ _ _ HCU.out
           have hT1 := HT.out U HCU.out.low
           clear hst5 hbU))
    all_goals (
      go_wp2_with fail
      go_meet
      refine ⟨rfl, a5, k5, a8, k8, ?_, stb_set2 HX5'.out (by omega), stb_set2 HX8.out (by omega)⟩
      have h := HCU2.out.set2 (i := 3) (j := 4) (u1 := .slice a5 hx.length k5) (u2 := .slice a8 tx.length k8) (hv' := .slice a5 hx.length k5) (tv' := .slice a8 tx.length k8) (dv' := .slice da dn dc) (cv' := .slice ca cn cc) rfl
      rw [HBe.out] at h
      exact h)
  case rest =>
  obtain ⟨rfl, a5, k5, a8, k8, HR1⟩ := hcut
  obtain ⟨w1, hw1⟩ : ∃ x, x = wc := ⟨_, rfl⟩
  subst hw1
  clear HS0 HS1 hH1 c3 c4 c7 c12 f3 f4 f7 f12 HH HT HW0
  obtain ⟨c3, c4, c7, c12, f3, f4, f7, f12⟩ := HCell.out _ _ _ _ _ HR1.out.1
  have HS1 : Hid (Below w.heap.size w w1.drew) := ⟨HR1.out.1.low.os, HR1.out.1.low.tape, HR1.out.1.low.output, HR1.out.1.low.size, HR1.out.1.low.block⟩
  have hD1 := HD.out _ HS1.out
  go_upto_region 2 with fail
  go_cut [1] from 3 to 19 (fun i wx => i = .pointer (some ⟨B, 0, none⟩) ∧ ∃ a13 k13 a16 k16, Hid (Cs w wx s (.slice a5 hx.length k5) (.slice a8 tx.length k8) (.slice a13 s.data.length k13) (.slice a16 s.clm.length k16) ∧ Stb (fun W => ∃ ys, XIn W (.slice a5 hx.length k5) ys ∧ ys.map Xr.ex = hx.map Xr.ex) (B + 2) wx ∧ Stb (fun W => ∃ ys, XIn W (.slice a8 tx.length k8) ys ∧ ys.map Xr.ex = tx.map Xr.ex) (B + 2) wx ∧ Stb (fun W => BIn W (.slice a13 s.data.length k13) s.data) (B + 2) wx ∧ Stb (fun W => CIn W (.slice a16 s.clm.length k16) s.clm) (B + 2) wx))
  case first =>
    go_region_with (first
        | (go_at_call 60
           refine hD1.mono ?_
           rintro e U ⟨a13, k13, rfl, hst5, hbU⟩
           have hbU' : Below w1.heap.size w1 U := ⟨hbU.os, hbU.tape, hbU.output, hbU.size, hbU.block⟩
           have HCU : Hid (Cs w U s (.slice a5 hx.length k5) (.slice a8 tx.length k8) (.slice da dn dc) (.slice ca cn cc)) := HR1.out.1.below hbU'
           have HX13 : Hid (Stb (fun W => BIn W (.slice a13 s.data.length k13) s.data) (B + 2) U) := hst5.low (by have h := HR1.out.1.sz; rw [HBe.out] at h; exact h)
           have HX5 : Hid (Stb (fun W => ∃ ys, XIn W (.slice a5 hx.length k5) ys ∧ ys.map Xr.ex = hx.map Xr.ex) (B + 2) U ∧ Stb (fun W => ∃ ys, XIn W (.slice a8 tx.length k8) ys ∧ ys.map Xr.ex = tx.map Xr.ex) (B + 2) U) := ⟨HR1.out.2.1.keep hbU'.size (fun g _ h1 => hbU'.block g h1), HR1.out.2.2.keep hbU'.size (fun g _ h1 => hbU'.block g h1)⟩
           obtain ⟨c3, c4, c7, c12, f3, f4, f7, f12⟩ := HCell.out _ _ _ _ _ HCU.out
           have hC1 := HC.out U HCU.out.low
           clear hst5 hbU hbU')
        | (go_at_call 61
           refine hC1.mono ?_
           rintro e U2 ⟨a16, k16, rfl, hst8, hbU2⟩
           have HCU2 : Hid (Cs w U2 s (.slice a5 hx.length k5) (.slice a8 tx.length k8) (.slice da dn dc) (.slice ca cn cc)) := HCU.out.below hbU2
           have HX16 : Hid (Stb (fun W => CIn W (.slice a16 s.clm.length k16) s.clm) (B + 2) U2) := hst8.low (by have h := HCU.out.sz; rw [HBe.out] at h; exact h)
           have HX13' : Hid (Stb (fun W => BIn W (.slice a13 s.data.length k13) s.data) (B + 2) U2) := HX13.out.keep hbU2.size (fun g _ h1 => hbU2.block g h1)
           have HX5' : Hid (Stb (fun W => ∃ ys, XIn W (.slice a5 hx.length k5) ys ∧ ys.map Xr.ex = hx.map Xr.ex) (B + 2) U2 ∧ Stb (fun W => ∃ ys, XIn W (.slice a8 tx.length k8) ys ∧ ys.map Xr.ex = tx.map Xr.ex) (B + 2) U2) := ⟨HX5.out.1.keep hbU2.size (fun g _ h1 => hbU2.block g h1), HX5.out.2.keep hbU2.size (fun g _ h1 => hbU2.block g h1)⟩
           obtain ⟨c3, c4, c7, c12, f3, f4, f7, f12⟩ := HCell.out _ _ _ _ _ HCU2.out
           clear hst8 hbU2))
    all_goals (
      go_wp2_with fail
      go_meet
      refine ⟨rfl, a13, k13, a16, k16, ?_, stb_set2 HX5'.out.1 (by omega), stb_set2 HX5'.out.2 (by omega), stb_set2 HX13'.out (by omega), stb_set2 HX16.out (by omega)⟩
      have h := HCU2.out.set2 (i := 7) (j := 12) (u1 := .slice a13 s.data.length k13) (u2 := .slice a16 s.clm.length k16) (hv' := .slice a5 hx.length k5) (tv' := .slice a8 tx.length k8) (dv' := .slice a13 s.data.length k13) (cv' := .slice a16 s.clm.length k16) rfl
      rw [HBe.out] at h
      exact h)
  case rest =>
  obtain ⟨rfl, a13, k13, a16, k16, HR2⟩ := hcut
  obtain ⟨w2, hw2⟩ : ∃ x, x = wc := ⟨_, rfl⟩
  subst hw2
  clear HS1 hD1 c3 c4 c7 c12 f3 f4 f7 f12 HD HC HR1
  have kk : ∀ (j : Nat) u, (svC s (.slice a5 hx.length k5) (.slice a8 tx.length k8) (.slice a13 s.data.length k13) (.slice a16 s.clm.length k16))[j]? = some u → w2.cell? ⟨B, j, none⟩ = some u := fun j u h => by rw [← HBe.out]; exact HR2.out.1.cell h
  have y0 := kk 0 _ rfl
  have y1 := kk 1 _ rfl
  have y2 := kk 2 _ rfl
  have y3 := kk 3 _ rfl
  have y4 := kk 4 _ rfl
  have y5 := kk 5 _ rfl
  have y6 := kk 6 _ rfl
  have y7 := kk 7 _ rfl
  have y8 := kk 8 _ rfl
  have y9 := kk 9 _ rfl
  have y10 := kk 10 _ rfl
  have y11 := kk 11 _ rfl
  have y12 := kk 12 _ rfl
  have y13 := kk 13 _ rfl
  have hb1 : w2.heap[B + 1]? = some (.cells zseg 37 (0, 0)) := by rw [← HBe.out]; exact HR2.out.1.b1
  have zz : ∀ j, j < 14 → (∃ u, w2.cell? ⟨B + 1, j, none⟩ = some u) ∧ w2.frozen? ⟨B + 1, j, none⟩ = false := fun j hj => ⟨⟨zseg[j]'hj, (cell_of_row _ _ _ _ _ _ hb1).trans (Array.getElem?_eq_getElem (xs := zseg) hj)⟩, frozen_of_row _ _ _ _ _ hb1⟩
  obtain ⟨⟨r0, x0⟩, z0⟩ := zz 0 (by omega)
  obtain ⟨⟨r1, x1⟩, z1⟩ := zz 1 (by omega)
  obtain ⟨⟨r2, x2⟩, z2⟩ := zz 2 (by omega)
  obtain ⟨⟨r3, x3⟩, z3⟩ := zz 3 (by omega)
  obtain ⟨⟨r4, x4⟩, z4⟩ := zz 4 (by omega)
  obtain ⟨⟨r5, x5⟩, z5⟩ := zz 5 (by omega)
  obtain ⟨⟨r6, x6⟩, z6⟩ := zz 6 (by omega)
  obtain ⟨⟨r7, x7⟩, z7⟩ := zz 7 (by omega)
  obtain ⟨⟨r8, x8⟩, z8⟩ := zz 8 (by omega)
  obtain ⟨⟨r9, x9⟩, z9⟩ := zz 9 (by omega)
  obtain ⟨⟨r10, x10⟩, z10⟩ := zz 10 (by omega)
  obtain ⟨⟨r11, x11⟩, z11⟩ := zz 11 (by omega)
  obtain ⟨⟨r12, x12⟩, z12⟩ := zz 12 (by omega)
  obtain ⟨⟨r13, x13⟩, z13⟩ := zz 13 (by omega)
  obtain ⟨Vf, hVf⟩ : ∃ V, w2.setCells (B + 1) 0 (Sv.L ⟨s, .slice a5 hx.length k5, .slice a8 tx.length k8, .slice a13 s.data.length k13, .slice a16 s.clm.length k16⟩) = V := ⟨_, rfl⟩
  have hbf : Vf.heap[B + 1]? = some (.cells (svC s (.slice a5 hx.length k5) (.slice a8 tx.length k8) (.slice a13 s.data.length k13) (.slice a16 s.clm.length k16)) 37 (0, 0)) := by
    have h5 := heap_setA (B + 1) 37 (Sv.L ⟨s, .slice a5 hx.length k5, .slice a8 tx.length k8, .slice a13 s.data.length k13, .slice a16 s.clm.length k16⟩) zseg 0 w2 hb1
    rw [hVf] at h5
    rw [h5]
    simp [setA, Sv.L, zseg]
  have HF : Hid (Below w.heap.size w Vf ∧ Stb (fun W => SAt W ⟨s, .slice a5 hx.length k5, .slice a8 tx.length k8, .slice a13 s.data.length k13, .slice a16 s.clm.length k16⟩) w.heap.size Vf) := by
    obtain ⟨e1, e2, e3, e4, e5⟩ := setCells_other (B + 1) (Sv.L ⟨s, .slice a5 hx.length k5, .slice a8 tx.length k8, .slice a13 s.data.length k13, .slice a16 s.clm.length k16⟩) 0 w2
    rw [hVf] at e1 e2 e3 e4 e5
    obtain ⟨q1, q2, q3, q4, q5⟩ := HR2.out
    have hl := q1.low
    refine ⟨⟨e2.trans hl.os, e3.trans hl.tape, e4.trans hl.output, by rw [e5]; exact hl.size, fun g hg => (e1 g (by have := HBe.out; omega)).trans (hl.block g hg)⟩, fun W hW => ?_⟩
    have ag : ∀ g, B + 2 ≤ g → g < w2.heap.size → W.heap[g]? = w2.heap[g]? := fun g h0 h1 => (hW g (by have := HBe.out; omega) (by rw [e5]; exact h1)).trans (e1 g (by omega))
    obtain ⟨ys, p1, p2⟩ := q2 W ag
    obtain ⟨zs, p3, p4⟩ := q3 W ag
    exact ⟨ys, zs, ⟨p1, by rw [HE.out.1, p2], p3, by rw [HE.out.2, p4], q4 W ag, q5 W ag⟩⟩
  have gg : ∀ (j : Nat) u, (svC s (.slice a5 hx.length k5) (.slice a8 tx.length k8) (.slice a13 s.data.length k13) (.slice a16 s.clm.length k16))[j]? = some u → Vf.cell? ⟨B + 1, j, none⟩ = some u := fun j u h => (cell_of_row _ _ _ _ _ _ hbf).trans h
  have HVf : Hid (w2.setCells (B + 1) 0 (Sv.L ⟨s, .slice a5 hx.length k5, .slice a8 tx.length k8, .slice a13 s.data.length k13, .slice a16 s.clm.length k16⟩) = Vf) := hVf
  have u0 := gg 0 _ rfl
  have u1 := gg 1 _ rfl
  have u2 := gg 2 _ rfl
  have u3' := gg 3 _ rfl
  have u4' := gg 4 _ rfl
  have u5' := gg 5 _ rfl
  have u6' := gg 6 _ rfl
  have u7' := gg 7 _ rfl
  have u8' := gg 8 _ rfl
  have u9' := gg 9 _ rfl
  have u10' := gg 10 _ rfl
  have u11' := gg 11 _ rfl
  have u12' := gg 12 _ rfl
  have u13' := gg 13 _ rfl
  clear kk zz hb1 gg hVf hbf
  go_wp2
  have hv2 := HVf.out
  simp only [World.setCells, Sv.L, Nat.zero_add, Nat.reduceAdd] at hv2
  rw [hv2]
  refine bodyPost_ret (v := .agg (svC s (.slice a5 hx.length k5) (.slice a8 tx.length k8) (.slice a13 s.data.length k13) (.slice a16 s.clm.length k16))) (by simp [results, Tryd.results43, go_sem, u0, u1, u2, u3', u4', u5', u6', u7', u8', u9', u10', u11', u12', u13']) rfl ?_
  exact ⟨⟨s, .slice a5 hx.length k5, .slice a8 tx.length k8, .slice a13 s.data.length k13, .slice a16 s.clm.length k16⟩, rfl, rfl, ⟨⟨_, _, _, rfl⟩, ⟨_, _, _, rfl⟩, ⟨_, _, _, rfl⟩, _, _, _, rfl⟩, HF.out.1, HF.out.2⟩

end Go.Proofs.YtdfdaambfihjaaaDoor.L

namespace Go.Proofs.YtdfdaambfihjaaaDoor
open Go.RowKit
set_option linter.unusedVariables false
set_option linter.unusedSimpArgs false

set_option maxRecDepth 100000 in
set_option maxHeartbeats 4000000 in
/-- The reference's exts: extensions in memory of their own. -/
theorem rfX_any {v : Value} {xs : List Xr} {w : World} (h : XIn w v xs) (h15 : xs.length ≤ 1000) (hok : ∀ x ∈ xs, x.data.length ≤ 70000 ∧ 0 ≤ x.tag ∧ x.tag ≤ 255) :
    Calls Tryd.prog 56 #[v] w fun e w' => ∃ a c ys, e = .returned (.slice a xs.length c) ∧ XOwn w' w.heap.size (.slice a xs.length c) ys ∧ ys.length = xs.length ∧ ys.map Xr.ex = xs.map Xr.ex ∧ Below w.heap.size w w' := by
  obtain ⟨i0, hi, hz0, hz1, hz2⟩ := info_parts lnE_info
  obtain ⟨i1, hj, hj0, hj1, hj2⟩ := info_parts Tryd.info_u8
  have HD : Hid (∀ V, Below w.heap.size w V → ∀ x ∈ xs, BIn V x.val x.data) := fun V hV x hx => (h.data x hx).below hV
  have HOk : Hid (∀ x ∈ xs, Bytey x.data ∧ x.data.length ≤ 70000 ∧ 0 ≤ x.tag ∧ x.tag ≤ 255) := fun x hx => ⟨(h.data x hx).bytes, (hok x hx).1, (hok x hx).2⟩
  have HIn : Hid (∀ V, Below w.heap.size w V → XIn V v xs) := fun V hV => h.below hV
  obtain ⟨a0, c0, rfl, hs0⟩ := h.shape
  have HSh : Hid (xs = [] ∨ ∃ g off, a0 = some ⟨g, off, none⟩ ∧ ∀ (i : Nat) (x : Xr), xs[i]? = some x → w.cell? ⟨g, off + i * 2, none⟩ = some (.int .i64 x.tag) ∧ w.cell? ⟨g, off + i * 2 + 1, none⟩ = some x.val) := hs0
  obtain ⟨n, hn⟩ : ∃ n, xs.length = n := ⟨_, rfl⟩
  have HN : Hid (xs.length = n) := hn
  rw [hn] at h15 ⊢
  clear h hok hn hs0 HIn
  go_enter Tryd.func56, Tryd.ntmps56
  go_wp2_with fail
  go_loopw [3, 4] (fun l i wr => ∃ (k : Nat), k ≤ n ∧ i = .int .i64 k ∧ Hid (∃ ys, ys.length = k ∧ XOwn wr w.heap.size l ys ∧ ys.map Xr.ex = (xs.take k).map Xr.ex ∧ Below w.heap.size w wr)) (fun _ i _ => n - (intOf i).toNat)
  case atStart => exact ⟨0, by omega, rfl, [], rfl, XOwn.nil _ _, rfl, Below.refl _ _⟩
  case round =>
    obtain ⟨k, hk, rfl, HJ⟩ := hrel
    obtain ⟨ys, hyl, hX, hex, hlow⟩ := HJ.out
    obtain ⟨al, cl, hul⟩ := own_shape hX.row
    rw [hyl] at hul
    have HX : Hid (XOwn wr w.heap.size u3 ys) := hX
    have HL : Hid (ys.length = k ∧ ys.map Xr.ex = (xs.take k).map Xr.ex) := ⟨hyl, hex⟩
    have HB : Hid (Below w.heap.size w wr) := hlow
    have hsz := hlow.size
    clear hyl hX hex hlow HJ
    by_cases hlt : k < n
    · have hlt' : (k : Int) < (n : Int) := by omega
      have hwk : IntKind.i64.wrap ((k : Int) + 1) = (k : Int) + 1 := by rw [IntKind.wrap_i64]; omega
      obtain ⟨x, hx⟩ := get_one xs k (by rw [HN.out]; exact hlt)
      have HXm : Hid (xs[k]? = some x ∧ x ∈ xs) := ⟨hx, List.mem_of_getElem? hx⟩
      obtain ⟨g, off, ha0, hce, hcv⟩ : ∃ g off, a0 = some ⟨g, off, none⟩ ∧ w.cell? ⟨g, off + k * 2, none⟩ = some (.int .i64 x.tag) ∧ w.cell? ⟨g, off + k * 2 + 1, none⟩ = some (.slice x.adr x.data.length x.cap) := by
        rcases HSh.out with h | ⟨g, off, e, h⟩
        · rw [h] at hx; simp at hx
        · exact ⟨g, off, e, (h k x hx).1, (h k x hx).2⟩
      subst ha0
      have hgl : g < w.heap.size := World.block_lt_of_cell? w _ hce
      have HC : Hid (∀ V, Below w.heap.size w V → V.cell? ⟨g, off + k * 2, none⟩ = some (.int .i64 x.tag) ∧ V.cell? ⟨g, off + k * 2 + 1, none⟩ = some (.slice x.adr x.data.length x.cap)) := fun V hV => ⟨(hV.cell (p := ⟨g, off + k * 2, none⟩) hgl).trans hce, (hV.cell (p := ⟨g, off + k * 2 + 1, none⟩) hgl).trans hcv⟩
      obtain ⟨d1, d2⟩ := HC.out wr HB.out
      obtain ⟨aa, cc2, haa, hlies, hnil, hl1, hl2⟩ := (HD.out wr HB.out x HXm.out.2).shape
      have hsame : x.adr = aa ∧ x.cap = cc2 := by
        have : x.val = .slice x.adr x.data.length x.cap := rfl
        rw [this] at haa
        simp only [Value.slice.injEq] at haa
        exact ⟨haa.1, haa.2.2⟩
      rw [← hsame.1] at hlies hnil
      rw [← hsame.2] at hnil
      have hdl := (HOk.out x HXm.out.2).2.1
      have HLi : Hid (Lies .u8 wr x.adr x.data) := hlies
      have HNi : Hid (x.adr = none → x.data.length = 0 ∧ x.cap = 0) := hnil
      clear hx hce hcv haa hlies hnil hl1 hl2 hsame
      go_upto_region 6 with fail
      go_wp2_with (at_builtin; refine append_any _ rfl _ _ 34 rfl wr.heap.size 5 i1 (.int .u8 0) 1 Tryd.underlying34 hj hj0 hj1 hj2 rfl _ _ _ rfl (World.ownsRow_nil _ _ _ _) .u8 x.adr x.data.length x.cap x.data rfl HNi.out rfl HLi.out (by unfold maxLen; omega) (by omega) (by simp) ?_)
      intro v4 w4 hown4 hgrow4
      have hb4 : Below wr.heap.size wr w4 := ⟨hgrow4.os, hgrow4.tape, hgrow4.output, hgrow4.size, fun k hk => hgrow4.block k hk (by intro h; cases h)⟩
      have HO4 : Hid (w4.ownsRow wr.heap.size 5 1 v4 x.data.length (x.data.map (Value.int .u8))) := by
        first | exact hown4 | (have := hown4; rw [Nat.zero_add, List.nil_append] at this; exact this)
      obtain ⟨ad, cd, hv4⟩ := own_shape HO4.out
      subst hv4
      have HX4 : Hid (XOwn w4 w.heap.size u3 ys) := HX.out.keep (row := none) ⟨hb4.os, hb4.tape, hb4.output, hb4.size, fun k hk _ => hb4.block k hk⟩ (by simp)
      have HN4 : Hid ((Xr.mk x.tag ad cd x.data).Own w4 w.heap.size) := ⟨own_base HO4.out (by omega), (HOk.out x HXm.out.2).1, hdl, (HOk.out x HXm.out.2).2.2⟩
      have HNE : Hid ((∀ k, (Xr.mk x.tag ad cd x.data).val.ownBlock = some k → wr.heap.size ≤ k) ∧ (∀ y ∈ ys, ∀ k, y.val.ownBlock = some k → k < wr.heap.size) ∧ (∀ k, u3.ownBlock = some k → w.heap.size ≤ k ∧ k < wr.heap.size)) := ⟨fun k hk => (HO4.out.lt k hk).1, fun y hy k hk => ((HX.out.data y hy).row.lt k hk).2, fun k hk => HX.out.row.lt k hk⟩
      have HB4 : Hid (Below w.heap.size w w4) := HB.out.trans (hb4.mono HB.out.size)
      have hsz4 : w.heap.size ≤ w4.heap.size := HB4.out.size
      have hs4 : wr.heap.size ≤ w4.heap.size := hb4.size
      obtain ⟨f1, f2⟩ := HC.out w4 HB4.out
      have hyk := HL.out.1
      clear hown4 hgrow4 hb4 d1 d2 HX HO4 HLi HNi
      subst hul
      go_wp2_with (at_builtin; refine wpList_append_own_at _ rfl _ _ 33 rfl w.heap.size 93 i0 (.agg #[.int .i64 0, .slice none 0 0]) 2 32 Tryd.underlying33 hi hz0 hz1 hz2 rfl (by decide) _ _ _ rfl (HX4.out.row.alloc _) ⟨w4.heap.size, 0, none⟩ 1 1 [.int .i64 x.tag, .slice ad x.data.length cd] rfl rfl ?c1 ?c2 ?c3 ?c4 ?c5 ?_)
      case c1 => exact cell_two_new _ _ _ _
      case c2 => first | exact ⟨rfl, rfl⟩ | (intro u hu; simp at hu; rcases hu with rfl | rfl <;> rfl)
      case c3 => unfold maxLen; omega
      case c4 => omega
      case c5 => first | omega | (simp; omega)
      intro v' w5 hown5 hgrow5 _ hat5
      obtain ⟨hne1, hne2, hne3⟩ := HNE.out
      have HX5 : Hid (XOwn w5 w.heap.size v' (ys ++ [⟨x.tag, ad, cd, x.data⟩])) := by
        refine XOwn.snoc (HX4.out.keep (grown_alloc _ (.cells #[.int .i64 x.tag, .slice ad x.data.length cd] 93) none) (by simp)) ⟨HN4.out.row.alloc _, HN4.out.bytes, HN4.out.small, HN4.out.tag⟩ ?_ ?_ ?_ hgrow5 (by simpa using hat5)
        · intro k hk e
          have := hne1 k hk; have := (hne3 k e).2; omega
        · intro y hy k hk e
          have := hne1 k hk; have := hne2 y hy k e; omega
        · rw [List.length_append, List.flatMap_append, hyk]
          exact hown5
      have HB5 : Hid (Below w.heap.size w w5) := (HB4.out.alloc hsz4 _).grown hgrow5 (by simp; omega) (fun k hk => (hne3 k hk).1)
      have HR : Hid (∃ ys', ys'.length = k + 1 ∧ XOwn w5 w.heap.size v' ys' ∧ ys'.map Xr.ex = (xs.take (k + 1)).map Xr.ex ∧ Below w.heap.size w w5) := ⟨_, by rw [List.length_append, hyk]; rfl, HX5.out, by rw [List.map_append, HL.out.2, List.take_add_one, HXm.out.1, List.map_append]; rfl, HB5.out⟩
      clear hne1 hne2 hne3 HNE hown5 hgrow5 hat5 HX4 HN4 f1 f2
      go_wp2
      go_roundw
      case rel => first | exact ⟨k + 1, by omega, by go_num, HR⟩ | exact ⟨k + 1, by omega, by omega, HR⟩
      case measure => simp [intOf]; omega
    · have hlt' : ¬ (k : Int) < (n : Int) := by omega
      have hkn : k = n := by omega
      have HE : Hid (∃ ys, XOwn wr w.heap.size (.slice al n cl) ys ∧ ys.length = n ∧ ys.map Xr.ex = xs.map Xr.ex ∧ Below w.heap.size w wr) := by
        have e2 : xs.take k = xs := List.take_of_length_le (by rw [HN.out]; omega)
        have h1 := HX.out
        have h2 := HL.out.2
        rw [e2] at h2
        rw [hul, hkn] at h1
        exact ⟨ys, h1, by rw [HL.out.1, hkn], h2, HB.out⟩
      subst hul
      go_wp2
      go_ret
      obtain ⟨ys, h1, h2, h3, h4⟩ := HE.out
      subst hkn
      first | exact ⟨al, cl, ys, rfl, h1, h2, h3, h4⟩ | exact ⟨al, cl, rfl, ys, h1, h2, h3, h4⟩

end Go.Proofs.YtdfdaambfihjaaaDoor
