import Derived.Test.YtdfdaambfihjaaaDoorLnCp
import Derived.Test.YtdfdaambfihjaaaDoorLnDr
import Derived.Test.YtdfdaambfihjaaaDoorFields
namespace Go.Proofs.YtdfdaambfihjaaaDoor.L
open Go.RowKit
set_option linter.unusedVariables false
set_option linter.unusedSimpArgs false

theorem Cs.set1 {w wx : World} {s : Sg} {hv tv dv cv hv' tv' dv' cv' u1 : Value} {i : Nat} (h : Cs w wx s hv tv dv cv) (e : (svC s hv tv dv cv).setIfInBounds i u1 = svC s hv' tv' dv' cv') : Cs w (wx.setCell ⟨w.heap.size, i, none⟩ u1) s hv' tv' dv' cv' := by
  have h1 := heap_setCell_same wx w.heap.size i _ _ u1 h.b0
  rw [e] at h1
  refine ⟨h1, ?_, h.low.setCell (Nat.le_refl _) _⟩
  rw [heap_setCell_other _ _ _ _ (by simp)]
  exact h.b1
theorem stb_set1 {P : World → Prop} {lo B i : Nat} {w : World} {u1 : Value} (h : Stb P lo w) (hB : B < lo) : Stb P lo (w.setCell ⟨B, i, none⟩ u1) :=
  h.keep (by simp [World.setCell]) (fun g h0 h1 => by rw [heap_setCell_other _ _ _ _ (by simp; omega)])
theorem rcX {v : Value} {xs : List Xr} {w : World} (h : XIn w v xs) (hb : XsB xs) :
    Calls Tryd.prog 56 #[v] w fun e w' => ∃ a c, e = .returned (.slice a xs.length c) ∧ Stb (fun W => ∃ ys, XIn W (.slice a xs.length c) ys ∧ ys.map Xr.ex = xs.map Xr.ex) w.heap.size w' ∧ Below w.heap.size w w' := by
  refine (rfX_any h (by have := hb.1; omega) hb.2).mono ?_
  rintro e w' ⟨a, c, ys, rfl, h1, h2, h3, h4⟩
  exact ⟨a, c, rfl, fun W hW => ⟨ys, xin_own (xown_stb h1 W hW) (by have := hb.1; omega), h3⟩, h4⟩

set_option maxRecDepth 100000 in
set_option maxHeartbeats 8000000 in
/-- The reference's Copy. -/
theorem rcopy_any (s : Sg) (hv tv dv cv : Value) (hx tx : List Xr) (w : World) (hs : SIn w s hv tv dv cv hx tx) (hh : XsB hx) (ht : XsB tx) :
    Calls Tryd.prog 30 #[.agg (svC s hv tv dv cv)] w fun e w' => ∃ y : Sv, y.s = s ∧ e = .returned (.agg (svC y.s y.hv y.tv y.dv y.cv)) ∧ y.Sl ∧ Below w.heap.size w w' ∧ Stb (fun W => SAt W y) w.heap.size w' := by
  obtain ⟨i1, hi1, hz10, hz11, hz12⟩ := info_parts Tryd.info_u8
  obtain ⟨i2, hi2, hz20, hz21, hz22⟩ := info_parts lnS_info
  have HS : Hid (∀ V : World, Below w.heap.size w V → SIn V s hv tv dv cv hx tx) := fun V hV => hs.below hV
  have HX : Hid (XsB hx ∧ XsB tx) := ⟨hh, ht⟩
  have HE : Hid (s.head = hx.map Xr.ex ∧ s.tail = tx.map Xr.ex) := ⟨hs.headEq, hs.tailEq⟩
  obtain ⟨h1, h2, h3, h4⟩ := SAt.sl (y := ⟨s, hv, tv, dv, cv⟩) ⟨hx, tx, hs⟩
  obtain ⟨ha, hn, hc, rfl⟩ := h1
  obtain ⟨ta, tn, tc, rfl⟩ := h2
  obtain ⟨da, dn, dc, rfl⟩ := h3
  obtain ⟨ca, cn, cc, rfl⟩ := h4
  obtain ⟨W0, hW0⟩ : ∃ W, (w.alloc (.cells (svC s (.slice ha hn hc) (.slice ta tn tc) (.slice da dn dc) (.slice ca cn cc)) 37)).alloc (.cells zseg 37) = W := ⟨_, rfl⟩
  have HW0 : Hid ((w.alloc (.cells (svC s (.slice ha hn hc) (.slice ta tn tc) (.slice da dn dc) (.slice ca cn cc)) 37)).alloc (.cells zseg 37) = W0) := hW0
  have HS0 : Hid (Cs w W0 s (.slice ha hn hc) (.slice ta tn tc) (.slice da dn dc) (.slice ca cn cc)) := by
    rw [← hW0]
    refine ⟨?_, ?_, ((Below.refl _ _).alloc (Nat.le_refl _) _).alloc (by simp) _⟩
    · rw [Below.heap_alloc _ _ _ (by simp)]; exact heap_alloc_new' _ _
    · have := heap_alloc_new' (w.alloc (.cells (svC s (.slice ha hn hc) (.slice ta tn tc) (.slice da dn dc) (.slice ca cn cc)) 37)) (.cells zseg 37)
      rw [World.size_alloc] at this
      exact this
  obtain ⟨B, hB⟩ : ∃ B, w.heap.size = B := ⟨_, rfl⟩
  have HBe : Hid (w.heap.size = B) := hB
  have HCell : Hid (∀ (V : World) (h t d c : Value), Cs w V s h t d c → V.cell? ⟨B, 3, none⟩ = some h ∧ V.cell? ⟨B, 4, none⟩ = some t ∧ V.cell? ⟨B, 7, none⟩ = some d ∧ V.cell? ⟨B, 12, none⟩ = some c ∧ V.frozen? ⟨B, 3, none⟩ = false ∧ V.frozen? ⟨B, 4, none⟩ = false ∧ V.frozen? ⟨B, 7, none⟩ = false ∧ V.frozen? ⟨B, 12, none⟩ = false) := fun V h t d c hh => by
    rw [← hB]
    exact ⟨hh.cell rfl, hh.cell rfl, hh.cell rfl, hh.cell rfl, hh.fz 3, hh.fz 4, hh.fz 7, hh.fz 12⟩
  clear hs hh ht hW0
  go_enter Tryd.func30, Tryd.ntmps30
  go_upto_region 1 with fail
  have hWW : (w.alloc (.cells (svC s (.slice ha hn hc) (.slice ta tn tc) (.slice da dn dc) (.slice ca cn cc)) 37)).alloc (.cells #[.int .i64 0, .int .i64 0, .int .i64 0, .slice none 0 0, .slice none 0 0, .int .i64 0, .int .i64 0, .slice none 0 0, .int .i64 0, .int .i64 0, .int .i64 0, .int .i64 0, .slice none 0 0, .int .i64 0] 37) = W0 := HW0.out
  rw [hWW]
  clear hWW
  generalize hAg : Value.agg (svC s (.slice ha hn hc) (.slice ta tn tc) (.slice da dn dc) (.slice ca cn cc)) = A0
  clear hAg
  obtain ⟨c3, c4, c7, c12, f3, f4, f7, f12⟩ := HCell.out _ _ _ _ _ HS0.out
  have hH := rcX (HS.out W0 HS0.out.low).head HX.out.1
  go_wp2_with fail
  refine hH.mono ?_
  rintro e U1 ⟨a5, k5, rfl, st5, bU1⟩
  have HC1 : Hid (Cs w U1 s (.slice ha hn hc) (.slice ta tn tc) (.slice da dn dc) (.slice ca cn cc) ∧ Stb (fun W => ∃ ys, XIn W (.slice a5 hx.length k5) ys ∧ ys.map Xr.ex = hx.map Xr.ex) (B + 2) U1) := ⟨HS0.out.below bU1, st5.low (by have h := HS0.out.sz; rw [HBe.out] at h; exact h)⟩
  clear hH st5 bU1 c3 c4 c7 c12 f3 f4 f7 f12
  obtain ⟨c3, c4, c7, c12, f3, f4, f7, f12⟩ := HCell.out _ _ _ _ _ HC1.out.1
  go_upto_region 2 with fail
  obtain ⟨V1, hV1⟩ : ∃ V, U1.setCell ⟨B, 3, none⟩ (.slice a5 hx.length k5) = V := ⟨_, rfl⟩
  rw [hV1]
  have HC2 : Hid (Cs w V1 s (.slice a5 hx.length k5) (.slice ta tn tc) (.slice da dn dc) (.slice ca cn cc) ∧ Stb (fun W => ∃ ys, XIn W (.slice a5 hx.length k5) ys ∧ ys.map Xr.ex = hx.map Xr.ex) (B + 2) V1) := by
    have h := HC1.out.1.set1 (i := 3) (u1 := .slice a5 hx.length k5) (hv' := .slice a5 hx.length k5) (tv' := .slice ta tn tc) (dv' := .slice da dn dc) (cv' := .slice ca cn cc) rfl
    rw [HBe.out, hV1] at h
    exact ⟨h, by rw [← hV1]; exact stb_set1 HC1.out.2 (by omega)⟩
  clear hV1 c3 c4 c7 c12 f3 f4 f7 f12
  obtain ⟨c3, c4, c7, c12, f3, f4, f7, f12⟩ := HCell.out _ _ _ _ _ HC2.out.1
  have hT := rcX (HS.out V1 HC2.out.1.low).tail HX.out.2
  go_wp2_with fail
  refine hT.mono ?_
  rintro e U2 ⟨a8, k8, rfl, st8, bU2⟩
  have HC3 : Hid (Cs w U2 s (.slice a5 hx.length k5) (.slice ta tn tc) (.slice da dn dc) (.slice ca cn cc) ∧ Stb (fun W => ∃ ys, XIn W (.slice a5 hx.length k5) ys ∧ ys.map Xr.ex = hx.map Xr.ex) (B + 2) U2 ∧ Stb (fun W => ∃ ys, XIn W (.slice a8 tx.length k8) ys ∧ ys.map Xr.ex = tx.map Xr.ex) (B + 2) U2) := ⟨HC2.out.1.below bU2, HC2.out.2.keep bU2.size (fun g _ h1 => bU2.block g h1), st8.low (by have h := HC2.out.1.sz; rw [HBe.out] at h; exact h)⟩
  clear hT st8 bU2 c3 c4 c7 c12 f3 f4 f7 f12
  obtain ⟨c3, c4, c7, c12, f3, f4, f7, f12⟩ := HCell.out _ _ _ _ _ HC3.out.1
  go_upto_region 4 with fail
  obtain ⟨V2, hV2⟩ : ∃ V, U2.setCell ⟨B, 4, none⟩ (.slice a8 tx.length k8) = V := ⟨_, rfl⟩
  rw [hV2]
  have HC4 : Hid (Cs w V2 s (.slice a5 hx.length k5) (.slice a8 tx.length k8) (.slice da dn dc) (.slice ca cn cc) ∧ Stb (fun W => ∃ ys, XIn W (.slice a5 hx.length k5) ys ∧ ys.map Xr.ex = hx.map Xr.ex) (B + 2) V2 ∧ Stb (fun W => ∃ ys, XIn W (.slice a8 tx.length k8) ys ∧ ys.map Xr.ex = tx.map Xr.ex) (B + 2) V2) := by
    have h := HC3.out.1.set1 (i := 4) (u1 := .slice a8 tx.length k8) (hv' := .slice a5 hx.length k5) (tv' := .slice a8 tx.length k8) (dv' := .slice da dn dc) (cv' := .slice ca cn cc) rfl
    rw [HBe.out, hV2] at h
    exact ⟨h, by rw [← hV2]; exact stb_set1 HC3.out.2.1 (by omega), by rw [← hV2]; exact stb_set1 HC3.out.2.2 (by omega)⟩
  clear hV2 c3 c4 c7 c12 f3 f4 f7 f12
  obtain ⟨c3, c4, c7, c12, f3, f4, f7, f12⟩ := HCell.out _ _ _ _ _ HC4.out.1
  obtain ⟨da', dc', hde, hdl, hdn, hdc, hdm⟩ := (HS.out V2 HC4.out.1.low).data.shape
  simp only [Value.slice.injEq] at hde
  obtain ⟨rfl, rfl, rfl⟩ := hde
  have HDl : Hid (Lies .u8 V2 da s.data ∧ (da = none → s.data.length = 0 ∧ dc = 0) ∧ Bytey s.data) := ⟨hdl, hdn, (HS.out V2 HC4.out.1.low).data.bytes⟩
  have hdsm := (HS.out V2 HC4.out.1.low).data.small
  clear hdl hdn
  go_wp2_with (at_builtin; refine append_any _ rfl _ _ 34 rfl V2.heap.size 5 i1 (.int .u8 0) 1 Tryd.underlying34 hi1 hz10 hz11 hz12 rfl _ _ _ rfl (World.ownsRow_nil _ _ _ _) .u8 da s.data.length dc s.data rfl HDl.out.2.1 rfl HDl.out.1 (by unfold maxLen; omega) (by omega) (by simp) ?_)
  intro v13 U3 ho13 hg13
  have bU3 : Below V2.heap.size V2 U3 := ⟨hg13.os, hg13.tape, hg13.output, hg13.size, fun k hk => hg13.block k hk (by intro h; cases h)⟩
  have ho13' : U3.ownsRow V2.heap.size 5 1 v13 s.data.length (s.data.map (Value.int .u8)) := by
    first | exact ho13 | (have := ho13; rw [Nat.zero_add, List.nil_append] at this; exact this)
  obtain ⟨a13, k13, hv13⟩ := own_sl ho13'
  subst hv13
  have HC5 : Hid (Cs w U3 s (.slice a5 hx.length k5) (.slice a8 tx.length k8) (.slice da s.data.length dc) (.slice ca cn cc) ∧ Stb (fun W => ∃ ys, XIn W (.slice a5 hx.length k5) ys ∧ ys.map Xr.ex = hx.map Xr.ex) (B + 2) U3 ∧ Stb (fun W => ∃ ys, XIn W (.slice a8 tx.length k8) ys ∧ ys.map Xr.ex = tx.map Xr.ex) (B + 2) U3 ∧ Stb (fun W => BIn W (.slice a13 s.data.length k13) s.data) (B + 2) U3) := ⟨HC4.out.1.below bU3, HC4.out.2.1.keep bU3.size (fun g _ h1 => bU3.block g h1), HC4.out.2.2.keep bU3.size (fun g _ h1 => bU3.block g h1), fun W hW => bin_own (own_stb ho13' (by have h := HC4.out.1.sz; rw [HBe.out] at h; exact h) W hW) HDl.out.2.2 hdsm⟩
  clear ho13 ho13' hg13 bU3 c3 c4 c7 c12 f3 f4 f7 f12
  obtain ⟨c3, c4, c7, c12, f3, f4, f7, f12⟩ := HCell.out _ _ _ _ _ HC5.out.1
  go_upto_region 7 with fail
  obtain ⟨V3, hV3⟩ : ∃ V, U3.setCell ⟨B, 7, none⟩ (.slice a13 s.data.length k13) = V := ⟨_, rfl⟩
  rw [hV3]
  have HC6 : Hid (Cs w V3 s (.slice a5 hx.length k5) (.slice a8 tx.length k8) (.slice a13 s.data.length k13) (.slice ca cn cc) ∧ Stb (fun W => ∃ ys, XIn W (.slice a5 hx.length k5) ys ∧ ys.map Xr.ex = hx.map Xr.ex) (B + 2) V3 ∧ Stb (fun W => ∃ ys, XIn W (.slice a8 tx.length k8) ys ∧ ys.map Xr.ex = tx.map Xr.ex) (B + 2) V3 ∧ Stb (fun W => BIn W (.slice a13 s.data.length k13) s.data) (B + 2) V3) := by
    have h := HC5.out.1.set1 (i := 7) (u1 := .slice a13 s.data.length k13) (hv' := .slice a5 hx.length k5) (tv' := .slice a8 tx.length k8) (dv' := .slice a13 s.data.length k13) (cv' := .slice ca cn cc) rfl
    rw [HBe.out, hV3] at h
    refine ⟨h, ?_, ?_, ?_⟩
    · rw [← hV3]; exact stb_set1 HC5.out.2.1 (by omega)
    · rw [← hV3]; exact stb_set1 HC5.out.2.2.1 (by omega)
    · rw [← hV3]; exact stb_set1 HC5.out.2.2.2 (by omega)
  clear hV3 c3 c4 c7 c12 f3 f4 f7 f12
  obtain ⟨c3, c4, c7, c12, f3, f4, f7, f12⟩ := HCell.out _ _ _ _ _ HC6.out.1
  go_cut [4] from 19 to 22 (fun q4 wx => ∃ a16 k16, q4 = .slice a16 s.clm.length k16 ∧ Hid (Cs w wx s (.slice a5 hx.length k5) (.slice a8 tx.length k8) (.slice a13 s.data.length k13) (.slice ca cn cc) ∧ Stb (fun W => ∃ ys, XIn W (.slice a5 hx.length k5) ys ∧ ys.map Xr.ex = hx.map Xr.ex) (B + 2) wx ∧ Stb (fun W => ∃ ys, XIn W (.slice a8 tx.length k8) ys ∧ ys.map Xr.ex = tx.map Xr.ex) (B + 2) wx ∧ Stb (fun W => BIn W (.slice a13 s.data.length k13) s.data) (B + 2) wx ∧ Stb (fun W => CIn W (.slice a16 s.clm.length k16) s.clm) (B + 2) wx))
  case first =>
    obtain ⟨ca', cc', hce, hcs⟩ := (HS.out V3 HC6.out.1.low).clm.shape
    simp only [Value.slice.injEq] at hce
    obtain ⟨rfl, rfl, rfl⟩ := hce
    have hcsm := (HS.out V3 HC6.out.1.low).clm.small
    have HCl : Hid (s.clm = [] ∨ ∃ g off, ca = some ⟨g, off, none⟩ ∧ ∀ (i : Nat) (p : Int × Int), s.clm[i]? = some p → V3.cell? ⟨g, off + i * 2, none⟩ = some (.int .i64 p.1) ∧ V3.cell? ⟨g, off + i * 2 + 1, none⟩ = some (.int .i64 p.2)) := hcs
    have HNw : Hid ((s.clm.flatMap spL).length = s.clm.length * 2 ∧ ∀ u ∈ s.clm.flatMap spL, u.oneCell' = true) := ⟨flat_len spL (fun _ => rfl) s.clm, fun u hu => by
      obtain ⟨p, _, hp⟩ := List.mem_flatMap.mp hu
      simp [spL] at hp
      rcases hp with rfl | rfl <;> rfl⟩
    clear hcs
    cases ca with
    | none =>
      have hcl : s.clm = [] := by
        rcases HCl.out with h | ⟨g, off, e, _⟩
        · exact h
        · cases e
      have HCe : Hid (s.clm = []) := hcl
      have hcl0 : s.clm.length = 0 := by rw [hcl]; rfl
      have HF : Hid (Cs w V3 s (.slice a5 hx.length k5) (.slice a8 tx.length k8) (.slice a13 s.data.length k13) (.slice none s.clm.length cc) ∧ Stb (fun W => CIn W (.slice none s.clm.length 0) s.clm) (B + 2) V3) := ⟨HC6.out.1, fun W hW => ⟨⟨none, 0, rfl, .inl HCe.out⟩, by rw [HCe.out]; simp⟩⟩
      clear hcl
      go_wp2_with (at_builtin; refine wpList_append_own_none rfl _ _ 35 rfl V3.heap.size 91 i2 2 Tryd.underlying35 hi2 (.slice none 0 0) 0 [] rfl (World.ownsRow_nil _ _ _ _) rfl ?_)
      go_meet
      exact ⟨none, 0, by rw [HCe.out]; rfl, HF.out.1, HC6.out.2.1, HC6.out.2.2.1, HC6.out.2.2.2, HF.out.2⟩
    | some ad =>
      have HCc : Hid (∀ j u, (s.clm.flatMap spL)[j]? = some u → V3.cell? (ad.add j) = some u) := fun j u hj => by
        obtain ⟨i, p, h1, h2⟩ := two_get spL (fun _ => rfl) s.clm j u hj
        rcases HCl.out with h | ⟨g, off, e, hc⟩
        · rw [h] at h1; simp at h1
        · simp only [Option.some.injEq] at e
          subst e
          rw [addr_add]
          obtain ⟨q1, q2⟩ := hc i p h1
          rcases h2 with ⟨rfl, h2⟩ | ⟨rfl, h2⟩
          · rw [q1]; exact h2
          · rw [← Nat.add_assoc, q2]; exact h2
      go_wp2_with (at_builtin; refine wpList_append_own_at _ rfl _ _ 35 rfl V3.heap.size 91 i2 (.agg #[.int .i64 0, .int .i64 0]) 2 16 Tryd.underlying35 hi2 hz20 hz21 hz22 rfl (by decide) (.slice none 0 0) 0 [] rfl (World.ownsRow_nil _ _ _ _) ad s.clm.length cc (s.clm.flatMap spL) rfl HNw.out.1 HCc.out HNw.out.2 (by unfold maxLen; omega) (by omega) (by simp) ?_)
      intro v16 U4 ho16 hg16 _ _
      have bU4 : Below V3.heap.size V3 U4 := ⟨hg16.os, hg16.tape, hg16.output, hg16.size, fun k hk => hg16.block k hk (by intro h; cases h)⟩
      have ho16' : U4.ownsRow V3.heap.size 91 2 v16 s.clm.length (s.clm.flatMap spL) := by
        first | exact ho16 | (have := ho16; rw [Nat.zero_add, List.nil_append] at this; exact this)
      obtain ⟨a16, k16, hv16⟩ := own_sl ho16'
      subst hv16
      have HF : Hid (Cs w U4 s (.slice a5 hx.length k5) (.slice a8 tx.length k8) (.slice a13 s.data.length k13) (.slice (some ad) s.clm.length cc) ∧ Stb (fun W => ∃ ys, XIn W (.slice a5 hx.length k5) ys ∧ ys.map Xr.ex = hx.map Xr.ex) (B + 2) U4 ∧ Stb (fun W => ∃ ys, XIn W (.slice a8 tx.length k8) ys ∧ ys.map Xr.ex = tx.map Xr.ex) (B + 2) U4 ∧ Stb (fun W => BIn W (.slice a13 s.data.length k13) s.data) (B + 2) U4 ∧ Stb (fun W => CIn W (.slice a16 s.clm.length k16) s.clm) (B + 2) U4) := ⟨HC6.out.1.below bU4, HC6.out.2.1.keep bU4.size (fun g _ h1 => bU4.block g h1), HC6.out.2.2.1.keep bU4.size (fun g _ h1 => bU4.block g h1), HC6.out.2.2.2.keep bU4.size (fun g _ h1 => bU4.block g h1), fun W hW => cin_own (own_stb ho16' (by have h := HC6.out.1.sz; rw [HBe.out] at h; exact h) W hW) hcsm⟩
      clear ho16 ho16' hg16 bU4
      go_wp2_with fail
      go_meet
      exact ⟨a16, k16, rfl, HF⟩
  case rest =>
  obtain ⟨a16, k16, rfl, HC7⟩ := hcut
  obtain ⟨U4, hU4⟩ : ∃ x, x = wc := ⟨_, rfl⟩
  subst hU4
  clear c3 c4 c7 c12 f3 f4 f7 f12
  obtain ⟨c3, c4, c7, c12, f3, f4, f7, f12⟩ := HCell.out _ _ _ _ _ HC7.out.1
  go_upto_region 9 with fail
  obtain ⟨w2, hw2⟩ : ∃ V, U4.setCell ⟨B, 12, none⟩ (.slice a16 s.clm.length k16) = V := ⟨_, rfl⟩
  rw [hw2]
  have HC9 : Hid (Cs w w2 s (.slice a5 hx.length k5) (.slice a8 tx.length k8) (.slice a13 s.data.length k13) (.slice a16 s.clm.length k16) ∧ Stb (fun W => ∃ ys, XIn W (.slice a5 hx.length k5) ys ∧ ys.map Xr.ex = hx.map Xr.ex) (B + 2) w2 ∧ Stb (fun W => ∃ ys, XIn W (.slice a8 tx.length k8) ys ∧ ys.map Xr.ex = tx.map Xr.ex) (B + 2) w2 ∧ Stb (fun W => BIn W (.slice a13 s.data.length k13) s.data) (B + 2) w2 ∧ Stb (fun W => CIn W (.slice a16 s.clm.length k16) s.clm) (B + 2) w2) := by
    have h := HC7.out.1.set1 (i := 12) (u1 := .slice a16 s.clm.length k16) (hv' := .slice a5 hx.length k5) (tv' := .slice a8 tx.length k8) (dv' := .slice a13 s.data.length k13) (cv' := .slice a16 s.clm.length k16) rfl
    rw [HBe.out, hw2] at h
    refine ⟨h, ?_, ?_, ?_, ?_⟩
    · rw [← hw2]; exact stb_set1 HC7.out.2.1 (by omega)
    · rw [← hw2]; exact stb_set1 HC7.out.2.2.1 (by omega)
    · rw [← hw2]; exact stb_set1 HC7.out.2.2.2.1 (by omega)
    · rw [← hw2]; exact stb_set1 HC7.out.2.2.2.2 (by omega)
  clear hw2 c3 c4 c7 c12 f3 f4 f7 f12 HC7
  have kk : ∀ (j : Nat) u, (svC s (.slice a5 hx.length k5) (.slice a8 tx.length k8) (.slice a13 s.data.length k13) (.slice a16 s.clm.length k16))[j]? = some u → w2.cell? ⟨B, j, none⟩ = some u := fun j u h => by rw [← HBe.out]; exact HC9.out.1.cell h
  have y0 := kk 0 _ rfl
  have y1 := kk 1 _ rfl
  have y2 := kk 2 _ rfl
  have y3 := kk 3 _ rfl
  have y4 := kk 4 _ rfl
  have y5 := kk 5 _ rfl
  have y6 := kk 6 _ rfl
  have y7 := kk 7 _ rfl
  have y8 := kk 8 _ rfl
  have y9 := kk 9 _ rfl
  have y10 := kk 10 _ rfl
  have y11 := kk 11 _ rfl
  have y12 := kk 12 _ rfl
  have y13 := kk 13 _ rfl
  have hb1 : w2.heap[B + 1]? = some (.cells zseg 37 (0, 0)) := by rw [← HBe.out]; exact HC9.out.1.b1
  have zz : ∀ j, j < 14 → (∃ u, w2.cell? ⟨B + 1, j, none⟩ = some u) ∧ w2.frozen? ⟨B + 1, j, none⟩ = false := fun j hj => ⟨⟨zseg[j]'hj, (cell_of_row _ _ _ _ _ _ hb1).trans (Array.getElem?_eq_getElem (xs := zseg) hj)⟩, frozen_of_row _ _ _ _ _ hb1⟩
  obtain ⟨⟨r0, x0⟩, z0⟩ := zz 0 (by omega)
  obtain ⟨⟨r1, x1⟩, z1⟩ := zz 1 (by omega)
  obtain ⟨⟨r2, x2⟩, z2⟩ := zz 2 (by omega)
  obtain ⟨⟨r3, x3⟩, z3⟩ := zz 3 (by omega)
  obtain ⟨⟨r4, x4⟩, z4⟩ := zz 4 (by omega)
  obtain ⟨⟨r5, x5⟩, z5⟩ := zz 5 (by omega)
  obtain ⟨⟨r6, x6⟩, z6⟩ := zz 6 (by omega)
  obtain ⟨⟨r7, x7⟩, z7⟩ := zz 7 (by omega)
  obtain ⟨⟨r8, x8⟩, z8⟩ := zz 8 (by omega)
  obtain ⟨⟨r9, x9⟩, z9⟩ := zz 9 (by omega)
  obtain ⟨⟨r10, x10⟩, z10⟩ := zz 10 (by omega)
  obtain ⟨⟨r11, x11⟩, z11⟩ := zz 11 (by omega)
  obtain ⟨⟨r12, x12⟩, z12⟩ := zz 12 (by omega)
  obtain ⟨⟨r13, x13⟩, z13⟩ := zz 13 (by omega)
  obtain ⟨Vf, hVf⟩ : ∃ V, w2.setCells (B + 1) 0 (Sv.L ⟨s, .slice a5 hx.length k5, .slice a8 tx.length k8, .slice a13 s.data.length k13, .slice a16 s.clm.length k16⟩) = V := ⟨_, rfl⟩
  have hbf : Vf.heap[B + 1]? = some (.cells (svC s (.slice a5 hx.length k5) (.slice a8 tx.length k8) (.slice a13 s.data.length k13) (.slice a16 s.clm.length k16)) 37 (0, 0)) := by
    have h5 := heap_setA (B + 1) 37 (Sv.L ⟨s, .slice a5 hx.length k5, .slice a8 tx.length k8, .slice a13 s.data.length k13, .slice a16 s.clm.length k16⟩) zseg 0 w2 hb1
    rw [hVf] at h5
    rw [h5]
    simp [setA, Sv.L, zseg]
  have HF : Hid (Below w.heap.size w Vf ∧ Stb (fun W => SAt W ⟨s, .slice a5 hx.length k5, .slice a8 tx.length k8, .slice a13 s.data.length k13, .slice a16 s.clm.length k16⟩) w.heap.size Vf) := by
    obtain ⟨e1, e2, e3, e4, e5⟩ := setCells_other (B + 1) (Sv.L ⟨s, .slice a5 hx.length k5, .slice a8 tx.length k8, .slice a13 s.data.length k13, .slice a16 s.clm.length k16⟩) 0 w2
    rw [hVf] at e1 e2 e3 e4 e5
    obtain ⟨q1, q2, q3, q4, q5⟩ := HC9.out
    have hl := q1.low
    refine ⟨⟨e2.trans hl.os, e3.trans hl.tape, e4.trans hl.output, by rw [e5]; exact hl.size, fun g hg => (e1 g (by have := HBe.out; omega)).trans (hl.block g hg)⟩, fun W hW => ?_⟩
    have ag : ∀ g, B + 2 ≤ g → g < w2.heap.size → W.heap[g]? = w2.heap[g]? := fun g h0 h1 => (hW g (by have := HBe.out; omega) (by rw [e5]; exact h1)).trans (e1 g (by omega))
    obtain ⟨ys, p1, p2⟩ := q2 W ag
    obtain ⟨zs, p3, p4⟩ := q3 W ag
    exact ⟨ys, zs, ⟨p1, by rw [HE.out.1, p2], p3, by rw [HE.out.2, p4], q4 W ag, q5 W ag⟩⟩
  have gg : ∀ (j : Nat) u, (svC s (.slice a5 hx.length k5) (.slice a8 tx.length k8) (.slice a13 s.data.length k13) (.slice a16 s.clm.length k16))[j]? = some u → Vf.cell? ⟨B + 1, j, none⟩ = some u := fun j u h => (cell_of_row _ _ _ _ _ _ hbf).trans h
  have HVf : Hid (w2.setCells (B + 1) 0 (Sv.L ⟨s, .slice a5 hx.length k5, .slice a8 tx.length k8, .slice a13 s.data.length k13, .slice a16 s.clm.length k16⟩) = Vf) := hVf
  have u0 := gg 0 _ rfl
  have u1 := gg 1 _ rfl
  have u2 := gg 2 _ rfl
  have u3' := gg 3 _ rfl
  have u4' := gg 4 _ rfl
  have u5' := gg 5 _ rfl
  have u6' := gg 6 _ rfl
  have u7' := gg 7 _ rfl
  have u8' := gg 8 _ rfl
  have u9' := gg 9 _ rfl
  have u10' := gg 10 _ rfl
  have u11' := gg 11 _ rfl
  have u12' := gg 12 _ rfl
  have u13' := gg 13 _ rfl
  clear kk zz hb1 gg hVf hbf
  go_wp2
  have hv2 := HVf.out
  simp only [World.setCells, Sv.L, Nat.zero_add, Nat.reduceAdd] at hv2
  rw [hv2]
  refine bodyPost_ret (v := .agg (svC s (.slice a5 hx.length k5) (.slice a8 tx.length k8) (.slice a13 s.data.length k13) (.slice a16 s.clm.length k16))) (by simp [results, Tryd.results30, go_sem, u0, u1, u2, u3', u4', u5', u6', u7', u8', u9', u10', u11', u12', u13']) rfl ?_
  exact ⟨⟨s, .slice a5 hx.length k5, .slice a8 tx.length k8, .slice a13 s.data.length k13, .slice a16 s.clm.length k16⟩, rfl, rfl, ⟨⟨_, _, _, rfl⟩, ⟨_, _, _, rfl⟩, ⟨_, _, _, rfl⟩, _, _, _, rfl⟩, HF.out.1, HF.out.2⟩

end Go.Proofs.YtdfdaambfihjaaaDoor.L

namespace Go.Proofs.YtdfdaambfihjaaaDoor.L
open Go.RowKit
set_option linter.unusedVariables false
set_option linter.unusedSimpArgs false

/-! ## The map of lines, of one peer at most -/
theorem ckey (w : World) (k : Int) (e : Bool) : (Instr.checkKey e 10000 3 (.int .i64 k)).run Tryd.prog w = .ok () w := MapKept.run_checkKey Tryd.underlying3 (by simp [MapKept.IsKey]) e 9999
theorem fnd0 (w : World) (k : Int) : (Instr.findKey 3 (.int .i64 k) []).run Tryd.prog w = .ok none w := by
  simp [Instr.findKey, run_underlying Tryd.underlying3, Instr.findNow]
theorem fnd1 (w : World) (k : Int) (v : Value) (b : Nat) : (Instr.findKey 3 (.int .i64 k) [⟨.int .i64 k, v, b⟩]).run Tryd.prog w = .ok (some (0, v)) w := by
  simp [Instr.findKey, run_underlying Tryd.underlying3, Instr.findNow, Instr.sameNow]
theorem look0 (w : World) (m clock : Nat) (k : Int) (hb : w.heap[m]? = some (.map #[] clock)) : (Instr.lookup 61 (.map (some m)) (.int .i64 k) true).run Tryd.prog w = .ok (.tuple #[.pointer none, .bool false]) w := by
  have hz : (zeroValue 67).run Tryd.prog w = .ok (.pointer none) w := by first | exact Tryd.zeroValue67 w | exact Tryd.zeroValue67 | simp [zeroValue, typeInfo]
  simp [Instr.lookup, run_underlying Tryd.underlying61, MapKept.run_getObj_map hb, ckey, fnd0, hz, Result.andThen]
theorem look1 (w : World) (m clock x born : Nat) (k : Int) (hb : w.heap[m]? = some (.map #[⟨.int .i64 k, .pointer (some ⟨x, 0, none⟩), born⟩] clock)) : (Instr.lookup 61 (.map (some m)) (.int .i64 k) true).run Tryd.prog w = .ok (.tuple #[.pointer (some ⟨x, 0, none⟩), .bool true]) w := by
  simp [Instr.lookup, run_underlying Tryd.underlying61, MapKept.run_getObj_map hb, ckey, fnd1, Result.andThen]
/-- An object laid in a block. -/
def setO (w : World) (m : Nat) (o : Obj) : World := { w with heap := w.heap.setIfInBounds m o }
theorem setO_same {w : World} {m : Nat} {o : Obj} (h : m < w.heap.size) : (setO w m o).heap[m]? = some o := by simp [setO, h]
theorem setO_other {w : World} {m k : Nat} {o : Obj} (h : k ≠ m) : (setO w m o).heap[k]? = w.heap[k]? := by unfold setO; simp only; rw [Array.getElem?_setIfInBounds_ne (Ne.symm h)]
theorem setO_grown (w : World) (m : Nat) (o : Obj) : w.grownBy (setO w m o) (some m) := ⟨rfl, rfl, rfl, by simp [setO], fun k _ hk => setO_other (fun e => hk (by rw [e]))⟩
theorem upd0 (w : World) (m clock : Nat) (k : Int) (v : Value) (hb : w.heap[m]? = some (.map #[] clock)) : (Instr.mapUpdate 61 (.map (some m)) (.int .i64 k) v).run Tryd.prog w = .ok () (setO w m (.map #[⟨.int .i64 k, v, clock⟩] (clock + 1))) := by
  simp [Instr.mapUpdate, run_underlying Tryd.underlying61, MapKept.run_getObj_map hb, MapKept.run_setObj_map _ hb, ckey, fnd0, Result.andThen, setO]
theorem del1 (w : World) (m clock x born : Nat) (k : Int) (ty : TypeId) (hb : w.heap[m]? = some (.map #[⟨.int .i64 k, .pointer (some ⟨x, 0, none⟩), born⟩] clock)) : (Builtin.delete_ #[61, 3] ty #[.map (some m), .int .i64 k]).run Tryd.prog w = .ok (.tuple #[]) (setO w m (.map #[] clock)) := by
  simp [Builtin.delete_, run_underlying Tryd.underlying61, MapKept.run_getObj_map hb, MapKept.run_setObj_map _ hb, ckey, fnd1, Result.andThen, setO]
theorem del0 (w : World) (m clock : Nat) (k : Int) (ty : TypeId) (hb : w.heap[m]? = some (.map #[] clock)) : (Builtin.delete_ #[61, 3] ty #[.map (some m), .int .i64 k]).run Tryd.prog w = .ok (.tuple #[]) (setO w m (.map #[] clock)) := by
  simp [Builtin.delete_, run_underlying Tryd.underlying61, MapKept.run_getObj_map hb, MapKept.run_setObj_map _ hb, ckey, fnd0, Result.andThen, setO]

end Go.Proofs.YtdfdaambfihjaaaDoor.L

namespace Go.Proofs.YtdfdaambfihjaaaDoor.L
open Go.RowKit
set_option linter.unusedVariables false
set_option linter.unusedSimpArgs false

/-! ## Lines for whom one peer at most waits -/
abbrev Lo := Option (Nat × (Nat → Qd))
def Wt (o : Lo) (i : Nat) : List Sv := match o with
  | none => []
  | some (_, q) => (q i).L
def Fo (m : Nat) (o : Lo) (g : Nat) : Prop := g = m ∨ match o with
  | none => False
  | some (x, q) => Fq x q g
structure Lw (w : World) (p m : Nat) (lim K : Int) (o : Lo) (M : Nat) : Prop where
  box : w.heap[p]? = some (.cells #[.int .i64 lim, .map (some m)] 63 (0, 0))
  nx : ∀ g, Fo m o g → g ≠ p
  mp : match o with
    | none => ∃ c, w.heap[m]? = some (.map #[] c)
    | some (x, q) => (∃ b c, b < c ∧ w.heap[m]? = some (.map #[⟨.int .i64 K, .pointer (some ⟨x, 0, none⟩), b⟩] c)) ∧ Ln w x q M
theorem Lw.lt {w : World} {p m : Nat} {lim K : Int} {o : Lo} {M : Nat} (h : Lw w p m lim K o M) {g : Nat} (hg : Fo m o g) : g < w.heap.size := by
  have hm := h.mp
  rcases o with _ | ⟨x, q⟩
  · rcases hg with rfl | hg
    · obtain ⟨c, hc⟩ := hm
      exact (Array.getElem?_eq_some_iff.1 hc).1
    · exact hg.elim
  · rcases hg with rfl | hg
    · obtain ⟨⟨b, c, _, hc⟩, _⟩ := hm
      exact (Array.getElem?_eq_some_iff.1 hc).1
    · exact hm.2.lt hg
theorem Lw.keep {S : Nat → Prop} {w w' : World} {p m : Nat} {lim K : Int} {o : Lo} {M : Nat} (h : Lw w p m lim K o M) (hk : Kl S w w') (hn : ∀ g, Fo m o g → ¬ S g) (hp : ¬ S p) : Lw w' p m lim K o M := by
  have hm := h.mp
  have hlt : m < w.heap.size := h.lt (.inl rfl)
  have e := hk.block m hlt (hn m (.inl rfl))
  refine ⟨(hk.block p (Array.getElem?_eq_some_iff.1 h.box).1 hp).trans h.box, h.nx, ?_⟩
  rcases o with _ | ⟨x, q⟩
  · obtain ⟨c, hc⟩ := hm
    exact ⟨c, e.trans hc⟩
  · obtain ⟨⟨b, c, hbc, hc⟩, hl⟩ := hm
    exact ⟨⟨b, c, hbc, e.trans hc⟩, hl.keep hk (fun g hg => hn g (.inr hg))⟩
theorem Lw.below {w w' : World} {p m : Nat} {lim K : Int} {o : Lo} {M : Nat} (h : Lw w p m lim K o M) (hk : Below w.heap.size w w') : Lw w' p m lim K o M := h.keep (S := fun _ => False) (Kl.of_below hk) (fun _ _ e => e) id

theorem new_any (lim K : Int) (w : World) : Calls Tryd.prog 6 #[.int .i64 lim] w fun e w' => e = .returned (.pointer (some ⟨w.heap.size + 1, 0, none⟩)) ∧ Lw w' (w.heap.size + 1) w.heap.size lim K none 0 ∧ Below w.heap.size w w' := by
  obtain ⟨W, hW⟩ : ∃ W, (w.alloc (.map #[] 0)).alloc (.cells #[.int .i64 lim, .map (some w.heap.size)] 63) = W := ⟨_, rfl⟩
  have HW : Hid ((w.alloc (.map #[] 0)).alloc (.cells #[.int .i64 lim, .map (some w.heap.size)] 63) = W) := hW
  have HR : Hid (Lw W (w.heap.size + 1) w.heap.size lim K none 0 ∧ Below w.heap.size w W) := by
    rw [← hW]
    refine ⟨⟨?_, fun g hg => ?_, 0, ?_⟩, ((Below.refl _ _).alloc (Nat.le_refl _) _).alloc (by simp) _⟩
    · have := heap_alloc_new' (w.alloc (.map #[] 0)) (.cells #[.int .i64 lim, .map (some w.heap.size)] 63)
      rw [World.size_alloc] at this
      exact this
    · rcases hg with rfl | hg
      · omega
      · exact hg.elim
    · rw [Below.heap_alloc _ _ _ (by simp)]; exact heap_alloc_new' _ _
  have hmk : (Instr.makeMap 61 none).run Tryd.prog w = .ok (.map (some w.heap.size)) (w.alloc (.map #[] 0)) := by first | exact run_makeMap _ _ | exact run_makeMap | simp [Instr.makeMap, newObj, World.alloc]
  clear hW
  go_enter Tryd.func6, Tryd.ntmps6
  go_wp2
  go_ret
  rw [HW.out]
  exact ⟨rfl, HR.out⟩

def cnt (o : Lo) : Nat := (Wt o 0).length + (Wt o 1).length + (Wt o 2).length
def cnk (o : Lo) (k : Nat) : Nat := if k = 0 then 0 else if k = 1 then (Wt o 0).length else if k = 2 then (Wt o 0).length + (Wt o 1).length else cnt o
set_option maxRecDepth 100000 in
set_option maxHeartbeats 4000000 in
theorem lcount_any (w : World) (p m : Nat) (lim K : Int) (o : Lo) (M : Nat) (h : Lw w p m lim K o M) (hM : M ≤ 68719476736) :
    Calls Tryd.prog 14 #[.pointer (some ⟨p, 0, none⟩), .int .i64 K] w fun e w' => e = .returned (.int .i64 (cnt o : Nat)) ∧ Below w.heap.size w w' := by
  have c1 : w.cell? ⟨p, 1, none⟩ = some (.map (some m)) := (cell_of_row _ _ _ _ _ _ h.box).trans rfl
  have HL : Hid (Lw w p m lim K o M) := h
  have hm := h.mp
  rcases o with _ | ⟨x, q⟩
  · obtain ⟨c, hc⟩ := hm
    have hlk := look0 w m c K hc
    clear h hc
    go_enter Tryd.func14, Tryd.ntmps14
    go_wp2
    go_ret
    exact ⟨rfl, Below.refl _ _⟩
  · obtain ⟨⟨b, c, _, hc⟩, hl⟩ := hm
    have hlk := look1 w m c x b K hc
    have HQ : Hid (Ln w x q M) := hl
    clear h hc hl
    go_enter Tryd.func14, Tryd.ntmps14
    go_wp2_with fail
    go_loopw [7, 20] (fun s7 s20 wr => ∃ k, k ≤ 3 ∧ s7 = .int .i64 (cnk (some (x, q)) k : Nat) ∧ s20 = .int .i64 (k : Nat) ∧ Below w.heap.size w wr) (fun _ s20 _ => 3 - (intOf s20).toNat)
    case atStart => exact ⟨0, by omega, rfl, rfl, Below.refl _ _⟩
    case round =>
      obtain ⟨k, hk, rfl, rfl, hb⟩ := hrel
      have HB : Hid (Below w.heap.size w wr) := hb
      by_cases hlt : k < 3
      · have hlt' : (k : Int) < 3 := by omega
        have h0k : 0 ≤ (k : Int) := by omega
        have hco := lcount (HQ.out.keep (S := fun _ => False) (Kl.of_below hb) (fun _ _ e => e)) hlt hM
        have hwk : IntKind.i64.wrap ((k : Int) + 1) = (k : Int) + 1 := by rw [IntKind.wrap_i64]; omega
        have hs : ∀ i, i < 3 → (q i).L.length ≤ 68719476736 := fun i hi => by have := (HQ.out.k i hi).small; omega
        have hsum : cnk (some (x, q)) (k + 1) = cnk (some (x, q)) k + (q k).L.length := by
          rcases three hlt with rfl | rfl | rfl <;> simp [cnk, cnt, Wt]
        have hc3 : cnk (some (x, q)) k + (q k).L.length ≤ 206158430208 := by
          have h1 := hs 0 (by omega)
          have h2 := hs 1 (by omega)
          have h3 := hs 2 (by omega)
          rcases three hlt with rfl | rfl | rfl <;> simp [cnk, Wt] <;> omega
        obtain ⟨A, hA⟩ : ∃ A, cnk (some (x, q)) k = A := ⟨_, rfl⟩
        obtain ⟨L, hL⟩ : ∃ L, (q k).L.length = L := ⟨_, rfl⟩
        rw [hA, hL] at hsum hc3
        rw [hA]
        rw [hL] at hco
        have hwa : IntKind.i64.wrap ((A : Int) + (L : Int)) = ((A + L : Nat) : Int) := by rw [IntKind.wrap_i64]; omega
        have HS : Hid (cnk (some (x, q)) (k + 1) = A + L) := hsum
        clear hsum hs hA hL hb
        go_wp2_with fail
        refine hco.mono ?_
        rintro e U ⟨rfl, hU⟩
        have HU : Hid (Below w.heap.size w U) := HB.out.trans (hU.mono HB.out.size)
        clear hco hU
        go_wp2
        go_roundw
        case rel => exact ⟨k + 1, by omega, by rw [HS.out]; go_num, by go_num, HU.out⟩
        case measure => simp [intOf]; omega
      · obtain rfl : k = 3 := by omega
        have e3 : cnk (some (x, q)) 3 = cnt (some (x, q)) := by simp [cnk]
        rw [e3]
        clear e3 hb
        go_wp2
        go_ret
        exact ⟨rfl, HB.out⟩

end Go.Proofs.YtdfdaambfihjaaaDoor.L

namespace Go.Proofs.YtdfdaambfihjaaaDoor.L
open Go.RowKit
set_option linter.unusedVariables false
set_option linter.unusedSimpArgs false

theorem answers_any (w : World) (p m : Nat) (lim K : Int) (o : Lo) (M : Nat) (h : Lw w p m lim K o M) (hM : M ≤ 68719476736) :
    Calls Tryd.prog 40 #[.pointer (some ⟨p, 0, none⟩), .int .i64 K] w fun e w' => e = .returned (.int .i64 ((Wt o 0).length : Nat)) ∧ Below w.heap.size w w' := by
  have c1 : w.cell? ⟨p, 1, none⟩ = some (.map (some m)) := (cell_of_row _ _ _ _ _ _ h.box).trans rfl
  have hm := h.mp
  rcases o with _ | ⟨x, q⟩
  · obtain ⟨c, hc⟩ := hm
    have hlk := look0 w m c K hc
    clear h hc
    go_enter Tryd.func40, Tryd.ntmps40
    go_wp2
    go_ret
    exact ⟨rfl, Below.refl _ _⟩
  · obtain ⟨⟨b, c, _, hc⟩, hl⟩ := hm
    have hlk := look1 w m c x b K hc
    have hco := lcount hl (i := 0) (by omega) hM
    clear h hc hl
    go_enter Tryd.func40, Tryd.ntmps40
    go_wp2_with fail
    refine hco.mono ?_
    rintro e U ⟨rfl, hU⟩
    clear hco
    go_wp2
    go_ret
    exact ⟨rfl, hU⟩

def q0 : Nat → Qd := fun _ => ⟨.slice none 0 0, 0, [], []⟩
theorem lineOf_any (w : World) (p m : Nat) (lim K : Int) (o : Lo) (M : Nat) (h : Lw w p m lim K o M) :
    Calls Tryd.prog 41 #[.pointer (some ⟨p, 0, none⟩), .int .i64 K] w fun e w' => ∃ x q, e = .returned (.pointer (some ⟨x, 0, none⟩)) ∧ Lw w' p m lim K (some (x, q)) M ∧ (∀ i, i < 3 → (q i).L = Wt o i) ∧ (∀ g, Fo m (some (x, q)) g → Fo m o g ∨ w.heap.size ≤ g) ∧ Kl (fun g => g = m) w w' := by
  have c1 : w.cell? ⟨p, 1, none⟩ = some (.map (some m)) := (cell_of_row _ _ _ _ _ _ h.box).trans rfl
  have HL : Hid (Lw w p m lim K o M) := h
  have hm := h.mp
  rcases o with _ | ⟨x, q⟩
  · obtain ⟨c, hc⟩ := hm
    have hlk := look0 w m c K hc
    obtain ⟨W, hW⟩ : ∃ W, w.alloc (.cells #[.slice none 0 0, .int .i64 0, .slice none 0 0, .int .i64 0, .slice none 0 0, .int .i64 0] 72) = W := ⟨_, rfl⟩
    have HW : Hid (w.alloc (.cells #[.slice none 0 0, .int .i64 0, .slice none 0 0, .int .i64 0, .slice none 0 0, .int .i64 0] 72) = W) := hW
    have hml := (Array.getElem?_eq_some_iff.1 hc).1
    have hpl := (Array.getElem?_eq_some_iff.1 h.box).1
    have bW : Below w.heap.size w W := by rw [← hW]; exact (Below.refl _ _).alloc (Nat.le_refl _) _
    have hcW : W.heap[m]? = some (.map #[] c) := (bW.block m hml).trans hc
    have hu := upd0 W m c K (.pointer (some ⟨w.heap.size, 0, none⟩)) hcW
    have c1W := cell_below c1 bW
    have HR : Hid (Lw (setO W m (.map #[⟨.int .i64 K, .pointer (some ⟨w.heap.size, 0, none⟩), c⟩] (c + 1))) p m lim K (some (w.heap.size, q0)) M ∧ Kl (fun g => g = m) w (setO W m (.map #[⟨.int .i64 K, .pointer (some ⟨w.heap.size, 0, none⟩), c⟩] (c + 1)))) := by
      have hmW : m < W.heap.size := (Array.getElem?_eq_some_iff.1 hcW).1
      refine ⟨⟨?_, fun g hg => ?_, ⟨c, c + 1, by omega, setO_same hmW⟩, ?_, fun i hi => ?_, fun i j g hi hj hij hg => (by cases hg)⟩, (Kl.of_below bW).grown (setO_grown _ _ _) (fun k hk => .inl (by simpa using hk.symm))⟩
      · rw [setO_other (fun e => h.nx m (.inl rfl) e.symm)]
        exact (bW.block p hpl).trans h.box
      · rcases hg with rfl | rfl | ⟨i, hi, hg⟩
        · exact h.nx _ (.inl rfl)
        · omega
        · cases hg
      · rw [setO_other (by omega), ← hW]
        exact heap_alloc_new' _ _
      · exact ⟨rfl, World.ownsRow_nil _ _ _ _, fun y hy => (by cases hy), by simp [q0]⟩
    clear h hc hW hml hpl bW hcW
    go_enter Tryd.func41, Tryd.ntmps41
    go_upto_region 4 with fail
    rw [HW.out]
    go_wp2
    go_ret
    refine ⟨_, q0, rfl, HR.out.1, fun i hi => rfl, fun g hg => ?_, HR.out.2⟩
    rcases hg with rfl | rfl | ⟨i, hi, hg⟩
    · exact .inl (.inl rfl)
    · exact .inr (Nat.le_refl _)
    · cases hg
  · obtain ⟨⟨b, c, _, hc⟩, hl⟩ := hm
    have hlk := look1 w m c x b K hc
    clear h hc hl
    go_enter Tryd.func41, Tryd.ntmps41
    go_wp2
    go_ret
    exact ⟨_, q, rfl, HL.out, fun i hi => rfl, fun g hg => .inl hg, Kl.refl _ _⟩

theorem forget_any (w : World) (p m : Nat) (lim K : Int) (o : Lo) (M : Nat) (h : Lw w p m lim K o M) (hM : M ≤ 68719476736) :
    Calls Tryd.prog 28 #[.pointer (some ⟨p, 0, none⟩), .int .i64 K] w fun e w' => (∃ u, e = .returned u) ∧ ∃ o', Lw w' p m lim K o' M ∧ (∀ i, i < 3 → Wt o' i = Wt o i) ∧ (∀ g, Fo m o' g → Fo m o g) ∧ Kl (fun g => g = m) w w' ∧ (o' = none ∨ w'.heap[m]? = w.heap[m]?) := by
  have hco := lcount_any w p m lim K o M h hM
  have HL : Hid (Lw w p m lim K o M) := h
  by_cases hz : cnt o = 0
  · have HR : Hid (∀ U, Below w.heap.size w U → U.cell? ⟨p, 1, none⟩ = some (.map (some m)) ∧ ∃ V o', (∀ ty, (Builtin.delete_ #[61, 3] ty #[.map (some m), .int .i64 K]).run Tryd.prog U = .ok (.tuple #[]) V) ∧ Lw V p m lim K o' M ∧ (∀ i, i < 3 → Wt o' i = Wt o i) ∧ (∀ g, Fo m o' g → Fo m o g) ∧ Kl (fun g => g = m) w V ∧ (o' = none ∨ V.heap[m]? = w.heap[m]?)) := fun U hU => by
      have hLU := HL.out.below hU
      have hm := hLU.mp
      have hmU : m < U.heap.size := hLU.lt (.inl rfl)
      refine ⟨(cell_of_row _ _ _ _ _ _ hLU.box).trans rfl, ?_⟩
      have key : ∀ c, Lw (setO U m (.map #[] c)) p m lim K none M ∧ Kl (fun g => g = m) w (setO U m (.map #[] c)) := fun c => by
        refine ⟨⟨?_, fun g hg => ?_, c, setO_same hmU⟩, (Kl.of_below hU).grown (setO_grown _ _ _) (fun k hk => .inl (by simpa using hk.symm))⟩
        · rw [setO_other (fun e => hLU.nx m (.inl rfl) e.symm)]; exact hLU.box
        · rcases hg with rfl | hg
          · exact hLU.nx _ (.inl rfl)
          · exact hg.elim
      rcases o with _ | ⟨x, q⟩
      · obtain ⟨c, hc⟩ := hm
        exact ⟨_, none, fun ty => del0 U m c K ty hc, (key c).1, fun i hi => rfl, fun g hg => hg, (key c).2, .inl rfl⟩
      · obtain ⟨⟨b, c, _, hc⟩, hl⟩ := hm
        refine ⟨_, none, fun ty => del1 U m c x b K ty hc, (key c).1, fun i hi => ?_, fun g hg => ?_, (key c).2, .inl rfl⟩
        · have h1 : (Wt (some (x, q)) i).length = 0 := by
            unfold cnt at hz
            rcases three hi with rfl | rfl | rfl <;> omega
          exact (List.eq_nil_of_length_eq_zero h1).symm
        · rcases hg with rfl | hg
          · exact .inl rfl
          · exact hg.elim
    rw [hz] at hco
    clear h
    go_enter Tryd.func28, Tryd.ntmps28
    go_wp2_with fail
    refine hco.mono ?_
    rintro e U ⟨rfl, hU⟩
    obtain ⟨d1, V, o', hdel, r1, r2, r3, r4, r5⟩ := HR.out U hU
    have HF : Hid (Lw V p m lim K o' M ∧ (∀ i, i < 3 → Wt o' i = Wt o i) ∧ (∀ g, Fo m o' g → Fo m o g) ∧ Kl (fun g => g = m) w V ∧ (o' = none ∨ V.heap[m]? = w.heap[m]?)) := ⟨r1, r2, r3, r4, r5⟩
    clear hco hU r1 r2 r3 r4 r5
    go_wp2
    refine bodyPost_end (v := .tuple #[]) (by simp [results, Tryd.results28, go_sem]) rfl ?_
    exact ⟨⟨_, rfl⟩, _, HF.out⟩
  · have hz' : ¬ ((cnt o : Nat) : Int) = 0 := by omega
    have hz2 : (((cnt o : Nat) : Int) == 0) = false := by simpa using hz'
    clear h
    go_enter Tryd.func28, Tryd.ntmps28
    go_wp2_with fail
    refine hco.mono ?_
    rintro e U ⟨rfl, hU⟩
    clear hco
    go_wp2
    refine bodyPost_end (v := .tuple #[]) (by simp [results, Tryd.results28, go_sem]) rfl ?_
    exact ⟨⟨_, rfl⟩, o, HL.out.below hU, fun _ _ => rfl, fun _ h => h, Kl.of_below hU, .inr (hU.block m (HL.out.lt (.inl rfl)))⟩

end Go.Proofs.YtdfdaambfihjaaaDoor.L

namespace Go.Proofs.YtdfdaambfihjaaaDoor.L
open Go.RowKit
set_option linter.unusedVariables false
set_option linter.unusedSimpArgs false

theorem s14_cells {W : World} {g : Nat} {v0 v1 v2 v3 v4 v5 v6 v7 v8 v9 v10 v11 v12 v13 : Value} {t : TypeId} (h : W.heap[g]? = some (.cells #[v0, v1, v2, v3, v4, v5, v6, v7, v8, v9, v10, v11, v12, v13] t (0, 0))) :
    W.cell? ⟨g, 0, none⟩ = some v0 ∧ W.cell? ⟨g, 1, none⟩ = some v1 ∧ W.cell? ⟨g, 2, none⟩ = some v2 ∧ W.cell? ⟨g, 3, none⟩ = some v3 ∧ W.cell? ⟨g, 4, none⟩ = some v4 ∧ W.cell? ⟨g, 5, none⟩ = some v5 ∧ W.cell? ⟨g, 6, none⟩ = some v6 ∧ W.cell? ⟨g, 7, none⟩ = some v7 ∧ W.cell? ⟨g, 8, none⟩ = some v8 ∧ W.cell? ⟨g, 9, none⟩ = some v9 ∧ W.cell? ⟨g, 10, none⟩ = some v10 ∧ W.cell? ⟨g, 11, none⟩ = some v11 ∧ W.cell? ⟨g, 12, none⟩ = some v12 ∧ W.cell? ⟨g, 13, none⟩ = some v13 :=
  have k : ∀ j, W.cell? ⟨g, j, none⟩ = #[v0, v1, v2, v3, v4, v5, v6, v7, v8, v9, v10, v11, v12, v13][j]? := fun j => cell_of_row _ _ _ _ _ _ h
  ⟨k 0, k 1, k 2, k 3, k 4, k 5, k 6, k 7, k 8, k 9, k 10, k 11, k 12, k 13⟩

set_option maxRecDepth 100000 in
set_option maxHeartbeats 4000000 in
/-- segment.Right of any segment. -/
theorem rightS_any (s : Sg) (hv tv dv cv : Value) (hx tx : List Xr) (w : World) (hs : SIn w s hv tv dv cv hx tx) (hT : Tab w) :
    Calls Tryd.prog 38 #[.agg (svC s hv tv dv cv)] w fun e w' => e = .returned (.int .i64 (prt s hx tx).1) ∧ Below w.heap.size w w' := by
  have h00 : 0 < w.heap.size := World.block_lt_of_cell? w ⟨0, 0, none⟩ (hT 0 (by omega))
  obtain ⟨W, hW⟩ : ∃ W, w.alloc (.cells (svC s hv tv dv cv) 37) = W := ⟨_, rfl⟩
  have HWe : Hid (w.alloc (.cells (svC s hv tv dv cv) 37) = W) := hW
  have hbW : Below w.heap.size w W := by rw [← hW]; exact (Below.refl _ _).alloc (Nat.le_refl _) _
  have HBW : Hid (Below w.heap.size w W) := hbW
  have hr : W.heap[w.heap.size]? = some (.cells (svC s hv tv dv cv) 37 (0, 0)) := by rw [← hW]; exact heap_alloc_new' _ _
  obtain ⟨y0, y1, y2, y3, y4, y5, y6, y7, y8, y9, y10, y11, y12, y13⟩ := s14_cells hr
  have hP := print_any s hv tv dv cv hx tx W (hs.below hbW) (hT.below hbW h00)
  obtain ⟨z, hz⟩ : ∃ z, (prt s hx tx).1 = z := ⟨_, rfl⟩
  have HZ : Hid ((prt s hx tx).1 = z) := hz
  rw [hz]
  clear hW hbW hr hs hT hz
  go_enter Tryd.func38, Tryd.ntmps38
  go_wp2_with fail
  rw [HWe.out]
  refine hP.mono ?_
  rintro e w1 ⟨a, c, rfl, _, hb⟩
  rw [HZ.out]
  have HF : Hid (Below w.heap.size w w1) := HBW.out.trans (hb.mono HBW.out.size)
  clear hb hP y0 y1 y2 y3 y4 y5 y6 y7 y8 y9 y10 y11 y12 y13
  go_wp2
  go_ret
  exact ⟨rfl, HF.out⟩

end Go.Proofs.YtdfdaambfihjaaaDoor.L
