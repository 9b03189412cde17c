import Derived.Test.YtdfdaambfihjaaaDoorLnCp
import Derived.Test.YtdfdaambfihjaaaDoorOw2
namespace Go.Proofs.YtdfdaambfihjaaaDoor.L
open Go.RowKit
set_option linter.unusedVariables false
set_option linter.unusedSimpArgs false

/-! ## A copy, and whose blocks it is -/
def Xo (lo hi : Nat) (v : Value) (ys : List Xr) (W : World) : Prop := XOwn W lo v ys ∧ ys.length ≤ 15 ∧ ∀ k, (v.ownBlock = some k ∨ ∃ x ∈ ys, x.val.ownBlock = some k) → k < hi
def Bo (lo hi : Nat) (v : Value) (zs : List Int) (W : World) : Prop := W.ownsRow lo 5 1 v zs.length (zs.map (Value.int .u8)) ∧ (Bytey zs ∧ zs.length ≤ 1048576) ∧ ∀ k, v.ownBlock = some k → k < hi
def So (lo hi : Nat) (v : Value) (cl : List (Int × Int)) (W : World) : Prop := W.ownsRow lo 91 2 v cl.length (cl.flatMap spL) ∧ cl.length ≤ 1048576 ∧ ∀ k, v.ownBlock = some k → k < hi
theorem xo_low {lo lo' hi : Nat} {v : Value} {ys : List Xr} {W : World} (h : Xo lo hi v ys W) (hl : lo' ≤ lo) : Xo lo' hi v ys W := ⟨⟨own_base h.1.row hl, fun x hx => ⟨own_base (h.1.data x hx).row hl, (h.1.data x hx).bytes, (h.1.data x hx).small, (h.1.data x hx).tag⟩, h.1.apart, h.1.nodup⟩, h.2.1, h.2.2⟩
theorem stb_imp {P Q : World → Prop} {lo : Nat} {w : World} (h : Stb P lo w) (hi : ∀ W, P W → Q W) : Stb Q lo w := fun W hW => hi W (h W hW)
/-- A segment in memory of its own, all of it in the blocks from lo up to hi. -/
structure SgO (lo hi : Nat) (y : Sv) (hx tx : List Xr) (W : World) : Prop where
  ex : ∃ c1 c2 c3, (lo ≤ c1 ∧ c1 ≤ c2 ∧ c2 ≤ c3 ∧ c3 ≤ hi) ∧ Xo lo c1 y.hv hx W ∧ Xo c1 c2 y.tv tx W ∧ Bo c2 c3 y.dv y.s.data W ∧ So c3 hi y.cv y.s.clm W
  he : y.s.head = hx.map Xr.ex
  te : y.s.tail = tx.map Xr.ex
theorem SgO.sin {lo hi : Nat} {y : Sv} {hx tx : List Xr} {W : World} (h : SgO lo hi y hx tx W) : SIn W y.s y.hv y.tv y.dv y.cv hx tx := by
  obtain ⟨c1, c2, c3, _, h1, h2, h3, h4⟩ := h.ex
  exact ⟨xin_own h1.1 h1.2.1, h.he, xin_own h2.1 h2.2.1, h.te, bin_own h3.1 h3.2.1.1 h3.2.1.2, cin_own h4.1 h4.2.1⟩
theorem SgO.at {lo hi : Nat} {y : Sv} {hx tx : List Xr} {W : World} (h : SgO lo hi y hx tx W) : SAt W y := ⟨hx, tx, h.sin⟩
theorem cqX {v : Value} {xs : List Xr} {w : World} (h : XIn w v xs) (hb : XsB xs) :
    Calls Tryd.prog 59 #[v] w fun e w' => ∃ a c ys, e = .returned (.slice a xs.length c) ∧ ys.map Xr.ex = xs.map Xr.ex ∧ Stb (Xo w.heap.size w'.heap.size (.slice a xs.length c) ys) w.heap.size w' ∧ Below w.heap.size w w' := by
  refine (lnX_any h hb.2).mono ?_
  rintro e w' ⟨a, c, ys, rfl, h1, h2, h3, h4⟩
  exact ⟨a, c, ys, rfl, h3, fun W hW => ⟨xown_stb h1 W hW, by have := hb.1; omega, fun k hk => (h1.lt k hk).2⟩, h4⟩
theorem cqB {v : Value} {zs : List Int} {w : World} (h : BIn w v zs) :
    Calls Tryd.prog 60 #[v] w fun e w' => ∃ a c, e = .returned (.slice a zs.length c) ∧ Stb (Bo w.heap.size w'.heap.size (.slice a zs.length c) zs) w.heap.size w' ∧ Below w.heap.size w w' := by
  have hb := h.bytes
  have hs := h.small
  refine (lnB_any h).mono ?_
  rintro e w' ⟨a, c, rfl, h1, h4⟩
  exact ⟨a, c, rfl, fun W hW => ⟨own_stb h1 (Nat.le_refl _) W hW, ⟨hb, hs⟩, fun k hk => (h1.lt k hk).2⟩, h4⟩
theorem cqS {v : Value} {cl : List (Int × Int)} {w : World} (h : CIn w v cl) :
    Calls Tryd.prog 61 #[v] w fun e w' => ∃ a c, e = .returned (.slice a cl.length c) ∧ Stb (So w.heap.size w'.heap.size (.slice a cl.length c) cl) w.heap.size w' ∧ Below w.heap.size w w' := by
  have hs := h.small
  refine (lnS_any h).mono ?_
  rintro e w' ⟨a, c, rfl, h1, h4⟩
  exact ⟨a, c, rfl, fun W hW => ⟨own_stb h1 (Nat.le_refl _) W hW, hs, fun k hk => (h1.lt k hk).2⟩, h4⟩

set_option maxRecDepth 100000 in
set_option maxHeartbeats 8000000 in
theorem copyOfG (s : Sg) (hv tv dv cv : Value) (hx tx : List Xr) (w : World) (hs : SIn w s hv tv dv cv hx tx) (hh : XsB hx) (ht : XsB tx) :
    Calls Tryd.prog 43 #[.agg (svC s hv tv dv cv)] w fun e w' => ∃ y : Sv, y.s = s ∧ e = .returned (.agg (svC y.s y.hv y.tv y.dv y.cv)) ∧ y.Sl ∧ Below w.heap.size w w' ∧ ∃ hx' tx', Stb (SgO w.heap.size w'.heap.size y hx' tx') w.heap.size w' := by
  have HH : Hid (∀ V, Below w.heap.size w V → Calls Tryd.prog 59 #[hv] V fun e w' => ∃ a c ys, e = .returned (.slice a hx.length c) ∧ ys.map Xr.ex = hx.map Xr.ex ∧ Stb (Xo V.heap.size w'.heap.size (.slice a hx.length c) ys) V.heap.size w' ∧ Below V.heap.size V w') := fun V hV => cqX (hs.head.below hV) hh
  have HT : Hid (∀ V, Below w.heap.size w V → Calls Tryd.prog 59 #[tv] V fun e w' => ∃ a c ys, e = .returned (.slice a tx.length c) ∧ ys.map Xr.ex = tx.map Xr.ex ∧ Stb (Xo V.heap.size w'.heap.size (.slice a tx.length c) ys) V.heap.size w' ∧ Below V.heap.size V w') := fun V hV => cqX (hs.tail.below hV) ht
  have HD : Hid (∀ V, Below w.heap.size w V → Calls Tryd.prog 60 #[dv] V fun e w' => ∃ a c, e = .returned (.slice a s.data.length c) ∧ Stb (Bo V.heap.size w'.heap.size (.slice a s.data.length c) s.data) V.heap.size w' ∧ Below V.heap.size V w') := fun V hV => cqB (hs.data.below hV)
  have HC : Hid (∀ V, Below w.heap.size w V → Calls Tryd.prog 61 #[cv] V fun e w' => ∃ a c, e = .returned (.slice a s.clm.length c) ∧ Stb (So V.heap.size w'.heap.size (.slice a s.clm.length c) s.clm) V.heap.size w' ∧ Below V.heap.size V w') := fun V hV => cqS (hs.clm.below hV)
  have HE : Hid (s.head = hx.map Xr.ex ∧ s.tail = tx.map Xr.ex) := ⟨hs.headEq, hs.tailEq⟩
  obtain ⟨h1, h2, h3, h4⟩ := SAt.sl (y := ⟨s, hv, tv, dv, cv⟩) ⟨hx, tx, hs⟩
  obtain ⟨ha, hn, hc, rfl⟩ := h1
  obtain ⟨ta, tn, tc, rfl⟩ := h2
  obtain ⟨da, dn, dc, rfl⟩ := h3
  obtain ⟨ca, cn, cc, rfl⟩ := h4
  obtain ⟨W0, hW0⟩ : ∃ W, (w.alloc (.cells (svC s (.slice ha hn hc) (.slice ta tn tc) (.slice da dn dc) (.slice ca cn cc)) 37)).alloc (.cells zseg 37) = W := ⟨_, rfl⟩
  have HW0 : Hid ((w.alloc (.cells (svC s (.slice ha hn hc) (.slice ta tn tc) (.slice da dn dc) (.slice ca cn cc)) 37)).alloc (.cells zseg 37) = W0) := hW0
  have HS0 : Hid (Cs w W0 s (.slice ha hn hc) (.slice ta tn tc) (.slice da dn dc) (.slice ca cn cc)) := by
    rw [← hW0]
    refine ⟨?_, ?_, ((Below.refl _ _).alloc (Nat.le_refl _) _).alloc (by simp) _⟩
    · rw [Below.heap_alloc _ _ _ (by simp)]; exact heap_alloc_new' _ _
    · have := heap_alloc_new' (w.alloc (.cells (svC s (.slice ha hn hc) (.slice ta tn tc) (.slice da dn dc) (.slice ca cn cc)) 37)) (.cells zseg 37)
      rw [World.size_alloc] at this
      exact this
  obtain ⟨B, hB⟩ : ∃ B, w.heap.size = B := ⟨_, rfl⟩
  clear hs hh ht hW0
  go_enter Tryd.func43, Tryd.ntmps43
  go_upto_region 1 with fail
  have hWW : (w.alloc (.cells (svC s (.slice ha hn hc) (.slice ta tn tc) (.slice da dn dc) (.slice ca cn cc)) 37)).alloc (.cells #[.int .i64 0, .int .i64 0, .int .i64 0, .slice none 0 0, .slice none 0 0, .int .i64 0, .int .i64 0, .slice none 0 0, .int .i64 0, .int .i64 0, .int .i64 0, .int .i64 0, .slice none 0 0, .int .i64 0] 37) = W0 := HW0.out
  rw [hWW]
  clear hWW
  have HBe : Hid (w.heap.size = B) := hB
  have hcell : ∀ (V : World) (h t d c : Value), Cs w V s h t d c → V.cell? ⟨B, 3, none⟩ = some h ∧ V.cell? ⟨B, 4, none⟩ = some t ∧ V.cell? ⟨B, 7, none⟩ = some d ∧ V.cell? ⟨B, 12, none⟩ = some c ∧ V.frozen? ⟨B, 3, none⟩ = false ∧ V.frozen? ⟨B, 4, none⟩ = false ∧ V.frozen? ⟨B, 7, none⟩ = false ∧ V.frozen? ⟨B, 12, none⟩ = false := fun V h t d c hh => by
    rw [← hB]
    exact ⟨hh.cell rfl, hh.cell rfl, hh.cell rfl, hh.cell rfl, hh.fz 3, hh.fz 4, hh.fz 7, hh.fz 12⟩
  have HCell : Hid (∀ (V : World) (h t d c : Value), Cs w V s h t d c → V.cell? ⟨B, 3, none⟩ = some h ∧ V.cell? ⟨B, 4, none⟩ = some t ∧ V.cell? ⟨B, 7, none⟩ = some d ∧ V.cell? ⟨B, 12, none⟩ = some c ∧ V.frozen? ⟨B, 3, none⟩ = false ∧ V.frozen? ⟨B, 4, none⟩ = false ∧ V.frozen? ⟨B, 7, none⟩ = false ∧ V.frozen? ⟨B, 12, none⟩ = false) := hcell
  obtain ⟨c3, c4, c7, c12, f3, f4, f7, f12⟩ := hcell _ _ _ _ _ HS0.out
  clear hcell
  have HS1 : Hid (Below w.heap.size w W0.drew) := ⟨HS0.out.low.os, HS0.out.low.tape, HS0.out.low.output, HS0.out.low.size, HS0.out.low.block⟩
  have hH1 := HH.out _ HS1.out
  generalize hAg : Value.agg (svC s (.slice ha hn hc) (.slice ta tn tc) (.slice da dn dc) (.slice ca cn cc)) = A0
  clear hAg
  go_cut [1] from 3 to 19 (fun i wx => i = .pointer (some ⟨B, 0, none⟩) ∧ ∃ a5 k5 a8 k8 ys zs l1 l2, Hid (Cs w wx s (.slice a5 hx.length k5) (.slice a8 tx.length k8) (.slice da dn dc) (.slice ca cn cc) ∧ Stb (Xo (B + 2) l1 (.slice a5 hx.length k5) ys) (B + 2) wx ∧ Stb (Xo l1 l2 (.slice a8 tx.length k8) zs) (B + 2) wx ∧ (ys.map Xr.ex = hx.map Xr.ex ∧ zs.map Xr.ex = tx.map Xr.ex ∧ B + 2 ≤ l1 ∧ l1 ≤ l2 ∧ l2 ≤ wx.heap.size)))
  case first =>
    go_region_with (first
        | (go_at_call 59
           refine hT1.mono ?_
           rintro e U2 ⟨a8, k8, zs, rfl, hzs, hst8, hbU2⟩
           have HCU2 : Hid (Cs w U2 s (.slice ha hn hc) (.slice ta tn tc) (.slice da dn dc) (.slice ca cn cc)) := HCU.out.below hbU2
           have HX8 : Hid (Stb (Xo U.heap.size U2.heap.size (.slice a8 tx.length k8) zs) (B + 2) U2 ∧ zs.map Xr.ex = tx.map Xr.ex ∧ U.heap.size ≤ U2.heap.size ∧ B + 2 ≤ U.heap.size) := ⟨hst8.low (by have h := HCU.out.sz; rw [HBe.out] at h; exact h), hzs, hbU2.size, (by have h := HCU.out.sz; rw [HBe.out] at h; exact h)⟩
           have HX5' : Hid (Stb (Xo (B + 2) U.heap.size (.slice a5 hx.length k5) ys) (B + 2) U2 ∧ ys.map Xr.ex = hx.map Xr.ex) := ⟨HX5.out.1.keep hbU2.size (fun g _ h1 => hbU2.block g h1), HX5.out.2⟩
           obtain ⟨c3, c4, c7, c12, f3, f4, f7, f12⟩ := HCell.out _ _ _ _ _ HCU2.out
           clear hst8 hbU2 hzs)
        | (go_at_call 59
           refine hH1.mono ?_
           rintro e U ⟨a5, k5, ys, rfl, hys, hst5, hbU⟩
           have HCU : Hid (Cs w U s (.slice ha hn hc) (.slice ta tn tc) (.slice da dn dc) (.slice ca cn cc)) := HS0.out.below ⟨hbU.os, hbU.tape, hbU.output, hbU.size, hbU.block⟩
           have HX5 : Hid (Stb (Xo (B + 2) U.heap.size (.slice a5 hx.length k5) ys) (B + 2) U ∧ ys.map Xr.ex = hx.map Xr.ex) := ⟨stb_imp (hst5.low (by have h := HS0.out.sz; rw [HBe.out] at h; exact h)) (fun W hW => xo_low hW (by have h := HS0.out.sz; rw [HBe.out] at h; exact h)), hys⟩
           obtain ⟨c3, c4, c7, c12, f3, f4, f7, f12⟩ := HCell.out _ _ _ _ _ HCU.out
           have hT1 := HT.out U HCU.out.low
           clear hst5 hbU hys))
    all_goals (
      go_wp2_with fail
      go_meet
      refine ⟨rfl, a5, k5, a8, k8, ys, zs, U.heap.size, U2.heap.size, ?_, stb_set2 HX5'.out.1 (by omega), stb_set2 HX8.out.1 (by omega), HX5'.out.2, HX8.out.2.1, HX8.out.2.2.2, HX8.out.2.2.1, by simp [World.setCell]⟩
      have h := HCU2.out.set2 (i := 3) (j := 4) (u1 := .slice a5 hx.length k5) (u2 := .slice a8 tx.length k8) (hv' := .slice a5 hx.length k5) (tv' := .slice a8 tx.length k8) (dv' := .slice da dn dc) (cv' := .slice ca cn cc) rfl
      rw [HBe.out] at h
      exact h)
  case rest =>
  obtain ⟨rfl, a5, k5, a8, k8, ys, zs, l1, l2, HR1⟩ := hcut
  obtain ⟨w1, hw1⟩ : ∃ x, x = wc := ⟨_, rfl⟩
  subst hw1
  clear HS0 HS1 hH1 c3 c4 c7 c12 f3 f4 f7 f12 HH HT HW0
  obtain ⟨c3, c4, c7, c12, f3, f4, f7, f12⟩ := HCell.out _ _ _ _ _ HR1.out.1
  have HS1 : Hid (Below w.heap.size w w1.drew) := ⟨HR1.out.1.low.os, HR1.out.1.low.tape, HR1.out.1.low.output, HR1.out.1.low.size, HR1.out.1.low.block⟩
  have hD1 := HD.out _ HS1.out
  go_upto_region 2 with fail
  go_cut [1] from 3 to 19 (fun i wx => i = .pointer (some ⟨B, 0, none⟩) ∧ ∃ a13 k13 a16 k16 l3 l4 l5, Hid (Cs w wx s (.slice a5 hx.length k5) (.slice a8 tx.length k8) (.slice a13 s.data.length k13) (.slice a16 s.clm.length k16) ∧ Stb (Xo (B + 2) l1 (.slice a5 hx.length k5) ys) (B + 2) wx ∧ Stb (Xo l1 l2 (.slice a8 tx.length k8) zs) (B + 2) wx ∧ Stb (Bo l3 l4 (.slice a13 s.data.length k13) s.data) (B + 2) wx ∧ Stb (So l4 l5 (.slice a16 s.clm.length k16) s.clm) (B + 2) wx ∧ (ys.map Xr.ex = hx.map Xr.ex ∧ zs.map Xr.ex = tx.map Xr.ex ∧ B + 2 ≤ l1 ∧ l1 ≤ l2 ∧ l2 ≤ l3 ∧ l3 ≤ l4 ∧ l4 ≤ l5 ∧ l5 ≤ wx.heap.size)))
  case first =>
    go_region_with (first
        | (go_at_call 60
           refine hD1.mono ?_
           rintro e U ⟨a13, k13, rfl, hst5, hbU⟩
           have hbU' : Below w1.heap.size w1 U := ⟨hbU.os, hbU.tape, hbU.output, hbU.size, hbU.block⟩
           have HCU : Hid (Cs w U s (.slice a5 hx.length k5) (.slice a8 tx.length k8) (.slice da dn dc) (.slice ca cn cc)) := HR1.out.1.below hbU'
           have HX13 : Hid (Stb (Bo w1.heap.size U.heap.size (.slice a13 s.data.length k13) s.data) (B + 2) U ∧ w1.heap.size ≤ U.heap.size) := ⟨hst5.low (by have h := HR1.out.1.sz; rw [HBe.out] at h; exact h), hbU'.size⟩
           have HX5 : Hid (Stb (Xo (B + 2) l1 (.slice a5 hx.length k5) ys) (B + 2) U ∧ Stb (Xo l1 l2 (.slice a8 tx.length k8) zs) (B + 2) U) := ⟨HR1.out.2.1.keep hbU'.size (fun g _ h1 => hbU'.block g h1), HR1.out.2.2.1.keep hbU'.size (fun g _ h1 => hbU'.block g h1)⟩
           obtain ⟨c3, c4, c7, c12, f3, f4, f7, f12⟩ := HCell.out _ _ _ _ _ HCU.out
           have hC1 := HC.out U HCU.out.low
           clear hst5 hbU hbU')
        | (go_at_call 61
           refine hC1.mono ?_
           rintro e U2 ⟨a16, k16, rfl, hst8, hbU2⟩
           have HCU2 : Hid (Cs w U2 s (.slice a5 hx.length k5) (.slice a8 tx.length k8) (.slice da dn dc) (.slice ca cn cc)) := HCU.out.below hbU2
           have HX16 : Hid (Stb (So U.heap.size U2.heap.size (.slice a16 s.clm.length k16) s.clm) (B + 2) U2 ∧ U.heap.size ≤ U2.heap.size) := ⟨hst8.low (by have h := HCU.out.sz; rw [HBe.out] at h; exact h), hbU2.size⟩
           have HX13' : Hid (Stb (Bo w1.heap.size U.heap.size (.slice a13 s.data.length k13) s.data) (B + 2) U2) := HX13.out.1.keep hbU2.size (fun g _ h1 => hbU2.block g h1)
           have HX5' : Hid (Stb (Xo (B + 2) l1 (.slice a5 hx.length k5) ys) (B + 2) U2 ∧ Stb (Xo l1 l2 (.slice a8 tx.length k8) zs) (B + 2) U2) := ⟨HX5.out.1.keep hbU2.size (fun g _ h1 => hbU2.block g h1), HX5.out.2.keep hbU2.size (fun g _ h1 => hbU2.block g h1)⟩
           obtain ⟨c3, c4, c7, c12, f3, f4, f7, f12⟩ := HCell.out _ _ _ _ _ HCU2.out
           clear hst8 hbU2))
    all_goals (
      go_wp2_with fail
      go_meet
      refine ⟨rfl, a13, k13, a16, k16, w1.heap.size, U.heap.size, U2.heap.size, ?_, stb_set2 HX5'.out.1 (by omega), stb_set2 HX5'.out.2 (by omega), stb_set2 HX13'.out (by omega), stb_set2 HX16.out.1 (by omega), HR1.out.2.2.2.1, HR1.out.2.2.2.2.1, HR1.out.2.2.2.2.2.1, HR1.out.2.2.2.2.2.2.1, HR1.out.2.2.2.2.2.2.2, HX13.out.2, HX16.out.2, by simp [World.setCell]⟩
      have h := HCU2.out.set2 (i := 7) (j := 12) (u1 := .slice a13 s.data.length k13) (u2 := .slice a16 s.clm.length k16) (hv' := .slice a5 hx.length k5) (tv' := .slice a8 tx.length k8) (dv' := .slice a13 s.data.length k13) (cv' := .slice a16 s.clm.length k16) rfl
      rw [HBe.out] at h
      exact h)
  case rest =>
  obtain ⟨rfl, a13, k13, a16, k16, l3, l4, l5, HR2⟩ := hcut
  obtain ⟨w2, hw2⟩ : ∃ x, x = wc := ⟨_, rfl⟩
  subst hw2
  clear HS1 hD1 c3 c4 c7 c12 f3 f4 f7 f12 HD HC HR1
  have kk : ∀ (j : Nat) u, (svC s (.slice a5 hx.length k5) (.slice a8 tx.length k8) (.slice a13 s.data.length k13) (.slice a16 s.clm.length k16))[j]? = some u → w2.cell? ⟨B, j, none⟩ = some u := fun j u h => by rw [← HBe.out]; exact HR2.out.1.cell h
  have y0 := kk 0 _ rfl
  have y1 := kk 1 _ rfl
  have y2 := kk 2 _ rfl
  have y3 := kk 3 _ rfl
  have y4 := kk 4 _ rfl
  have y5 := kk 5 _ rfl
  have y6 := kk 6 _ rfl
  have y7 := kk 7 _ rfl
  have y8 := kk 8 _ rfl
  have y9 := kk 9 _ rfl
  have y10 := kk 10 _ rfl
  have y11 := kk 11 _ rfl
  have y12 := kk 12 _ rfl
  have y13 := kk 13 _ rfl
  have hb1 : w2.heap[B + 1]? = some (.cells zseg 37 (0, 0)) := by rw [← HBe.out]; exact HR2.out.1.b1
  have zz : ∀ j, j < 14 → (∃ u, w2.cell? ⟨B + 1, j, none⟩ = some u) ∧ w2.frozen? ⟨B + 1, j, none⟩ = false := fun j hj => ⟨⟨zseg[j]'hj, (cell_of_row _ _ _ _ _ _ hb1).trans (Array.getElem?_eq_getElem (xs := zseg) hj)⟩, frozen_of_row _ _ _ _ _ hb1⟩
  obtain ⟨⟨r0, x0⟩, z0⟩ := zz 0 (by omega)
  obtain ⟨⟨r1, x1⟩, z1⟩ := zz 1 (by omega)
  obtain ⟨⟨r2, x2⟩, z2⟩ := zz 2 (by omega)
  obtain ⟨⟨r3, x3⟩, z3⟩ := zz 3 (by omega)
  obtain ⟨⟨r4, x4⟩, z4⟩ := zz 4 (by omega)
  obtain ⟨⟨r5, x5⟩, z5⟩ := zz 5 (by omega)
  obtain ⟨⟨r6, x6⟩, z6⟩ := zz 6 (by omega)
  obtain ⟨⟨r7, x7⟩, z7⟩ := zz 7 (by omega)
  obtain ⟨⟨r8, x8⟩, z8⟩ := zz 8 (by omega)
  obtain ⟨⟨r9, x9⟩, z9⟩ := zz 9 (by omega)
  obtain ⟨⟨r10, x10⟩, z10⟩ := zz 10 (by omega)
  obtain ⟨⟨r11, x11⟩, z11⟩ := zz 11 (by omega)
  obtain ⟨⟨r12, x12⟩, z12⟩ := zz 12 (by omega)
  obtain ⟨⟨r13, x13⟩, z13⟩ := zz 13 (by omega)
  obtain ⟨Vf, hVf⟩ : ∃ V, w2.setCells (B + 1) 0 (Sv.L ⟨s, .slice a5 hx.length k5, .slice a8 tx.length k8, .slice a13 s.data.length k13, .slice a16 s.clm.length k16⟩) = V := ⟨_, rfl⟩
  have hbf : Vf.heap[B + 1]? = some (.cells (svC s (.slice a5 hx.length k5) (.slice a8 tx.length k8) (.slice a13 s.data.length k13) (.slice a16 s.clm.length k16)) 37 (0, 0)) := by
    have h5 := heap_setA (B + 1) 37 (Sv.L ⟨s, .slice a5 hx.length k5, .slice a8 tx.length k8, .slice a13 s.data.length k13, .slice a16 s.clm.length k16⟩) zseg 0 w2 hb1
    rw [hVf] at h5
    rw [h5]
    simp [setA, Sv.L, zseg]
  have HF : Hid (Below w.heap.size w Vf ∧ Stb (SgO w.heap.size Vf.heap.size ⟨s, .slice a5 hx.length k5, .slice a8 tx.length k8, .slice a13 s.data.length k13, .slice a16 s.clm.length k16⟩ ys zs) w.heap.size Vf) := by
    obtain ⟨e1, e2, e3, e4, e5⟩ := setCells_other (B + 1) (Sv.L ⟨s, .slice a5 hx.length k5, .slice a8 tx.length k8, .slice a13 s.data.length k13, .slice a16 s.clm.length k16⟩) 0 w2
    rw [hVf] at e1 e2 e3 e4 e5
    obtain ⟨q1, q2, q3, q4, q5, p1, p2, p3, p4, p5, p6, p7, p8⟩ := HR2.out
    have hl := q1.low
    have hBe := HBe.out
    refine ⟨⟨e2.trans hl.os, e3.trans hl.tape, e4.trans hl.output, by rw [e5]; exact hl.size, fun g hg => (e1 g (by omega)).trans (hl.block g hg)⟩, fun W hW => ?_⟩
    have ag : ∀ g, B + 2 ≤ g → g < w2.heap.size → W.heap[g]? = w2.heap[g]? := fun g h0 h1 => (hW g (by omega) (by rw [e5]; exact h1)).trans (e1 g (by omega))
    have b3 := q4 W ag
    have b4 := q5 W ag
    have b2 := q3 W ag
    refine ⟨⟨l1, l2, l4, ⟨by omega, p4, by omega, by rw [e5]; omega⟩, xo_low (q2 W ag) (by omega), b2, ⟨own_base b3.1 p5, b3.2⟩, ⟨b4.1, b4.2.1, fun k hk => by rw [e5]; have := b4.2.2 k hk; omega⟩⟩, by rw [HE.out.1, p1], by rw [HE.out.2, p2]⟩
  have gg : ∀ (j : Nat) u, (svC s (.slice a5 hx.length k5) (.slice a8 tx.length k8) (.slice a13 s.data.length k13) (.slice a16 s.clm.length k16))[j]? = some u → Vf.cell? ⟨B + 1, j, none⟩ = some u := fun j u h => (cell_of_row _ _ _ _ _ _ hbf).trans h
  have HVf : Hid (w2.setCells (B + 1) 0 (Sv.L ⟨s, .slice a5 hx.length k5, .slice a8 tx.length k8, .slice a13 s.data.length k13, .slice a16 s.clm.length k16⟩) = Vf) := hVf
  have u0 := gg 0 _ rfl
  have u1 := gg 1 _ rfl
  have u2 := gg 2 _ rfl
  have u3' := gg 3 _ rfl
  have u4' := gg 4 _ rfl
  have u5' := gg 5 _ rfl
  have u6' := gg 6 _ rfl
  have u7' := gg 7 _ rfl
  have u8' := gg 8 _ rfl
  have u9' := gg 9 _ rfl
  have u10' := gg 10 _ rfl
  have u11' := gg 11 _ rfl
  have u12' := gg 12 _ rfl
  have u13' := gg 13 _ rfl
  clear kk zz hb1 gg hVf hbf
  go_wp2
  have hv2 := HVf.out
  simp only [World.setCells, Sv.L, Nat.zero_add, Nat.reduceAdd] at hv2
  rw [hv2]
  refine bodyPost_ret (v := .agg (svC s (.slice a5 hx.length k5) (.slice a8 tx.length k8) (.slice a13 s.data.length k13) (.slice a16 s.clm.length k16))) (by simp [results, Tryd.results43, go_sem, u0, u1, u2, u3', u4', u5', u6', u7', u8', u9', u10', u11', u12', u13']) rfl ?_
  exact ⟨⟨s, .slice a5 hx.length k5, .slice a8 tx.length k8, .slice a13 s.data.length k13, .slice a16 s.clm.length k16⟩, rfl, rfl, ⟨⟨_, _, _, rfl⟩, ⟨_, _, _, rfl⟩, ⟨_, _, _, rfl⟩, _, _, _, rfl⟩, HF.out.1, _, _, HF.out.2⟩

end Go.Proofs.YtdfdaambfihjaaaDoor.L
