import Derived.Test.YtcfodcioeefbeaaDoorBkChk
namespace Go.Proofs.YtcfodcioeefbeaaDoor
open Go.RowKit

def PsPost (l : List Pc) (w : World) (e : Ending) (w' : World) : Prop := ∃ v, e = .returned v ∧ POwn w' w.heap.size v l ∧ Below w.heap.size w w'

theorem POwn.weak {w : World} {b b' : Nat} {v : Value} {l : List Pc} (h : POwn w b v l) (hb : b' ≤ b) : POwn w b' v l := by
  obtain ⟨h1, h2 | ⟨g, cap, cur, h3, h4, h5⟩⟩ := h
  · exact ⟨h1, .inl h2⟩
  · exact ⟨h1, .inr ⟨g, cap, cur, h3, by omega, h5⟩⟩

theorem gPc_to {k : Pk} (ok : k.Ok) {at' : Int} (h0 : 0 ≤ at') (h1 : at' < k.size) : at' < (gPc k at').to ∧ (gPc k at').to ≤ k.size := by
  have := ro0_low ok h0 (by have := ok.size; omega)
  simp only [gPc]; omega

/-- How far the green part is cut. -/
structure GI (k : Pk) (w : World) (v : Value) (at' : Int) (l : List Pc) (f : Nat) (wr : World) : Prop where
  lo : k.red ≤ at'
  hi : at' ≤ k.size
  own : POwn wr (w.heap.size + 1) v l
  bel : Below w.heap.size w wr
  box : wr.heap[w.heap.size]? = some (.cells (knC k) 71)
  whole : grnG k (k.size - k.red).toNat k.red = l ++ grnG k f at'
  fuel : k.size - at' ≤ f
  len : l.length ≤ at' - k.red

theorem GI.size {k : Pk} {w wr : World} {v : Value} {at' : Int} {l : List Pc} {f : Nat} (h : GI k w v at' l f wr) : w.heap.size + 1 ≤ wr.heap.size := by
  obtain ⟨hi, _⟩ := Array.getElem?_eq_some_iff.mp h.box; exact hi

/-- A row of the call's own that was written stays apart from what lay below it. -/
theorem row_ge {w : World} {base n sz : Nat} {e : TypeId} {v : Value} {xs : List Value} (h : w.ownsRow base e sz v n xs) : ∀ r, v.ownBlock = some r → base ≤ r ∧ r < w.heap.size := by
  intro r hr
  obtain ⟨_, ⟨rfl, _⟩ | ⟨g, cap, cur, rfl, hb, hg, _⟩⟩ := h
  · cases hr
  · simp only [Value.ownBlock, Option.some.injEq] at hr
    subst hr
    obtain ⟨hi, _⟩ := Array.getElem?_eq_some_iff.mp hg
    exact ⟨hb, hi⟩

theorem GI.step {k : Pk} {w wr W w5 : World} {v v' : Value} {at' : Int} {l : List Pc} {f : Nat} (h : GI k w v at' l f wr) (ok : k.Ok) (hlt : at' < k.size) (hb : Below wr.heap.size wr W)
    (hown : w5.ownsRow (w.heap.size + 1) 56 5 v' (l.length + 1) (l.flatMap pcL ++ pcL (gPc k at'))) (hgr : W.grownBy w5 v.ownBlock) : ∃ f', GI k w v' (gPc k at').to (l ++ [gPc k at']) f' w5 := by
  have hto := gPc_to ok (by have := ok.red; have := h.lo; omega) hlt
  have hfu := h.fuel
  obtain ⟨f', rfl⟩ : ∃ f', f = f' + 1 := ⟨f - 1, by omega⟩
  have hrow := row_ge h.own
  have hs := h.size
  refine ⟨f', by have := h.lo; omega, hto.2, ?_, ?_, ?_, ?_, by omega, ?_⟩
  · unfold POwn
    rw [List.flatMap_append, show (l ++ [gPc k at']).length = l.length + 1 from by simp, show [gPc k at'].flatMap pcL = pcL (gPc k at') from by simp]
    exact hown
  · exact (h.bel.trans (hb.mono (by omega))).grown hgr (by have := hb.size; omega) (fun r hr => by have := hrow r hr; omega)
  · rw [hgr.block _ (by have := hb.size; omega) (fun e => by have := hrow _ e.symm; omega), hb.block _ (by omega)]
    exact h.box
  · rw [h.whole, grnG, if_pos hlt]; simp
  · have := h.len
    simp; omega

theorem row_last {w : World} {base m : Nat} {ty : TypeId} {v a b c d e : Value} {X : List Value} (h : w.ownsRow base ty 5 v (m + 1) (X ++ [a, b, c, d, e])) (hX : X.length = m * 5) : ∃ g cap, v = .slice (some ⟨g, 0, none⟩) (m + 1) cap ∧ w.cell? ⟨g, m * 5 + 2, none⟩ = some c := by
  obtain ⟨g, cap, rfl⟩ := own_pos h (by omega)
  refine ⟨g, cap, rfl, (World.ownsRow.cellAt h _ (by omega)).trans ?_⟩
  rw [List.getElem?_append_right (by omega), hX, show m * 5 + 2 - m * 5 = 2 from by omega]
  rfl

set_option maxRecDepth 100000 in
set_option maxHeartbeats 2000000 in
theorem green_any {k : Pk} (ok : k.Ok) (w : World) (hT : Tab w) :
    Calls Tryd.prog 20 #[.agg (knC k)] w (PsPost (grnG k (k.size - k.red).toNat k.red) w) := by
  obtain ⟨i0, hi, hz0, hz1, hz2⟩ := info_parts Tryd.info_piece
  have OK : Hid k.Ok := ok
  have HT : Hid (Tab w) := hT
  clear ok hT
  have HST : Hid (GI k w (.slice none 0 0) k.red [] (k.size - k.red).toNat (w.alloc (.cells (knC k) 71))) :=
    ⟨by omega, OK.out.red.2, ⟨rfl, .inl ⟨rfl, rfl⟩⟩, (Below.refl _ _).alloc (Nat.le_refl _) _, heap_alloc_new' _ _, rfl, by have := OK.out.red; omega, by simp⟩
  go_enter Tryd.func20, Tryd.ntmps20
  go_wp2_with fail
  go_loopw [3, 5] (fun p q wr => ∃ (v : Value) (at' : Int) (l : List Pc) (f : Nat), v = p ∧ q = .int .i64 at' ∧ GI k w v at' l f wr) (fun _ q _ => (k.size - intOf q).toNat)
  case atStart => exact ⟨_, k.red, [], _, rfl, rfl, HST.out⟩
  case round =>
    obtain ⟨v, at', l, f, rfl, rfl, hg⟩ := hrel
    clear HST
    have HG : Hid (GI k w v at' l f wr) := hg
    clear hg
    by_cases hlt : at' < k.size
    · have hb1 : 0 ≤ at' ∧ at' ≤ 65535 := by have := OK.out.size; have := OK.out.red; have := HG.out.lo; omega
      have hb2 : k.size ≤ 65536 := OK.out.size.2
      have hfl := fill_0 OK.out 4 at' k.size (.inr rfl) wr (HT.out.below HG.out.bel (tab_pos HT.out)) hb1.1 hb1.2
      have hto := gPc_to OK.out hb1.1 hlt
      have HL : Hid (l.length ≤ 65536) := by have := HG.out.len; have := OK.out.red; have := OK.out.size; unfold Hid; omega
      have hbx := HG.out.box
      have k0 : wr.cell? ⟨w.heap.size, 0, none⟩ = some (.int .i64 k.org) := cell_of_row _ _ 0 _ _ _ hbx
      have k1 : wr.cell? ⟨w.heap.size, 1, none⟩ = some (.int .i64 k.num) := cell_of_row _ _ 1 _ _ _ hbx
      have k2 : wr.cell? ⟨w.heap.size, 2, none⟩ = some (.int .i64 k.srv) := cell_of_row _ _ 2 _ _ _ hbx
      have k3 : wr.cell? ⟨w.heap.size, 3, none⟩ = some (.int .i64 k.size) := cell_of_row _ _ 3 _ _ _ hbx
      have k4 : wr.cell? ⟨w.heap.size, 4, none⟩ = some (.int .i64 k.red) := cell_of_row _ _ 4 _ _ _ hbx
      have k5 : wr.cell? ⟨w.heap.size, 5, none⟩ = some (.int .i64 k.mtu) := cell_of_row _ _ 5 _ _ _ hbx
      have k6 : wr.cell? ⟨w.heap.size, 6, none⟩ = some (.int .i64 k.every) := cell_of_row _ _ 6 _ _ _ hbx
      have HGP : Hid (gPc k at' = ⟨if min (at' + ro0 k at') k.size = k.size then 7 else 4, at', min (at' + ro0 k at') k.size, 0, 0⟩) := rfl
      generalize min (at' + ro0 k at') k.size = T at *
      obtain ⟨a, cap, hv⟩ := own_shp HG.out.own
      have HO : Hid (wr.ownsRow (w.heap.size + 1) 56 5 v l.length (l.flatMap pcL)) := HG.out.own
      subst hv
      clear hbx
      have HXL : Hid ((l.flatMap pcL).length = l.length * 5) := pc_len l
      obtain ⟨X, hX⟩ : ∃ X, l.flatMap pcL = X := ⟨_, rfl⟩
      obtain ⟨m, hm⟩ : ∃ m, l.length = m := ⟨_, rfl⟩
      rw [hX, hm] at HXL HO
      rw [hm] at HG HL
      have HX : Hid (l.flatMap pcL = X ∧ l.length = m) := ⟨hX, hm⟩
      rw [hm]
      clear hX hm
      go_wp2_with fail
      refine hfl.mono ?_
      rintro e w2 ⟨rfl, hb⟩
      clear hfl k0 k1 k2 k3 k4 k5 k6
      have HB2 : Hid (Below wr.heap.size wr w2) := hb
      clear hb
      by_cases hTs : T = k.size
      · go_wp2_with (at_builtin; refine wpList_append_own_at _ rfl _ _ 49 rfl (w.heap.size + 1) 56 i0 (.agg #[.int .i64 0, .int .i64 0, .int .i64 0, .int .i64 0, .int .i64 0]) 5 40 Tryd.underlying49 hi hz0 hz1 hz2 rfl (by decide) _ _ _ rfl (World.ownsRow.alloc (World.ownsRow.alloc (own_below HO.out HB2.out) _) _) ⟨w2.heap.size + 1, 0, none⟩ 1 1 [.int .i64 7, .int .i64 at', .int .i64 k.size, .int .i64 0, .int .i64 0] rfl rfl ?c1 ?c2 ?c3 ?c4 ?c5 ?_)
        case c1 => exact cell_five _ _ _ _ _ _ _ _ (by simp)
        case c2 => intro x hx; simp at hx; rcases hx with rfl | rfl | rfl | rfl <;> rfl
        case c3 => have := HL.out; unfold maxLen; omega
        case c4 => have := HL.out; omega
        case c5 => have := HG.out.size; have := HB2.out.size; simp; omega
        intro v' w5 hown5 hgrow5 _ _
        have hpc : pcL (gPc k at') = [.int .i64 7, .int .i64 at', .int .i64 k.size, .int .i64 0, .int .i64 0] := by rw [HGP.out]; simp [pcL, hTs]
        have hto' : (gPc k at').to = k.size := by rw [HGP.out]; exact hTs
        have hbw : Below wr.heap.size wr ((w2.alloc (.cells #[.int .i64 7, .int .i64 at', .int .i64 k.size, .int .i64 0, .int .i64 0] 56)).alloc (.cells #[.int .i64 7, .int .i64 at', .int .i64 k.size, .int .i64 0, .int .i64 0] 56)) := (HB2.out.alloc HB2.out.size _).alloc (by have := HB2.out.size; simp; omega) _
        have hst := HG.out.step OK.out hlt hbw (by rw [HX.out.1, HX.out.2, hpc]; exact hown5) hgrow5
        rw [hto'] at hst hto
        obtain ⟨g, cap', rfl, hcl⟩ := row_last hown5 HXL.out
        have HN : Hid (∃ f', GI k w (.slice (some ⟨g, 0, none⟩) (m + 1) cap') k.size (l ++ [gPc k at']) f' w5) := hst
        have hm1 : m + 1 ≤ 65537 := by have := HL.out; omega
        clear hst hown5 hgrow5 hbw hpc hto' HG HO HB2 HXL HX HL
        have hwm : IntKind.i64.wrap (((m + 1 : Nat) : Int) - 1) = m := by rw [IntKind.wrap_i64]; omega
        have hlt' : (m : Int) < ((m + 1 : Nat) : Int) := by omega
        generalize m + 1 = n at *
        go_wp2
        go_roundw
        case rel => obtain ⟨f', h⟩ := HN.out; exact ⟨_, _, _, f', rfl, rfl, h⟩
        case measure => simp [intOf]; omega
      · go_wp2_with (at_builtin; refine wpList_append_own_at _ rfl _ _ 49 rfl (w.heap.size + 1) 56 i0 (.agg #[.int .i64 0, .int .i64 0, .int .i64 0, .int .i64 0, .int .i64 0]) 5 40 Tryd.underlying49 hi hz0 hz1 hz2 rfl (by decide) _ _ _ rfl (World.ownsRow.alloc (World.ownsRow.alloc (own_below HO.out HB2.out) _) _) ⟨w2.heap.size + 1, 0, none⟩ 1 1 [.int .i64 4, .int .i64 at', .int .i64 T, .int .i64 0, .int .i64 0] rfl rfl ?c1 ?c2 ?c3 ?c4 ?c5 ?_)
        case c1 => exact cell_five _ _ _ _ _ _ _ _ (by simp)
        case c2 => intro x hx; simp at hx; rcases hx with rfl | rfl | rfl | rfl <;> rfl
        case c3 => have := HL.out; unfold maxLen; omega
        case c4 => have := HL.out; omega
        case c5 => have := HG.out.size; have := HB2.out.size; simp; omega
        intro v' w5 hown5 hgrow5 _ _
        have hpc : pcL (gPc k at') = [.int .i64 4, .int .i64 at', .int .i64 T, .int .i64 0, .int .i64 0] := by rw [HGP.out]; simp [pcL, hTs]
        have hto' : (gPc k at').to = T := by rw [HGP.out]
        have hbw : Below wr.heap.size wr ((w2.alloc (.cells #[.int .i64 4, .int .i64 at', .int .i64 T, .int .i64 0, .int .i64 0] 56)).alloc (.cells #[.int .i64 4, .int .i64 at', .int .i64 T, .int .i64 0, .int .i64 0] 56)) := (HB2.out.alloc HB2.out.size _).alloc (by have := HB2.out.size; simp; omega) _
        have hst := HG.out.step OK.out hlt hbw (by rw [HX.out.1, HX.out.2, hpc]; exact hown5) hgrow5
        rw [hto'] at hst hto
        obtain ⟨g, cap', rfl, hcl⟩ := row_last hown5 HXL.out
        have HN : Hid (∃ f', GI k w (.slice (some ⟨g, 0, none⟩) (m + 1) cap') T (l ++ [gPc k at']) f' w5) := hst
        have hm1 : m + 1 ≤ 65537 := by have := HL.out; omega
        clear hst hown5 hgrow5 hbw hpc hto' HG HO HB2 HXL HX HL
        have hwm : IntKind.i64.wrap (((m + 1 : Nat) : Int) - 1) = m := by rw [IntKind.wrap_i64]; omega
        have hlt' : (m : Int) < ((m + 1 : Nat) : Int) := by omega
        generalize m + 1 = n at *
        go_wp2
        go_roundw
        case rel => obtain ⟨f', h⟩ := HN.out; exact ⟨_, _, _, f', rfl, rfl, h⟩
        case measure => simp [intOf]; omega
    · have HV : Hid (grnG k (k.size - k.red).toNat k.red = l) := by
        have := HG.out.whole; rw [grnG_end (f := f) (at' := at') (by omega), List.append_nil] at this; exact this
      have HP : Hid (POwn wr w.heap.size v l ∧ Below w.heap.size w wr) := ⟨HG.out.own.weak (by omega), HG.out.bel⟩
      clear HG
      go_wp2
      go_ret
      exact ⟨v, rfl, by rw [HV.out]; exact HP.out.1, HP.out.2⟩

end Go.Proofs.YtcfodcioeefbeaaDoor

namespace Go.Proofs.YtcfodcioeefbeaaDoor
open Go.RowKit

theorem cPc_to {k : Pk} (ok : k.Ok) {at' c r e : Int} (h0 : 0 ≤ at') (h1 : at' < e) (he : e ≤ 65536) (hc : 0 ≤ c ∧ c ≤ 4611686018427387903) (hr : 0 ≤ r ∧ r ≤ 4611686018427387903) : at' < (cPc k at' e c r).to ∧ (cPc k at' e c r).to ≤ e := by
  have := ro1_low ok h0 (by omega) hc hr
  simp only [cPc]; omega
theorem pPc_to {k : Pk} (ok : k.Ok) {at' e : Int} (h0 : 0 ≤ at') (h1 : at' < e) (he : e ≤ 65536) : at' < (pPc k at' e).to ∧ (pPc k at' e).to ≤ e := by
  have := ro0_low ok h0 (by omega)
  simp only [pPc]; omega

/-- How far the red part is cut. -/
structure RI (k : Pk) (w : World) (base0 : Int) (v : Value) (at' base plains : Int) (l : List Pc) (f : Nat) (wr : World) : Prop where
  lo : 0 ≤ at'
  hi : at' ≤ k.red
  own : POwn wr (w.heap.size + 1) v l
  bel : Below w.heap.size w wr
  box : wr.heap[w.heap.size]? = some (.cells (knC k) 71)
  whole : redG k k.red.toNat 0 base0 0 = l ++ redG k f at' base plains
  fuel : k.red - at' ≤ f
  len : l.length ≤ at'
  bas : base0 ≤ base ∧ base ≤ base0 + l.length
  pla : 0 ≤ plains ∧ plains ≤ l.length
theorem RI.size {k : Pk} {w wr : World} {b0 b p : Int} {v : Value} {at' : Int} {l : List Pc} {f : Nat} (h : RI k w b0 v at' b p l f wr) : w.heap.size + 1 ≤ wr.heap.size := by
  obtain ⟨hi, _⟩ := Array.getElem?_eq_some_iff.mp h.box; exact hi

/-- The next piece, and what is counted behind it. -/
def nxP (k : Pk) (at' base plains : Int) : Pc := if redC k at' base plains then cPc k at' k.red (base + 1) 0 else pPc k at' (k.red - 1)
def nxB (k : Pk) (at' base plains : Int) : Int := if redC k at' base plains then base + 1 else base
def nxN (k : Pk) (at' base plains : Int) : Int := if redC k at' base plains then 0 else plains + 1
theorem redG_nx {k : Pk} {f : Nat} {at' base plains : Int} (h : at' < k.red) : redG k (f + 1) at' base plains = nxP k at' base plains :: redG k f (nxP k at' base plains).to (nxB k at' base plains) (nxN k at' base plains) := by
  rw [redG, if_pos h]
  unfold nxP nxB nxN
  split <;> rfl
theorem nxP_to {k : Pk} (ok : k.Ok) {at' base plains : Int} (h0 : 0 ≤ at') (h1 : at' < k.red) (hb : 0 ≤ base ∧ base ≤ 4611686018427387902) : at' < (nxP k at' base plains).to ∧ (nxP k at' base plains).to ≤ k.red := by
  have hs := ok.size; have hr := ok.red
  unfold nxP
  split
  · exact cPc_to ok h0 h1 (by omega) ⟨by omega, by omega⟩ ⟨by omega, by omega⟩
  · rename_i h
    simp only [redC, Bool.or_eq_true, decide_eq_true_eq, not_or] at h
    have := ro1_low ok (at' := at') (c := base + 1) (r := 0) h0 (by omega) ⟨by omega, by omega⟩ ⟨by omega, by omega⟩
    have := pPc_to ok (at' := at') (e := k.red - 1) h0 (by omega) (by omega)
    omega

theorem RI.step {k : Pk} {w wr W w5 : World} {b0 b p : Int} {v v' : Value} {at' : Int} {l : List Pc} {f : Nat} (h : RI k w b0 v at' b p l f wr) (ok : k.Ok) (hlt : at' < k.red) (hb0 : 0 ≤ b0 ∧ b0 ≤ 4611686018427322367) (hb : Below wr.heap.size wr W)
    (hown : w5.ownsRow (w.heap.size + 1) 56 5 v' (l.length + 1) (l.flatMap pcL ++ pcL (nxP k at' b p))) (hgr : W.grownBy w5 v.ownBlock) : ∃ f', RI k w b0 v' (nxP k at' b p).to (nxB k at' b p) (nxN k at' b p) (l ++ [nxP k at' b p]) f' w5 := by
  have hlen := h.len; have hhi := h.hi; have hbas := h.bas; have hpla := h.pla; have hsz := ok.size; have hrd := ok.red
  have hto := nxP_to ok (base := b) (plains := p) h.lo hlt ⟨by omega, by omega⟩
  have hfu := h.fuel
  obtain ⟨f', rfl⟩ : ∃ f', f = f' + 1 := ⟨f - 1, by omega⟩
  have hrow := row_ge h.own
  have hs := h.size
  refine ⟨f', by have := h.lo; omega, hto.2, ?_, ?_, ?_, ?_, by omega, ?_, ?_, ?_⟩
  · unfold POwn
    rw [List.flatMap_append, show (l ++ [nxP k at' b p]).length = l.length + 1 from by simp, show [nxP k at' b p].flatMap pcL = pcL (nxP k at' b p) from by simp]
    exact hown
  · exact (h.bel.trans (hb.mono (by omega))).grown hgr (by have := hb.size; omega) (fun r hr => by have := hrow r hr; omega)
  · rw [hgr.block _ (by have := hb.size; omega) (fun e => by have := hrow _ e.symm; omega), hb.block _ (by omega)]
    exact h.box
  · rw [h.whole, redG_nx hlt]; simp
  · simp; omega
  · simp only [List.length_append, List.length_cons, List.length_nil]
    unfold nxB; split <;> omega
  · simp only [List.length_append, List.length_cons, List.length_nil]
    unfold nxN; split <;> omega

set_option maxRecDepth 100000 in
set_option maxHeartbeats 4000000 in
theorem red_any {k : Pk} (ok : k.Ok) (base : Int) (hb0 : 0 ≤ base ∧ base ≤ 4611686018427322367) (w : World) (hT : Tab w) :
    Calls Tryd.prog 19 #[.agg (knC k), .int .i64 base] w (PsPost (redG k k.red.toNat 0 base 0) w) := by
  obtain ⟨i0, hi, hz0, hz1, hz2⟩ := info_parts Tryd.info_piece
  have OK : Hid k.Ok := ok
  have HT : Hid (Tab w) := hT
  clear ok hT
  have HST : Hid (RI k w base (.slice none 0 0) 0 base 0 [] k.red.toNat (w.alloc (.cells (knC k) 71))) :=
    ⟨by omega, OK.out.red.1, ⟨rfl, .inl ⟨rfl, rfl⟩⟩, (Below.refl _ _).alloc (Nat.le_refl _) _, heap_alloc_new' _ _, rfl, by have := OK.out.red; omega, by simp, by simp, by simp⟩
  go_enter Tryd.func19, Tryd.ntmps19
  go_wp2_with fail
  go_loopw [1, 5, 7, 8] (fun b p q r wr => ∃ (v : Value) (at' bs pl : Int) (l : List Pc) (f : Nat), v = p ∧ b = .int .i64 bs ∧ q = .int .i64 pl ∧ r = .int .i64 at' ∧ RI k w base v at' bs pl l f wr) (fun _ _ _ r _ => (k.red - intOf r).toNat)
  case atStart => exact ⟨_, 0, base, 0, [], _, rfl, rfl, rfl, rfl, HST.out⟩
  case round =>
    obtain ⟨v, at', bs, pl, l, f, rfl, rfl, rfl, rfl, hg⟩ := hrel
    clear HST
    have HG : Hid (RI k w base v at' bs pl l f wr) := hg
    clear hg
    have hb2 : k.red ≤ 65536 := by have := OK.out.size; have := OK.out.red; omega
    by_cases hlt : at' < k.red
    · have hb1 : 0 ≤ at' ∧ at' ≤ 65535 := by have := HG.out.lo; omega
      have hbs : 0 ≤ bs ∧ bs ≤ 4611686018427387902 := by have := HG.out.bas; have := HG.out.len; omega
      have hpl : 0 ≤ pl ∧ pl ≤ 65536 := by have := HG.out.pla; have := HG.out.len; omega
      have hev := OK.out.every
      have hck := checkpoint_any OK.out at' k.red (bs + 1) 0 wr (HT.out.below HG.out.bel (tab_pos HT.out)) hb1.1 hb1.2 ⟨by omega, by omega⟩ ⟨by omega, by omega⟩
      have hto : at' < (cPc k at' k.red (bs + 1) 0).to ∧ (cPc k at' k.red (bs + 1) 0).to ≤ k.red := cPc_to OK.out hb1.1 hlt hb2 ⟨by omega, by omega⟩ ⟨by omega, by omega⟩
      have HR1 : Hid (20 ≤ ro1 k at' (bs + 1) 0) := (ro1_low OK.out hb1.1 (by omega) ⟨by omega, by omega⟩ ⟨by omega, by omega⟩).1
      have HL : Hid (l.length ≤ 65536) := by have := HG.out.len; unfold Hid; omega
      have HBX : Hid (wr.heap[w.heap.size]? = some (.cells (knC k) 71)) := HG.out.box
      have k0 : wr.cell? ⟨w.heap.size, 0, none⟩ = some (.int .i64 k.org) := cell_of_row _ _ 0 _ _ _ HBX.out
      have k1 : wr.cell? ⟨w.heap.size, 1, none⟩ = some (.int .i64 k.num) := cell_of_row _ _ 1 _ _ _ HBX.out
      have k2 : wr.cell? ⟨w.heap.size, 2, none⟩ = some (.int .i64 k.srv) := cell_of_row _ _ 2 _ _ _ HBX.out
      have k3 : wr.cell? ⟨w.heap.size, 3, none⟩ = some (.int .i64 k.size) := cell_of_row _ _ 3 _ _ _ HBX.out
      have k4 : wr.cell? ⟨w.heap.size, 4, none⟩ = some (.int .i64 k.red) := cell_of_row _ _ 4 _ _ _ HBX.out
      have k5 : wr.cell? ⟨w.heap.size, 5, none⟩ = some (.int .i64 k.mtu) := cell_of_row _ _ 5 _ _ _ HBX.out
      have k6 : wr.cell? ⟨w.heap.size, 6, none⟩ = some (.int .i64 k.every) := cell_of_row _ _ 6 _ _ _ HBX.out
      obtain ⟨T, hT⟩ : ∃ T, min (at' + ro1 k at' (bs + 1) 0) k.red = T := ⟨_, rfl⟩
      obtain ⟨Y, hY⟩ : ∃ Y, ckT k T = Y := ⟨_, rfl⟩
      have HTD : Hid (min (at' + ro1 k at' (bs + 1) 0) k.red = T) := hT
      have HPC : Hid (cPc k at' k.red (bs + 1) 0 = ⟨Y, at', T, bs + 1, 0⟩) := by unfold Hid cPc; rw [hT, hY]
      have HRC : Hid (redC k at' bs pl = (decide (T = k.red) || decide (pl = k.every - 1))) := by unfold Hid redC; rw [hT]
      rw [HPC.out] at hck hto
      simp only at hto
      clear hT hY
      obtain ⟨a, cap, hv⟩ := own_shp HG.out.own
      have HO : Hid (wr.ownsRow (w.heap.size + 1) 56 5 v l.length (l.flatMap pcL)) := HG.out.own
      subst hv
      have HXL : Hid ((l.flatMap pcL).length = l.length * 5) := pc_len l
      obtain ⟨X, hX⟩ : ∃ X, l.flatMap pcL = X := ⟨_, rfl⟩
      obtain ⟨m, hm⟩ : ∃ m, l.length = m := ⟨_, rfl⟩
      rw [hX, hm] at HXL HO
      rw [hm] at HG HL
      have HX : Hid (l.flatMap pcL = X ∧ l.length = m) := ⟨hX, hm⟩
      rw [hm]
      clear hX hm
      go_wp2_with fail
      refine hck.mono ?_
      rintro e w2 ⟨rfl, hb⟩
      clear hck k0 k1 k2 k3 k4 k5 k6
      have HSZ : Hid (w.heap.size < wr.heap.size) := HG.out.size
      have HBK : Hid ((w2.alloc (.cells #[.int .i64 Y, .int .i64 at', .int .i64 T, .int .i64 (bs + 1), .int .i64 0] 56)).heap[w.heap.size]? = some (.cells (knC k) 71)) := heapA ((hb.block _ HSZ.out).trans HBX.out) _
      have HBW : Hid (Below wr.heap.size wr (w2.alloc (.cells #[.int .i64 Y, .int .i64 at', .int .i64 T, .int .i64 (bs + 1), .int .i64 0] 56))) := hb.alloc hb.size _
      have HLE : Hid (wr.heap.size ≤ w2.heap.size) := hb.size
      clear hb HBX
      by_cases hTs : T = k.red
      · have HC : Hid (redC k at' bs pl = true) := by unfold Hid; rw [HRC.out]; simp [hTs]
        have HNP : Hid (nxP k at' bs pl = ⟨Y, at', T, bs + 1, 0⟩) := by unfold Hid nxP; rw [HC.out, if_pos rfl, HPC.out]
        have HNB : Hid (nxB k at' bs pl = bs + 1) := by unfold Hid nxB; rw [HC.out, if_pos rfl]
        have HNN : Hid (nxN k at' bs pl = 0) := by unfold Hid nxN; rw [HC.out, if_pos rfl]
        clear HC HRC HPC HTD HR1 HBK
        subst hTs
        go_wp2_with (at_builtin; refine wpList_append_own_at _ rfl _ _ 49 rfl (w.heap.size + 1) 56 i0 (.agg #[.int .i64 0, .int .i64 0, .int .i64 0, .int .i64 0, .int .i64 0]) 5 40 Tryd.underlying49 hi hz0 hz1 hz2 rfl (by decide) _ _ _ rfl (World.ownsRow.alloc (own_below HO.out HBW.out) _) ⟨w2.heap.size + 1, 0, none⟩ 1 1 [.int .i64 Y, .int .i64 at', .int .i64 (k.red), .int .i64 (bs + 1), .int .i64 0] rfl rfl ?c1 ?c2 ?c3 ?c4 ?c5 ?_)
        case c1 => exact cell_five _ _ _ _ _ _ _ _ (by simp)
        case c2 => intro x hx; simp only [List.mem_cons, List.not_mem_nil, or_false] at hx; rcases hx with rfl | rfl | rfl | rfl | rfl <;> rfl
        case c3 => have := HL.out; unfold maxLen; omega
        case c4 => have := HL.out; omega
        case c5 => have h1 := HG.out.size; have h2 := HBW.out.size; simp only [World.size_alloc] at h2 ⊢; omega
        intro v' w5 hown5 hgrow5 _ _
        have hst := HG.out.step OK.out hlt hb0 (HBW.out.alloc HBW.out.size _) (by rw [HX.out.1, HX.out.2, HNP.out]; exact hown5) hgrow5
        rw [HNP.out, HNB.out, HNN.out] at hst
        obtain ⟨g, cap', rfl, hcl⟩ := row_last hown5 HXL.out
        have HN : Hid (∃ x f', RI k w base (.slice (some ⟨g, 0, none⟩) (m + 1) cap') (k.red) (bs + 1) (0) (l ++ [x]) f' w5) := by obtain ⟨f', h⟩ := hst; exact ⟨_, f', h⟩
        have hm1 : m + 1 ≤ 65537 := by have := HL.out; omega
        clear hst hown5 hgrow5 HG HO HBW HXL HX HL HNP HNB HNN HT
        have hwm : IntKind.i64.wrap (((m + 1 : Nat) : Int) - 1) = m := by rw [IntKind.wrap_i64]; omega
        have hlt' : (m : Int) < ((m + 1 : Nat) : Int) := by omega
        generalize m + 1 = n at *
        go_wp2
        go_roundw
        case rel => obtain ⟨x, f', h⟩ := HN.out; exact ⟨_, _, _, _, _, f', rfl, by go_num, by go_num, by go_num, h⟩
        case measure => simp [intOf]; omega
      · have k6 : (w2.alloc (.cells #[.int .i64 Y, .int .i64 at', .int .i64 T, .int .i64 (bs + 1), .int .i64 0] 56)).cell? ⟨w.heap.size, 6, none⟩ = some (.int .i64 k.every) := cell_of_row _ _ 6 _ _ _ HBK.out
        have hwe : IntKind.i64.wrap (k.every - 1) = k.every - 1 := by rw [IntKind.wrap_i64]; omega
        by_cases hpe : pl = k.every - 1
        · have HC : Hid (redC k at' bs pl = true) := by unfold Hid; rw [HRC.out]; simp [hpe]
          have HNP : Hid (nxP k at' bs pl = ⟨Y, at', T, bs + 1, 0⟩) := by unfold Hid nxP; rw [HC.out, if_pos rfl, HPC.out]
          have HNB : Hid (nxB k at' bs pl = bs + 1) := by unfold Hid nxB; rw [HC.out, if_pos rfl]
          have HNN : Hid (nxN k at' bs pl = 0) := by unfold Hid nxN; rw [HC.out, if_pos rfl]
          clear HC HRC HPC HTD HR1 HBK
          subst hpe
          go_wp2_with (at_builtin; refine wpList_append_own_at _ rfl _ _ 49 rfl (w.heap.size + 1) 56 i0 (.agg #[.int .i64 0, .int .i64 0, .int .i64 0, .int .i64 0, .int .i64 0]) 5 40 Tryd.underlying49 hi hz0 hz1 hz2 rfl (by decide) _ _ _ rfl (World.ownsRow.alloc (own_below HO.out HBW.out) _) ⟨w2.heap.size + 1, 0, none⟩ 1 1 [.int .i64 Y, .int .i64 at', .int .i64 T, .int .i64 (bs + 1), .int .i64 0] rfl rfl ?c1 ?c2 ?c3 ?c4 ?c5 ?_)
          case c1 => exact cell_five _ _ _ _ _ _ _ _ (by simp)
          case c2 => intro x hx; simp only [List.mem_cons, List.not_mem_nil, or_false] at hx; rcases hx with rfl | rfl | rfl | rfl | rfl <;> rfl
          case c3 => have := HL.out; unfold maxLen; omega
          case c4 => have := HL.out; omega
          case c5 => have h1 := HG.out.size; have h2 := HBW.out.size; simp only [World.size_alloc] at h2 ⊢; omega
          intro v' w5 hown5 hgrow5 _ _
          have hst := HG.out.step OK.out hlt hb0 (HBW.out.alloc HBW.out.size _) (by rw [HX.out.1, HX.out.2, HNP.out]; exact hown5) hgrow5
          rw [HNP.out, HNB.out, HNN.out] at hst
          obtain ⟨g, cap', rfl, hcl⟩ := row_last hown5 HXL.out
          have HN : Hid (∃ x f', RI k w base (.slice (some ⟨g, 0, none⟩) (m + 1) cap') (T) (bs + 1) (0) (l ++ [x]) f' w5) := by obtain ⟨f', h⟩ := hst; exact ⟨_, f', h⟩
          have hm1 : m + 1 ≤ 65537 := by have := HL.out; omega
          clear hst hown5 hgrow5 HG HO HBW HXL HX HL HNP HNB HNN HT
          have hwm : IntKind.i64.wrap (((m + 1 : Nat) : Int) - 1) = m := by rw [IntKind.wrap_i64]; omega
          have hlt' : (m : Int) < ((m + 1 : Nat) : Int) := by omega
          generalize m + 1 = n at *
          go_wp2
          go_roundw
          case rel => obtain ⟨x, f', h⟩ := HN.out; exact ⟨_, _, _, _, _, f', rfl, by go_num, by go_num, by go_num, h⟩
          case measure => simp [intOf]; omega
        · have HC : Hid (redC k at' bs pl = false) := by unfold Hid; rw [HRC.out]; simp [hTs, hpe]
          have hat : at' < k.red - 1 := by have := HTD.out; have := HR1.out; omega
          have hto2 := pPc_to OK.out (at' := at') (e := k.red - 1) hb1.1 hat (by omega)
          have hpn := plain_any OK.out at' (k.red - 1) (w2.alloc (.cells #[.int .i64 Y, .int .i64 at', .int .i64 T, .int .i64 (bs + 1), .int .i64 0] 56)) (HT.out.below (HG.out.bel.trans (HBW.out.mono (by have := HG.out.size; omega))) (tab_pos HT.out)) hb1.1 hb1.2
          have k0 : (w2.alloc (.cells #[.int .i64 Y, .int .i64 at', .int .i64 T, .int .i64 (bs + 1), .int .i64 0] 56)).cell? ⟨w.heap.size, 0, none⟩ = some (.int .i64 k.org) := cell_of_row _ _ 0 _ _ _ HBK.out
          have k1 : (w2.alloc (.cells #[.int .i64 Y, .int .i64 at', .int .i64 T, .int .i64 (bs + 1), .int .i64 0] 56)).cell? ⟨w.heap.size, 1, none⟩ = some (.int .i64 k.num) := cell_of_row _ _ 1 _ _ _ HBK.out
          have k2 : (w2.alloc (.cells #[.int .i64 Y, .int .i64 at', .int .i64 T, .int .i64 (bs + 1), .int .i64 0] 56)).cell? ⟨w.heap.size, 2, none⟩ = some (.int .i64 k.srv) := cell_of_row _ _ 2 _ _ _ HBK.out
          have k3 : (w2.alloc (.cells #[.int .i64 Y, .int .i64 at', .int .i64 T, .int .i64 (bs + 1), .int .i64 0] 56)).cell? ⟨w.heap.size, 3, none⟩ = some (.int .i64 k.size) := cell_of_row _ _ 3 _ _ _ HBK.out
          have k4 : (w2.alloc (.cells #[.int .i64 Y, .int .i64 at', .int .i64 T, .int .i64 (bs + 1), .int .i64 0] 56)).cell? ⟨w.heap.size, 4, none⟩ = some (.int .i64 k.red) := cell_of_row _ _ 4 _ _ _ HBK.out
          have k5 : (w2.alloc (.cells #[.int .i64 Y, .int .i64 at', .int .i64 T, .int .i64 (bs + 1), .int .i64 0] 56)).cell? ⟨w.heap.size, 5, none⟩ = some (.int .i64 k.mtu) := cell_of_row _ _ 5 _ _ _ HBK.out
          obtain ⟨T2, hT2⟩ : ∃ T2, min (at' + ro0 k at') (k.red - 1) = T2 := ⟨_, rfl⟩
          have HPP : Hid (pPc k at' (k.red - 1) = ⟨0, at', T2, 0, 0⟩) := by unfold Hid pPc; rw [hT2]
          have HNP : Hid (nxP k at' bs pl = ⟨0, at', T2, 0, 0⟩) := by unfold Hid nxP; rw [HC.out, if_neg (by simp), HPP.out]
          have HNB : Hid (nxB k at' bs pl = bs) := by unfold Hid nxB; rw [HC.out, if_neg (by simp)]
          have HNN : Hid (nxN k at' bs pl = pl + 1) := by unfold Hid nxN; rw [HC.out, if_neg (by simp)]
          rw [HPP.out] at hpn hto2
          simp only at hto2
          have hwr : IntKind.i64.wrap (k.red - 1) = k.red - 1 := by rw [IntKind.wrap_i64]; omega
          have e1 : (T == k.red) = false := beq_false_of_ne hTs
          have e2 : (pl == k.every - 1) = false := beq_false_of_ne hpe
          clear HC HRC HPC HTD HR1 HBK hT2 HPP
          go_wp2_with fail
          refine hpn.mono ?_
          rintro e w4 ⟨rfl, hb4⟩
          obtain ⟨z0, z1, z2, z3, z4, f0, f1, f2, f3, f4⟩ := box5 ((hb4.block w2.heap.size (by simp)).trans (heap_alloc_new' _ _))
          have hsz2 : w2.heap.size < w4.heap.size := by have := hb4.size; simp at this; omega
          have HB4 : Hid (Below wr.heap.size wr w4) := HBW.out.trans (hb4.mono HBW.out.size)
          have HWS : Hid (wr.heap.size ≤ w2.heap.size) := HLE.out
          have HBF : Hid (Below wr.heap.size wr (((((w4.setCell ⟨w2.heap.size, 0, none⟩ (.int .i64 0)).setCell ⟨w2.heap.size, 1, none⟩ (.int .i64 at')).setCell ⟨w2.heap.size, 2, none⟩ (.int .i64 T2)).setCell ⟨w2.heap.size, 3, none⟩ (.int .i64 0)).setCell ⟨w2.heap.size, 4, none⟩ (.int .i64 0))) := five_below HB4.out HWS.out _ _ _ _ _
          clear hb4 hpn k0 k1 k2 k3 k4 k5 k6 HB4 HBW
          go_wp2_with (at_builtin; refine wpList_append_own_at _ rfl _ _ 49 rfl (w.heap.size + 1) 56 i0 (.agg #[.int .i64 0, .int .i64 0, .int .i64 0, .int .i64 0, .int .i64 0]) 5 40 Tryd.underlying49 hi hz0 hz1 hz2 rfl (by decide) _ _ _ rfl (World.ownsRow.alloc (own_below HO.out HBF.out) _) ⟨w4.heap.size, 0, none⟩ 1 1 [.int .i64 0, .int .i64 at', .int .i64 T2, .int .i64 0, .int .i64 0] rfl rfl ?c1 ?c2 ?c3 ?c4 ?c5 ?_)
          case c1 => exact cell_five _ _ _ _ _ _ _ _ (by simp)
          case c2 => intro x hx; simp only [List.mem_cons, List.not_mem_nil, or_false] at hx; rcases hx with rfl | rfl | rfl | rfl | rfl <;> rfl
          case c3 => have := HL.out; unfold maxLen; omega
          case c4 => have := HL.out; omega
          case c5 => have h1 := HG.out.size; have h2 := HWS.out; simp; omega
          intro v' w5 hown5 hgrow5 _ _
          have hst := HG.out.step OK.out hlt hb0 (HBF.out.alloc HBF.out.size _) (by rw [HX.out.1, HX.out.2, HNP.out]; exact hown5) hgrow5
          rw [HNP.out, HNB.out, HNN.out] at hst
          obtain ⟨g, cap', rfl, hcl⟩ := row_last hown5 HXL.out
          have HN : Hid (∃ x f', RI k w base (.slice (some ⟨g, 0, none⟩) (m + 1) cap') T2 bs (pl + 1) (l ++ [x]) f' w5) := by obtain ⟨f', h⟩ := hst; exact ⟨_, f', h⟩
          have hm1 : m + 1 ≤ 65537 := by have := HL.out; omega
          clear hst hown5 hgrow5 HG HO HBF HXL HX HL HNP HNB HNN HT z0 z1 z2 z3 z4 f0 f1 f2 f3 f4
          have hwm : IntKind.i64.wrap (((m + 1 : Nat) : Int) - 1) = m := by rw [IntKind.wrap_i64]; omega
          have hlt' : (m : Int) < ((m + 1 : Nat) : Int) := by omega
          generalize m + 1 = n at *
          go_wp2
          go_roundw
          case rel => obtain ⟨x, f', h⟩ := HN.out; exact ⟨_, _, _, _, _, f', rfl, by go_num, by go_num, by go_num, h⟩
          case measure => simp [intOf]; omega
    · have HV : Hid (redG k k.red.toNat 0 base 0 = l) := by
        have := HG.out.whole; rw [redG_end (f := f) (at' := at') (base := bs) (plains := pl) (by omega), List.append_nil] at this; exact this
      have HP : Hid (POwn wr w.heap.size v l ∧ Below w.heap.size w wr) := ⟨HG.out.own.weak (by omega), HG.out.bel⟩
      clear HG
      go_wp2
      go_ret
      exact ⟨v, rfl, by rw [HV.out]; exact HP.out.1, HP.out.2⟩

end Go.Proofs.YtcfodcioeefbeaaDoor
