import Derived.Test.YtlagadpfnkidjadDoorBkChk
namespace Go.Proofs.YtlagadpfnkidjadDoor
open Go.RowKit

def PsPost (l : List Pc) (w : World) (e : Ending) (w' : World) : Prop := ∃ v, e = .returned v ∧ POwn w' w.heap.size v l ∧ Below w.heap.size w w'

theorem POwn.weak {w : World} {b b' : Nat} {v : Value} {l : List Pc} (h : POwn w b v l) (hb : b' ≤ b) : POwn w b' v l := by
  obtain ⟨h1, h2 | ⟨g, cap, cur, h3, h4, h5⟩⟩ := h
  · exact ⟨h1, .inl h2⟩
  · exact ⟨h1, .inr ⟨g, cap, cur, h3, by omega, h5⟩⟩

theorem gPc_to {k : Pk} (ok : k.Ok) {at' : Int} (h0 : 0 ≤ at') (h1 : at' < k.size) : at' < (gPc k at').to ∧ (gPc k at').to ≤ k.size := by
  have := ro0_low ok h0 (by have := ok.size; omega)
  simp only [gPc]; omega

/-- How far the green part is cut. -/
structure GI (k : Pk) (w : World) (v : Value) (at' : Int) (l : List Pc) (f : Nat) (wr : World) : Prop where
  lo : k.red ≤ at'
  hi : at' ≤ k.size
  own : POwn wr (w.heap.size + 1) v l
  bel : Below w.heap.size w wr
  box : wr.heap[w.heap.size]? = some (.cells (knC k) 85)
  whole : grnG k (k.size - k.red).toNat k.red = l ++ grnG k f at'
  fuel : k.size - at' ≤ f
  len : l.length ≤ at' - k.red

theorem GI.size {k : Pk} {w wr : World} {v : Value} {at' : Int} {l : List Pc} {f : Nat} (h : GI k w v at' l f wr) : w.heap.size + 1 ≤ wr.heap.size := by
  obtain ⟨hi, _⟩ := Array.getElem?_eq_some_iff.mp h.box; exact hi

/-- A row of the call's own that was written stays apart from what lay below it. -/
theorem row_ge {w : World} {base n sz : Nat} {e : TypeId} {v : Value} {xs : List Value} (h : w.ownsRow base e sz v n xs) : ∀ r, v.ownBlock = some r → base ≤ r ∧ r < w.heap.size := by
  intro r hr
  obtain ⟨_, ⟨rfl, _⟩ | ⟨g, cap, cur, rfl, hb, hg, _⟩⟩ := h
  · cases hr
  · simp only [Value.ownBlock, Option.some.injEq] at hr
    subst hr
    obtain ⟨hi, _⟩ := Array.getElem?_eq_some_iff.mp hg
    exact ⟨hb, hi⟩

theorem GI.step {k : Pk} {w wr W w5 : World} {v v' : Value} {at' : Int} {l : List Pc} {f : Nat} (h : GI k w v at' l f wr) (ok : k.Ok) (hlt : at' < k.size) (hb : Below wr.heap.size wr W)
    (hown : w5.ownsRow (w.heap.size + 1) 46 5 v' (l.length + 1) (l.flatMap pcL ++ pcL (gPc k at'))) (hgr : W.grownBy w5 v.ownBlock) : ∃ f', GI k w v' (gPc k at').to (l ++ [gPc k at']) f' w5 := by
  have hto := gPc_to ok (by have := ok.red; have := h.lo; omega) hlt
  have hfu := h.fuel
  obtain ⟨f', rfl⟩ : ∃ f', f = f' + 1 := ⟨f - 1, by omega⟩
  have hrow := row_ge h.own
  have hs := h.size
  refine ⟨f', by have := h.lo; omega, hto.2, ?_, ?_, ?_, ?_, by omega, ?_⟩
  · unfold POwn
    rw [List.flatMap_append, show (l ++ [gPc k at']).length = l.length + 1 from by simp, show [gPc k at'].flatMap pcL = pcL (gPc k at') from by simp]
    exact hown
  · exact (h.bel.trans (hb.mono (by omega))).grown hgr (by have := hb.size; omega) (fun r hr => by have := hrow r hr; omega)
  · rw [hgr.block _ (by have := hb.size; omega) (fun e => by have := hrow _ e.symm; omega), hb.block _ (by omega)]
    exact h.box
  · rw [h.whole, grnG, if_pos hlt]; simp
  · have := h.len
    simp; omega

theorem row_last {w : World} {base m : Nat} {ty : TypeId} {v a b c d e : Value} {X : List Value} (h : w.ownsRow base ty 5 v (m + 1) (X ++ [a, b, c, d, e])) (hX : X.length = m * 5) : ∃ g cap, v = .slice (some ⟨g, 0, none⟩) (m + 1) cap ∧ w.cell? ⟨g, m * 5 + 2, none⟩ = some c := by
  obtain ⟨g, cap, rfl⟩ := own_pos h (by omega)
  refine ⟨g, cap, rfl, (World.ownsRow.cellAt h _ (by omega)).trans ?_⟩
  rw [List.getElem?_append_right (by omega), hX, show m * 5 + 2 - m * 5 = 2 from by omega]
  rfl

set_option maxRecDepth 100000 in
set_option maxHeartbeats 2000000 in
theorem green_any {k : Pk} (ok : k.Ok) (w : World) (hT : Tab w) :
    Calls Tryd.prog 36 #[.agg (knC k)] w (PsPost (grnG k (k.size - k.red).toNat k.red) w) := by
  obtain ⟨i0, hi, hz0, hz1, hz2⟩ := info_parts Tryd.info_piece
  have OK : Hid k.Ok := ok
  have HT : Hid (Tab w) := hT
  clear ok hT
  have HST : Hid (GI k w (.slice none 0 0) k.red [] (k.size - k.red).toNat (w.alloc (.cells (knC k) 85))) :=
    ⟨by omega, OK.out.red.2, ⟨rfl, .inl ⟨rfl, rfl⟩⟩, (Below.refl _ _).alloc (Nat.le_refl _) _, heap_alloc_new' _ _, rfl, by have := OK.out.red; omega, by simp⟩
  go_enter Tryd.func36, Tryd.ntmps36
  go_wp2_with fail
  go_loopw [3, 5] (fun p q wr => ∃ (v : Value) (at' : Int) (l : List Pc) (f : Nat), v = p ∧ q = .int .i64 at' ∧ GI k w v at' l f wr) (fun _ q _ => (k.size - intOf q).toNat)
  case atStart => exact ⟨_, k.red, [], _, rfl, rfl, HST.out⟩
  case round =>
    obtain ⟨v, at', l, f, rfl, rfl, hg⟩ := hrel
    clear HST
    have HG : Hid (GI k w v at' l f wr) := hg
    clear hg
    by_cases hlt : at' < k.size
    · have hb1 : 0 ≤ at' ∧ at' ≤ 65535 := by have := OK.out.size; have := OK.out.red; have := HG.out.lo; omega
      have hb2 : k.size ≤ 65536 := OK.out.size.2
      have hfl := fill_0 OK.out 4 at' k.size (.inr rfl) wr (HT.out.below HG.out.bel (tab_pos HT.out)) hb1.1 hb1.2
      have hto := gPc_to OK.out hb1.1 hlt
      have HL : Hid (l.length ≤ 65536) := by have := HG.out.len; have := OK.out.red; have := OK.out.size; unfold Hid; omega
      have hbx := HG.out.box
      have k0 : wr.cell? ⟨w.heap.size, 0, none⟩ = some (.int .i64 k.org) := cell_of_row _ _ 0 _ _ _ hbx
      have k1 : wr.cell? ⟨w.heap.size, 1, none⟩ = some (.int .i64 k.num) := cell_of_row _ _ 1 _ _ _ hbx
      have k2 : wr.cell? ⟨w.heap.size, 2, none⟩ = some (.int .i64 k.srv) := cell_of_row _ _ 2 _ _ _ hbx
      have k3 : wr.cell? ⟨w.heap.size, 3, none⟩ = some (.int .i64 k.size) := cell_of_row _ _ 3 _ _ _ hbx
      have k4 : wr.cell? ⟨w.heap.size, 4, none⟩ = some (.int .i64 k.red) := cell_of_row _ _ 4 _ _ _ hbx
      have k5 : wr.cell? ⟨w.heap.size, 5, none⟩ = some (.int .i64 k.mtu) := cell_of_row _ _ 5 _ _ _ hbx
      have k6 : wr.cell? ⟨w.heap.size, 6, none⟩ = some (.int .i64 k.every) := cell_of_row _ _ 6 _ _ _ hbx
      have HGP : Hid (gPc k at' = ⟨if min (at' + ro0 k at') k.size = k.size then 7 else 4, at', min (at' + ro0 k at') k.size, 0, 0⟩) := rfl
      generalize min (at' + ro0 k at') k.size = T at *
      obtain ⟨a, cap, hv⟩ := own_shp HG.out.own
      have HO : Hid (wr.ownsRow (w.heap.size + 1) 46 5 v l.length (l.flatMap pcL)) := HG.out.own
      subst hv
      clear hbx
      have HXL : Hid ((l.flatMap pcL).length = l.length * 5) := pc_len l
      obtain ⟨X, hX⟩ : ∃ X, l.flatMap pcL = X := ⟨_, rfl⟩
      obtain ⟨m, hm⟩ : ∃ m, l.length = m := ⟨_, rfl⟩
      rw [hX, hm] at HXL HO
      rw [hm] at HG HL
      have HX : Hid (l.flatMap pcL = X ∧ l.length = m) := ⟨hX, hm⟩
      rw [hm]
      clear hX hm
      go_wp2_with fail
      refine hfl.mono ?_
      rintro e w2 ⟨rfl, hb⟩
      clear hfl k0 k1 k2 k3 k4 k5 k6
      have HB2 : Hid (Below wr.heap.size wr w2) := hb
      clear hb
      by_cases hTs : T = k.size
      · go_wp2_with (at_builtin; refine wpList_append_own_at _ rfl _ _ 31 rfl (w.heap.size + 1) 46 i0 (.agg #[.int .i64 0, .int .i64 0, .int .i64 0, .int .i64 0, .int .i64 0]) 5 40 Tryd.underlying31 hi hz0 hz1 hz2 rfl (by decide) _ _ _ rfl (World.ownsRow.alloc (World.ownsRow.alloc (own_below HO.out HB2.out) _) _) ⟨w2.heap.size + 1, 0, none⟩ 1 1 [.int .i64 7, .int .i64 at', .int .i64 k.size, .int .i64 0, .int .i64 0] rfl rfl ?c1 ?c2 ?c3 ?c4 ?c5 ?_)
        case c1 => exact cell_five _ _ _ _ _ _ _ _ (by simp)
        case c2 => intro x hx; simp at hx; rcases hx with rfl | rfl | rfl | rfl <;> rfl
        case c3 => have := HL.out; unfold maxLen; omega
        case c4 => have := HL.out; omega
        case c5 => have := HG.out.size; have := HB2.out.size; simp; omega
        intro v' w5 hown5 hgrow5 _ _
        have hpc : pcL (gPc k at') = [.int .i64 7, .int .i64 at', .int .i64 k.size, .int .i64 0, .int .i64 0] := by rw [HGP.out]; simp [pcL, hTs]
        have hto' : (gPc k at').to = k.size := by rw [HGP.out]; exact hTs
        have hbw : Below wr.heap.size wr ((w2.alloc (.cells #[.int .i64 7, .int .i64 at', .int .i64 k.size, .int .i64 0, .int .i64 0] 46)).alloc (.cells #[.int .i64 7, .int .i64 at', .int .i64 k.size, .int .i64 0, .int .i64 0] 46)) := (HB2.out.alloc HB2.out.size _).alloc (by have := HB2.out.size; simp; omega) _
        have hst := HG.out.step OK.out hlt hbw (by rw [HX.out.1, HX.out.2, hpc]; exact hown5) hgrow5
        rw [hto'] at hst hto
        obtain ⟨g, cap', rfl, hcl⟩ := row_last hown5 HXL.out
        have HN : Hid (∃ f', GI k w (.slice (some ⟨g, 0, none⟩) (m + 1) cap') k.size (l ++ [gPc k at']) f' w5) := hst
        have hm1 : m + 1 ≤ 65537 := by have := HL.out; omega
        clear hst hown5 hgrow5 hbw hpc hto' HG HO HB2 HXL HX HL
        have hwm : IntKind.i64.wrap (((m + 1 : Nat) : Int) - 1) = m := by rw [IntKind.wrap_i64]; omega
        have hlt' : (m : Int) < ((m + 1 : Nat) : Int) := by omega
        generalize m + 1 = n at *
        go_wp2
        go_roundw
        case rel => obtain ⟨f', h⟩ := HN.out; exact ⟨_, _, _, f', rfl, rfl, h⟩
        case measure => simp [intOf]; omega
      · go_wp2_with (at_builtin; refine wpList_append_own_at _ rfl _ _ 31 rfl (w.heap.size + 1) 46 i0 (.agg #[.int .i64 0, .int .i64 0, .int .i64 0, .int .i64 0, .int .i64 0]) 5 40 Tryd.underlying31 hi hz0 hz1 hz2 rfl (by decide) _ _ _ rfl (World.ownsRow.alloc (World.ownsRow.alloc (own_below HO.out HB2.out) _) _) ⟨w2.heap.size + 1, 0, none⟩ 1 1 [.int .i64 4, .int .i64 at', .int .i64 T, .int .i64 0, .int .i64 0] rfl rfl ?c1 ?c2 ?c3 ?c4 ?c5 ?_)
        case c1 => exact cell_five _ _ _ _ _ _ _ _ (by simp)
        case c2 => intro x hx; simp at hx; rcases hx with rfl | rfl | rfl | rfl <;> rfl
        case c3 => have := HL.out; unfold maxLen; omega
        case c4 => have := HL.out; omega
        case c5 => have := HG.out.size; have := HB2.out.size; simp; omega
        intro v' w5 hown5 hgrow5 _ _
        have hpc : pcL (gPc k at') = [.int .i64 4, .int .i64 at', .int .i64 T, .int .i64 0, .int .i64 0] := by rw [HGP.out]; simp [pcL, hTs]
        have hto' : (gPc k at').to = T := by rw [HGP.out]
        have hbw : Below wr.heap.size wr ((w2.alloc (.cells #[.int .i64 4, .int .i64 at', .int .i64 T, .int .i64 0, .int .i64 0] 46)).alloc (.cells #[.int .i64 4, .int .i64 at', .int .i64 T, .int .i64 0, .int .i64 0] 46)) := (HB2.out.alloc HB2.out.size _).alloc (by have := HB2.out.size; simp; omega) _
        have hst := HG.out.step OK.out hlt hbw (by rw [HX.out.1, HX.out.2, hpc]; exact hown5) hgrow5
        rw [hto'] at hst hto
        obtain ⟨g, cap', rfl, hcl⟩ := row_last hown5 HXL.out
        have HN : Hid (∃ f', GI k w (.slice (some ⟨g, 0, none⟩) (m + 1) cap') T (l ++ [gPc k at']) f' w5) := hst
        have hm1 : m + 1 ≤ 65537 := by have := HL.out; omega
        clear hst hown5 hgrow5 hbw hpc hto' HG HO HB2 HXL HX HL
        have hwm : IntKind.i64.wrap (((m + 1 : Nat) : Int) - 1) = m := by rw [IntKind.wrap_i64]; omega
        have hlt' : (m : Int) < ((m + 1 : Nat) : Int) := by omega
        generalize m + 1 = n at *
        go_wp2
        go_roundw
        case rel => obtain ⟨f', h⟩ := HN.out; exact ⟨_, _, _, f', rfl, rfl, h⟩
        case measure => simp [intOf]; omega
    · have HV : Hid (grnG k (k.size - k.red).toNat k.red = l) := by
        have := HG.out.whole; rw [grnG_end (f := f) (at' := at') (by omega), List.append_nil] at this; exact this
      have HP : Hid (POwn wr w.heap.size v l ∧ Below w.heap.size w wr) := ⟨HG.out.own.weak (by omega), HG.out.bel⟩
      clear HG
      go_wp2
      go_ret
      exact ⟨v, rfl, by rw [HV.out]; exact HP.out.1, HP.out.2⟩

end Go.Proofs.YtlagadpfnkidjadDoor
