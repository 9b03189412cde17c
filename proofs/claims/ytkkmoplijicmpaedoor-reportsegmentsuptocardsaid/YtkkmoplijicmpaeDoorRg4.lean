import Derived.Test.YtkkmoplijicmpaeDoorRg3
import Derived.Test.YtkkmoplijicmpaeDoorOw2
import Derived.Deep.RegionHeld3
import Derived.Maps.AppendAt
import Derived.Laws.AppendOwnNone
import Derived.Laws.OwnMore
import Derived.Deep.RegionLaw
import Derived.OrdersHeld
import Derived.OrdersIn
import Derived.TacticsIn
import Derived.RangeFuncCalls
import Derived.RangeFuncNested
namespace Go.Proofs.YtkkmoplijicmpaeDoor
open Go.RowKit
set_option linter.unusedVariables false
set_option linter.unusedSimpArgs false
attribute [local go_sem ↓] wp_store2
attribute [local go_sem] pBlk2_ptr pAgg2_agg

theorem size_rp2 : (Tryd.prog.info? 75).map (·.size) = some 5 := by kernel_rfl
abbrev zrC : Array Value := #[.int .i64 0, .int .i64 0, .int .i64 0, .int .i64 0, .slice none 0 0]
def zrr : Rr := ⟨0, 0, 0, 0, []⟩
/-- What Of tells, and the report. -/
def ofE (s : Sg) (hx tx : List Xr) : Int := if (prt s hx tx).1 = 0 then (if s.typ = 8 then 0 else 1) else (prt s hx tx).1
def ofR (s : Sg) (hx tx : List Xr) : Rr := if (prt s hx tx).1 = 0 ∧ s.typ = 8 then ⟨s.rep, s.chk, s.upp, s.low, s.clm⟩ else zrr
def Ofp (E : Int) (r : Rr) (w : World) (e : Ending) (w' : World) : Prop := ∃ a c, e = .returned (.tuple #[.agg (rpA r r.clm.length a c), .int .i64 E]) ∧ C.SOwn w' w.heap.size (.slice a r.clm.length c) r.clm ∧ Below w.heap.size w w'
/-- A segment of a report that may be has claims. -/
theorem prt8 {s : Sg} {hx tx : List Xr} (h : (prt s hx tx).1 = 0) (h8 : s.typ = 8) : 1 ≤ s.clm.length ∧ s.clm.length ≤ 1000 := by
  have hsh : shp s.typ = 9 := by rw [h8]; decide
  unfold prt at h
  rw [hsh] at h
  split at h
  · cases h
  · split at h
    · cases h
    · rename_i hm
      have hm' : may 9 s hx tx = true := by simpa using hm
      have := (may_sh9 s hx tx).mp hm'
      have := this.2.2.2.2.2.2.2.2.2.2.2.1
      omega
theorem rightR_any (s : Sg) (hv tv dv cv : Value) (hx tx : List Xr) (w : World) (hs : SIn w s hv tv dv cv hx tx) :
    Calls Tryd.prog 87 #[.agg (svC s hv tv dv cv)] w fun e w' => e = .returned (.int .i64 (prt s hx tx).1) ∧ Below w.heap.size w w' := by
  obtain ⟨W, hW⟩ : ∃ W, w.alloc (.cells (svC s hv tv dv cv) 81) = W := ⟨_, rfl⟩
  have HWe : Hid (w.alloc (.cells (svC s hv tv dv cv) 81) = W) := hW
  have hbW : Below w.heap.size w W := by rw [← hW]; exact (Below.refl _ _).alloc (Nat.le_refl _) _
  have HBW : Hid (Below w.heap.size w W) := hbW
  have hr : W.heap[w.heap.size]? = some (.cells (svC s hv tv dv cv) 81 (0, 0)) := by rw [← hW]; exact al_new _ _
  obtain ⟨y0, y1, y2, y3, y4, y5, y6, y7, y8, y9, y10, y11, y12, y13⟩ := s14_cells hr
  have hP := rqPrint_any s hv tv dv cv hx tx W (hs.below hbW)
  obtain ⟨z, hz⟩ : ∃ z, (prt s hx tx).1 = z := ⟨_, rfl⟩
  have HZ : Hid ((prt s hx tx).1 = z) := hz
  rw [hz]
  clear hW hbW hr hs hz
  go_enter Tryd.func87, Tryd.ntmps87
  go_wp2_with fail
  rw [HWe.out]
  refine hP.mono ?_
  rintro e w1 ⟨a, c, rfl, _, hb⟩
  rw [HZ.out]
  have HF : Hid (Below w.heap.size w w1) := HBW.out.trans (hb.mono HBW.out.size)
  clear hb hP y0 y1 y2 y3 y4 y5 y6 y7 y8 y9 y10 y11 y12 y13
  go_wp2
  go_ret
  exact ⟨rfl, HF.out⟩

theorem cell_setRow2 {W : World} {g b o : Nat} {cs : Array Value} (h : b ≠ g) : (W.setRow g cs).cell? ⟨b, o, none⟩ = W.cell? ⟨b, o, none⟩ := by
  simp only [World.cell?]
  rw [setRow_other2 cs h]
set_option maxRecDepth 100000 in
set_option maxHeartbeats 8000000 in
theorem of5_any (s : Sg) (hv tv dv cv : Value) (hx tx : List Xr) (w : World) (hs : SIn w s hv tv dv cv hx tx) (hT : Tab w) :
    Calls Tryd.prog 38 #[.agg (svC s hv tv dv cv)] w (Ofp (ofE s hx tx) (ofR s hx tx) w) := by
  obtain ⟨ah, ch, rfl, _⟩ := hs.head.shape
  obtain ⟨at2, ct, rfl, _⟩ := hs.tail.shape
  obtain ⟨ad, cd, rfl, _⟩ := hs.data.shape
  obtain ⟨ac, cc, rfl, _⟩ := hs.clm.shape
  obtain ⟨P, hP⟩ : ∃ P, Ofp (ofE s hx tx) (ofR s hx tx) w = P := ⟨_, rfl⟩
  obtain ⟨z, hz⟩ : ∃ z, (prt s hx tx).1 = z := ⟨_, rfl⟩
  have HZ : Hid ((prt s hx tx).1 = z) := hz
  have HBad : Hid (∀ E V, ofE s hx tx = E → ofR s hx tx = zrr → Below w.heap.size w V → P (.returned (.tuple #[.agg zrC, .int .i64 E])) V) := fun E V e1 e2 hV => by
    rw [← hP, e1, e2]
    exact ⟨none, 0, rfl, own_nil2 _ _, hV⟩
  have HGood : Hid (∀ n a c V, s.clm.length = n → z = 0 → s.typ = 8 → C.SOwn V w.heap.size (.slice a n c) s.clm → Below w.heap.size w V → P (.returned (.tuple #[.agg #[.int .i64 s.rep, .int .i64 s.chk, .int .i64 s.upp, .int .i64 s.low, .slice a n c], .int .i64 0])) V) := fun n a c V hn h0 h8 ho hV => by
    rw [← hP]
    have e1 : ofE s hx tx = 0 := by unfold ofE; rw [if_pos (hz.trans h0), if_pos h8]
    have e2 : ofR s hx tx = ⟨s.rep, s.chk, s.upp, s.low, s.clm⟩ := by unfold ofR; rw [if_pos ⟨hz.trans h0, h8⟩]
    rw [e1, e2]
    subst hn
    exact ⟨a, c, rfl, ho, hV⟩
  rw [hP]
  have HP8 : Hid (z = 0 → s.typ = 8 → 1 ≤ s.clm.length ∧ s.clm.length ≤ 1000) := fun h0 h8 => prt8 (hz.trans h0) h8
  generalize hx.length = nh at *
  generalize tx.length = nt at *
  generalize s.data.length = nd at *
  obtain ⟨nc, hnc⟩ : ∃ n, s.clm.length = n := ⟨_, rfl⟩
  have HNc : Hid (s.clm.length = nc) := hnc
  rw [hnc] at hs ⊢
  obtain ⟨W, hW⟩ : ∃ W, (w.alloc (.cells (svC s (.slice ah nh ch) (.slice at2 nt ct) (.slice ad nd cd) (.slice ac nc cc)) 81)).alloc (.cells zrC 75) = W := ⟨_, rfl⟩
  have HWe : Hid (_ = W) := hW
  have hbW : Below w.heap.size w W := by rw [← hW]; exact ((Below.refl _ _).alloc (Nat.le_refl _) _).alloc (by simp) _
  have HBW : Hid (Below w.heap.size w W) := hbW
  have HWs : Hid (W.heap.size = w.heap.size + 1 + 1) := by show _ = _; rw [← hW]; simp
  have HR0 : Hid (∀ V, Below W.heap.size W V → V.heap[w.heap.size]? = some (.cells (svC s (.slice ah nh ch) (.slice at2 nt ct) (.slice ad nd cd) (.slice ac nc cc)) 81 (0, 0))) := fun V hV => by
    have h1 : W.heap[w.heap.size]? = some (.cells (svC s (.slice ah nh ch) (.slice at2 nt ct) (.slice ad nd cd) (.slice ac nc cc)) 81 (0, 0)) := by rw [← hW]; exact al_old (al_new _ _)
    exact (hV.block _ (Array.getElem?_eq_some_iff.1 h1).1).trans h1
  have HR1 : Hid (∀ V, Below W.heap.size W V → V.heap[w.heap.size + 1]? = some (.cells zrC 75 (0, 0))) := fun V hV => by
    have h1 : W.heap[w.heap.size + 1]? = some (.cells zrC 75 (0, 0)) := by
      rw [← hW]
      have := al_new (w.alloc (.cells (svC s (.slice ah nh ch) (.slice at2 nt ct) (.slice ad nd cd) (.slice ac nc cc)) 81)) (.cells zrC 75)
      rwa [World.size_alloc] at this
    exact (hV.block _ (Array.getElem?_eq_some_iff.1 h1).1).trans h1
  have hRi := (rightS_any s _ _ _ _ hx tx W (hs.below hbW) (hT.below hbW (World.block_lt_of_cell? w ⟨0, 0, none⟩ (hT 0 (by omega)))))
  rw [hz] at hRi
  have HC : Hid (∀ V, Below W.heap.size W V → CIn V (.slice ac nc cc) s.clm) := fun V hV => (hs.clm.below hbW).below hV
  obtain ⟨y0, y1, y2, y3, y4, y5, y6, y7, y8, y9, y10, y11, y12, y13⟩ := s14_cells (HR0.out W (Below.refl _ _))
  clear hW hbW hs hnc hP hz hT
  go_enter Tryd.func38, Tryd.ntmps38
  go_wp2_with fail
  rw [HWe.out]
  refine hRi.mono ?_
  rintro e w1 ⟨rfl, hb1⟩
  have HB1 : Hid (Below W.heap.size W w1) := hb1
  have HF1 : Hid (Below w.heap.size w w1) := HBW.out.trans (hb1.mono HBW.out.size)
  clear hRi hb1 y0 y1 y2 y3 y4 y5 y6 y7 y8 y9 y10 y11 y12 y13
  obtain ⟨y0, y1, y2, y3, y4, y5, y6, y7, y8, y9, y10, y11, y12, y13⟩ := s14_cells (HR0.out w1 HB1.out)
  have hzr := HR1.out w1 HB1.out
  have hst : Stor2 Tryd.prog 75 w1 (.pointer (some ⟨w.heap.size + 1, 0, none⟩)) (.agg zrC) := ⟨w.heap.size + 1, _, _, _, rfl, rfl, hzr, rfl, size_rp2, by simp [Value.oneCell']⟩
  have HRw : Hid ((w1.setRow (w.heap.size + 1) zrC).heap[w.heap.size + 1]? = some (.cells zrC 75 (0, 0))) := setRow_heap _ _ _ _ _ _ hzr
  have HEb : Hid (Below w.heap.size w (w1.setRow (w.heap.size + 1) zrC)) := bl_setRow2 HF1.out (by omega) _
  clear hzr
  by_cases hz0 : z = 0
  rotate_left
  · have e0 : (z != 0) = true := bne_iff_ne.mpr hz0
    have HE : Hid (P (.returned (.tuple #[.agg zrC, .int .i64 z])) (w1.setRow (w.heap.size + 1) zrC)) := HBad.out _ _ (by unfold ofE; rw [if_neg (by rw [HZ.out]; exact hz0), HZ.out]) (by unfold ofR; rw [if_neg (fun h => hz0 (HZ.out.symm.trans h.1))]) HEb.out
    clear hz0
    go_wp2
    have hlv := fun j => cell_of_row _ (w.heap.size + 1) j _ _ _ HRw.out
    refine bodyPost_ret (v := .tuple #[.agg zrC, .int .i64 z]) (by simp [results, Tryd.results38, go_sem, hlv]) rfl ?_
    exact HE.out
  have e0 : (z != 0) = false := by rw [hz0]; rfl
  have HZ0 : Hid (z = 0) := hz0
  by_cases h8 : s.typ = 8
  rotate_left
  · have e8 : (s.typ != 8) = true := bne_iff_ne.mpr h8
    have HE : Hid (P (.returned (.tuple #[.agg zrC, .int .i64 1])) (w1.setRow (w.heap.size + 1) zrC)) := HBad.out _ _ (by unfold ofE; rw [if_pos (HZ.out.trans HZ0.out), if_neg h8]) (by unfold ofR; rw [if_neg (fun h => h8 h.2)]) HEb.out
    clear hz0 h8
    go_wp2
    have hlv := fun j => cell_of_row _ (w.heap.size + 1) j _ _ _ HRw.out
    refine bodyPost_ret (v := .tuple #[.agg zrC, .int .i64 1]) (by simp [results, Tryd.results38, go_sem, hlv]) rfl ?_
    exact HE.out
  have e8 : (s.typ != 8) = false := by rw [h8]; rfl
  have H8 : Hid (s.typ = 8) := h8
  have hcl := HP8.out hz0 h8
  rw [HNc.out] at hcl
  clear hz0 h8 hst HRw HEb
  obtain ⟨p, hp⟩ := get_one s.clm 0 (by rw [HNc.out]; omega)
  obtain ⟨g, off, rfl, _⟩ := (HC.out w1 HB1.out).at hp
  clear hp
  have HCl : Hid (∀ V, Below W.heap.size W V → Calls Tryd.prog 64 #[.slice (some ⟨g, off, none⟩) nc cc] V fun e w' => ∃ v, e = .returned v ∧ C.SOwn w' V.heap.size v s.clm ∧ Below V.heap.size V w') := fun V hV => clone5_some g off cc nc s.clm V (HC.out V hV) HNc.out (by rw [HNc.out]; omega)
  have HBd : Hid (∀ V, Below W.heap.size W V → V.cell? ⟨w.heap.size, 9, none⟩ = some (.int .i64 s.rep) ∧ V.cell? ⟨w.heap.size, 8, none⟩ = some (.int .i64 s.chk) ∧ V.cell? ⟨w.heap.size, 10, none⟩ = some (.int .i64 s.upp) ∧ V.cell? ⟨w.heap.size, 11, none⟩ = some (.int .i64 s.low) ∧ V.cell? ⟨w.heap.size, 12, none⟩ = some (.slice (some ⟨g, off, none⟩) nc cc)) := fun V hV => by
    obtain ⟨y0, y1, y2, y3, y4, y5, y6, y7, y8, y9, y10, y11, y12, y13⟩ := s14_cells (HR0.out V hV)
    exact ⟨y9, y8, y10, y11, y12⟩
  have hS0 := HBd.out w1 HB1.out
  have HNe : Hid (w.heap.size ≠ w.heap.size + 1) := by show _ ≠ _; omega
  go_wp2_with fail
  go_region_held3 (fun V => V.cell? ⟨w.heap.size, 9, none⟩ = some (.int .i64 s.rep) ∧ V.cell? ⟨w.heap.size, 8, none⟩ = some (.int .i64 s.chk) ∧ V.cell? ⟨w.heap.size, 10, none⟩ = some (.int .i64 s.upp) ∧ V.cell? ⟨w.heap.size, 11, none⟩ = some (.int .i64 s.low) ∧ V.cell? ⟨w.heap.size, 12, none⟩ = some (.slice (some ⟨g, off, none⟩) nc cc))
    (first | exact hS1 | exact hS2 | exact hS0)
    (first
      | (go_at_call 64
         refine (HCl.out _ HB1.out.drew).mono ?_
         rintro e w2 ⟨v2, rfl, hs2, hb2⟩
         obtain ⟨a2, c2, hv2⟩ := hs2.shape
         rw [HNc.out] at hv2
         subst hv2
         have HB2 : Hid (Below W.heap.size W w2) := HB1.out.drew.trans (hb2.mono HB1.out.drew.size)
         have HS2 : Hid (C.SOwn w2 w1.heap.size (.slice a2 nc c2) s.clm) := hs2
         have hS1 := HBd.out w2 HB2.out
         have hzr := HR1.out w2 HB2.out
         have hst : Stor2 Tryd.prog 75 w2 (.pointer (some ⟨w.heap.size + 1, 0, none⟩)) (.agg #[.int .i64 s.rep, .int .i64 s.chk, .int .i64 s.upp, .int .i64 s.low, .slice a2 nc c2]) := ⟨w.heap.size + 1, _, _, _, rfl, rfl, hzr, rfl, size_rp2, by simp [Value.oneCell']⟩
         have HRw : Hid ((w2.setRow (w.heap.size + 1) #[.int .i64 s.rep, .int .i64 s.chk, .int .i64 s.upp, .int .i64 s.low, .slice a2 nc c2]).heap[w.heap.size + 1]? = some (.cells #[.int .i64 s.rep, .int .i64 s.chk, .int .i64 s.upp, .int .i64 s.low, .slice a2 nc c2] 75 (0, 0))) := setRow_heap _ _ _ _ _ _ hzr
         have hS2 : (w2.setRow (w.heap.size + 1) #[.int .i64 s.rep, .int .i64 s.chk, .int .i64 s.upp, .int .i64 s.low, .slice a2 nc c2]).cell? ⟨w.heap.size, 9, none⟩ = some (.int .i64 s.rep) ∧ (w2.setRow (w.heap.size + 1) #[.int .i64 s.rep, .int .i64 s.chk, .int .i64 s.upp, .int .i64 s.low, .slice a2 nc c2]).cell? ⟨w.heap.size, 8, none⟩ = some (.int .i64 s.chk) ∧ (w2.setRow (w.heap.size + 1) #[.int .i64 s.rep, .int .i64 s.chk, .int .i64 s.upp, .int .i64 s.low, .slice a2 nc c2]).cell? ⟨w.heap.size, 10, none⟩ = some (.int .i64 s.upp) ∧ (w2.setRow (w.heap.size + 1) #[.int .i64 s.rep, .int .i64 s.chk, .int .i64 s.upp, .int .i64 s.low, .slice a2 nc c2]).cell? ⟨w.heap.size, 11, none⟩ = some (.int .i64 s.low) ∧ (w2.setRow (w.heap.size + 1) #[.int .i64 s.rep, .int .i64 s.chk, .int .i64 s.upp, .int .i64 s.low, .slice a2 nc c2]).cell? ⟨w.heap.size, 12, none⟩ = some (.slice (some ⟨g, off, none⟩) nc cc) := ⟨(cell_setRow2 HNe.out).trans hS1.1, (cell_setRow2 HNe.out).trans hS1.2.1, (cell_setRow2 HNe.out).trans hS1.2.2.1, (cell_setRow2 HNe.out).trans hS1.2.2.2.1, (cell_setRow2 HNe.out).trans hS1.2.2.2.2⟩
         clear hs2 hb2 hzr))
  have HEb : Hid (P (.returned (.tuple #[.agg #[.int .i64 s.rep, .int .i64 s.chk, .int .i64 s.upp, .int .i64 s.low, .slice a2 nc c2], .int .i64 0])) (w2.setRow (w.heap.size + 1) #[.int .i64 s.rep, .int .i64 s.chk, .int .i64 s.upp, .int .i64 s.low, .slice a2 nc c2])) := HGood.out _ _ _ _ HNc.out HZ0.out H8.out (own_low5 (HS2.out.blk2 (fun g hg => setRow_other2 _ (by have h1 := (HS2.out.lt g hg).1; have := HB1.out.size; have := HWs.out; omega))) (by have := HB1.out.size; have := HWs.out; omega)) (bl_setRow2 (HBW.out.trans (HB2.out.mono HBW.out.size)) (by omega) _)
  clear hS0 hS1 hS2 hst
  go_wp2
  have hlv := fun j => cell_of_row _ (w.heap.size + 1) j _ _ _ HRw.out
  refine bodyPost_ret (v := .tuple #[.agg #[.int .i64 s.rep, .int .i64 s.chk, .int .i64 s.upp, .int .i64 s.low, .slice a2 nc c2], .int .i64 0]) (by simp [results, Tryd.results38, go_sem, hlv]) rfl ?_
  exact HEb.out
set_option maxRecDepth 100000 in
set_option maxHeartbeats 8000000 in
theorem rqOf_any (s : Sg) (hv tv dv cv : Value) (hx tx : List Xr) (w : World) (hs : SIn w s hv tv dv cv hx tx) :
    Calls Tryd.prog 35 #[.agg (svC s hv tv dv cv)] w (Ofp (ofE s hx tx) (ofR s hx tx) w) := by
  obtain ⟨ah, ch, rfl, _⟩ := hs.head.shape
  obtain ⟨at2, ct, rfl, _⟩ := hs.tail.shape
  obtain ⟨ad, cd, rfl, _⟩ := hs.data.shape
  obtain ⟨ac, cc, rfl, _⟩ := hs.clm.shape
  obtain ⟨P, hP⟩ : ∃ P, Ofp (ofE s hx tx) (ofR s hx tx) w = P := ⟨_, rfl⟩
  obtain ⟨z, hz⟩ : ∃ z, (prt s hx tx).1 = z := ⟨_, rfl⟩
  have HZ : Hid ((prt s hx tx).1 = z) := hz
  have HBad : Hid (∀ E V, ofE s hx tx = E → ofR s hx tx = zrr → Below w.heap.size w V → P (.returned (.tuple #[.agg zrC, .int .i64 E])) V) := fun E V e1 e2 hV => by
    rw [← hP, e1, e2]
    exact ⟨none, 0, rfl, own_nil2 _ _, hV⟩
  have HGood : Hid (∀ n a c V, s.clm.length = n → z = 0 → s.typ = 8 → C.SOwn V w.heap.size (.slice a n c) s.clm → Below w.heap.size w V → P (.returned (.tuple #[.agg #[.int .i64 s.rep, .int .i64 s.chk, .int .i64 s.upp, .int .i64 s.low, .slice a n c], .int .i64 0])) V) := fun n a c V hn h0 h8 ho hV => by
    rw [← hP]
    have e1 : ofE s hx tx = 0 := by unfold ofE; rw [if_pos (hz.trans h0), if_pos h8]
    have e2 : ofR s hx tx = ⟨s.rep, s.chk, s.upp, s.low, s.clm⟩ := by unfold ofR; rw [if_pos ⟨hz.trans h0, h8⟩]
    rw [e1, e2]
    subst hn
    exact ⟨a, c, rfl, ho, hV⟩
  rw [hP]
  have HP8 : Hid (z = 0 → s.typ = 8 → 1 ≤ s.clm.length ∧ s.clm.length ≤ 1000) := fun h0 h8 => prt8 (hz.trans h0) h8
  generalize hx.length = nh at *
  generalize tx.length = nt at *
  generalize s.data.length = nd at *
  obtain ⟨nc, hnc⟩ : ∃ n, s.clm.length = n := ⟨_, rfl⟩
  have HNc : Hid (s.clm.length = nc) := hnc
  rw [hnc] at hs ⊢
  obtain ⟨W, hW⟩ : ∃ W, (w.alloc (.cells (svC s (.slice ah nh ch) (.slice at2 nt ct) (.slice ad nd cd) (.slice ac nc cc)) 81)).alloc (.cells zrC 75) = W := ⟨_, rfl⟩
  have HWe : Hid (_ = W) := hW
  have hbW : Below w.heap.size w W := by rw [← hW]; exact ((Below.refl _ _).alloc (Nat.le_refl _) _).alloc (by simp) _
  have HBW : Hid (Below w.heap.size w W) := hbW
  have HWs : Hid (W.heap.size = w.heap.size + 1 + 1) := by show _ = _; rw [← hW]; simp
  have HR0 : Hid (∀ V, Below W.heap.size W V → V.heap[w.heap.size]? = some (.cells (svC s (.slice ah nh ch) (.slice at2 nt ct) (.slice ad nd cd) (.slice ac nc cc)) 81 (0, 0))) := fun V hV => by
    have h1 : W.heap[w.heap.size]? = some (.cells (svC s (.slice ah nh ch) (.slice at2 nt ct) (.slice ad nd cd) (.slice ac nc cc)) 81 (0, 0)) := by rw [← hW]; exact al_old (al_new _ _)
    exact (hV.block _ (Array.getElem?_eq_some_iff.1 h1).1).trans h1
  have HR1 : Hid (∀ V, Below W.heap.size W V → V.heap[w.heap.size + 1]? = some (.cells zrC 75 (0, 0))) := fun V hV => by
    have h1 : W.heap[w.heap.size + 1]? = some (.cells zrC 75 (0, 0)) := by
      rw [← hW]
      have := al_new (w.alloc (.cells (svC s (.slice ah nh ch) (.slice at2 nt ct) (.slice ad nd cd) (.slice ac nc cc)) 81)) (.cells zrC 75)
      rwa [World.size_alloc] at this
    exact (hV.block _ (Array.getElem?_eq_some_iff.1 h1).1).trans h1
  have hRi := (rightR_any s _ _ _ _ hx tx W (hs.below hbW))
  rw [hz] at hRi
  have HC : Hid (∀ V, Below W.heap.size W V → CIn V (.slice ac nc cc) s.clm) := fun V hV => (hs.clm.below hbW).below hV
  obtain ⟨y0, y1, y2, y3, y4, y5, y6, y7, y8, y9, y10, y11, y12, y13⟩ := s14_cells (HR0.out W (Below.refl _ _))
  clear hW hbW hs hnc hP hz
  go_enter Tryd.func35, Tryd.ntmps35
  go_wp2_with fail
  rw [HWe.out]
  refine hRi.mono ?_
  rintro e w1 ⟨rfl, hb1⟩
  have HB1 : Hid (Below W.heap.size W w1) := hb1
  have HF1 : Hid (Below w.heap.size w w1) := HBW.out.trans (hb1.mono HBW.out.size)
  clear hRi hb1 y0 y1 y2 y3 y4 y5 y6 y7 y8 y9 y10 y11 y12 y13
  obtain ⟨y0, y1, y2, y3, y4, y5, y6, y7, y8, y9, y10, y11, y12, y13⟩ := s14_cells (HR0.out w1 HB1.out)
  have hzr := HR1.out w1 HB1.out
  have hst : Stor2 Tryd.prog 75 w1 (.pointer (some ⟨w.heap.size + 1, 0, none⟩)) (.agg zrC) := ⟨w.heap.size + 1, _, _, _, rfl, rfl, hzr, rfl, size_rp2, by simp [Value.oneCell']⟩
  have HRw : Hid ((w1.setRow (w.heap.size + 1) zrC).heap[w.heap.size + 1]? = some (.cells zrC 75 (0, 0))) := setRow_heap _ _ _ _ _ _ hzr
  have HEb : Hid (Below w.heap.size w (w1.setRow (w.heap.size + 1) zrC)) := bl_setRow2 HF1.out (by omega) _
  clear hzr
  by_cases hz0 : z = 0
  rotate_left
  · have e0 : (z != 0) = true := bne_iff_ne.mpr hz0
    have HE : Hid (P (.returned (.tuple #[.agg zrC, .int .i64 z])) (w1.setRow (w.heap.size + 1) zrC)) := HBad.out _ _ (by unfold ofE; rw [if_neg (by rw [HZ.out]; exact hz0), HZ.out]) (by unfold ofR; rw [if_neg (fun h => hz0 (HZ.out.symm.trans h.1))]) HEb.out
    clear hz0
    go_wp2
    have hlv := fun j => cell_of_row _ (w.heap.size + 1) j _ _ _ HRw.out
    refine bodyPost_ret (v := .tuple #[.agg zrC, .int .i64 z]) (by simp [results, Tryd.results35, go_sem, hlv]) rfl ?_
    exact HE.out
  have e0 : (z != 0) = false := by rw [hz0]; rfl
  have HZ0 : Hid (z = 0) := hz0
  by_cases h8 : s.typ = 8
  rotate_left
  · have e8 : (s.typ != 8) = true := bne_iff_ne.mpr h8
    have HE : Hid (P (.returned (.tuple #[.agg zrC, .int .i64 1])) (w1.setRow (w.heap.size + 1) zrC)) := HBad.out _ _ (by unfold ofE; rw [if_pos (HZ.out.trans HZ0.out), if_neg h8]) (by unfold ofR; rw [if_neg (fun h => h8 h.2)]) HEb.out
    clear hz0 h8
    go_wp2
    have hlv := fun j => cell_of_row _ (w.heap.size + 1) j _ _ _ HRw.out
    refine bodyPost_ret (v := .tuple #[.agg zrC, .int .i64 1]) (by simp [results, Tryd.results35, go_sem, hlv]) rfl ?_
    exact HE.out
  have e8 : (s.typ != 8) = false := by rw [h8]; rfl
  have H8 : Hid (s.typ = 8) := h8
  have hcl := HP8.out hz0 h8
  rw [HNc.out] at hcl
  clear hz0 h8 hst HRw HEb
  obtain ⟨i0, hi0, hz0, hz1, hz2⟩ := info_parts C.Tryd.info_span
  obtain ⟨p, hp⟩ := get_one s.clm 0 (by rw [HNc.out]; omega)
  obtain ⟨g, off, rfl, _⟩ := (HC.out w1 HB1.out).at hp
  clear hp
  have hst : Stor2 Tryd.prog 75 (w1.alloc (.cells zrC 75)) (.pointer (some ⟨w1.heap.size, 0, none⟩)) (.agg #[.int .i64 s.rep, .int .i64 s.chk, .int .i64 s.upp, .int .i64 s.low, .slice none 0 0]) := ⟨w1.heap.size, _, _, _, rfl, rfl, al_new _ _, rfl, size_rp2, by simp [Value.oneCell']⟩
  go_upto_region 7 with fail
  obtain ⟨w2, hw2⟩ : ∃ x, (w1.alloc (.cells zrC 75)).setRow w1.heap.size #[.int .i64 s.rep, .int .i64 s.chk, .int .i64 s.upp, .int .i64 s.low, .slice none 0 0] = x := ⟨_, rfl⟩
  have HX2 : Hid (w2.heap[w1.heap.size]? = some (.cells #[.int .i64 s.rep, .int .i64 s.chk, .int .i64 s.upp, .int .i64 s.low, .slice none 0 0] 75 (0, 0))) := by show _ = _; rw [← hw2]; exact setRow_heap _ _ _ _ _ _ (al_new _ _)
  have HB12 : Hid (Below w1.heap.size w1 w2) := by show Below _ _ _; rw [← hw2]; exact bl_setRow2 ((Below.refl _ _).alloc (Nat.le_refl _) _) (Nat.le_refl _) _
  have HS2 : Hid (w2.heap.size = w1.heap.size + 1) := by show _ = _; rw [← hw2]; simp [World.setRow]
  have HB2 : Hid (Below W.heap.size W w2) := HB1.out.trans (HB12.out.mono HB1.out.size)
  rw [hw2]
  clear hw2 hst y0 y1 y2 y3 y4 y5 y6 y7 y8 y9 y10 y11 y12 y13
  obtain ⟨y0, y1, y2, y3, y4, y5, y6, y7, y8, y9, y10, y11, y12, y13⟩ := s14_cells (HR0.out w2 HB2.out)
  have x4 : w2.cell? ⟨w1.heap.size, 4, none⟩ = some (.slice none 0 0) := (cell_of_row _ _ _ _ _ _ HX2.out).trans rfl
  have HSrc : Hid (∀ k u, (s.clm.flatMap C.spc)[k]? = some u → w2.cell? ((⟨g, off, none⟩ : Addr).add k) = some u) := cin_src (HC.out w2 HB2.out)
  have hcl2 := hcl.2
  have HL : Hid ((s.clm.flatMap C.spc).length = nc * 2) := by show _ = _; rw [C.spc_len, HNc.out]
  go_wp2_with (at_builtin; refine wpList_append_own_at _ rfl _ _ 26 rfl w2.heap.size 36 i0 (.agg #[.int .i64 0, .int .i64 0]) 2 16 Tryd.underlying26 hi0 hz0 hz1 hz2 rfl (by decide) _ _ _ rfl (World.ownsRow_nil _ _ _ _) ⟨g, off, none⟩ nc cc (s.clm.flatMap C.spc) rfl HL.out HSrc.out (C.spc_one _) (by unfold maxLen; omega) (by omega) (Nat.le_refl _) ?_)
  intro v3 w3 o3 g3 _ t3
  have hs3 : C.SOwn w3 w2.heap.size v3 s.clm := by unfold C.SOwn; rw [HNc.out]; simpa using o3
  obtain ⟨a3, c3, hv3⟩ := hs3.shape
  rw [HNc.out] at hv3
  subst hv3
  have HE3 : Hid (Below w2.heap.size w2 w3) := (Below.refl _ _).grown g3 (Nat.le_refl _) (fun k e => by cases e)
  have HS3 : Hid (C.SOwn w3 w2.heap.size (.slice a3 nc c3) s.clm) := hs3
  have HX3 : Hid (w3.heap[w1.heap.size]? = some (.cells #[.int .i64 s.rep, .int .i64 s.chk, .int .i64 s.upp, .int .i64 s.low, .slice none 0 0] 75 (0, 0))) := (HE3.out.block _ (by have := HS2.out; omega)).trans HX2.out
  have HB3 : Hid (Below W.heap.size W w3) := HB2.out.trans (HE3.out.mono HB2.out.size)
  clear o3 g3 t3 hs3 x4 y0 y1 y2 y3 y4 y5 y6 y7 y8 y9 y10 y11 y12 y13
  have f4 := frozen_of_row _ _ 4 _ _ HX3.out
  have x4 : w3.cell? ⟨w1.heap.size, 4, none⟩ = some (.slice none 0 0) := (cell_of_row _ _ _ _ _ _ HX3.out).trans rfl
  go_upto_region 8 with fail
  obtain ⟨w4, hw4⟩ : ∃ x, w3.setCell ⟨w1.heap.size, 4, none⟩ (.slice a3 nc c3) = x := ⟨_, rfl⟩
  have HX4 : Hid (w4.heap[w1.heap.size]? = some (.cells #[.int .i64 s.rep, .int .i64 s.chk, .int .i64 s.upp, .int .i64 s.low, .slice a3 nc c3] 75 (0, 0))) := by show _ = _; rw [← hw4]; exact heap_setCell_same _ _ _ _ _ _ HX3.out
  have HB4 : Hid (Below W.heap.size W w4) := by show Below _ _ _; rw [← hw4]; exact HB3.out.setCell (p := ⟨w1.heap.size, 4, none⟩) HB1.out.size _
  have HS4 : Hid (C.SOwn w4 w2.heap.size (.slice a3 nc c3) s.clm) := by show C.SOwn _ _ _ _; rw [← hw4]; exact HS3.out.blk2 (fun g hg => heap_setCell_other _ _ _ _ (by have h1 := (HS3.out.lt g hg).1; have := HS2.out; show g ≠ w1.heap.size; omega))
  rw [hw4]
  clear hw4 f4 x4
  have hzr := HR1.out w4 HB4.out
  have u0 : w4.cell? ⟨w1.heap.size, 0, none⟩ = some (.int .i64 s.rep) := (cell_of_row _ _ _ _ _ _ HX4.out).trans rfl
  have u1 : w4.cell? ⟨w1.heap.size, 1, none⟩ = some (.int .i64 s.chk) := (cell_of_row _ _ _ _ _ _ HX4.out).trans rfl
  have u2 : w4.cell? ⟨w1.heap.size, 2, none⟩ = some (.int .i64 s.upp) := (cell_of_row _ _ _ _ _ _ HX4.out).trans rfl
  have u3 : w4.cell? ⟨w1.heap.size, 3, none⟩ = some (.int .i64 s.low) := (cell_of_row _ _ _ _ _ _ HX4.out).trans rfl
  have u4 : w4.cell? ⟨w1.heap.size, 4, none⟩ = some (.slice a3 nc c3) := (cell_of_row _ _ _ _ _ _ HX4.out).trans rfl
  have hst : Stor2 Tryd.prog 75 w4 (.pointer (some ⟨w.heap.size + 1, 0, none⟩)) (.agg #[.int .i64 s.rep, .int .i64 s.chk, .int .i64 s.upp, .int .i64 s.low, .slice a3 nc c3]) := ⟨w.heap.size + 1, _, _, _, rfl, rfl, hzr, rfl, size_rp2, by simp [Value.oneCell']⟩
  have HRw : Hid ((w4.setRow (w.heap.size + 1) #[.int .i64 s.rep, .int .i64 s.chk, .int .i64 s.upp, .int .i64 s.low, .slice a3 nc c3]).heap[w.heap.size + 1]? = some (.cells #[.int .i64 s.rep, .int .i64 s.chk, .int .i64 s.upp, .int .i64 s.low, .slice a3 nc c3] 75 (0, 0))) := setRow_heap _ _ _ _ _ _ hzr
  have HEb : Hid (P (.returned (.tuple #[.agg #[.int .i64 s.rep, .int .i64 s.chk, .int .i64 s.upp, .int .i64 s.low, .slice a3 nc c3], .int .i64 0])) (w4.setRow (w.heap.size + 1) #[.int .i64 s.rep, .int .i64 s.chk, .int .i64 s.upp, .int .i64 s.low, .slice a3 nc c3])) := HGood.out _ _ _ _ HNc.out HZ0.out H8.out (own_low5 (HS4.out.blk2 (fun g hg => setRow_other2 _ (by have h1 := (HS4.out.lt g hg).1; have := HB2.out.size; have := HWs.out; omega))) (by have := HB2.out.size; have := HWs.out; omega)) (bl_setRow2 (HBW.out.trans (HB4.out.mono HBW.out.size)) (by omega) _)
  clear hzr
  go_wp2
  have hlv := fun j => cell_of_row _ (w.heap.size + 1) j _ _ _ HRw.out
  refine bodyPost_ret (v := .tuple #[.agg #[.int .i64 s.rep, .int .i64 s.chk, .int .i64 s.upp, .int .i64 s.low, .slice a3 nc c3], .int .i64 0]) (by simp [results, Tryd.results35, go_sem, hlv]) rfl ?_
  exact HEb.out

end Go.Proofs.YtkkmoplijicmpaeDoor

namespace Go.Proofs.YtkkmoplijicmpaeDoor

/-- An append of what lies at an address, as one step of a region that draws. -/
theorem step_append_at {P : Program} {ops : Array Oper} {o : Oper} {a : Act} {w : World} {K : Act → World → Prop} {Q : Exit → Act → World → Prop} {E : Prop}
    (hg : o.guard = none) (s x : Operand) (t : TypeId) (hop : o.op = Op.call { callee := Callee.builtin Builtin.append, args := #[s, x], argTypes := #[t, t] })
    (base : Nat) (e : TypeId) (i : TypeInfo) (z : Value) (size bytes : Nat) (ht : P.underlying t = some (.slice e)) (hi : P.info? e = some i) (hz : i.zero = some z)
    (hsize : i.size = size) (hby : i.bytes = bytes) (hzs : z.cells.size = size) (hsz : 0 < size)
    (v : Value) (n : Nat) (xs : List Value) (hs : a.eval s = v) (hown : w.ownsRow base e size v n xs)
    (ad : Addr) (m c : Nat) (news : List Value) (hx : a.eval x = .slice (some ad) m c) (hl : news.length = m * size) (hnews : ∀ j u, news[j]? = some u → w.cell? (ad.add j) = some u) (h1 : ∀ u ∈ news, u.oneCell' = true)
    (h63 : n + m ≤ maxLen) (hbytes : (n + m) * bytes ≤ 140737488355328) (hbase : base ≤ w.heap.size)
    (hK : ∀ v' w', w'.ownsRow base e size v' (n + m) (xs ++ news) → w.grownBy w' v.ownBlock → (v'.ownBlock = v.ownBlock ∨ v'.ownBlock = some w.heap.size) → K (a.put o.dst v') w') :
    if Region.wanted o (yielded ops a.tmps) = true then Oper.wp P o a w K Q else E := by
  have hw : Region.wanted o (yielded ops a.tmps) = true := by simp [Region.wanted, hg]
  rw [if_pos hw]
  obtain ⟨v', w', hrun, r2, r3, _, r5⟩ := run_append_own_at (P := P) w base t o.type e i z size bytes ht hi hz hsize hby hzs hsz v n xs hown ad m c news hl hnews h1 h63 hbytes hbase
  unfold Oper.wp
  simp [execOp, hop, resolve, invoke, builtin, hs, hx, hrun, Result.andThen]
  exact hK v' w' r2 r3 r5

end Go.Proofs.YtkkmoplijicmpaeDoor

namespace Go.Proofs.YtkkmoplijicmpaeDoor

/-- No operation defers. -/
def noDefer (ops : Array Oper) : Bool := ops.all fun o => match o.op with | .defer _ => false | _ => true
end Go.Proofs.YtkkmoplijicmpaeDoor
