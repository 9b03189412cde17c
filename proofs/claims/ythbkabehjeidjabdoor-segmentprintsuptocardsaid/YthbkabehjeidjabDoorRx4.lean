import Derived.Test.YthbkabehjeidjabDoorRx3A
import Derived.Test.YthbkabehjeidjabDoorRx2A
namespace Go.Proofs.YthbkabehjeidjabDoor
open Go.RowKit
set_option linter.unusedVariables false
set_option linter.unusedSimpArgs false

theorem rqLay_any (s : Sg) (hv tv dv cv : Value) (hx tx : List Xr) (w : World) (hs : SIn w s hv tv dv cv hx tx) (hk : shp s.typ % 2 = 1) (hw : Wr (shp s.typ) s hx tx) :
    Calls Tryd.prog 24 #[.agg (svC s hv tv dv cv)] w (FormP (layB (shp s.typ) s) w) := by
  obtain ⟨ah, ch, rfl, _⟩ := hs.head.shape
  obtain ⟨at2, ct, rfl, _⟩ := hs.tail.shape
  obtain ⟨ad, cd, rfl, _⟩ := hs.data.shape
  obtain ⟨ac, cc, rfl, _⟩ := hs.clm.shape
  rcases typ_of hk with ⟨e, h⟩ | ⟨e, h⟩ | ⟨e, h⟩ | ⟨e, h⟩ | ⟨e, h⟩ | ⟨e, h⟩
  · rw [e] at hw ⊢; exact rqL_3 s _ _ _ _ _ _ _ _ _ _ _ _ hx tx w hs rfl rfl rfl rfl h hw
  · rw [e] at hw ⊢; exact rqL_7 s _ _ _ _ _ _ _ _ _ _ _ _ hx tx w hs rfl rfl rfl rfl h hw
  · rw [e] at hw ⊢; exact rqL_9 s _ _ _ _ _ _ _ _ _ _ _ _ hx tx w hs rfl rfl rfl rfl h hw
  · rw [e] at hw ⊢; exact rqL_17 s _ _ _ _ _ _ _ _ _ _ _ _ hx tx w hs rfl rfl rfl rfl h hw
  · rcases h with h | h
    · rw [e] at hw ⊢; exact rqL_33a s _ _ _ _ _ _ _ _ _ _ _ _ hx tx w hs rfl rfl rfl rfl h hw
    · rw [e] at hw ⊢; exact rqL_33b s _ _ _ _ _ _ _ _ _ _ _ _ hx tx w hs rfl rfl rfl rfl h hw
  · rw [e] at hw ⊢; exact rqL_1 s _ _ _ _ _ _ _ _ _ _ _ _ hx tx w hs rfl rfl rfl rfl h hw

set_option maxRecDepth 100000 in
set_option maxHeartbeats 8000000 in
/-- THE REFERENCE'S PRINT OF ANY SEGMENT. -/
theorem rqPrint_any (s : Sg) (hv tv dv cv : Value) (hx tx : List Xr) (w : World) (hs : SIn w s hv tv dv cv hx tx) :
    Calls Tryd.prog 9 #[.agg (svC s hv tv dv cv)] w (PrintP s hx tx w) := by
  obtain ⟨P, hP⟩ : ∃ P, PrintP s hx tx w = P := ⟨_, rfl⟩
  have HBad : Hid (∀ z V, prt s hx tx = (z, []) → Below w.heap.size w V → P (.returned (.tuple #[.slice none 0 0, .int .i64 z])) V) := fun z V hz hV => by
    rw [← hP]
    refine ⟨none, 0, by rw [hz]; rfl, ?_, hV⟩
    rw [hz]
    exact World.ownsRow_nil _ _ _ _
  have HGood : Hid (∀ a m c V bs, prt s hx tx = (0, bs) → V.ownsRow w.heap.size 5 1 (.slice a m c) m (bs.map (Value.int .u8)) → bs.length = m → Below w.heap.size w V → P (.returned (.tuple #[.slice a m c, .int .i64 0])) V) := fun a m c V bs hz ho hm hV => by
    rw [← hP]
    refine ⟨a, c, by rw [hz, ← hm], ?_, hV⟩
    rw [hz]
    subst hm
    exact ho
  rw [hP]
  obtain ⟨W, hW⟩ : ∃ W, w.alloc (.cells (svC s hv tv dv cv) 28) = W := ⟨_, rfl⟩
  have HWe : Hid (w.alloc (.cells (svC s hv tv dv cv) 28) = W) := hW
  have HWs : Hid (W.heap.size = w.heap.size + 1) := by show _ = _; rw [← hW, World.size_alloc]
  have hbW : Below w.heap.size w W := by rw [← hW]; exact (Below.refl _ _).alloc (Nat.le_refl _) _
  have HBW : Hid (Below w.heap.size w W) := hbW
  have HR : Hid (∀ V, Below W.heap.size W V → V.heap[w.heap.size]? = some (.cells (svC s hv tv dv cv) 28 (0, 0))) := fun V hV => by
    have h1 : W.heap[w.heap.size]? = some (.cells (svC s hv tv dv cv) 28 (0, 0)) := by rw [← hW]; exact al_new _ _
    exact (hV.block _ (Array.getElem?_eq_some_iff.1 h1).1).trans h1
  have HS : Hid (∀ V, Below W.heap.size W V → SIn V s hv tv dv cv hx tx) := fun V hV => (hs.below hbW).below hV
  have hKn := rqKnown_any s.typ W
  obtain ⟨y0, y1, y2, y3, y4, y5, y6, y7, y8, y9, y10, y11, y12, y13⟩ := s14_cells (HR.out W (Below.refl _ _))
  clear hW hbW hs hP
  by_cases hk : shp s.typ % 2 = 1
  rotate_left
  · have e1 : decide (shp s.typ % 2 = 1) = false := decide_eq_false hk
    rw [e1] at hKn
    have HZ : Hid (prt s hx tx = (21, [])) := by show _ = _; unfold prt; rw [if_pos hk]
    have HF : Hid (P (.returned (.tuple #[.slice none 0 0, .int .i64 21])) W) := HBad.out _ _ HZ.out HBW.out
    clear hk
    go_enter Tryd.func9, Tryd.ntmps9
    go_wp2_with fail
    rw [HWe.out]
    refine hKn.mono ?_
    rintro e w1 ⟨rfl, hw1⟩
    subst hw1
    clear hKn
    go_wp2
    first | exact HF.out | (go_ret2; exact HF.out)
  have e1 : decide (shp s.typ % 2 = 1) = true := decide_eq_true hk
  rw [e1] at hKn
  have HK : Hid (shp s.typ % 2 = 1) := hk
  obtain ⟨qm, hqm⟩ : ∃ q, may (shp s.typ) s hx tx = q := ⟨_, rfl⟩
  have HQ : Hid (may (shp s.typ) s hx tx = qm) := hqm
  have hF := rqFields_any s hv tv dv cv hx tx W (HS.out W (Below.refl _ _)) hk
  rw [hqm] at hF
  clear hk hqm e1
  go_enter Tryd.func9, Tryd.ntmps9
  go_wp2_with fail
  rw [HWe.out]
  refine hKn.mono ?_
  rintro e w1 ⟨rfl, hw1⟩
  subst hw1
  clear hKn
  go_wp2_with fail
  refine hF.mono ?_
  rintro e w2 ⟨rfl, hb2⟩
  have HB2 : Hid (Below W.heap.size W w2) := hb2
  have HC2 : Hid (Below w.heap.size w w2) := HBW.out.trans (hb2.mono HBW.out.size)
  clear y0 y1 y2 y3 y4 y5 y6 y7 y8 y9 y10 y11 y12 y13 hF
  obtain ⟨y0, y1, y2, y3, y4, y5, y6, y7, y8, y9, y10, y11, y12, y13⟩ := s14_cells (HR.out w2 hb2)
  clear hb2
  cases qm with
  | false =>
    have HZ : Hid (prt s hx tx = (23, [])) := by show _ = _; unfold prt; rw [if_neg (fun h => h HK.out), if_pos HQ.out]
    have HF : Hid (P (.returned (.tuple #[.slice none 0 0, .int .i64 23])) w2) := HBad.out _ _ HZ.out HC2.out
    go_wp2
    first | exact HF.out | (go_ret2; exact HF.out)
  | true =>
    have hLa := rqLay_any s hv tv dv cv hx tx w2 (HS.out w2 HB2.out) HK.out (wr_of HK.out HQ.out)
    go_wp2_with fail
    refine hLa.mono ?_
    rintro e w3 ⟨v3, rfl, ho3, hb3⟩
    have HC3 : Hid (Below w.heap.size w w3) := HC2.out.trans (hb3.mono HC2.out.size)
    obtain ⟨m, hm⟩ : ∃ m, (layB (shp s.typ) s).length = m := ⟨_, rfl⟩
    have HM : Hid ((layB (shp s.typ) s).length = m) := hm
    rw [hm] at ho3
    obtain ⟨b, cb, rfl⟩ := own_sl5 ho3
    have HO3 : Hid (w3.ownsRow w.heap.size 5 1 (.slice b m cb) m ((layB (shp s.typ) s).map (Value.int .u8))) := own_low5 ho3 (by have := HC2.out.size; omega)
    clear hLa ho3 hb3 hm y0 y1 y2 y3 y4 y5 y6 y7 y8 y9 y10 y11 y12 y13
    by_cases h8 : (8192 : Int) < (m : Int)
    · have d8 : decide ((8192 : Int) < (m : Int)) = true := decide_eq_true h8
      have HZ : Hid (prt s hx tx = (3, [])) := by show _ = _; unfold prt; rw [if_neg (fun h => h HK.out), if_neg (by rw [HQ.out]; simp), if_pos (by rw [HM.out]; omega)]
      have HF : Hid (P (.returned (.tuple #[.slice none 0 0, .int .i64 3])) w3) := HBad.out _ _ HZ.out HC3.out
      go_wp2
      first | exact HF.out | (go_ret2; exact HF.out)
    · have d8 : decide ((8192 : Int) < (m : Int)) = false := decide_eq_false h8
      have HZ : Hid (prt s hx tx = (0, layB (shp s.typ) s)) := by show _ = _; unfold prt; rw [if_neg (fun h => h HK.out), if_neg (by rw [HQ.out]; simp), if_neg (by rw [HM.out]; omega)]
      have HF : Hid (P (.returned (.tuple #[.slice b m cb, .int .i64 0])) w3) := HGood.out _ _ _ _ _ HZ.out HO3.out HM.out HC3.out
      go_wp2
      first | exact HF.out | (go_ret2; exact HF.out)

end Go.Proofs.YthbkabehjeidjabDoor
