import Derived.Test.YtdfdaambfihjaaaDoorRx3F
import Derived.Test.YtdfdaambfihjaaaDoorRx2B
import Derived.Test.YtdfdaambfihjaaaDoorRx2D
import Derived.Test.YtdfdaambfihjaaaDoorRx3
import Derived.Test.YtdfdaambfihjaaaDoorRx3B
import Derived.Test.YtdfdaambfihjaaaDoorRx3D
import Derived.Test.YtdfdaambfihjaaaDoorBody
import Derived.Test.YtdfdaambfihjaaaDoorRpO
import Derived.Deep.RegionHeld3
import Derived.BigQuiet
namespace Go.Proofs.YtdfdaambfihjaaaDoor
open Go.RowKit
set_option linter.unusedVariables false
set_option linter.unusedSimpArgs false

theorem rqFields_any (s : Sg) (hv tv dv cv : Value) (hx tx : List Xr) (w : World) (hs : SIn w s hv tv dv cv hx tx) (hk : shp s.typ % 2 = 1) :
    Calls Tryd.prog 71 #[.agg (svC s hv tv dv cv)] w fun e w' => e = .returned (.bool (may (shp s.typ) s hx tx)) ∧ Below w.heap.size w w' := by
  obtain ⟨ah, ch, rfl, _⟩ := hs.head.shape
  obtain ⟨at2, ct, rfl, _⟩ := hs.tail.shape
  obtain ⟨ad, cd, rfl, _⟩ := hs.data.shape
  obtain ⟨ac, cc, rfl, _⟩ := hs.clm.shape
  rcases typ_of hk with ⟨e, h⟩ | ⟨e, h⟩ | ⟨e, h⟩ | ⟨e, h⟩ | ⟨e, h⟩ | ⟨e, h⟩
  · rw [e]; exact rqF_3 s _ _ _ _ _ _ _ _ _ _ _ _ hx tx w hs rfl rfl h
  · rw [e]; exact rqF_7 s _ _ _ _ _ _ _ _ _ _ _ _ hx tx w hs rfl rfl h
  · rw [e]; exact rqF_9 s _ _ _ _ _ _ _ _ _ _ _ _ hx tx w hs rfl rfl h
  · rw [e]; exact rqF_17 s _ _ _ _ _ _ _ _ _ _ _ _ hx tx w hs rfl rfl h
  · rcases h with h | h
    · rw [e]; exact rqF_33a s _ _ _ _ _ _ _ _ _ _ _ _ hx tx w hs rfl rfl h
    · rw [e]; exact rqF_33b s _ _ _ _ _ _ _ _ _ _ _ _ hx tx w hs rfl rfl h
  · rw [e]; exact rqF_1 s _ _ _ _ _ _ _ _ _ _ _ _ hx tx w hs rfl rfl h

end Go.Proofs.YtdfdaambfihjaaaDoor

namespace Go.Proofs.YtdfdaambfihjaaaDoor
open Go.RowKit
set_option linter.unusedVariables false
set_option linter.unusedSimpArgs false

theorem rqLay_any (s : Sg) (hv tv dv cv : Value) (hx tx : List Xr) (w : World) (hs : SIn w s hv tv dv cv hx tx) (hk : shp s.typ % 2 = 1) (hw : Wr (shp s.typ) s hx tx) :
    Calls Tryd.prog 72 #[.agg (svC s hv tv dv cv)] w (FormP (layB (shp s.typ) s) w) := by
  obtain ⟨ah, ch, rfl, _⟩ := hs.head.shape
  obtain ⟨at2, ct, rfl, _⟩ := hs.tail.shape
  obtain ⟨ad, cd, rfl, _⟩ := hs.data.shape
  obtain ⟨ac, cc, rfl, _⟩ := hs.clm.shape
  rcases typ_of hk with ⟨e, h⟩ | ⟨e, h⟩ | ⟨e, h⟩ | ⟨e, h⟩ | ⟨e, h⟩ | ⟨e, h⟩
  · rw [e] at hw ⊢; exact rqL_3 s _ _ _ _ _ _ _ _ _ _ _ _ hx tx w hs rfl rfl rfl rfl h hw
  · rw [e] at hw ⊢; exact rqL_7 s _ _ _ _ _ _ _ _ _ _ _ _ hx tx w hs rfl rfl rfl rfl h hw
  · rw [e] at hw ⊢; exact rqL_9 s _ _ _ _ _ _ _ _ _ _ _ _ hx tx w hs rfl rfl rfl rfl h hw
  · rw [e] at hw ⊢; exact rqL_17 s _ _ _ _ _ _ _ _ _ _ _ _ hx tx w hs rfl rfl rfl rfl h hw
  · rcases h with h | h
    · rw [e] at hw ⊢; exact rqL_33a s _ _ _ _ _ _ _ _ _ _ _ _ hx tx w hs rfl rfl rfl rfl h hw
    · rw [e] at hw ⊢; exact rqL_33b s _ _ _ _ _ _ _ _ _ _ _ _ hx tx w hs rfl rfl rfl rfl h hw
  · rw [e] at hw ⊢; exact rqL_1 s _ _ _ _ _ _ _ _ _ _ _ _ hx tx w hs rfl rfl rfl rfl h hw

set_option maxRecDepth 100000 in
set_option maxHeartbeats 8000000 in
/-- THE REFERENCE'S PRINT OF ANY SEGMENT. -/
theorem rqPrint_any (s : Sg) (hv tv dv cv : Value) (hx tx : List Xr) (w : World) (hs : SIn w s hv tv dv cv hx tx) :
    Calls Tryd.prog 62 #[.agg (svC s hv tv dv cv)] w (PrintP s hx tx w) := by
  obtain ⟨P, hP⟩ : ∃ P, PrintP s hx tx w = P := ⟨_, rfl⟩
  have HBad : Hid (∀ z V, prt s hx tx = (z, []) → Below w.heap.size w V → P (.returned (.tuple #[.slice none 0 0, .int .i64 z])) V) := fun z V hz hV => by
    rw [← hP]
    refine ⟨none, 0, by rw [hz]; rfl, ?_, hV⟩
    rw [hz]
    exact World.ownsRow_nil _ _ _ _
  have HGood : Hid (∀ a m c V bs, prt s hx tx = (0, bs) → V.ownsRow w.heap.size 5 1 (.slice a m c) m (bs.map (Value.int .u8)) → bs.length = m → Below w.heap.size w V → P (.returned (.tuple #[.slice a m c, .int .i64 0])) V) := fun a m c V bs hz ho hm hV => by
    rw [← hP]
    refine ⟨a, c, by rw [hz, ← hm], ?_, hV⟩
    rw [hz]
    subst hm
    exact ho
  rw [hP]
  obtain ⟨W, hW⟩ : ∃ W, w.alloc (.cells (svC s hv tv dv cv) 37) = W := ⟨_, rfl⟩
  have HWe : Hid (w.alloc (.cells (svC s hv tv dv cv) 37) = W) := hW
  have HWs : Hid (W.heap.size = w.heap.size + 1) := by show _ = _; rw [← hW, World.size_alloc]
  have hbW : Below w.heap.size w W := by rw [← hW]; exact (Below.refl _ _).alloc (Nat.le_refl _) _
  have HBW : Hid (Below w.heap.size w W) := hbW
  have HR : Hid (∀ V, Below W.heap.size W V → V.heap[w.heap.size]? = some (.cells (svC s hv tv dv cv) 37 (0, 0))) := fun V hV => by
    have h1 : W.heap[w.heap.size]? = some (.cells (svC s hv tv dv cv) 37 (0, 0)) := by rw [← hW]; exact al_new _ _
    exact (hV.block _ (Array.getElem?_eq_some_iff.1 h1).1).trans h1
  have HS : Hid (∀ V, Below W.heap.size W V → SIn V s hv tv dv cv hx tx) := fun V hV => (hs.below hbW).below hV
  have hKn := rqKnown_any s.typ W
  obtain ⟨y0, y1, y2, y3, y4, y5, y6, y7, y8, y9, y10, y11, y12, y13⟩ := s14_cells (HR.out W (Below.refl _ _))
  clear hW hbW hs hP
  by_cases hk : shp s.typ % 2 = 1
  rotate_left
  · have e1 : decide (shp s.typ % 2 = 1) = false := decide_eq_false hk
    rw [e1] at hKn
    have HZ : Hid (prt s hx tx = (21, [])) := by show _ = _; unfold prt; rw [if_pos hk]
    have HF : Hid (P (.returned (.tuple #[.slice none 0 0, .int .i64 21])) W) := HBad.out _ _ HZ.out HBW.out
    clear hk
    go_enter Tryd.func62, Tryd.ntmps62
    go_wp2_with fail
    rw [HWe.out]
    refine hKn.mono ?_
    rintro e w1 ⟨rfl, hw1⟩
    subst hw1
    clear hKn
    go_wp2
    first | exact HF.out | (go_ret2; exact HF.out)
  have e1 : decide (shp s.typ % 2 = 1) = true := decide_eq_true hk
  rw [e1] at hKn
  have HK : Hid (shp s.typ % 2 = 1) := hk
  obtain ⟨qm, hqm⟩ : ∃ q, may (shp s.typ) s hx tx = q := ⟨_, rfl⟩
  have HQ : Hid (may (shp s.typ) s hx tx = qm) := hqm
  have hF := rqFields_any s hv tv dv cv hx tx W (HS.out W (Below.refl _ _)) hk
  rw [hqm] at hF
  clear hk hqm e1
  go_enter Tryd.func62, Tryd.ntmps62
  go_wp2_with fail
  rw [HWe.out]
  refine hKn.mono ?_
  rintro e w1 ⟨rfl, hw1⟩
  subst hw1
  clear hKn
  go_wp2_with fail
  refine hF.mono ?_
  rintro e w2 ⟨rfl, hb2⟩
  have HB2 : Hid (Below W.heap.size W w2) := hb2
  have HC2 : Hid (Below w.heap.size w w2) := HBW.out.trans (hb2.mono HBW.out.size)
  clear y0 y1 y2 y3 y4 y5 y6 y7 y8 y9 y10 y11 y12 y13 hF
  obtain ⟨y0, y1, y2, y3, y4, y5, y6, y7, y8, y9, y10, y11, y12, y13⟩ := s14_cells (HR.out w2 hb2)
  clear hb2
  cases qm with
  | false =>
    have HZ : Hid (prt s hx tx = (23, [])) := by show _ = _; unfold prt; rw [if_neg (fun h => h HK.out), if_pos HQ.out]
    have HF : Hid (P (.returned (.tuple #[.slice none 0 0, .int .i64 23])) w2) := HBad.out _ _ HZ.out HC2.out
    go_wp2
    first | exact HF.out | (go_ret2; exact HF.out)
  | true =>
    have hLa := rqLay_any s hv tv dv cv hx tx w2 (HS.out w2 HB2.out) HK.out (wr_of HK.out HQ.out)
    go_wp2_with fail
    refine hLa.mono ?_
    rintro e w3 ⟨v3, rfl, ho3, hb3⟩
    have HC3 : Hid (Below w.heap.size w w3) := HC2.out.trans (hb3.mono HC2.out.size)
    obtain ⟨m, hm⟩ : ∃ m, (layB (shp s.typ) s).length = m := ⟨_, rfl⟩
    have HM : Hid ((layB (shp s.typ) s).length = m) := hm
    rw [hm] at ho3
    obtain ⟨b, cb, rfl⟩ := own_sl5 ho3
    have HO3 : Hid (w3.ownsRow w.heap.size 5 1 (.slice b m cb) m ((layB (shp s.typ) s).map (Value.int .u8))) := own_low5 ho3 (by have := HC2.out.size; omega)
    clear hLa ho3 hb3 hm y0 y1 y2 y3 y4 y5 y6 y7 y8 y9 y10 y11 y12 y13
    by_cases h8 : (8192 : Int) < (m : Int)
    · have d8 : decide ((8192 : Int) < (m : Int)) = true := decide_eq_true h8
      have HZ : Hid (prt s hx tx = (3, [])) := by show _ = _; unfold prt; rw [if_neg (fun h => h HK.out), if_neg (by rw [HQ.out]; simp), if_pos (by rw [HM.out]; omega)]
      have HF : Hid (P (.returned (.tuple #[.slice none 0 0, .int .i64 3])) w3) := HBad.out _ _ HZ.out HC3.out
      go_wp2
      first | exact HF.out | (go_ret2; exact HF.out)
    · have d8 : decide ((8192 : Int) < (m : Int)) = false := decide_eq_false h8
      have HZ : Hid (prt s hx tx = (0, layB (shp s.typ) s)) := by show _ = _; unfold prt; rw [if_neg (fun h => h HK.out), if_neg (by rw [HQ.out]; simp), if_neg (by rw [HM.out]; omega)]
      have HF : Hid (P (.returned (.tuple #[.slice b m cb, .int .i64 0])) w3) := HGood.out _ _ _ _ _ HZ.out HO3.out HM.out HC3.out
      go_wp2
      first | exact HF.out | (go_ret2; exact HF.out)

end Go.Proofs.YtdfdaambfihjaaaDoor

namespace Go.Proofs.YtdfdaambfihjaaaDoor
open Go.RowKit
set_option linter.unusedVariables false
set_option linter.unusedSimpArgs false

theorem q2size_u8 : (Tryd.prog.info? 5).map (·.size) = some 1 := by kernel_rfl
theorem q2made (n : Nat) : (madeCells (Value.cells (.int .u8 0)) (n * 1)).toList = (List.replicate n (0 : Int)).map (Value.int .u8) := by
  simp [madeCells, Value.cells, Nat.mod_one, List.map_const']
theorem q2full {w : World} {base n g : Nat} {e : TypeId} {xs : List Value} (h : w.ownsRow base e 1 (.slice (some ⟨g, 0, none⟩) n n) n xs) : w.heap[g]? = some (.cells xs.toArray e (0, 0)) := by
  obtain ⟨_, ⟨hv, _⟩ | ⟨g', cap, cur, hv, _, hg, _, _, hs, ht⟩⟩ := h
  · cases hv
  · simp only [Value.slice.injEq, Option.some.injEq, Addr.mk.injEq, and_true, true_and] at hv
    obtain ⟨rfl, rfl⟩ := hv
    rw [List.take_of_length_le (by simp; omega)] at ht
    rw [hg, ← ht]
theorem q2splice (zs : List Int) (n : Nat) (hl : zs.length = n) : splice ((List.replicate (n + 2) (0 : Int)).map (Value.int .u8)) 0 (zs.map (Value.int .u8)) = (zs ++ [0, 0]).map (Value.int .u8) := by
  subst hl
  simp [splice, show zs.length + 2 - zs.length = 2 from by omega]
theorem q2set1 {α : Type} (zs : List α) (n : Nat) (hl : zs.length = n) (a b c : α) : (zs ++ [a, b]).set n c = zs ++ [c, b] := by
  rw [List.set_append_right _ _ (by omega), hl, Nat.sub_self]; rfl
theorem q2set2 {α : Type} (zs : List α) (n : Nat) (hl : zs.length = n) (a b c : α) : (zs ++ [a, b]).set (n + 1) c = zs ++ [a, c] := by
  rw [List.set_append_right _ _ (by omega), hl, show n + 1 - n = 1 by omega]; rfl
theorem q2get1 {α : Type} (zs : List α) (n : Nat) (hl : zs.length = n) (a b : α) : (zs ++ [a, b])[n]? = some a := by
  rw [List.getElem?_append_right (by omega), hl, Nat.sub_self]; rfl
theorem q2get2 {α : Type} (zs : List α) (n : Nat) (hl : zs.length = n) (a b : α) : (zs ++ [a, b])[n + 1]? = some b := by
  rw [List.getElem?_append_right (by omega), hl, show n + 1 - n = 1 by omega]; rfl
theorem Lies.cells2 {W : World} {a : Option Addr} {zs : List Int} (h : Lies .u8 W a zs) (hp : 0 < (zs.map (Value.int .u8)).length) : ∃ ad, a = some ad ∧ ∀ j v, (zs.map (Value.int .u8))[j]? = some v → W.cell? (ad.add j) = some v := by
  rcases h with rfl | ⟨b, off, rfl, h⟩
  · simp at hp
  · refine ⟨_, rfl, fun j v hj => ?_⟩
    have hjl : j < zs.length := by
      rcases Nat.lt_or_ge j zs.length with q | q
      · exact q
      · rw [List.getElem?_eq_none (by simpa using q)] at hj; cases hj
    rw [List.getElem?_map, List.getElem?_eq_getElem hjl] at hj
    simp only [Option.map_some, Option.some.injEq] at hj
    rw [show (⟨b, off, none⟩ : Addr).add j = ⟨b, off + j, none⟩ from by unfold Addr.add; split <;> simp_all, h j hjl, ← hj]
    simp [List.getD_eq_getElem?_getD, List.getElem?_eq_getElem hjl]

/-- Bytes that were lent: two marks behind them. -/
def mk2 (zs : List Int) : List Int := zs ++ [171, 172]
theorem mk2_len (zs : List Int) : (mk2 zs).length = zs.length + 2 := by simp [mk2]
theorem mk2_take (zs : List Int) : (mk2 zs).take zs.length = zs := by simp [mk2]

set_option maxRecDepth 100000 in
set_option maxHeartbeats 4000000 in
/-- LentBytes of any bytes. -/
theorem lentBytes_any {v : Value} {zs : List Int} {w : World} (h : BIn w v zs) :
    Calls Tryd.prog 36 #[v] w fun e w' => e = .returned (.slice (some ⟨w.heap.size, 0, none⟩) zs.length (zs.length + 2)) ∧ Blk .u8 w' w.heap.size 5 (mk2 zs) ∧ Below w.heap.size w w' := by
  obtain ⟨i0, hi, hz0, hz1, hz2⟩ := info_parts Tryd.info_u8
  have hm := h.small
  obtain ⟨a, c, rfl, hl, _⟩ := h.shape
  obtain ⟨n, hn⟩ : ∃ n, zs.length = n := ⟨_, rfl⟩
  have HN : Hid (zs.length = n) := hn
  rw [hn] at hm ⊢
  have HL : Hid (∀ X, Below w.heap.size w X → Lies .u8 X a zs) := fun X hX => hl.below hX
  have hw1 : IntKind.i64.wrap ((n : Int) + 2) = (n : Int) + 2 := by rw [IntKind.wrap_i64]; omega
  have hw2 : IntKind.i64.wrap ((n : Int) + 1) = (n : Int) + 1 := by rw [IntKind.wrap_i64]; omega
  clear h hl hn
  go_enter Tryd.func36, Tryd.ntmps36
  go_upto_region 3 with (first
    | (at_make; refine wpList_make_full _ rfl _ _ 34 rfl w.heap.size 5 i0 (.int .u8 0) 1 Tryd.underlying34 hi hz0 hz1 .i64 .i64 _ _ (n + 2) rfl rfl (by simp) (by simp) (by rw [hz2]; omega) (by unfold maxLen; omega) (Nat.le_refl _) ?_
       intro w1 hown1 hgrow1
       have HB1 : Hid (Below w.heap.size w w1) := (Below.refl _ _).grown hgrow1 (Nat.le_refl _) (by intro j hj; cases hj)
       have HG1 : Hid (w1.heap[w.heap.size]? = some (.cells ((List.replicate (n + 2) (0 : Int)).map (Value.int .u8)).toArray 5 (0, 0))) := (by rw [q2made] at hown1; exact q2full hown1)
       clear hown1 hgrow1)
    | (refine wpList_copy_splice rfl (.tmp 8) (.tmp 9) 34 34 rfl 5 Tryd.underlying34 q2size_u8 _ _ _ _ _ _ rfl rfl w.heap.size 0 _ 5 HG1.out (zs.map (Value.int .u8)) (by have := HN.out; simp; omega) (fun hp => ⟨rfl, (HL.out w1 HB1.out).cells2 hp⟩) (by have := HN.out; simp; omega) (by intro v hv; simp at hv; obtain ⟨x, _, rfl⟩ := hv; rfl) w.heap.size w HB1.out (Nat.le_refl _) ?_
       intro w2 HG2 hb2
       have HB2 : Hid (Below w.heap.size w w2) := hb2
       clear hb2)
    | go_in)
  have hblk : Blk .u8 w2 w.heap.size 5 (zs ++ [0, 0]) := by
    have := HG2.out; rw [q2splice zs n HN.out] at this; exact this
  have k1 := hblk.cell n (by have := HN.out; simp; omega)
  have k2 := hblk.frozen n
  have b3 := hblk.set n 171
  rw [q2set1 _ _ HN.out] at b3
  have k3 := b3.cell (n + 1) (by have := HN.out; simp; omega)
  have k4 := b3.frozen (n + 1)
  have b4 := b3.set (n + 1) 172
  rw [q2set2 _ _ HN.out] at b4
  have HB4 : Hid (Below w.heap.size w ((w2.setCell ⟨w.heap.size, n, none⟩ (.int .u8 171)).setCell ⟨w.heap.size, n + 1, none⟩ (.int .u8 172))) := (HB2.out.setCell (p := ⟨w.heap.size, n, none⟩) (Nat.le_refl _) _).setCell (p := ⟨w.heap.size, n + 1, none⟩) (Nat.le_refl _) _
  have HBK : Hid (Blk .u8 ((w2.setCell ⟨w.heap.size, n, none⟩ (.int .u8 171)).setCell ⟨w.heap.size, n + 1, none⟩ (.int .u8 172)) w.heap.size 5 (mk2 zs)) := b4
  have e1 : (zs ++ [0, 0]).getD n 0 = 0 := by rw [List.getD_eq_getElem?_getD, q2get1 _ _ HN.out]; rfl
  have e2 : (zs ++ [171, 0]).getD (n + 1) 0 = 0 := by rw [List.getD_eq_getElem?_getD, q2get2 _ _ HN.out]; rfl
  rw [e1] at k1
  rw [e2] at k3
  have hl1 : (n : Int) < (n : Int) + 2 := by omega
  have hl2 : (n : Int) + 1 < (n : Int) + 2 := by omega
  clear hblk b3 b4 e1 e2 HG1 HG2 HB1 HB2
  go_wp2
  go_ret
  exact ⟨rfl, HBK.out, HB4.out⟩

theorem Blk.bin2 {w : World} {g : Nat} {zs : List Int} (h : Blk .u8 w g 5 (mk2 zs)) (hb : Bytey zs) (hs : zs.length ≤ 1048576) : BIn w (.slice (some ⟨g, 0, none⟩) zs.length (zs.length + 2)) zs := by
  refine ⟨⟨_, _, rfl, ?_, (fun h => by cases h), by omega, by omega⟩, hb, hs⟩
  have := h.lies zs.length
  rwa [mk2_take] at this

set_option maxRecDepth 100000 in
set_option maxHeartbeats 4000000 in
/-- KeptBytes of bytes that are as they were. -/
theorem keptBytes_any {v : Value} {zs : List Int} {w : World} {g : Nat} (h : BIn w v zs) (hg : Blk .u8 w g 5 (mk2 zs)) :
    Calls Tryd.prog 47 #[.slice (some ⟨g, 0, none⟩) zs.length (zs.length + 2), v] w fun e w' => e = .returned (.bool true) ∧ Below w.heap.size w w' := by
  have hm := h.small
  have hl2 : Lies .u8 w (some ⟨g, 0, none⟩) zs := by have := hg.lies zs.length; rwa [mk2_take] at this
  obtain ⟨a, c, rfl, hl, _⟩ := h.shape
  have k1 := hg.cell zs.length (by rw [mk2_len]; omega)
  have k2 := hg.cell (zs.length + 1) (by rw [mk2_len]; omega)
  rw [List.getD_eq_getElem?_getD, mk2, q2get1 _ _ rfl] at k1
  rw [List.getD_eq_getElem?_getD, mk2, q2get2 _ _ rfl] at k2
  simp only [Option.getD_some] at k1 k2
  obtain ⟨n, hn⟩ : ∃ n, zs.length = n := ⟨_, rfl⟩
  rw [hn] at hm k1 k2 ⊢
  have c1 : ∀ nd cc, (convert 34 9 (.slice (some ⟨g, 0, none⟩) n cc)).run Tryd.prog (w.drewN nd) = .ok (.string (strOfNums zs)) (w.drewN nd) := fun nd cc => conv_any _ _ _ _ _ hn (hl2.drewN nd)
  have c2 : ∀ nd, (convert 34 9 (.slice a n c)).run Tryd.prog (w.drewN nd) = .ok (.string (strOfNums zs)) (w.drewN nd) := fun nd => conv_any _ _ _ _ _ hn (hl.drewN nd)
  have c3 : ∀ cc, (convert 34 9 (.slice (some ⟨g, 0, none⟩) n cc)).run Tryd.prog w = .ok (.string (strOfNums zs)) w := fun cc => conv_any _ _ _ _ _ hn hl2
  have c4 : (convert 34 9 (.slice a n c)).run Tryd.prog w = .ok (.string (strOfNums zs)) w := conv_any _ _ _ _ _ hn hl
  generalize strOfNums zs = S at *
  have e1 : (S.toList == S.toList) = true := by simp
  have hw1 : IntKind.i64.wrap ((n : Int) + 2) = (n : Int) + 2 := by rw [IntKind.wrap_i64]; omega
  have hw2 : IntKind.i64.wrap ((n : Int) + 1) = (n : Int) + 1 := by rw [IntKind.wrap_i64]; omega
  have hl1 : (n : Int) < (n : Int) + 2 := by omega
  have hl2 : (n : Int) + 1 < (n : Int) + 2 := by omega
  have hl3 : (n : Int) ≤ (n : Int) + 2 := by omega
  clear h hg hl hn
  go_enter Tryd.func47, Tryd.ntmps47
  go_wp2_with fail
  go_quiet (fail)
  go_wp2
  go_ret
  exact ⟨rfl, below_drewN' (Below.refl _ _) _⟩

end Go.Proofs.YtdfdaambfihjaaaDoor

namespace Go.Proofs.YtdfdaambfihjaaaDoor
open Go.RowKit
set_option linter.unusedVariables false
set_option linter.unusedSimpArgs false

def xM : Xr := ⟨-77, none, 0, []⟩
def xZ : Xr := ⟨0, none, 0, []⟩
theorem xc_put : ∀ (L : List Xr) (k : Nat) (y : Xr), ((L.flatMap Xr.cells).set (k * 2) (.int .i64 y.tag)).set (k * 2 + 1) y.val = (L.set k y).flatMap Xr.cells
  | [], k, y => by simp
  | s :: r, 0, y => by simp [Xr.cells]
  | s :: r, k + 1, y => by
    have := xc_put r k y
    rw [List.flatMap_cons, List.set_cons_succ, List.flatMap_cons, ← this]
    rw [List.set_append_right _ _ (by simp [Xr.cells]; omega), List.set_append_right _ _ (by simp [Xr.cells]; omega)]
    congr 1
    simp only [Xr.cells, List.length_cons, List.length_nil]
    rw [show (k + 1) * 2 - (0 + 1 + 1) = k * 2 from by omega, show (k + 1) * 2 + 1 - (0 + 1 + 1) = k * 2 + 1 from by omega]
theorem xc_get2 (l : List Xr) (i : Nat) (p : Xr) (h : l[i]? = some p) : (l.flatMap Xr.cells)[i * 2]? = some (.int .i64 p.tag) ∧ (l.flatMap Xr.cells)[i * 2 + 1]? = some p.val := by
  induction l generalizing i with
  | nil => simp at h
  | cons x r ih =>
    cases i with
    | zero => simp at h; subst h; simp [Xr.cells]
    | succ j =>
      obtain ⟨a, b⟩ := ih j (by simpa using h)
      rw [List.flatMap_cons, List.getElem?_append_right (by simp [Xr.cells]; omega), List.getElem?_append_right (by simp [Xr.cells]; omega)]
      simp only [Xr.cells, List.length_cons, List.length_nil]
      rw [show (j + 1) * 2 - (0 + 1 + 1) = j * 2 from by omega, show (j + 1) * 2 + 1 - (0 + 1 + 1) = j * 2 + 1 from by omega]
      exact ⟨a, b⟩
theorem xc_len2 (l : List Xr) : (l.flatMap Xr.cells).length = l.length * 2 := by
  induction l with
  | nil => rfl
  | cons x r ih => rw [List.flatMap_cons, List.length_append, ih]; simp [Xr.cells]; omega
theorem made_exts (n : Nat) : (madeCells (Value.cells (.agg #[.int .i64 0, .slice none 0 0])) (n * 2)).toList = (List.replicate n xZ).flatMap Xr.cells := by
  apply List.ext_getElem?
  intro j
  by_cases hj : j < n * 2
  · have hr : (List.replicate n xZ)[j / 2]? = some xZ := by rw [List.getElem?_replicate, if_pos (by omega)]
    obtain ⟨q1, q2⟩ := xc_get2 _ _ _ hr
    rcases Nat.mod_two_eq_zero_or_one j with h | h
    · have e0 : (madeCells (Value.cells (.agg #[.int .i64 0, .slice none 0 0])) (n * 2)).toList[j]? = some (.int .i64 0) := by
        simp only [madeCells, Value.cells]
        simp [hj, h]
      rw [show j / 2 * 2 = j from by omega] at q1; exact e0.trans q1.symm
    · have e0 : (madeCells (Value.cells (.agg #[.int .i64 0, .slice none 0 0])) (n * 2)).toList[j]? = some (.slice none 0 0) := by
        simp only [madeCells, Value.cells]
        simp [hj, h]
      rw [show j / 2 * 2 + 1 = j from by omega] at q2; exact e0.trans q2.symm
  · rw [List.getElem?_eq_none (by simp [madeCells]; omega), List.getElem?_eq_none (by rw [xc_len2]; simp; omega)]
theorem q2fullE {w : World} {base n g : Nat} {e : TypeId} {xs : List Value} (h : w.ownsRow base e 2 (.slice (some ⟨g, 0, none⟩) n n) n xs) : w.heap[g]? = some (.cells xs.toArray e (0, 0)) := by
  obtain ⟨_, ⟨hv, _⟩ | ⟨g', cap, cur, hv, _, hg, _, _, hs, ht⟩⟩ := h
  · cases hv
  · simp only [Value.slice.injEq, Option.some.injEq, Addr.mk.injEq, and_true, true_and] at hv
    obtain ⟨rfl, rfl⟩ := hv
    rw [List.take_of_length_le (by simp; omega)] at ht
    rw [hg, ← ht]
/-- A row of extensions that fills a block. -/
def Xrow (w : World) (g : Nat) (R : List Xr) : Prop := w.heap[g]? = some (.cells (R.flatMap Xr.cells).toArray 93 (0, 0))
theorem Xrow.put {w : World} {g : Nat} {R : List Xr} (h : Xrow w g R) (k : Nat) (y : Xr) : Xrow ((w.setCell ⟨g, k * 2, none⟩ (.int .i64 y.tag)).setCell ⟨g, k * 2 + 1, none⟩ y.val) g (R.set k y) := by
  have h1 := heap_setCell_same _ _ (k * 2) _ _ (.int .i64 y.tag) h
  have h2 := heap_setCell_same _ _ (k * 2 + 1) _ _ y.val h1
  unfold Xrow
  rw [h2, ← xc_put]
  simp
theorem Xrow.cells {w : World} {g : Nat} {R : List Xr} (h : Xrow w g R) {k : Nat} {y : Xr} (hk : R[k]? = some y) : w.cell? ⟨g, k * 2, none⟩ = some (.int .i64 y.tag) ∧ w.cell? ⟨g, k * 2 + 1, none⟩ = some y.val ∧ w.frozen? ⟨g, k * 2, none⟩ = false ∧ w.frozen? ⟨g, k * 2 + 1, none⟩ = false := by
  obtain ⟨q1, q2⟩ := xc_get2 R k y hk
  refine ⟨?_, ?_, frozen_of_row _ _ _ _ _ h, frozen_of_row _ _ _ _ _ h⟩
  · rw [cell_of_row _ _ _ _ _ _ h]; simpa using q1
  · rw [cell_of_row _ _ _ _ _ _ h]; simpa using q2

/-- Extensions that were lent, up to k. -/
structure Lxp (w wr : World) (g : Nat) (xs R : List Xr) (k : Nat) : Prop where
  row : Xrow wr g R
  len : R.length = xs.length + 2
  got : ∀ (j : Nat) (x : Xr), j < k → xs[j]? = some x → ∃ b, R[j]? = some ⟨x.tag, some ⟨b, 0, none⟩, x.data.length + 2, x.data⟩ ∧ g < b ∧ Blk .u8 wr b 5 (mk2 x.data)
  mks : ∀ j, xs.length ≤ j → j < k → R[j]? = some xM
  bel : Below g w wr
theorem blk_lt {w : World} {b : Nat} {zs : List Int} (h : Blk .u8 w b 5 zs) : b < w.heap.size := (Array.getElem?_eq_some_iff.mp h).1
theorem set2_other {w : World} {g i j b : Nat} {x y : Value} (hb : b ≠ g) : ((w.setCell ⟨g, i, none⟩ x).setCell ⟨g, j, none⟩ y).heap[b]? = w.heap[b]? :=
  (heap_setCell_other _ _ _ _ hb).trans (heap_setCell_other _ _ _ _ hb)
theorem cell_set2 {w : World} {g i j b o : Nat} {x y : Value} (hb : b ≠ g) : ((w.setCell ⟨g, i, none⟩ x).setCell ⟨g, j, none⟩ y).cell? ⟨b, o, none⟩ = w.cell? ⟨b, o, none⟩ := by
  simp only [World.cell?]
  rw [set2_other hb]
theorem Lxp.put {w wr : World} {g k : Nat} {xs R : List Xr} (h : Lxp w wr g xs R k) (y : Xr) : Lxp w ((wr.setCell ⟨g, k * 2, none⟩ (.int .i64 y.tag)).setCell ⟨g, k * 2 + 1, none⟩ y.val) g xs (R.set k y) k where
  row := h.row.put k y
  len := by rw [List.length_set]; exact h.len
  got := fun j x hj hx => by
    obtain ⟨b, e, h1, h2⟩ := h.got j x hj hx
    exact ⟨b, by rw [List.getElem?_set_ne (by omega)]; exact e, h1, (set2_other (by omega)).trans h2⟩
  mks := fun j h1 h2 => by rw [List.getElem?_set_ne (by omega)]; exact h.mks j h1 h2
  bel := (h.bel.setCell (p := ⟨g, k * 2, none⟩) (Nat.le_refl _) _).setCell (p := ⟨g, k * 2 + 1, none⟩) (Nat.le_refl _) _
theorem Lxp.below {w wr wr' : World} {g k : Nat} {xs R : List Xr} (h : Lxp w wr g xs R k) (hb : Below wr.heap.size wr wr') : Lxp w wr' g xs R k where
  row := (hb.block _ (Array.getElem?_eq_some_iff.mp h.row).1).trans h.row
  len := h.len
  got := fun j x hj hx => by
    obtain ⟨b, e, h1, h2⟩ := h.got j x hj hx
    exact ⟨b, e, h1, (hb.block _ (blk_lt h2)).trans h2⟩
  mks := h.mks
  bel := h.bel.trans (hb.mono (Nat.le_of_lt (Array.getElem?_eq_some_iff.mp h.row).1))
theorem Lxp.mark {w wr : World} {g k : Nat} {xs R : List Xr} (h : Lxp w wr g xs R k) (hk : R[k]? = some xM) (hn : xs.length ≤ k) : Lxp w wr g xs R (k + 1) where
  row := h.row
  len := h.len
  got := fun j x hj hx => h.got j x (by have := (List.getElem?_eq_some_iff.mp hx).1; omega) hx
  mks := fun j h1 h2 => by
    rcases Nat.lt_or_ge j k with q | q
    · exact h.mks j h1 q
    · obtain rfl : j = k := by omega
      exact hk
  bel := h.bel
theorem Lxp.next {w wr : World} {g k b : Nat} {xs R : List Xr} {x : Xr} (h : Lxp w wr g xs R k) (hx : xs[k]? = some x) (hk : R[k]? = some ⟨x.tag, some ⟨b, 0, none⟩, x.data.length + 2, x.data⟩) (hb : g < b) (hB : Blk .u8 wr b 5 (mk2 x.data)) : Lxp w wr g xs R (k + 1) where
  row := h.row
  len := h.len
  got := fun j z hj hz => by
    rcases Nat.lt_or_ge j k with q | q
    · exact h.got j z q hz
    · obtain rfl : j = k := by omega
      rw [hx] at hz
      cases hz
      exact ⟨b, hk, hb, hB⟩
  mks := fun j h1 h2 => h.mks j h1 (by have := (List.getElem?_eq_some_iff.mp hx).1; omega)
  bel := h.bel

/-- Extensions that were lent: their row, their bytes, the marks. -/
structure LX (w : World) (base top g : Nat) (xs R : List Xr) : Prop where
  row : Xrow w g R
  len : R.length = xs.length + 2
  got : ∀ (j : Nat) (x : Xr), xs[j]? = some x → ∃ b, R[j]? = some ⟨x.tag, some ⟨b, 0, none⟩, x.data.length + 2, x.data⟩ ∧ base ≤ b ∧ b < top ∧ b ≠ g ∧ Blk .u8 w b 5 (mk2 x.data)
  mks : R[xs.length]? = some xM ∧ R[xs.length + 1]? = some xM
  g0 : base ≤ g ∧ g < top

theorem Lxp.done {w wr : World} {g : Nat} {xs R : List Xr} (h : Lxp w wr g xs R (xs.length + 2)) : LX wr g wr.heap.size g xs R where
  row := h.row
  len := h.len
  got := fun j x hx => by
    obtain ⟨b, e, h1, h2⟩ := h.got j x (by have := (List.getElem?_eq_some_iff.mp hx).1; omega) hx
    exact ⟨b, e, by omega, blk_lt h2, by omega, h2⟩
  mks := ⟨h.mks _ (by omega) (by omega), h.mks _ (by omega) (by omega)⟩
  g0 := ⟨Nat.le_refl _, (Array.getElem?_eq_some_iff.mp h.row).1⟩
theorem LX.keep {w w' : World} {base top g : Nat} {xs R : List Xr} (h : LX w base top g xs R) (hb : ∀ k, base ≤ k → k < top → w'.heap[k]? = w.heap[k]?) : LX w' base top g xs R where
  row := (hb _ h.g0.1 h.g0.2).trans h.row
  len := h.len
  got := fun j x hx => by
    obtain ⟨b, e, h1, h2, h3, h4⟩ := h.got j x hx
    exact ⟨b, e, h1, h2, h3, (hb _ h1 h2).trans h4⟩
  mks := h.mks
  g0 := h.g0
set_option maxRecDepth 100000 in
set_option maxHeartbeats 8000000 in
theorem lentExts_any {v : Value} {xs : List Xr} {w : World} (h : XIn w v xs) :
    Calls Tryd.prog 35 #[v] w fun e w' => e = .returned (.slice (some ⟨w.heap.size, 0, none⟩) xs.length (xs.length + 2)) ∧ (∃ R, LX w' w.heap.size w'.heap.size w.heap.size xs R) ∧ Below w.heap.size w w' := by
  obtain ⟨i0, hi, hz0, hz1, hz2⟩ := info_parts Tryd.info_ext
  have hm := h.small
  have HX : Hid (XIn w v xs) := h
  obtain ⟨a, c, rfl, _⟩ := h.shape
  obtain ⟨n, hn⟩ : ∃ n, xs.length = n := ⟨_, rfl⟩
  have HN : Hid (xs.length = n) := hn
  rw [hn] at hm ⊢
  have HX : Hid (XIn w (.slice a n c) xs) := by have := HX.out; rw [hn] at this; exact this
  have hw1 : IntKind.i64.wrap ((n : Int) + 2) = ((n + 2 : Nat) : Int) := by rw [IntKind.wrap_i64]; omega
  have hw2 : IntKind.i64.wrap ((n : Int) + 1) = (n : Int) + 1 := by rw [IntKind.wrap_i64]; omega
  clear h hn
  go_enter Tryd.func35, Tryd.ntmps35
  go_upto_region 3 with (first
    | (at_make; refine wpList_make_full _ rfl _ _ 33 rfl w.heap.size 93 i0 (.agg #[.int .i64 0, .slice none 0 0]) 2 Tryd.underlying33 hi hz0 hz1 .i64 .i64 _ _ (n + 2) rfl rfl (by simp) (by simp) (by rw [hz2]; omega) (by unfold maxLen; omega) (Nat.le_refl _) ?_
       intro w1 hown1 hgrow1
       have HB1 : Hid (Below w.heap.size w w1) := (Below.refl _ _).grown hgrow1 (Nat.le_refl _) (by intro j hj; cases hj)
       have HG1 : Hid (Lxp w w1 w.heap.size xs (List.replicate (n + 2) xZ) 0) := (by rw [made_exts] at hown1; exact ⟨q2fullE hown1, by rw [List.length_replicate, HN.out], fun j x hj => absurd hj (Nat.not_lt_zero _), fun j _ hj => absurd hj (Nat.not_lt_zero _), HB1.out⟩)
       clear hown1 hgrow1)
    | go_in)
  go_loopw [4] (fun i wr => ∃ (k : Nat) (R : List Xr), k ≤ n + 2 ∧ i = .int .i64 k ∧ Hid (Lxp w wr w.heap.size xs R k)) (fun i _ => n + 2 - (intOf i).toNat)
  case atStart => exact ⟨0, _, by omega, rfl, HG1⟩
  case round =>
    obtain ⟨k, R, hk, rfl, HR⟩ := hrel
    by_cases hlt : k < n + 2
    · have hlt' : (k : Int) < ((n + 2 : Nat) : Int) := by omega
      obtain ⟨z, hz⟩ := get_one R k (by rw [HR.out.len, HN.out]; exact hlt)
      obtain ⟨q1, q2, q3, q4⟩ := HR.out.row.cells hz
      have HR2 : Hid (Lxp w ((wr.setCell ⟨w.heap.size, k * 2, none⟩ (.int .i64 (-77))).setCell ⟨w.heap.size, k * 2 + 1, none⟩ (.slice none 0 0)) w.heap.size xs (R.set k xM) k) := HR.out.put xM
      have HM : Hid ((R.set k xM)[k]? = some xM) := by show _ = _; rw [List.getElem?_set_self (by rw [HR.out.len, HN.out]; exact hlt)]
      have hwk : IntKind.i64.wrap ((k : Int) + 1) = (k : Int) + 1 := by rw [IntKind.wrap_i64]; omega
      clear hz HG1 HB1 HR
      by_cases hkn : k < n
      · have hkn' : (k : Int) < (n : Int) := by omega
        go_upto_region 7 with fail
        obtain ⟨w5, hw5⟩ : ∃ x, (wr.setCell ⟨w.heap.size, k * 2, none⟩ (.int .i64 (-77))).setCell ⟨w.heap.size, k * 2 + 1, none⟩ (.slice none 0 0) = x := ⟨_, rfl⟩
        rw [hw5] at HR2
        rw [hw5]
        clear q1 q2 q3 q4 hw5
        obtain ⟨x, hx⟩ := get_one xs k (by rw [HN.out]; exact hkn)
        have hbX := HX.out.below HR2.out.bel
        obtain ⟨ga, off, rfl, x0, x1⟩ := hbX.at hx
        have hD := hbX.data x (List.mem_of_getElem? hx)
        obtain ⟨p0, p1, p2, p3⟩ := HR2.out.row.cells HM.out
        have HC : Hid (∀ V, Below w5.heap.size w5 V → V.cell? ⟨ga, off + k * 2, none⟩ = some (.int .i64 x.tag) ∧ V.cell? ⟨ga, off + k * 2 + 1, none⟩ = some x.val) := fun V hV => ⟨cell_below x0 hV, cell_below x1 hV⟩
        have HP : Hid (∀ V, Below w5.heap.size w5 V → V.cell? ⟨w.heap.size, k * 2, none⟩ = some (.int .i64 (-77)) ∧ V.cell? ⟨w.heap.size, k * 2 + 1, none⟩ = some (.slice none 0 0) ∧ V.frozen? ⟨w.heap.size, k * 2, none⟩ = false ∧ V.frozen? ⟨w.heap.size, k * 2 + 1, none⟩ = false) := fun V hV => by
          obtain ⟨p0, p1, p2, p3⟩ := (HR2.out.below hV).row.cells HM.out
          exact ⟨p0, p1, p2, p3⟩
        have HGa : Hid (ga ≠ w.heap.size) := by
          have := HX.out.at hx
          obtain ⟨g', off', he, h0, _⟩ := this
          cases he
          have := World.block_lt_of_cell? w ⟨ga, off + k * 2, none⟩ h0
          exact fun e => by simp only at this; omega
        have HLB : Hid (∀ V, Below w5.heap.size w5 V → Calls Tryd.prog 36 #[x.val] V fun e w' => e = .returned (.slice (some ⟨V.heap.size, 0, none⟩) x.data.length (x.data.length + 2)) ∧ Blk .u8 w' V.heap.size 5 (mk2 x.data) ∧ Below V.heap.size V w') := fun V hV => lentBytes_any (hD.below hV)
        have HXk : Hid (xs[k]? = some x) := hx
        have hR0 := HC.out w5 (Below.refl _ _)
        clear hx hbX hD x0 x1 p0 p1 p2 p3
        go_region_held3 (fun V => V.cell? ⟨ga, off + k * 2, none⟩ = some (.int .i64 x.tag) ∧ V.cell? ⟨ga, off + k * 2 + 1, none⟩ = some x.val)
          (first | exact hR1 | exact ⟨(cell_set2 HGa.out).trans hR1.1, (cell_set2 HGa.out).trans hR1.2⟩ | exact hR0)
          (first
            | (go_at_call 36
               refine (HLB.out _ (Below.refl _ _).drew).mono ?_
               rintro e v1 ⟨rfl, hB, hb⟩
               have HB : Hid (Blk .u8 v1 w5.heap.size 5 (mk2 x.data)) := hB
               have HV1 : Hid (Below w5.heap.size w5 v1) := ((Below.refl w5.heap.size w5).drew).trans hb
               have hR1 := HC.out v1 HV1.out
               obtain ⟨p0, p1, p2, p3⟩ := HP.out v1 HV1.out
               clear hB hb))
        have hgw : w.heap.size < w5.heap.size := (Array.getElem?_eq_some_iff.mp HR2.out.row).1
        have h3 := (HR2.out.below HV1.out).put ⟨x.tag, some ⟨w5.heap.size, 0, none⟩, x.data.length + 2, x.data⟩
        have HR3 : Hid (Lxp w ((v1.setCell ⟨w.heap.size, k * 2, none⟩ (.int .i64 x.tag)).setCell ⟨w.heap.size, k * 2 + 1, none⟩ (.slice (some ⟨w5.heap.size, 0, none⟩) x.data.length (x.data.length + 2))) w.heap.size xs ((R.set k xM).set k ⟨x.tag, some ⟨w5.heap.size, 0, none⟩, x.data.length + 2, x.data⟩) (k + 1)) :=
          h3.next (b := w5.heap.size) HXk.out (by rw [List.getElem?_set_self (by rw [List.length_set]; have := (List.getElem?_eq_some_iff.mp HM.out).1; simpa using this)]) hgw ((set2_other (by omega)).trans HB.out)
        clear h3 hgw hR0 hR1 p0 p1 p2 p3
        go_wp2
        go_roundw
        case rel => exact ⟨k + 1, _, by omega, by go_num, HR3⟩
        case measure => simp [intOf]; omega
      · have hkn' : ¬ (k : Int) < (n : Int) := by omega
        have HR3 : Hid (Lxp w ((wr.setCell ⟨w.heap.size, k * 2, none⟩ (.int .i64 (-77))).setCell ⟨w.heap.size, k * 2 + 1, none⟩ (.slice none 0 0)) w.heap.size xs (R.set k xM) (k + 1)) := HR2.out.mark HM.out (by rw [HN.out]; omega)
        go_wp2
        go_roundw
        case rel => exact ⟨k + 1, _, by omega, by go_num, HR3⟩
        case measure => simp [intOf]; omega
    · have hlt' : ¬ (k : Int) < ((n + 2 : Nat) : Int) := by omega
      have hkn : k = n + 2 := by omega
      have HD : Hid (LX wr w.heap.size wr.heap.size w.heap.size xs R) := by
        have h := HR.out
        rw [hkn, ← HN.out] at h
        exact h.done
      have HB : Hid (Below w.heap.size w wr) := HR.out.bel
      clear HG1 HB1 hkn
      have hl3 : (n : Int) ≤ ((n + 2 : Nat) : Int) := by omega
      go_wp2
      go_ret
      exact ⟨rfl, ⟨R, HD.out⟩, HB.out⟩

/-- Lent extensions lie somewhere. -/
theorem LX.xin {w w0 : World} {base top g : Nat} {v : Value} {xs R : List Xr} (h : LX w base top g xs R) (hx : XIn w0 v xs) : XIn w (.slice (some ⟨g, 0, none⟩) xs.length (xs.length + 2)) (R.take xs.length) := by
  have hl : (R.take xs.length).length = xs.length := by rw [List.length_take, h.len]; omega
  refine ⟨⟨some ⟨g, 0, none⟩, xs.length + 2, by rw [hl], ?_⟩, fun y hy => ?_, by rw [hl]; exact hx.small⟩
  · by_cases h0 : R.take xs.length = []
    · exact .inl h0
    · refine .inr ⟨g, 0, rfl, fun i y hy => ?_⟩
      have hy' : R[i]? = some y := by
        have hi := (List.getElem?_eq_some_iff.mp hy).1
        rw [List.getElem?_take_of_lt (by rw [hl] at hi; exact hi)] at hy
        exact hy
      obtain ⟨q1, q2, _, _⟩ := h.row.cells hy'
      rw [Nat.zero_add]
      exact ⟨q1, q2⟩
  · obtain ⟨i, hi⟩ := List.mem_iff_getElem?.mp hy
    have hil := (List.getElem?_eq_some_iff.mp hi).1
    rw [hl] at hil
    obtain ⟨x, hx1⟩ := get_one xs i hil
    obtain ⟨b, hb, _, _, _, hB⟩ := h.got i x hx1
    rw [List.getElem?_take_of_lt hil, hb] at hi
    cases hi
    have := hx.data x (List.mem_of_getElem? hx1)
    exact hB.bin2 this.bytes this.small
theorem LX.ex {w w0 : World} {base top g : Nat} {v : Value} {xs R : List Xr} (h : LX w base top g xs R) : (R.take xs.length).map Xr.ex = xs.map Xr.ex := by
  apply List.ext_getElem?
  intro i
  rw [List.getElem?_map, List.getElem?_map]
  by_cases hi : i < xs.length
  · obtain ⟨x, hx1⟩ := get_one xs i hi
    obtain ⟨b, hb, _⟩ := h.got i x hx1
    rw [List.getElem?_take_of_lt hi, hb, hx1]
    rfl
  · rw [List.getElem?_eq_none (by rw [List.length_take]; omega), List.getElem?_eq_none (by omega)]

set_option maxRecDepth 100000 in
set_option maxHeartbeats 8000000 in
theorem keptExts_any {v : Value} {xs R : List Xr} {w : World} {base top g : Nat} (h : XIn w v xs) (hL : LX w base top g xs R) :
    Calls Tryd.prog 46 #[.slice (some ⟨g, 0, none⟩) xs.length (xs.length + 2), v] w fun e w' => e = .returned (.bool true) ∧ Below w.heap.size w w' := by
  have hm := h.small
  have HX : Hid (XIn w v xs) := h
  obtain ⟨a, c, rfl, _⟩ := h.shape
  obtain ⟨m1, m2⟩ := hL.mks
  obtain ⟨n, hn⟩ : ∃ n, xs.length = n := ⟨_, rfl⟩
  have HN : Hid (xs.length = n) := hn
  rw [hn] at hm m1 m2 ⊢
  have HX : Hid (∀ V, Below w.heap.size w V → XIn V (.slice a n c) xs) := fun V hV => by have := HX.out.below hV; rw [hn] at this; exact this
  have HRw : Hid (∀ V, Below w.heap.size w V → Xrow V g R) := fun V hV => (hV.block _ (Array.getElem?_eq_some_iff.mp hL.row).1).trans hL.row
  have HGt : Hid (∀ V, Below w.heap.size w V → ∀ (j : Nat) (x : Xr), xs[j]? = some x → ∃ b, R[j]? = some ⟨x.tag, some ⟨b, 0, none⟩, x.data.length + 2, x.data⟩ ∧ Blk .u8 V b 5 (mk2 x.data)) := fun V hV j x hx => by
    obtain ⟨b, e, _, _, _, hB⟩ := hL.got j x hx
    exact ⟨b, e, (hV.block _ (blk_lt hB)).trans hB⟩
  have HM : Hid (R[n]? = some xM ∧ R[n + 1]? = some xM) := ⟨m1, m2⟩
  have hw1 : IntKind.i64.wrap ((n : Int) + 2) = (n : Int) + 2 := by rw [IntKind.wrap_i64]; omega
  have hw2 : IntKind.i64.wrap ((n : Int) + 1) = (n : Int) + 1 := by rw [IntKind.wrap_i64]; omega
  clear h hn hL m1 m2
  go_enter Tryd.func46, Tryd.ntmps46
  go_wp2
  go_loopw [6] (fun i wr => ∃ (k : Nat), k ≤ n ∧ i = .int .i64 k ∧ Hid (Below w.heap.size w wr)) (fun i _ => n - (intOf i).toNat)
  case atStart => exact ⟨0, by omega, rfl, Below.refl _ _⟩
  case round =>
    obtain ⟨k, hk, rfl, HB⟩ := hrel
    by_cases hlt : k < n
    · have hlt' : (k : Int) < (n : Int) := by omega
      have hlt2 : (k : Int) < (n : Int) + 2 := by omega
      have hwk : IntKind.i64.wrap ((k : Int) + 1) = (k : Int) + 1 := by rw [IntKind.wrap_i64]; omega
      obtain ⟨x, hx⟩ := get_one xs k (by rw [HN.out]; exact hlt)
      have hbX := HX.out wr HB.out
      obtain ⟨ga, off, rfl, x0, x1⟩ := hbX.at hx
      have hD := hbX.data x (List.mem_of_getElem? hx)
      obtain ⟨b, hb, hB⟩ := HGt.out wr HB.out k x hx
      have HRk : Hid (R[k]? = some ⟨x.tag, some ⟨b, 0, none⟩, x.data.length + 2, x.data⟩) := hb
      have HC : Hid (∀ V, Below wr.heap.size wr V → (V.cell? ⟨ga, off + k * 2, none⟩ = some (.int .i64 x.tag) ∧ V.cell? ⟨ga, off + k * 2 + 1, none⟩ = some x.val) ∧ V.cell? ⟨g, k * 2, none⟩ = some (.int .i64 x.tag) ∧ V.cell? ⟨g, k * 2 + 1, none⟩ = some (.slice (some ⟨b, 0, none⟩) x.data.length (x.data.length + 2))) := fun V hV => by
        have hV' : Below w.heap.size w V := HB.out.trans (hV.mono HB.out.size)
        obtain ⟨p0, p1, _, _⟩ := (HRw.out V hV').cells HRk.out
        exact ⟨⟨cell_below x0 hV, cell_below x1 hV⟩, p0, p1⟩
      have HKB : Hid (∀ V, Below wr.heap.size wr V → Calls Tryd.prog 47 #[.slice (some ⟨b, 0, none⟩) x.data.length (x.data.length + 2), x.val] V fun e w' => e = .returned (.bool true) ∧ Below V.heap.size V w') := fun V hV => keptBytes_any (hD.below hV) ((hV.block _ (blk_lt hB)).trans hB)
      obtain ⟨⟨s0, s1⟩, s2, s3⟩ := HC.out wr (Below.refl _ _)
      clear hx hbX hD x0 x1 hb hB
      go_wp2_with fail
      go_region_held3 (fun V => V.cell? ⟨ga, off + k * 2 + 1, none⟩ = some x.val ∧ V.cell? ⟨g, k * 2 + 1, none⟩ = some (.slice (some ⟨b, 0, none⟩) x.data.length (x.data.length + 2)))
        (first | exact ⟨r1, r3⟩ | exact ⟨s1, s3⟩)
        (first
          | (go_at_call 47
             refine (HKB.out _ (Below.refl _ _).drew).mono ?_
             rintro e v1 ⟨rfl, hb⟩
             have HV1 : Hid (Below wr.heap.size wr v1) := ((Below.refl wr.heap.size wr).drew).trans hb
             obtain ⟨⟨r0, r1⟩, r2, r3⟩ := HC.out v1 HV1.out
             clear hb))
      have HB2 : Hid (Below w.heap.size w v1) := HB.out.trans (HV1.out.mono HB.out.size)
      clear s0 s1 s2 s3
      generalize x.tag = tg at *
      have e0 : (tg != tg) = false := by simp
      go_wp2_with fail
      go_quiet (fail)
      go_wp2
      go_roundw
      case rel => exact ⟨k + 1, by omega, by go_num, below_drewN' HB2.out _⟩
      case measure => simp [intOf]; omega
    · have hkn : k = n := by omega
      subst hkn
      have hz : ¬ (k : Int) < (k : Int) := by omega
      have hl1 : (k : Int) < (k : Int) + 2 := by omega
      have hl2 : (k : Int) + 1 < (k : Int) + 2 := by omega
      obtain ⟨q1, q2, _, _⟩ := (HRw.out wr HB.out).cells HM.out.1
      obtain ⟨q3, q4, _, _⟩ := (HRw.out wr HB.out).cells HM.out.2
      simp only [xM] at q1 q2 q3 q4
      go_wp2
      go_ret
      exact ⟨rfl, HB.out⟩

end Go.Proofs.YtdfdaambfihjaaaDoor
