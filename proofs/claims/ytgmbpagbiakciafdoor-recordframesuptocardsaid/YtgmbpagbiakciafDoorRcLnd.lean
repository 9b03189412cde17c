import Derived.Test.YtgmbpagbiakciafDoorRcPr2
import Derived.Test.YtgmbpagbiakciafDoorLnt
import Derived.Laws.CopyOwn
import Derived.Deep.CutRange
namespace Go.Proofs.YtgmbpagbiakciafDoor
open Go.RowKit
set_option linter.unusedVariables false

abbrev mkD (zs : List Int) : List Int := zs ++ [177, 178]
abbrev mkS (l : List (Int × Int)) : List (Int × Int) := l ++ [(-77, 0), (-78, 0)]
theorem rsize_u8 : (Tryd.prog.info? 5).map (·.size) = some 1 := by kernel_rfl
theorem rsize_span : (Tryd.prog.info? 62).map (·.size) = some 2 := by kernel_rfl
theorem rmade_eq (n : Nat) : (madeCells (Value.cells (.int .u8 0)) (n * 1)).toList = (List.replicate n (0 : Int)).map (Value.int .u8) := by
  simp [madeCells, Value.cells, Nat.mod_one, List.map_const']
theorem rown_full {w : World} {base n g : Nat} {e : TypeId} {xs : List Value} (h : w.ownsRow base e 1 (.slice (some ⟨g, 0, none⟩) n n) n xs) : w.heap[g]? = some (.cells xs.toArray e (0, 0)) := by
  obtain ⟨_, ⟨hv, _⟩ | ⟨g', cap, cur, hv, _, hg, _, _, hs, ht⟩⟩ := h
  · cases hv
  · simp only [Value.slice.injEq, Option.some.injEq, Addr.mk.injEq, and_true, true_and] at hv
    obtain ⟨rfl, rfl⟩ := hv
    rw [List.take_of_length_le (by simp; omega)] at ht
    rw [hg, ← ht]
theorem rsplice2 (zs : List Int) (n : Nat) (hl : zs.length = n) : splice ((List.replicate (n + 2) (0 : Int)).map (Value.int .u8)) 0 (zs.map (Value.int .u8)) = (zs ++ [0, 0]).map (Value.int .u8) := by
  subst hl
  simp [splice, show zs.length + 2 - zs.length = 2 from by omega]
theorem rset1 (zs : List Int) (n : Nat) (hl : zs.length = n) (a b c : Int) : (zs ++ [a, b]).set n c = zs ++ [c, b] := by
  subst hl; rw [List.set_append_right _ _ (Nat.le_refl _), Nat.sub_self]; rfl
theorem rset2 (zs : List Int) (n : Nat) (hl : zs.length = n) (a b c : Int) : (zs ++ [a, b]).set (n + 1) c = zs ++ [a, c] := by
  subst hl; rw [List.set_append_right _ _ (by omega), show zs.length + 1 - zs.length = 1 by omega]; rfl
theorem sset1 (zs : List (Int × Int)) (n : Nat) (hl : zs.length = n) (a b c : Int × Int) : (zs ++ [a, b]).set n c = zs ++ [c, b] := by
  subst hl; rw [List.set_append_right _ _ (Nat.le_refl _), Nat.sub_self]; rfl
theorem sset2 (zs : List (Int × Int)) (n : Nat) (hl : zs.length = n) (a b c : Int × Int) : (zs ++ [a, b]).set (n + 1) c = zs ++ [a, c] := by
  subst hl; rw [List.set_append_right _ _ (by omega), show zs.length + 1 - zs.length = 1 by omega]; rfl
theorem sdrop2 (zs : List (Int × Int)) (n : Nat) (hl : zs.length = n) : zs ++ (List.replicate (n + 2) ((0 : Int), (0 : Int))).drop zs.length = zs ++ [(0, 0), (0, 0)] := by
  subst hl; rw [List.drop_replicate, show zs.length + 2 - zs.length = 2 by omega]; rfl
theorem rget1 {α : Type} (zs : List α) (n : Nat) (hl : zs.length = n) (a b : α) : (zs ++ [a, b])[n]? = some a := by
  subst hl; rw [List.getElem?_append_right (Nat.le_refl _), Nat.sub_self]; rfl
theorem rget2 {α : Type} (zs : List α) (n : Nat) (hl : zs.length = n) (a b : α) : (zs ++ [a, b])[n + 1]? = some b := by
  subst hl; rw [List.getElem?_append_right (by omega), show zs.length + 1 - zs.length = 1 by omega]; rfl
theorem rc_frozen {W : World} {g : Nat} {r : Rc} {sv dv : Value} (h : W.heap[g]? = some (rcO r sv dv)) (k : Nat) : W.frozen? ⟨g, k, none⟩ = false := by simp [World.frozen?, h]
theorem Lies.cells6 {W : World} {a : Option Addr} {zs : List Int} (h : Lies .u8 W a zs) (hp : 0 < (zs.map (Value.int .u8)).length) : ∃ ad, a = some ad ∧ ∀ j v, (zs.map (Value.int .u8))[j]? = some v → W.cell? (ad.add j) = some v := by
  rcases h with rfl | ⟨b, off, rfl, h⟩
  · simp at hp
  · refine ⟨_, rfl, fun j v hj => ?_⟩
    have hjl : j < zs.length := by
      rcases Nat.lt_or_ge j zs.length with q | q
      · exact q
      · rw [List.getElem?_eq_none (by simpa using q)] at hj; cases hj
    rw [List.getElem?_map, List.getElem?_eq_getElem hjl] at hj
    simp only [Option.map_some, Option.some.injEq] at hj
    rw [show (⟨b, off, none⟩ : Addr).add j = ⟨b, off + j, none⟩ from by unfold Addr.add; split <;> simp_all, h j hjl, ← hj]
    simp [List.getD_eq_getElem?_getD, List.getElem?_eq_getElem hjl]

abbrev rz0 : Rc := ⟨0, 0, 0, 0, 0, 0, 0, 0, 0, [], []⟩
abbrev lw (w : World) (r : Rc) (sv dv : Value) : World := (w.alloc (rcO r sv dv)).alloc (rcO rz0 (.slice none 0 0) (.slice none 0 0))
theorem lw_size (w : World) (r : Rc) (sv dv : Value) : (lw w r sv dv).heap.size = w.heap.size + 1 + 1 := by simp
theorem lw_b {w W : World} {r : Rc} {sv dv : Value} (h : Below (w.heap.size + 1 + 1) (lw w r sv dv) W) : Below w.heap.size w W :=
  (((Below.refl _ _).alloc (Nat.le_refl _) _).alloc (by simp) _ : Below w.heap.size w (lw w r sv dv)).trans (h.mono (by omega))
theorem lw_x {w W : World} {r : Rc} {sv dv : Value} (h : Below (w.heap.size + 1 + 1) (lw w r sv dv) W) : W.heap[w.heap.size]? = some (rcO r sv dv) :=
  (h.block _ (by omega)).trans ((((Below.refl _ _).alloc (Nat.le_refl _) _).block _ (by simp)).trans (heap_new6 w _))
theorem lw_z {w W : World} {r : Rc} {sv dv : Value} (h : Below (w.heap.size + 1 + 1) (lw w r sv dv) W) : W.heap[w.heap.size + 1]? = some (rcO rz0 (.slice none 0 0) (.slice none 0 0)) := by
  refine (h.block _ (by omega)).trans ?_
  have := heap_new6 (w.alloc (rcO r sv dv)) (rcO rz0 (.slice none 0 0) (.slice none 0 0))
  simpa using this
/-- A record is written over another one. -/
def rS (W : World) (g : Nat) (r : Rc) (sv dv : Value) : World := (((((((((((W.setCell ⟨g, 0, none⟩ (.int .i64 r.kind)).setCell ⟨g, 1, none⟩ (.int .i64 r.org)).setCell ⟨g, 2, none⟩ (.int .i64 r.num)).setCell ⟨g, 3, none⟩ (.int .i64 r.peer)).setCell ⟨g, 4, none⟩ (.int .i64 r.srv)).setCell ⟨g, 5, none⟩ (.int .i64 r.off)).setCell ⟨g, 6, none⟩ (.int .i64 r.red)).setCell ⟨g, 7, none⟩ (.int .i64 r.size)).setCell ⟨g, 8, none⟩ (.int .i64 r.how)).setCell ⟨g, 9, none⟩ sv).setCell ⟨g, 10, none⟩ dv)
theorem rS_heap (W : World) (g : Nat) (r q : Rc) (sv dv a b : Value) (h : W.heap[g]? = some (rcO q a b)) : (rS W g r sv dv).heap[g]? = some (rcO r sv dv) := by
  unfold rS
  simp [World.setCell, Array.getElem?_modify, h]
theorem rS_grown (W : World) (g : Nat) (r : Rc) (sv dv : Value) : W.grownBy (rS W g r sv dv) (some g) := by
  unfold rS
  iterate 10 refine C.grown_trans ?_ (grown_set _ _ _ _)
  exact grown_set _ _ _ _
theorem own_keep6 {w w' : World} {base size n : Nat} {e : TypeId} {v : Value} {xs : List Value} {row : Option Nat} (h : w.ownsRow base e size v n xs) (hg : w.grownBy w' row) (hr : ∀ k, v.ownBlock = some k → row ≠ some k) : w'.ownsRow base e size v n xs := by
  have hlt := h.lt
  obtain ⟨hl, h | ⟨g, cap, cur, rfl, hb, hh, r⟩⟩ := h
  · exact ⟨hl, .inl h⟩
  · refine ⟨hl, .inr ⟨g, cap, cur, rfl, hb, ?_, r⟩⟩
    rw [hg.block g (hlt g rfl).2 (fun e => hr g rfl e.symm)]; exact hh
theorem blk_keep {w w' : World} {g : Nat} {zs : List Int} {row : Option Nat} (h : Blk .u8 w g 5 zs) (hg : w.grownBy w' row) (hr : row ≠ some g) : Blk .u8 w' g 5 zs :=
  (hg.block g (Array.getElem?_eq_some_iff.mp h).1 (fun e => hr e.symm)).trans h
theorem lm1 {W0 w1 : World} {gd n b : Nat} (hg : W0.heap.size = gd) (hown : w1.ownsRow b 5 1 (.slice (some ⟨W0.heap.size, 0, none⟩) n n) n (madeCells (Value.cells (.int .u8 0)) (n * 1)).toList) (hgrow : W0.grownBy w1 none) :
    Hid (w1.heap[gd]? = some (.cells ((List.replicate n (0 : Int)).map (Value.int .u8)).toArray 5 (0, 0))) ∧ Hid (Below gd W0 w1) := by
  subst hg
  rw [rmade_eq] at hown
  exact ⟨rown_full hown, (Below.refl _ _).grown hgrow (Nat.le_refl _) (by intro j hj; cases hj)⟩

theorem lm5 {w W0 w4 w5 : World} {gd n b : Nat} {D : List Int} (HB : Hid (Below gd W0 w4)) (HBK : Hid (Blk .u8 w4 gd 5 D)) (hown : w5.ownsRow b 62 2 (.slice (some ⟨w4.heap.size, 0, none⟩) n n) n (madeCells (Value.cells (.agg #[.int .i64 0, .int .i64 0])) (n * 2)).toList) (hgrow : w4.grownBy w5 none) :
    Hid (C.SOwn w5 b (.slice (some ⟨w4.heap.size, 0, none⟩) n n) (List.replicate n (0, 0))) ∧ Hid (Below gd W0 w5) ∧ Hid (Blk .u8 w5 gd 5 D) ∧ gd < w4.heap.size := by
  have hlt : gd < w4.heap.size := (Array.getElem?_eq_some_iff.mp HBK.out).1
  rw [C.made_spans] at hown
  refine ⟨?_, ?_, ?_, hlt⟩
  · unfold Hid C.SOwn; rw [List.length_replicate]; exact hown
  · exact HB.out.grown hgrow (by omega) (by intro j hj; cases hj)
  · exact (hgrow.block gd hlt (by simp)).trans HBK.out
theorem lm6 {W0 w5 w6 : World} {gd gs : Nat} {D : List Int} (hlt : gd < gs) (HB : Hid (Below gd W0 w5)) (HBK : Hid (Blk .u8 w5 gd 5 D)) (hg : w5.grownBy w6 (some gs)) (hs : gd ≤ w5.heap.size) : Hid (Below gd W0 w6) ∧ Hid (Blk .u8 w6 gd 5 D) := by
  have h1 : gd < w5.heap.size := (Array.getElem?_eq_some_iff.mp HBK.out).1
  refine ⟨HB.out.grown hg hs (by intro j hj; simp only [Option.some.injEq] at hj; omega), (hg.block gd h1 (by simp; omega)).trans HBK.out⟩

set_option maxRecDepth 100000 in
set_option maxHeartbeats 2000000 in
theorem lent6_any (r : Rc) (sa da : Option Addr) (ns nd sc dc : Nat) (w : World) (hr : RIn w r sa da ns nd sc dc) (hd : nd ≤ 140737488351232) (hs : ns * 16 ≤ 140737488351232) :
    Calls Tryd.prog 17 #[.agg (rcC r (.slice sa ns sc) (.slice da nd dc))] w fun e w' => ∃ gd gs, e = .returned (.agg (rcC r (.slice (some ⟨gs, 0, none⟩) ns (ns + 2)) (.slice (some ⟨gd, 0, none⟩) nd (nd + 2)))) ∧
      Blk .u8 w' gd 5 (mkD r.data) ∧ C.SOwn w' w.heap.size (.slice (some ⟨gs, 0, none⟩) (ns + 2) (ns + 2)) (mkS r.spans) ∧ gd ≠ gs ∧ w.heap.size ≤ gd ∧ Below w.heap.size w w' := by
  obtain ⟨i0, hi, hz0, hz1, hz2⟩ := info_parts Tryd.info_u8
  obtain ⟨i1, hi', hy0, hy1, hy2⟩ := info_parts C.Tryd.info_span
  have HND : Hid (r.data.length = nd) := hr.dat
  have HNS : Hid (r.spans.length = ns) := hr.spn
  have HLD : Hid (∀ W, Below w.heap.size w W → Lies .u8 W da r.data) := fun W hW => hr.lie.below hW
  have HLS : Hid (∀ W, Below w.heap.size w W → C.Ls W (.slice sa ns sc) r.spans) := fun W hW => hr.spa.below hW
  clear hr
  go_enter Tryd.func17, Tryd.ntmps17
  go_upto_region 3 with (first
    | (at_make; refine wpList_make_full _ rfl _ _ 39 rfl (w.heap.size + 1 + 1) 5 i0 (.int .u8 0) 1 Tryd.underlying39 hi hz0 hz1 .i64 .i64 _ _ (nd + 2) rfl rfl (by omega) (by omega) (by rw [hz2]; omega) (by unfold maxLen; omega) (by simp) ?_; intro w1 hown1 hgrow1; obtain ⟨HG1, HB1⟩ := lm1 (gd := w.heap.size + 1 + 1) (by simp) hown1 hgrow1; obtain ⟨_, _, _, _, _, _, _, _, _, c9, c10⟩ := rc_cells (lw_x HB1.out); clear hown1 hgrow1)
    | (refine wpList_copy_splice rfl (.tmp 10) (.tmp 12) 39 39 rfl 5 Tryd.underlying39 rsize_u8 _ _ _ _ _ _ rfl rfl (w.heap.size + 1 + 1) 0 _ 5 HG1.out (r.data.map (Value.int .u8)) (by have := HND.out; simp; omega) (fun hp => ⟨rfl, (HLD.out w1 (lw_b HB1.out)).cells6 hp⟩) (by have := HND.out; simp; omega) (by intro v hv; simp at hv; obtain ⟨x, _, rfl⟩ := hv; rfl) (w.heap.size + 1 + 1) _ HB1.out (Nat.le_refl _) ?_; intro w2 HG2 hb2; have HB2 : Hid (Below (w.heap.size + 1 + 1) (lw w r (.slice sa ns sc) (.slice da nd dc)) w2) := hb2; clear hb2))
  have hblk : Blk .u8 w2 (w.heap.size + 1 + 1) 5 (r.data ++ [0, 0]) := by
    have := HG2.out; rw [rsplice2 r.data nd HND.out] at this; exact this
  clear HG2 HG1 HB1 c9 c10
  have k1 := hblk.cell nd (by have := HND.out; simp; omega)
  have k2 := hblk.frozen nd
  have b3 := hblk.set nd 177
  rw [rset1 _ _ HND.out] at b3
  have HB3 : Hid (Below (w.heap.size + 1 + 1) (lw w r (.slice sa ns sc) (.slice da nd dc)) (w2.setCell ⟨w.heap.size + 1 + 1, nd, none⟩ (.int .u8 177))) := HB2.out.setCell (p := ⟨w.heap.size + 1 + 1, nd, none⟩) (Nat.le_refl _) _
  have k3 := b3.cell (nd + 1) (by have := HND.out; simp; omega)
  have k4 := b3.frozen (nd + 1)
  have b4 := b3.set (nd + 1) 178
  rw [rset2 _ _ HND.out] at b4
  have HB4 : Hid (Below (w.heap.size + 1 + 1) (lw w r (.slice sa ns sc) (.slice da nd dc)) ((w2.setCell ⟨w.heap.size + 1 + 1, nd, none⟩ (.int .u8 177)).setCell ⟨w.heap.size + 1 + 1, nd + 1, none⟩ (.int .u8 178))) := HB3.out.setCell (p := ⟨w.heap.size + 1 + 1, nd + 1, none⟩) (Nat.le_refl _) _
  obtain ⟨_, _, _, _, _, _, _, _, _, a9, a10⟩ := rc_cells (lw_x HB2.out)
  obtain ⟨_, _, _, _, _, _, _, _, _, a9', a10'⟩ := rc_cells (lw_x HB3.out)
  have HBK : Hid (Blk .u8 ((w2.setCell ⟨w.heap.size + 1 + 1, nd, none⟩ (.int .u8 177)).setCell ⟨w.heap.size + 1 + 1, nd + 1, none⟩ (.int .u8 178)) (w.heap.size + 1 + 1) 5 (mkD r.data)) := b4
  have e1 : (r.data ++ [0, 0]).getD nd 0 = 0 := by rw [List.getD_eq_getElem?_getD, rget1 _ _ HND.out]; rfl
  have e2 : (r.data ++ [177, 0]).getD (nd + 1) 0 = 0 := by rw [List.getD_eq_getElem?_getD, rget2 _ _ HND.out]; rfl
  rw [e1] at k1
  rw [e2] at k3
  clear hblk b3 b4 e1 e2
  go_upto_region 5 with fail
  clear k1 k2 k3 k4 a9 a10 a9' a10' HB2 HB3
  generalize (w2.setCell ⟨w.heap.size + 1 + 1, nd, none⟩ (.int .u8 177)).setCell ⟨w.heap.size + 1 + 1, nd + 1, none⟩ (.int .u8 178) = w4 at *
  obtain ⟨_, _, _, _, _, _, _, _, _, a9, a10⟩ := rc_cells (lw_x HB4.out)
  have hw4 : w.heap.size ≤ w4.heap.size := (lw_b HB4.out).size
  go_upto_region 7 with (first
    | (at_make; refine wpList_make_full _ rfl _ _ 26 rfl w.heap.size 62 i1 (.agg #[.int .i64 0, .int .i64 0]) 2 Tryd.underlying26 hi' hy0 hy1 .i64 .i64 _ _ (ns + 2) rfl rfl (by omega) (by omega) (by rw [hy2]; omega) (by unfold maxLen; omega) hw4 ?_; intro w5 hown5 hgrow5; obtain ⟨HO5, HB5, HK5, hlt5⟩ := lm5 (w := w) HB4 HBK hown5 hgrow5; obtain ⟨_, _, _, _, _, _, _, _, _, b9, b10⟩ := rc_cells (lw_x HB5.out); clear hown5 hgrow5)
    | (refine C.wpList_copy_spans rfl (.tmp 30) (.tmp 32) 26 26 rfl Tryd.underlying26 rsize_span w4.heap.size (ns + 2) (ns + 2) w.heap.size _ r.spans (.slice sa ns sc) rfl rfl HO5.out (HLS.out _ (lw_b HB5.out)) (by have := HNS.out; omega) ?_; intro w6 hso6 hgr6; obtain ⟨HB6, HK6⟩ := lm6 hlt5 HB5 HK5 hgr6 (by have := (Array.getElem?_eq_some_iff.mp HK5.out).1; omega)))
  rw [sdrop2 _ _ HNS.out] at hso6
  clear HO5 HB5 HK5 HB4 HBK a9 a10 b9 b10 hgr6
  obtain ⟨gs, hgs⟩ : ∃ gs, gs = w4.heap.size := ⟨_, rfl⟩
  have e1 := rget1 r.spans ns HNS.out ((0 : Int), (0 : Int)) (0, 0)
  obtain ⟨q1, q2, q3, q4⟩ := hso6.cells e1
  have s7 := hso6.put (k := ns) (-77) 0
  rw [sset1 _ _ HNS.out] at s7
  have e2 := rget2 r.spans ns HNS.out ((-77 : Int), (0 : Int)) (0, 0)
  obtain ⟨q5, q6, q7, q8⟩ := s7.cells e2
  have s8 := s7.put (k := ns + 1) (-78) 0
  rw [sset2 _ _ HNS.out] at s8
  simp only at q1 q2 q5 q6
  have hge : w.heap.size + 1 + 1 ≤ w4.heap.size := by omega
  have HB7 : Hid (Below (w.heap.size + 1 + 1) (lw w r (.slice sa ns sc) (.slice da nd dc)) ((w6.setCell ⟨w4.heap.size, ns * 2, none⟩ (.int .i64 (-77))).setCell ⟨w4.heap.size, ns * 2 + 1, none⟩ (.int .i64 0))) := (HB6.out.setCell (p := ⟨w4.heap.size, ns * 2, none⟩) hge _).setCell (p := ⟨w4.heap.size, ns * 2 + 1, none⟩) hge _
  have HB8 : Hid (Below (w.heap.size + 1 + 1) (lw w r (.slice sa ns sc) (.slice da nd dc)) ((((w6.setCell ⟨w4.heap.size, ns * 2, none⟩ (.int .i64 (-77))).setCell ⟨w4.heap.size, ns * 2 + 1, none⟩ (.int .i64 0)).setCell ⟨w4.heap.size, (ns + 1) * 2, none⟩ (.int .i64 (-78))).setCell ⟨w4.heap.size, (ns + 1) * 2 + 1, none⟩ (.int .i64 0))) := (HB7.out.setCell (p := ⟨w4.heap.size, (ns + 1) * 2, none⟩) hge _).setCell (p := ⟨w4.heap.size, (ns + 1) * 2 + 1, none⟩) hge _
  have HS8 : Hid (C.SOwn ((((w6.setCell ⟨w4.heap.size, ns * 2, none⟩ (.int .i64 (-77))).setCell ⟨w4.heap.size, ns * 2 + 1, none⟩ (.int .i64 0)).setCell ⟨w4.heap.size, (ns + 1) * 2, none⟩ (.int .i64 (-78))).setCell ⟨w4.heap.size, (ns + 1) * 2 + 1, none⟩ (.int .i64 0)) w.heap.size (.slice (some ⟨w4.heap.size, 0, none⟩) (ns + 2) (ns + 2)) (mkS r.spans)) := s8
  have HK8 : Hid (Blk .u8 ((((w6.setCell ⟨w4.heap.size, ns * 2, none⟩ (.int .i64 (-77))).setCell ⟨w4.heap.size, ns * 2 + 1, none⟩ (.int .i64 0)).setCell ⟨w4.heap.size, (ns + 1) * 2, none⟩ (.int .i64 (-78))).setCell ⟨w4.heap.size, (ns + 1) * 2 + 1, none⟩ (.int .i64 0)) (w.heap.size + 1 + 1) 5 (mkD r.data)) := by
    have h1 : (w.heap.size + 1 + 1) < w6.heap.size := (Array.getElem?_eq_some_iff.mp HK6.out).1
    exact ((C.grown_trans (C.grown_put w6 w4.heap.size ns (.int .i64 (-77)) (.int .i64 0)) (C.grown_put _ w4.heap.size (ns + 1) (.int .i64 (-78)) (.int .i64 0))).block _ h1 (by simp; omega)).trans HK6.out
  obtain ⟨_, _, _, _, _, _, _, _, _, a9, a10⟩ := rc_cells (lw_x HB6.out)
  obtain ⟨_, _, _, _, _, _, _, _, _, b9, b10⟩ := rc_cells (lw_x HB7.out)
  clear e1 e2 s7 s8 hso6 HK6 HB6 HB7
  go_upto_region 9 with fail
  generalize (((w6.setCell ⟨w4.heap.size, ns * 2, none⟩ (.int .i64 (-77))).setCell ⟨w4.heap.size, ns * 2 + 1, none⟩ (.int .i64 0)).setCell ⟨w4.heap.size, (ns + 1) * 2, none⟩ (.int .i64 (-78))).setCell ⟨w4.heap.size, (ns + 1) * 2 + 1, none⟩ (.int .i64 0) = w8 at *
  clear q1 q2 q3 q4 q5 q6 q7 q8 a9 a10 b9 b10 hgs hw4
  generalize w4.heap.size = gs at *
  have hx := lw_x HB8.out
  have hz := lw_z HB8.out
  obtain ⟨c0, c1, c2, c3, c4, c5, c6, c7, c8, c9, c10⟩ := rc_cells hx
  obtain ⟨z0, z1, z2, z3, z4, z5, z6, z7, z8, z9, z10⟩ := rc_cells hz
  have fx := rc_frozen hx
  have fz := rc_frozen hz
  clear hx hz
  go_wp2_with fail
  have hx := lw_x HB8.out
  have hz := lw_z HB8.out
  obtain ⟨V9, hV9⟩ : ∃ V9, V9 = Value.slice (some ⟨gs, 0, none⟩) ns (ns + 2) := ⟨_, rfl⟩
  obtain ⟨V10, hV10⟩ : ∃ V10, V10 = Value.slice (some ⟨w.heap.size + 1 + 1, 0, none⟩) nd (nd + 2) := ⟨_, rfl⟩
  rw [← hV9, ← hV10]
  have hg1 : w8.grownBy ((w8.setCell ⟨w.heap.size, 10, none⟩ V10).setCell ⟨w.heap.size, 9, none⟩ V9) (some w.heap.size) := C.grown_trans (grown_set _ _ _ _) (grown_set _ _ _ _)
  change bodyPost _ _ _ _ _ (rS ((w8.setCell ⟨w.heap.size, 10, none⟩ V10).setCell ⟨w.heap.size, 9, none⟩ V9) (w.heap.size + 1) r V9 V10)
  generalize (w8.setCell ⟨w.heap.size, 10, none⟩ V10).setCell ⟨w.heap.size, 9, none⟩ V9 = w10 at *
  have hz10 : w10.heap[w.heap.size + 1]? = some (rcO rz0 (.slice none 0 0) (.slice none 0 0)) := (hg1.block _ (Array.getElem?_eq_some_iff.mp hz).1 (by simp)).trans hz
  have hlv := fun j => cell_of_row _ (w.heap.size + 1) j _ _ _ (rS_heap w10 (w.heap.size + 1) r rz0 V9 V10 _ _ hz10)
  have hg2 := rS_grown w10 (w.heap.size + 1) r V9 V10
  generalize rS w10 (w.heap.size + 1) r V9 V10 = W9 at *
  clear c0 c1 c2 c3 c4 c5 c6 c7 c8 c9 c10 z0 z1 z2 z3 z4 z5 z6 z7 z8 z9 z10 fx fz hx hz hz10
  refine bodyPost_ret (v := .agg (rcC r V9 V10)) (by simp [results, Tryd.results17, go_sem, rcC, hlv]) rfl ?_
  subst hV9 hV10
  refine ⟨w.heap.size + 1 + 1, gs, rfl, ?_, ?_, by omega, by omega, ?_⟩
  · exact blk_keep (blk_keep HK8.out hg1 (by simp; omega)) hg2 (by simp)
  · exact own_keep6 (own_keep6 HS8.out hg1 (by intro k hk; simp [Value.ownBlock] at hk; simp; omega)) hg2 (by intro k hk; simp [Value.ownBlock] at hk; simp; omega)
  · have h1 := lw_b HB8.out
    exact (h1.grown hg1 h1.size (by simp)).grown hg2 (by have := hg1.size; have := h1.size; omega) (by simp)
end Go.Proofs.YtgmbpagbiakciafDoor
