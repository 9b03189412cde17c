import Derived.Test.YtdfdaambfihjaaaDoorRx2
import Derived.Test.YtdfdaambfihjaaaDoorRx1
namespace Go.Proofs.YtdfdaambfihjaaaDoor
open Go.RowKit
set_option linter.unusedVariables false
set_option linter.unusedSimpArgs false

theorem size_sg2 : (Tryd.prog.info? 37).map (·.size) = some 14 := by kernel_rfl
/-- What a whole struct's store wants. -/
def Stor2 (P : Program) (ty : TypeId) (w : World) (vx vy : Value) : Prop := ∃ (g : Nat) (cells old : Array Value) (t : TypeId), vx = .pointer (some ⟨g, 0, none⟩) ∧ vy = .agg cells ∧ w.heap[g]? = some (.cells old t (0, 0)) ∧ old.size = cells.size ∧ (P.info? ty).map (·.size) = some cells.size ∧ cells.all (·.oneCell') = true
def pBlk2 : Value → Nat
  | .pointer (some a) => a.block
  | _ => 0
def pAgg2 : Value → Array Value
  | .agg c => c
  | _ => #[]
theorem pBlk2_ptr (a : Addr) : pBlk2 (.pointer (some a)) = a.block := rfl
theorem pAgg2_agg (c : Array Value) : pAgg2 (.agg c) = c := rfl
/-- A store of a whole struct into a block of its own: one step, wherever it stands. -/
theorem wp_store2 {P : Program} {ty tp : TypeId} {x y : Operand} {d : Option Tmp} {ps : String} {af : Array Edge} {a : Act} {w : World} {K : Act → World → Prop} {Q : Exit → Act → World → Prop}
    (hs : Stor2 P ty w (a.eval x) (a.eval y)) :
    Oper.wp P { dst := d, op := .store ty x y, type := tp, pos := ps, after := af, guard := none } a w K Q = K (a.put d undef) (w.setRow (pBlk2 (a.eval x)) (pAgg2 (a.eval y))) := by
  obtain ⟨g, cells, old, t, hx, hy, hg, ho, hi, h1⟩ := hs
  have hr := run_storeVar_row (P := P) w g t ty old cells hg hi ho h1
  unfold Oper.wp execOp
  simp only [hx, hy, pBlk2_ptr, pAgg2_agg, Instr.storeAt, Instr.sureAddr, Sem.run_bind, Sem.run_pure, Result.andThen_ok, hr]
  rfl
attribute [local go_sem ↓] wp_store2
attribute [local go_sem] pBlk2_ptr pAgg2_agg

abbrev zsC : Array Value := #[.int .i64 0, .int .i64 0, .int .i64 0, .slice none 0 0, .slice none 0 0, .int .i64 0, .int .i64 0, .slice none 0 0, .int .i64 0, .int .i64 0, .int .i64 0, .int .i64 0, .slice none 0 0, .int .i64 0]
abbrev lV (g n : Nat) : Value := .slice (some ⟨g, 0, none⟩) n (n + 2)

/-- A segment that was lent: where its lists lie. -/
structure LS (w : World) (base B1 B2 B3 : Nat) (s : Sg) (hx tx hR tR : List Xr) (gh gt gd gc : Nat) : Prop where
  head : LX w base B1 gh hx hR
  tail : LX w B1 B2 gt tx tR
  data : Blk .u8 w gd 5 (mk2 s.data)
  gdb : B2 ≤ gd ∧ gd < B3
  clm : C.SOwn w B3 (.slice (some ⟨gc, 0, none⟩) (s.clm.length + 2) (s.clm.length + 2)) (C.mkL s.clm)
theorem LS.below {w w' : World} {base B1 B2 B3 : Nat} {s : Sg} {hx tx hR tR : List Xr} {gh gt gd gc : Nat} (h : LS w base B1 B2 B3 s hx tx hR tR gh gt gd gc) (hb : Below w.heap.size w w') : LS w' base B1 B2 B3 s hx tx hR tR gh gt gd gc := by
  have hc := (h.clm.lt gc rfl)
  have hd := h.gdb
  have h1 := h.head.g0
  have h2 := h.tail.g0
  exact ⟨h.head.keep fun k _ hk => hb.block k (by omega), h.tail.keep fun k _ hk => hb.block k (by omega), (hb.block _ (by omega)).trans h.data, h.gdb, h.clm.below hb⟩
theorem LS.sin {w w0 : World} {base B1 B2 B3 : Nat} {s : Sg} {hx tx hR tR : List Xr} {gh gt gd gc : Nat} {hv tv dv cv : Value} (h : LS w base B1 B2 B3 s hx tx hR tR gh gt gd gc) (hs : SIn w0 s hv tv dv cv hx tx) :
    SIn w s (lV gh hx.length) (lV gt tx.length) (lV gd s.data.length) (lV gc s.clm.length) (hR.take hx.length) (tR.take tx.length) where
  head := h.head.xin hs.head
  headEq := by rw [hs.headEq]; exact (LX.ex (w0 := w0) (v := hv) h.head).symm
  tail := h.tail.xin hs.tail
  tailEq := by rw [hs.tailEq]; exact (LX.ex (w0 := w0) (v := tv) h.tail).symm
  data := h.data.bin2 hs.data.bytes hs.data.small
  clm := by
    refine ⟨⟨some ⟨gc, 0, none⟩, s.clm.length + 2, rfl, ?_⟩, hs.clm.small⟩
    by_cases h0 : s.clm = []
    · exact .inl h0
    · refine .inr ⟨gc, 0, rfl, fun i p hp => ?_⟩
      obtain ⟨q1, q2, _, _⟩ := h.clm.cells2 (C.mkL_at hp)
      rw [Nat.zero_add]
      exact ⟨q1, q2⟩

def LentP (s : Sg) (hx tx : List Xr) (w : World) (e : Ending) (w' : World) : Prop :=
  ∃ B1 B2 B3 hR tR gh gt gd gc, e = .returned (.agg (svC s (lV gh hx.length) (lV gt tx.length) (lV gd s.data.length) (lV gc s.clm.length))) ∧ LS w' w.heap.size B1 B2 B3 s hx tx hR tR gh gt gd gc ∧ Below w.heap.size w w'

theorem bl_setRow2 {b g : Nat} {w W : World} (h : Below b w W) (hg : b ≤ g) (cs : Array Value) : Below b w (W.setRow g cs) := by
  obtain ⟨a1, a2, a3, a4, a5⟩ := h
  refine ⟨a1, a2, a3, by simpa [World.setRow] using a4, fun j hj => ?_⟩
  rw [← a5 j hj]
  simp only [World.setRow]
  rw [Array.getElem?_modify, if_neg (fun e => by omega)]
theorem setRow_other2 {W : World} {g k : Nat} (cs : Array Value) (h : k ≠ g) : (W.setRow g cs).heap[k]? = W.heap[k]? := by
  simp only [World.setRow]
  rw [Array.getElem?_modify, if_neg (fun e => h e.symm)]
set_option maxRecDepth 100000 in
set_option maxHeartbeats 16000000 in
theorem lent_seg (s : Sg) (hv tv dv cv : Value) (hx tx : List Xr) (w : World) (hs : SIn w s hv tv dv cv hx tx) :
    Calls Tryd.prog 16 #[.agg (svC s hv tv dv cv)] w (LentP s hx tx w) := by
  obtain ⟨ah, ch, rfl, _⟩ := hs.head.shape
  obtain ⟨at2, ct, rfl, _⟩ := hs.tail.shape
  obtain ⟨ad, cd, rfl, _⟩ := hs.data.shape
  obtain ⟨ac, cc, rfl, hcs⟩ := hs.clm.shape
  obtain ⟨P, hP⟩ : ∃ P, LentP s hx tx w = P := ⟨_, rfl⟩
  have HP : Hid (LentP s hx tx w = P) := hP
  rw [hP]
  have hcs' : C.Spa w ac s.clm := hcs
  have hcm := hs.clm.small
  obtain ⟨nh, hnh⟩ : ∃ n, hx.length = n := ⟨_, rfl⟩
  obtain ⟨nt, hnt⟩ : ∃ n, tx.length = n := ⟨_, rfl⟩
  obtain ⟨nd, hnd⟩ : ∃ n, s.data.length = n := ⟨_, rfl⟩
  obtain ⟨nc, hnc⟩ : ∃ n, s.clm.length = n := ⟨_, rfl⟩
  have HNs : Hid (hx.length = nh ∧ tx.length = nt ∧ s.data.length = nd ∧ s.clm.length = nc) := ⟨hnh, hnt, hnd, hnc⟩
  have HX0 : Hid (∀ V, Below w.heap.size w V → Calls Tryd.prog 35 #[.slice ah nh ch] V fun e w' => e = .returned (lV V.heap.size nh) ∧ (∃ R, LX w' V.heap.size w'.heap.size V.heap.size hx R) ∧ Below V.heap.size V w') := fun V hV => by
    have := lentExts_any (hs.head.below hV); rw [hnh] at this; exact this
  have HX1 : Hid (∀ V, Below w.heap.size w V → Calls Tryd.prog 35 #[.slice at2 nt ct] V fun e w' => e = .returned (lV V.heap.size nt) ∧ (∃ R, LX w' V.heap.size w'.heap.size V.heap.size tx R) ∧ Below V.heap.size V w') := fun V hV => by
    have := lentExts_any (hs.tail.below hV); rw [hnt] at this; exact this
  have HX2 : Hid (∀ V, Below w.heap.size w V → Calls Tryd.prog 36 #[.slice ad nd cd] V fun e w' => e = .returned (lV V.heap.size nd) ∧ Blk .u8 w' V.heap.size 5 (mk2 s.data) ∧ Below V.heap.size V w') := fun V hV => by
    have := lentBytes_any (hs.data.below hV); rw [hnd] at this; exact this
  have HX3 : Hid (∀ V, Below w.heap.size w V → Calls Tryd.prog 37 #[.slice ac nc cc] V fun e w' => e = .returned (lV V.heap.size nc) ∧ C.SOwn w' V.heap.size (.slice (some ⟨V.heap.size, 0, none⟩) (nc + 2) (nc + 2)) (C.mkL s.clm) ∧ Below V.heap.size V w') := fun V hV => by
    have := C.lentSpa_any (v := .slice ac nc cc) (c := cc) (by rw [hnc]) (C.Spa.below hcs' hV) hcm; rw [hnc] at this; exact this
  rw [hnh, hnt, hnd, hnc]
  obtain ⟨W, hW⟩ : ∃ W, (w.alloc (.cells (svC s (.slice ah nh ch) (.slice at2 nt ct) (.slice ad nd cd) (.slice ac nc cc)) 37)).alloc (.cells zsC 37) = W := ⟨_, rfl⟩
  have HWe : Hid ((w.alloc (.cells (svC s (.slice ah nh ch) (.slice at2 nt ct) (.slice ad nd cd) (.slice ac nc cc)) 37)).alloc (.cells zsC 37) = W) := hW
  have HWs : Hid (W.heap.size = w.heap.size + 1 + 1) := by show _ = _; rw [← hW]; simp
  have hbW : Below w.heap.size w W := by rw [← hW]; exact ((Below.refl _ _).alloc (Nat.le_refl _) _).alloc (by simp) _
  have HA0 : Hid (W.heap[w.heap.size]? = some (.cells (svC s (.slice ah nh ch) (.slice at2 nt ct) (.slice ad nd cd) (.slice ac nc cc)) 37 (0, 0))) := by
    show _ = _
    rw [← hW]
    exact (((Below.refl (w.heap.size + 1) (w.alloc (.cells (svC s (.slice ah nh ch) (.slice at2 nt ct) (.slice ad nd cd) (.slice ac nc cc)) 37))).alloc (by simp) _).block _ (by (have := HWs.out; omega))).trans (al_new _ _)
  have HZ0 : Hid (W.heap[w.heap.size + 1]? = some (.cells zsC 37 (0, 0))) := by
    show _ = _
    rw [← hW]
    have := al_new (w.alloc (.cells (svC s (.slice ah nh ch) (.slice at2 nt ct) (.slice ad nd cd) (.slice ac nc cc)) 37)) (.cells zsC 37)
    rwa [World.size_alloc] at this
  have HBW : Hid (Below w.heap.size w W) := hbW
  obtain ⟨y0, y1, y2, y3, y4, y5, y6, y7, y8, y9, y10, y11, y12, y13⟩ := s14_cells HA0.out
  clear hs hcs hcs' hcm hP hW hbW hnh hnt hnd hnc
  go_enter Tryd.func16, Tryd.ntmps16
  go_wp2_with fail
  rw [HWe.out]
  refine (HX0.out W HBW.out).mono ?_
  rintro e u0 ⟨rfl, ⟨R0, hl0⟩, hb0⟩
  clear y0 y1 y2 y3 y4 y5 y6 y7 y8 y9 y10 y11 y12 y13 HX0
  have HSZ0 : Hid (W.heap.size ≤ u0.heap.size) := hb0.size
  have HAu0 : Hid (u0.heap[w.heap.size]? = some (.cells (svC s (.slice ah nh ch) (.slice at2 nt ct) (.slice ad nd cd) (.slice ac nc cc)) 37 (0, 0))) := (hb0.block _ (by (have := HWs.out; have := HSZ0.out; omega))).trans HA0.out
  have HZu0 : Hid (u0.heap[w.heap.size + 1]? = some (.cells zsC 37 (0, 0))) := (hb0.block _ (by (have := HWs.out; have := HSZ0.out; omega))).trans HZ0.out
  have HBu0 : Hid (Below w.heap.size w u0) := HBW.out.trans (hb0.mono HBW.out.size)
  have HL0_0 : Hid (LX u0 W.heap.size u0.heap.size W.heap.size hx R0) := hl0
  clear hl0 hb0
  obtain ⟨y0, y1, y2, y3, y4, y5, y6, y7, y8, y9, y10, y11, y12, y13⟩ := s14_cells HAu0.out
  have fz := frozen_of_row _ _ 3 _ _ HAu0.out
  go_upto_region 2 with fail
  obtain ⟨w0, hw0⟩ : ∃ x, u0.setCell ⟨w.heap.size, 3, none⟩ (lV W.heap.size nh) = x := ⟨_, rfl⟩
  have HA1 : Hid (w0.heap[w.heap.size]? = some (.cells (svC s (lV W.heap.size nh) (.slice at2 nt ct) (.slice ad nd cd) (.slice ac nc cc)) 37 (0, 0))) := by show _ = _; rw [← hw0]; exact heap_setCell_same _ _ _ _ _ _ HAu0.out
  have HZ1 : Hid (w0.heap[w.heap.size + 1]? = some (.cells zsC 37 (0, 0))) := by show _ = _; rw [← hw0]; exact (heap_setCell_other _ _ _ _ (by show w.heap.size + 1 ≠ w.heap.size; (have := HWs.out; have := HSZ0.out; omega))).trans HZu0.out
  have HBw0 : Hid (Below w.heap.size w w0) := by show Below _ _ _; rw [← hw0]; exact HBu0.out.setCell (p := ⟨w.heap.size, 3, none⟩) (Nat.le_refl _) _
  have HSW0 : Hid (w0.heap.size = u0.heap.size) := by show _ = _; rw [← hw0]; simp
  have HL0_0s : Hid (LX w0 W.heap.size u0.heap.size W.heap.size hx R0) := HL0_0.out.keep fun k hk _ => by rw [← hw0]; exact heap_setCell_other _ _ _ _ (by show k ≠ w.heap.size; (have := HWs.out; have := HSZ0.out; have := HSW0.out; omega))
  rw [hw0]
  clear y0 y1 y2 y3 y4 y5 y6 y7 y8 y9 y10 y11 y12 y13 fz hw0 HAu0 HZu0 HBu0 HL0_0
  obtain ⟨y0, y1, y2, y3, y4, y5, y6, y7, y8, y9, y10, y11, y12, y13⟩ := s14_cells HA1.out
  go_wp2_with fail
  refine (HX1.out w0 HBw0.out).mono ?_
  rintro e u1 ⟨rfl, ⟨R1, hl1⟩, hb1⟩
  clear y0 y1 y2 y3 y4 y5 y6 y7 y8 y9 y10 y11 y12 y13 HX1
  have HSZ1 : Hid (w0.heap.size ≤ u1.heap.size) := hb1.size
  have HAu1 : Hid (u1.heap[w.heap.size]? = some (.cells (svC s (lV W.heap.size nh) (.slice at2 nt ct) (.slice ad nd cd) (.slice ac nc cc)) 37 (0, 0))) := (hb1.block _ (by (have := HWs.out; have := HSZ0.out; have := HSW0.out; have := HSZ1.out; omega))).trans HA1.out
  have HZu1 : Hid (u1.heap[w.heap.size + 1]? = some (.cells zsC 37 (0, 0))) := (hb1.block _ (by (have := HWs.out; have := HSZ0.out; have := HSW0.out; have := HSZ1.out; omega))).trans HZ1.out
  have HBu1 : Hid (Below w.heap.size w u1) := HBw0.out.trans (hb1.mono HBw0.out.size)
  have HL0_1 : Hid (LX u1 W.heap.size u0.heap.size W.heap.size hx R0) := HL0_0s.out.keep fun k _ hk => hb1.block k (by (have := HWs.out; have := HSZ0.out; have := HSW0.out; have := HSZ1.out; omega))
  have HL1_1 : Hid (LX u1 w0.heap.size u1.heap.size w0.heap.size tx R1) := hl1
  clear hl1 hb1
  obtain ⟨y0, y1, y2, y3, y4, y5, y6, y7, y8, y9, y10, y11, y12, y13⟩ := s14_cells HAu1.out
  have fz := frozen_of_row _ _ 4 _ _ HAu1.out
  go_upto_region 3 with fail
  obtain ⟨w1, hw1⟩ : ∃ x, u1.setCell ⟨w.heap.size, 4, none⟩ (lV w0.heap.size nt) = x := ⟨_, rfl⟩
  have HA2 : Hid (w1.heap[w.heap.size]? = some (.cells (svC s (lV W.heap.size nh) (lV w0.heap.size nt) (.slice ad nd cd) (.slice ac nc cc)) 37 (0, 0))) := by show _ = _; rw [← hw1]; exact heap_setCell_same _ _ _ _ _ _ HAu1.out
  have HZ2 : Hid (w1.heap[w.heap.size + 1]? = some (.cells zsC 37 (0, 0))) := by show _ = _; rw [← hw1]; exact (heap_setCell_other _ _ _ _ (by show w.heap.size + 1 ≠ w.heap.size; (have := HWs.out; have := HSZ0.out; have := HSW0.out; have := HSZ1.out; omega))).trans HZu1.out
  have HBw1 : Hid (Below w.heap.size w w1) := by show Below _ _ _; rw [← hw1]; exact HBu1.out.setCell (p := ⟨w.heap.size, 4, none⟩) (Nat.le_refl _) _
  have HSW1 : Hid (w1.heap.size = u1.heap.size) := by show _ = _; rw [← hw1]; simp
  have HL0_1s : Hid (LX w1 W.heap.size u0.heap.size W.heap.size hx R0) := HL0_1.out.keep fun k hk _ => by rw [← hw1]; exact heap_setCell_other _ _ _ _ (by show k ≠ w.heap.size; (have := HWs.out; have := HSZ0.out; have := HSW0.out; have := HSZ1.out; have := HSW1.out; omega))
  have HL1_1s : Hid (LX w1 w0.heap.size u1.heap.size w0.heap.size tx R1) := HL1_1.out.keep fun k hk _ => by rw [← hw1]; exact heap_setCell_other _ _ _ _ (by show k ≠ w.heap.size; (have := HWs.out; have := HSZ0.out; have := HSW0.out; have := HSZ1.out; have := HSW1.out; omega))
  rw [hw1]
  clear y0 y1 y2 y3 y4 y5 y6 y7 y8 y9 y10 y11 y12 y13 fz hw1 HAu1 HZu1 HBu1 HL0_1 HL1_1
  obtain ⟨y0, y1, y2, y3, y4, y5, y6, y7, y8, y9, y10, y11, y12, y13⟩ := s14_cells HA2.out
  go_wp2_with fail
  refine (HX2.out w1 HBw1.out).mono ?_
  rintro e u2 ⟨rfl, hl2, hb2⟩
  clear y0 y1 y2 y3 y4 y5 y6 y7 y8 y9 y10 y11 y12 y13 HX2
  have HSZ2 : Hid (w1.heap.size ≤ u2.heap.size) := hb2.size
  have HAu2 : Hid (u2.heap[w.heap.size]? = some (.cells (svC s (lV W.heap.size nh) (lV w0.heap.size nt) (.slice ad nd cd) (.slice ac nc cc)) 37 (0, 0))) := (hb2.block _ (by (have := HWs.out; have := HSZ0.out; have := HSW0.out; have := HSZ1.out; have := HSW1.out; have := HSZ2.out; omega))).trans HA2.out
  have HZu2 : Hid (u2.heap[w.heap.size + 1]? = some (.cells zsC 37 (0, 0))) := (hb2.block _ (by (have := HWs.out; have := HSZ0.out; have := HSW0.out; have := HSZ1.out; have := HSW1.out; have := HSZ2.out; omega))).trans HZ2.out
  have HBu2 : Hid (Below w.heap.size w u2) := HBw1.out.trans (hb2.mono HBw1.out.size)
  have HL0_2 : Hid (LX u2 W.heap.size u0.heap.size W.heap.size hx R0) := HL0_1s.out.keep fun k _ hk => hb2.block k (by (have := HWs.out; have := HSZ0.out; have := HSW0.out; have := HSZ1.out; have := HSW1.out; have := HSZ2.out; omega))
  have HL1_2 : Hid (LX u2 w0.heap.size u1.heap.size w0.heap.size tx R1) := HL1_1s.out.keep fun k _ hk => hb2.block k (by (have := HWs.out; have := HSZ0.out; have := HSW0.out; have := HSZ1.out; have := HSW1.out; have := HSZ2.out; omega))
  have HL2_2 : Hid (Blk .u8 u2 w1.heap.size 5 (mk2 s.data)) := hl2
  have HLT2 : Hid (w1.heap.size < u2.heap.size) := blk_lt hl2
  clear hl2 hb2
  obtain ⟨y0, y1, y2, y3, y4, y5, y6, y7, y8, y9, y10, y11, y12, y13⟩ := s14_cells HAu2.out
  have fz := frozen_of_row _ _ 7 _ _ HAu2.out
  go_upto_region 4 with fail
  obtain ⟨w2, hw2⟩ : ∃ x, u2.setCell ⟨w.heap.size, 7, none⟩ (lV w1.heap.size nd) = x := ⟨_, rfl⟩
  have HA3 : Hid (w2.heap[w.heap.size]? = some (.cells (svC s (lV W.heap.size nh) (lV w0.heap.size nt) (lV w1.heap.size nd) (.slice ac nc cc)) 37 (0, 0))) := by show _ = _; rw [← hw2]; exact heap_setCell_same _ _ _ _ _ _ HAu2.out
  have HZ3 : Hid (w2.heap[w.heap.size + 1]? = some (.cells zsC 37 (0, 0))) := by show _ = _; rw [← hw2]; exact (heap_setCell_other _ _ _ _ (by show w.heap.size + 1 ≠ w.heap.size; (have := HWs.out; have := HSZ0.out; have := HSW0.out; have := HSZ1.out; have := HSW1.out; have := HSZ2.out; have := HLT2.out; omega))).trans HZu2.out
  have HBw2 : Hid (Below w.heap.size w w2) := by show Below _ _ _; rw [← hw2]; exact HBu2.out.setCell (p := ⟨w.heap.size, 7, none⟩) (Nat.le_refl _) _
  have HSW2 : Hid (w2.heap.size = u2.heap.size) := by show _ = _; rw [← hw2]; simp
  have HL0_2s : Hid (LX w2 W.heap.size u0.heap.size W.heap.size hx R0) := HL0_2.out.keep fun k hk _ => by rw [← hw2]; exact heap_setCell_other _ _ _ _ (by show k ≠ w.heap.size; (have := HWs.out; have := HSZ0.out; have := HSW0.out; have := HSZ1.out; have := HSW1.out; have := HSZ2.out; have := HLT2.out; have := HSW2.out; omega))
  have HL1_2s : Hid (LX w2 w0.heap.size u1.heap.size w0.heap.size tx R1) := HL1_2.out.keep fun k hk _ => by rw [← hw2]; exact heap_setCell_other _ _ _ _ (by show k ≠ w.heap.size; (have := HWs.out; have := HSZ0.out; have := HSW0.out; have := HSZ1.out; have := HSW1.out; have := HSZ2.out; have := HLT2.out; have := HSW2.out; omega))
  have HL2_2s : Hid (Blk .u8 w2 w1.heap.size 5 (mk2 s.data)) := by show Blk _ _ _ _ _; rw [← hw2]; exact (heap_setCell_other _ _ _ _ (by show w1.heap.size ≠ w.heap.size; (have := HWs.out; have := HSZ0.out; have := HSW0.out; have := HSZ1.out; have := HSW1.out; have := HSZ2.out; have := HLT2.out; have := HSW2.out; omega))).trans HL2_2.out
  rw [hw2]
  clear y0 y1 y2 y3 y4 y5 y6 y7 y8 y9 y10 y11 y12 y13 fz hw2 HAu2 HZu2 HBu2 HL0_2 HL1_2 HL2_2
  obtain ⟨y0, y1, y2, y3, y4, y5, y6, y7, y8, y9, y10, y11, y12, y13⟩ := s14_cells HA3.out
  go_wp2_with fail
  refine (HX3.out w2 HBw2.out).mono ?_
  rintro e u3 ⟨rfl, hl3, hb3⟩
  clear y0 y1 y2 y3 y4 y5 y6 y7 y8 y9 y10 y11 y12 y13 HX3
  have HSZ3 : Hid (w2.heap.size ≤ u3.heap.size) := hb3.size
  have HAu3 : Hid (u3.heap[w.heap.size]? = some (.cells (svC s (lV W.heap.size nh) (lV w0.heap.size nt) (lV w1.heap.size nd) (.slice ac nc cc)) 37 (0, 0))) := (hb3.block _ (by (have := HWs.out; have := HSZ0.out; have := HSW0.out; have := HSZ1.out; have := HSW1.out; have := HSZ2.out; have := HLT2.out; have := HSW2.out; have := HSZ3.out; omega))).trans HA3.out
  have HZu3 : Hid (u3.heap[w.heap.size + 1]? = some (.cells zsC 37 (0, 0))) := (hb3.block _ (by (have := HWs.out; have := HSZ0.out; have := HSW0.out; have := HSZ1.out; have := HSW1.out; have := HSZ2.out; have := HLT2.out; have := HSW2.out; have := HSZ3.out; omega))).trans HZ3.out
  have HBu3 : Hid (Below w.heap.size w u3) := HBw2.out.trans (hb3.mono HBw2.out.size)
  have HL0_3 : Hid (LX u3 W.heap.size u0.heap.size W.heap.size hx R0) := HL0_2s.out.keep fun k _ hk => hb3.block k (by (have := HWs.out; have := HSZ0.out; have := HSW0.out; have := HSZ1.out; have := HSW1.out; have := HSZ2.out; have := HLT2.out; have := HSW2.out; have := HSZ3.out; omega))
  have HL1_3 : Hid (LX u3 w0.heap.size u1.heap.size w0.heap.size tx R1) := HL1_2s.out.keep fun k _ hk => hb3.block k (by (have := HWs.out; have := HSZ0.out; have := HSW0.out; have := HSZ1.out; have := HSW1.out; have := HSZ2.out; have := HLT2.out; have := HSW2.out; have := HSZ3.out; omega))
  have HL2_3 : Hid (Blk .u8 u3 w1.heap.size 5 (mk2 s.data)) := (hb3.block _ (by (have := HWs.out; have := HSZ0.out; have := HSW0.out; have := HSZ1.out; have := HSW1.out; have := HSZ2.out; have := HLT2.out; have := HSW2.out; have := HSZ3.out; omega))).trans HL2_2s.out
  have HL3_3 : Hid (C.SOwn u3 w2.heap.size (.slice (some ⟨w2.heap.size, 0, none⟩) (nc + 2) (nc + 2)) (C.mkL s.clm)) := hl3
  clear hl3 hb3
  obtain ⟨y0, y1, y2, y3, y4, y5, y6, y7, y8, y9, y10, y11, y12, y13⟩ := s14_cells HAu3.out
  have fz := frozen_of_row _ _ 12 _ _ HAu3.out
  go_upto_region 5 with fail
  obtain ⟨w3, hw3⟩ : ∃ x, u3.setCell ⟨w.heap.size, 12, none⟩ (lV w2.heap.size nc) = x := ⟨_, rfl⟩
  have HA4 : Hid (w3.heap[w.heap.size]? = some (.cells (svC s (lV W.heap.size nh) (lV w0.heap.size nt) (lV w1.heap.size nd) (lV w2.heap.size nc)) 37 (0, 0))) := by show _ = _; rw [← hw3]; exact heap_setCell_same _ _ _ _ _ _ HAu3.out
  have HZ4 : Hid (w3.heap[w.heap.size + 1]? = some (.cells zsC 37 (0, 0))) := by show _ = _; rw [← hw3]; exact (heap_setCell_other _ _ _ _ (by show w.heap.size + 1 ≠ w.heap.size; (have := HWs.out; have := HSZ0.out; have := HSW0.out; have := HSZ1.out; have := HSW1.out; have := HSZ2.out; have := HLT2.out; have := HSW2.out; have := HSZ3.out; omega))).trans HZu3.out
  have HBw3 : Hid (Below w.heap.size w w3) := by show Below _ _ _; rw [← hw3]; exact HBu3.out.setCell (p := ⟨w.heap.size, 12, none⟩) (Nat.le_refl _) _
  have HSW3 : Hid (w3.heap.size = u3.heap.size) := by show _ = _; rw [← hw3]; simp
  have HL0_3s : Hid (LX w3 W.heap.size u0.heap.size W.heap.size hx R0) := HL0_3.out.keep fun k hk _ => by rw [← hw3]; exact heap_setCell_other _ _ _ _ (by show k ≠ w.heap.size; (have := HWs.out; have := HSZ0.out; have := HSW0.out; have := HSZ1.out; have := HSW1.out; have := HSZ2.out; have := HLT2.out; have := HSW2.out; have := HSZ3.out; have := HSW3.out; omega))
  have HL1_3s : Hid (LX w3 w0.heap.size u1.heap.size w0.heap.size tx R1) := HL1_3.out.keep fun k hk _ => by rw [← hw3]; exact heap_setCell_other _ _ _ _ (by show k ≠ w.heap.size; (have := HWs.out; have := HSZ0.out; have := HSW0.out; have := HSZ1.out; have := HSW1.out; have := HSZ2.out; have := HLT2.out; have := HSW2.out; have := HSZ3.out; have := HSW3.out; omega))
  have HL2_3s : Hid (Blk .u8 w3 w1.heap.size 5 (mk2 s.data)) := by show Blk _ _ _ _ _; rw [← hw3]; exact (heap_setCell_other _ _ _ _ (by show w1.heap.size ≠ w.heap.size; (have := HWs.out; have := HSZ0.out; have := HSW0.out; have := HSZ1.out; have := HSW1.out; have := HSZ2.out; have := HLT2.out; have := HSW2.out; have := HSZ3.out; have := HSW3.out; omega))).trans HL2_3.out
  have HL3_3s : Hid (C.SOwn w3 w2.heap.size (.slice (some ⟨w2.heap.size, 0, none⟩) (nc + 2) (nc + 2)) (C.mkL s.clm)) := by show C.SOwn _ _ _ _; rw [← hw3]; exact C.SOwn.blk2 HL3_3.out (fun g hg => heap_setCell_other _ _ _ _ (by have h1 := (HL3_3.out.lt g hg).1; show g ≠ w.heap.size; (have := HWs.out; have := HSZ0.out; have := HSW0.out; have := HSZ1.out; have := HSW1.out; have := HSZ2.out; have := HLT2.out; have := HSW2.out; have := HSZ3.out; have := HSW3.out; omega)))
  rw [hw3]
  clear y0 y1 y2 y3 y4 y5 y6 y7 y8 y9 y10 y11 y12 y13 fz hw3 HAu3 HZu3 HBu3 HL0_3 HL1_3 HL2_3 HL3_3
  obtain ⟨y0, y1, y2, y3, y4, y5, y6, y7, y8, y9, y10, y11, y12, y13⟩ := s14_cells HA4.out
  have hst : Stor2 Tryd.prog 37 w3 (.pointer (some ⟨w.heap.size + 1, 0, none⟩)) (.agg (svC s (lV W.heap.size nh) (lV w0.heap.size nt) (lV w1.heap.size nd) (lV w2.heap.size nc))) := ⟨w.heap.size + 1, _, _, _, rfl, rfl, HZ4.out, rfl, size_sg2, by simp [Value.oneCell']⟩
  go_wp2
  have HRw : Hid ((w3.setRow (w.heap.size + 1) (svC s (lV W.heap.size nh) (lV w0.heap.size nt) (lV w1.heap.size nd) (lV w2.heap.size nc))).heap[w.heap.size + 1]? = some (.cells (svC s (lV W.heap.size nh) (lV w0.heap.size nt) (lV w1.heap.size nd) (lV w2.heap.size nc)) 37 (0, 0))) := setRow_heap _ _ _ _ _ _ HZ4.out
  have hlv := fun j => cell_of_row _ (w.heap.size + 1) j _ _ _ HRw.out
  refine bodyPost_ret (v := .agg (svC s (lV W.heap.size nh) (lV w0.heap.size nt) (lV w1.heap.size nd) (lV w2.heap.size nc))) (by simp [results, Tryd.results16, go_sem, hlv]) rfl ?_
  rw [← HP.out]
  obtain ⟨e0, e1, e2, e3⟩ := HNs.out
  refine ⟨u0.heap.size, u1.heap.size, u2.heap.size, R0, R1, W.heap.size, w0.heap.size, w1.heap.size, w2.heap.size, by rw [e0, e1, e2, e3], ⟨?_, ?_, ?_, ⟨by (have := HWs.out; have := HSZ0.out; have := HSW0.out; have := HSZ1.out; have := HSW1.out; have := HSZ2.out; have := HLT2.out; have := HSW2.out; have := HSZ3.out; have := HSW3.out; omega), by (have := HWs.out; have := HSZ0.out; have := HSW0.out; have := HSZ1.out; have := HSW1.out; have := HSZ2.out; have := HLT2.out; have := HSW2.out; have := HSZ3.out; have := HSW3.out; omega)⟩, ?_⟩, bl_setRow2 HBw3.out (by (have := HWs.out; have := HSZ0.out; have := HSW0.out; have := HSZ1.out; have := HSW1.out; have := HSZ2.out; have := HLT2.out; have := HSW2.out; have := HSZ3.out; have := HSW3.out; omega)) _⟩
  · have h := HL0_3s.out.keep (w' := w3.setRow (w.heap.size + 1) (svC s (lV W.heap.size nh) (lV w0.heap.size nt) (lV w1.heap.size nd) (lV w2.heap.size nc))) fun k hk _ => setRow_other2 _ (by (have := HWs.out; have := HSZ0.out; have := HSW0.out; have := HSZ1.out; have := HSW1.out; have := HSZ2.out; have := HLT2.out; have := HSW2.out; have := HSZ3.out; have := HSW3.out; omega))
    exact ⟨h.row, h.len, fun j x hx => by obtain ⟨b, q1, q2, q3⟩ := h.got j x hx; exact ⟨b, q1, by (have := HWs.out; have := HSZ0.out; have := HSW0.out; have := HSZ1.out; have := HSW1.out; have := HSZ2.out; have := HLT2.out; have := HSW2.out; have := HSZ3.out; have := HSW3.out; omega), q3⟩, h.mks, by have := h.g0; (have := HWs.out; have := HSZ0.out; have := HSW0.out; have := HSZ1.out; have := HSW1.out; have := HSZ2.out; have := HLT2.out; have := HSW2.out; have := HSZ3.out; have := HSW3.out; omega)⟩
  · have h := HL1_3s.out.keep (w' := w3.setRow (w.heap.size + 1) (svC s (lV W.heap.size nh) (lV w0.heap.size nt) (lV w1.heap.size nd) (lV w2.heap.size nc))) fun k hk _ => setRow_other2 _ (by (have := HWs.out; have := HSZ0.out; have := HSW0.out; have := HSZ1.out; have := HSW1.out; have := HSZ2.out; have := HLT2.out; have := HSW2.out; have := HSZ3.out; have := HSW3.out; omega))
    exact ⟨h.row, h.len, fun j x hx => by obtain ⟨b, q1, q2, q3⟩ := h.got j x hx; exact ⟨b, q1, by (have := HWs.out; have := HSZ0.out; have := HSW0.out; have := HSZ1.out; have := HSW1.out; have := HSZ2.out; have := HLT2.out; have := HSW2.out; have := HSZ3.out; have := HSW3.out; omega), q3⟩, h.mks, by have := h.g0; (have := HWs.out; have := HSZ0.out; have := HSW0.out; have := HSZ1.out; have := HSW1.out; have := HSZ2.out; have := HLT2.out; have := HSW2.out; have := HSZ3.out; have := HSW3.out; omega)⟩
  · exact (setRow_other2 _ (by (have := HWs.out; have := HSZ0.out; have := HSW0.out; have := HSZ1.out; have := HSW1.out; have := HSZ2.out; have := HLT2.out; have := HSW2.out; have := HSZ3.out; have := HSW3.out; omega))).trans HL2_3s.out
  · have h := C.SOwn.blk2 (w' := w3.setRow (w.heap.size + 1) (svC s (lV W.heap.size nh) (lV w0.heap.size nt) (lV w1.heap.size nd) (lV w2.heap.size nc))) HL3_3s.out (fun g hg => setRow_other2 _ (by have h1 := (HL3_3s.out.lt g hg).1; (have := HWs.out; have := HSZ0.out; have := HSW0.out; have := HSZ1.out; have := HSW1.out; have := HSZ2.out; have := HLT2.out; have := HSW2.out; have := HSZ3.out; have := HSW3.out; omega)))
    rw [e3, ← HSW2.out]
    exact h

set_option maxRecDepth 100000 in
set_option maxHeartbeats 16000000 in
theorem kept_seg (s : Sg) (hv tv dv cv : Value) (hx tx hR tR : List Xr) (w : World) (base B1 B2 B3 gh gt gd gc : Nat) (hL : LS w base B1 B2 B3 s hx tx hR tR gh gt gd gc) (hs : SIn w s hv tv dv cv hx tx) :
    Calls Tryd.prog 19 #[.agg (svC s (lV gh hx.length) (lV gt tx.length) (lV gd s.data.length) (lV gc s.clm.length)), .agg (svC s hv tv dv cv)] w fun e w' => e = .returned (.bool true) ∧ Below w.heap.size w w' := by
  obtain ⟨ah, ch, rfl, _⟩ := hs.head.shape
  obtain ⟨at2, ct, rfl, _⟩ := hs.tail.shape
  obtain ⟨ad, cd, rfl, _⟩ := hs.data.shape
  obtain ⟨ac, cc, rfl, hcs⟩ := hs.clm.shape
  have hcs' : C.Spa w ac s.clm := hcs
  have hcm := hs.clm.small
  obtain ⟨nh, hnh⟩ : ∃ n, hx.length = n := ⟨_, rfl⟩
  obtain ⟨nt, hnt⟩ : ∃ n, tx.length = n := ⟨_, rfl⟩
  obtain ⟨nd, hnd⟩ : ∃ n, s.data.length = n := ⟨_, rfl⟩
  obtain ⟨nc, hnc⟩ : ∃ n, s.clm.length = n := ⟨_, rfl⟩
  have HX0 : Hid (∀ V, Below w.heap.size w V → Calls Tryd.prog 46 #[lV gh nh, .slice ah nh ch] V fun e w' => e = .returned (.bool true) ∧ Below V.heap.size V w') := fun V hV => by
    have := keptExts_any (hs.head.below hV) ((hL.below hV).head); rw [hnh] at this; exact this
  have HX1 : Hid (∀ V, Below w.heap.size w V → Calls Tryd.prog 46 #[lV gt nt, .slice at2 nt ct] V fun e w' => e = .returned (.bool true) ∧ Below V.heap.size V w') := fun V hV => by
    have := keptExts_any (hs.tail.below hV) ((hL.below hV).tail); rw [hnt] at this; exact this
  have HX2 : Hid (∀ V, Below w.heap.size w V → Calls Tryd.prog 47 #[lV gd nd, .slice ad nd cd] V fun e w' => e = .returned (.bool true) ∧ Below V.heap.size V w') := fun V hV => by
    have := keptBytes_any (hs.data.below hV) ((hL.below hV).data); rw [hnd] at this; exact this
  have HX3 : Hid (∀ V, Below w.heap.size w V → Calls Tryd.prog 48 #[lV gc nc, .slice ac nc cc] V fun e w' => e = .returned (.bool true) ∧ Below V.heap.size V w') := fun V hV => by
    have := C.keptSpa_any (v := .slice ac nc cc) (c := cc) (by rw [hnc]) (C.Spa.below hcs' hV) hcm ((hL.below hV).clm); rw [hnc] at this; exact this
  rw [hnh, hnt, hnd, hnc]
  obtain ⟨W, hW⟩ : ∃ W, (w.alloc (.cells (svC s (lV gh nh) (lV gt nt) (lV gd nd) (lV gc nc)) 37)).alloc (.cells (svC s (.slice ah nh ch) (.slice at2 nt ct) (.slice ad nd cd) (.slice ac nc cc)) 37) = W := ⟨_, rfl⟩
  have HWe : Hid ((w.alloc (.cells (svC s (lV gh nh) (lV gt nt) (lV gd nd) (lV gc nc)) 37)).alloc (.cells (svC s (.slice ah nh ch) (.slice at2 nt ct) (.slice ad nd cd) (.slice ac nc cc)) 37) = W) := hW
  have hbW : Below w.heap.size w W := by rw [← hW]; exact ((Below.refl _ _).alloc (Nat.le_refl _) _).alloc (by simp) _
  have HR1 : Hid (∀ V, Below W.heap.size W V → V.heap[w.heap.size]? = some (.cells (svC s (lV gh nh) (lV gt nt) (lV gd nd) (lV gc nc)) 37 (0, 0))) := fun V hV => by
    have h1 : W.heap[w.heap.size]? = some (.cells (svC s (lV gh nh) (lV gt nt) (lV gd nd) (lV gc nc)) 37 (0, 0)) := by rw [← hW]; exact (((Below.refl (w.heap.size + 1) (w.alloc (.cells (svC s (lV gh nh) (lV gt nt) (lV gd nd) (lV gc nc)) 37))).alloc (by simp) _).block _ (by omega)).trans (al_new _ _)
    exact (hV.block _ (Array.getElem?_eq_some_iff.1 h1).1).trans h1
  have HR2 : Hid (∀ V, Below W.heap.size W V → V.heap[w.heap.size + 1]? = some (.cells (svC s (.slice ah nh ch) (.slice at2 nt ct) (.slice ad nd cd) (.slice ac nc cc)) 37 (0, 0))) := fun V hV => by
    have h1 : W.heap[w.heap.size + 1]? = some (.cells (svC s (.slice ah nh ch) (.slice at2 nt ct) (.slice ad nd cd) (.slice ac nc cc)) 37 (0, 0)) := by rw [← hW]; have := al_new (w.alloc (.cells (svC s (lV gh nh) (lV gt nt) (lV gd nd) (lV gc nc)) 37)) (.cells (svC s (.slice ah nh ch) (.slice at2 nt ct) (.slice ad nd cd) (.slice ac nc cc)) 37); rwa [World.size_alloc] at this
    exact (hV.block _ (Array.getElem?_eq_some_iff.1 h1).1).trans h1
  have HBW : Hid (Below w.heap.size w W) := hbW
  obtain ⟨y0, y1, y2, y3, y4, y5, y6, y7, y8, y9, y10, y11, y12, y13⟩ := s14_cells (HR1.out W (Below.refl _ _))
  obtain ⟨z0, z1, z2, z3, z4, z5, z6, z7, z8, z9, z10, z11, z12, z13⟩ := s14_cells (HR2.out W (Below.refl _ _))
  have qnh : ((nh : Int) != (nh : Int)) = false := by simp
  have qnt : ((nt : Int) != (nt : Int)) = false := by simp
  have qnd : ((nd : Int) != (nd : Int)) = false := by simp
  have qnc : ((nc : Int) != (nc : Int)) = false := by simp
  clear hs hL hcs hcs' hcm hW hbW hnh hnt hnd hnc
  go_enter Tryd.func19, Tryd.ntmps19
  go_wp2_with fail
  rw [HWe.out]
  have HKW : Hid (Below W.heap.size W W) := Below.refl _ _
  refine (HX0.out W (HBW.out.trans (HKW.out.mono HBW.out.size))).mono ?_
  rintro e k0 ⟨rfl, hb0⟩
  have HKk0 : Hid (Below W.heap.size W k0) := HKW.out.trans (hb0.mono HKW.out.size)
  clear y0 y1 y2 y3 y4 y5 y6 y7 y8 y9 y10 y11 y12 y13 z0 z1 z2 z3 z4 z5 z6 z7 z8 z9 z10 z11 z12 z13 hb0 HX0
  obtain ⟨y0, y1, y2, y3, y4, y5, y6, y7, y8, y9, y10, y11, y12, y13⟩ := s14_cells (HR1.out k0 HKk0.out)
  obtain ⟨z0, z1, z2, z3, z4, z5, z6, z7, z8, z9, z10, z11, z12, z13⟩ := s14_cells (HR2.out k0 HKk0.out)
  go_wp2_with fail
  refine (HX1.out k0 (HBW.out.trans (HKk0.out.mono HBW.out.size))).mono ?_
  rintro e k1 ⟨rfl, hb1⟩
  have HKk1 : Hid (Below W.heap.size W k1) := HKk0.out.trans (hb1.mono HKk0.out.size)
  clear y0 y1 y2 y3 y4 y5 y6 y7 y8 y9 y10 y11 y12 y13 z0 z1 z2 z3 z4 z5 z6 z7 z8 z9 z10 z11 z12 z13 hb1 HX1
  obtain ⟨y0, y1, y2, y3, y4, y5, y6, y7, y8, y9, y10, y11, y12, y13⟩ := s14_cells (HR1.out k1 HKk1.out)
  obtain ⟨z0, z1, z2, z3, z4, z5, z6, z7, z8, z9, z10, z11, z12, z13⟩ := s14_cells (HR2.out k1 HKk1.out)
  go_wp2_with fail
  refine (HX2.out k1 (HBW.out.trans (HKk1.out.mono HBW.out.size))).mono ?_
  rintro e k2 ⟨rfl, hb2⟩
  have HKk2 : Hid (Below W.heap.size W k2) := HKk1.out.trans (hb2.mono HKk1.out.size)
  clear y0 y1 y2 y3 y4 y5 y6 y7 y8 y9 y10 y11 y12 y13 z0 z1 z2 z3 z4 z5 z6 z7 z8 z9 z10 z11 z12 z13 hb2 HX2
  obtain ⟨y0, y1, y2, y3, y4, y5, y6, y7, y8, y9, y10, y11, y12, y13⟩ := s14_cells (HR1.out k2 HKk2.out)
  obtain ⟨z0, z1, z2, z3, z4, z5, z6, z7, z8, z9, z10, z11, z12, z13⟩ := s14_cells (HR2.out k2 HKk2.out)
  go_wp2_with fail
  refine (HX3.out k2 (HBW.out.trans (HKk2.out.mono HBW.out.size))).mono ?_
  rintro e k3 ⟨rfl, hb3⟩
  have HKk3 : Hid (Below W.heap.size W k3) := HKk2.out.trans (hb3.mono HKk2.out.size)
  clear y0 y1 y2 y3 y4 y5 y6 y7 y8 y9 y10 y11 y12 y13 z0 z1 z2 z3 z4 z5 z6 z7 z8 z9 z10 z11 z12 z13 hb3 HX3
  obtain ⟨y0, y1, y2, y3, y4, y5, y6, y7, y8, y9, y10, y11, y12, y13⟩ := s14_cells (HR1.out k3 HKk3.out)
  obtain ⟨z0, z1, z2, z3, z4, z5, z6, z7, z8, z9, z10, z11, z12, z13⟩ := s14_cells (HR2.out k3 HKk3.out)
  go_wp2
  go_ret
  exact ⟨rfl, HBW.out.trans (HKk3.out.mono HBW.out.size)⟩

end Go.Proofs.YtdfdaambfihjaaaDoor
