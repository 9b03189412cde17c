import Derived.Test.YtillgoegiplmkaaGreatDoorTbDi
import Derived.Test.YtillgoegiplmkaaGreatDoorTbDb
import Derived.Test.YtillgoegiplmkaaGreatDoorTbDo
import Derived.Test.YtillgoegiplmkaaGreatDoorTbDm
import Derived.Test.YtillgoegiplmkaaGreatDoorTbT
namespace Go.Proofs.YtillgoegiplmkaaGreatDoor.B
open C
open Go.RowKit Go.Maps
set_option linter.unusedVariables false
set_option linter.unusedSimpArgs false

theorem settle_any {w : World} {z : Tz} {T : T8} (h : Tw w z T) (hok : T.Ok) (h0 : T.id ≠ 0) (i : Ic) (au av : Option Addr) (nu nv cu cv : Nat) (ho : 1 ≤ i.org ∧ i.org ≤ mxN ∧ i.org ≠ T.id) (hn : 1 ≤ i.num ∧ i.num < mxN) (hrd : BO w (.slice av nv cv) i.data) (hrh : SO w (.slice au nu cu) i.hv) (hd : ∀ g, (Value.slice av nv cv).ownBlock = some g → (∃ e ∈ z.I, e.i.s = i.s ∧ e.dv.ownBlock = some g) ∨ w.heap.size ≤ g) (he : ∀ g, (Value.slice au nu cu).ownBlock = some g → (∃ e ∈ z.I, e.i.s = i.s ∧ e.hv.ownBlock = some g) ∨ w.heap.size ≤ g) : Calls Tryz.prog 141 #[tP z, iV i (.slice au nu cu) (.slice av nv cv)] w (ThP z (T.settle i) w) := by
  obtain ⟨org, num, srv, red, size, hvl, data, done, gone, heard, shut, how⟩ := i
  cases heard with
  | false => exact settle_a h hok h0 org num srv red size how hvl data done gone shut au av nu nv cu cv ho hn hrd hrh hd he
  | true =>
    cases gone with
    | true => exact settle_c h hok h0 org num srv red size how hvl data done shut au av nu nv cu cv ho hn hrd hrh hd he
    | false =>
      cases shut with
      | true => exact settle_d h hok h0 org num srv red size how hvl data done au av nu nv cu cv ho hn hrd hrh hd he
      | false => exact settle_b h hok h0 org num srv red size how hvl data done au av nu nv cu cv ho hn hrd hrh hd he
set_option maxRecDepth 8000 in
set_option maxHeartbeats 4000000 in
theorem shut_then {w : World} {z : Tz} {T : T8} (h : Tw w z T) (r : Rc) (hok : T.Ok) (h0 : T.id ≠ 0) (hr : sW (sR r)) {o : Ic} (hf : T.fi (sR r) = some o) (sv dv : Value) : Calls Tryz.prog 109 #[tP z, .agg (rcC r sv dv)] w (ThP z (T.settle { o with shut := true }) w) := by
  obtain ⟨W, hW⟩ : ∃ W, w.alloc (rcO r sv dv) = W := ⟨_, rfl⟩
  have HW : Hid (w.alloc (rcO r sv dv) = W) := hW
  have hbx : Below w.heap.size w W := by rw [← hW]; exact (Below.refl _ _).alloc (Nat.le_refl _) _
  have hbd : Below w.heap.size w W.drew := hbx.drew
  have hp : W.heap[w.heap.size]? = some (rcO r sv dv) := by rw [← hW]; exact heap_alloc_new' w _
  have hT := h.below hbx
  obtain ⟨c0, c1, c2, c3, c4, c5⟩ := hT.c
  obtain ⟨k0, k1, k2, k3, k4, k5, k6, k7, k8, k9, k10⟩ := rc_cells hp
  obtain ⟨e, he, rfl, hes, _⟩ := h.lookI1 hf
  obtain ⟨av, nv, cv, ev⟩ := own_sl8 (h.pI.r e he).1.1
  obtain ⟨au, nu, cu, eu⟩ := own_sl8 (h.pI.r e he).2.1
  have hbz : Below w.heap.size w (W.alloc (.cells #[.int .i64 0, .int .i64 0, .int .i64 0, .int .i64 0, .int .i64 0, .slice none 0 0, .slice none 0 0, .bool false, .bool false, .bool false, .bool false, .int .i64 0] 63)).drew := (hbx.alloc hbx.size _).drew
  have hl : (Instr.lookup 69 (.map (some z.m2)) (.agg #[.int .i64 r.org, .int .i64 r.num]) false).run Tryz.prog W.drew = .ok (iV e.i (.slice au nu cu) (.slice av nv cv)) W.drew := eu ▸ ev ▸ lookIE (s := sR r) (h.below hbd) he hes false
  have hl2 : (Instr.lookup 69 (.map (some z.m2)) (.agg #[.int .i64 r.org, .int .i64 r.num]) false).run Tryz.prog (W.alloc (.cells #[.int .i64 0, .int .i64 0, .int .i64 0, .int .i64 0, .int .i64 0, .slice none 0 0, .slice none 0 0, .bool false, .bool false, .bool false, .bool false, .int .i64 0] 63)).drew = .ok (iV e.i (.slice au nu cu) (.slice av nv cv)) (W.alloc (.cells #[.int .i64 0, .int .i64 0, .int .i64 0, .int .i64 0, .int .i64 0, .slice none 0 0, .slice none 0 0, .bool false, .bool false, .bool false, .bool false, .int .i64 0] 63)).drew := eu ▸ ev ▸ lookIE (s := sR r) (h.below hbz) he hes false
  have hbz0 : Below w.heap.size w (W.alloc (.cells #[.int .i64 0, .int .i64 0, .int .i64 0, .int .i64 0, .int .i64 0, .slice none 0 0, .slice none 0 0, .bool false, .bool false, .bool false, .bool false, .int .i64 0] 63)) := hbx.alloc hbx.size _
  obtain ⟨y0, y1, y2, y3, y4, y5⟩ := (h.below hbz0).c
  have hpz : (W.alloc (.cells #[.int .i64 0, .int .i64 0, .int .i64 0, .int .i64 0, .int .i64 0, .slice none 0 0, .slice none 0 0, .bool false, .bool false, .bool false, .bool false, .int .i64 0] 63)).heap[w.heap.size]? = some (rcO r sv dv) := (Below.heap_alloc _ _ _ (by have := hbx.size; rw [← hW]; simp)).trans hp
  have x1 : (W.alloc (.cells #[.int .i64 0, .int .i64 0, .int .i64 0, .int .i64 0, .int .i64 0, .slice none 0 0, .slice none 0 0, .bool false, .bool false, .bool false, .bool false, .int .i64 0] 63)).cell? ⟨w.heap.size, 1, none⟩ = some (.int .i64 r.org) := (cell_of_row _ _ _ _ _ _ hpz).trans rfl
  have x2 : (W.alloc (.cells #[.int .i64 0, .int .i64 0, .int .i64 0, .int .i64 0, .int .i64 0, .slice none 0 0, .slice none 0 0, .bool false, .bool false, .bool false, .bool false, .int .i64 0] 63)).cell? ⟨w.heap.size, 2, none⟩ = some (.int .i64 r.num) := (cell_of_row _ _ _ _ _ _ hpz).trans rfl
  obtain ⟨g, hg⟩ : ∃ g, W.heap.size = g := ⟨_, rfl⟩
  have hwg : w.heap.size < g := by rw [← hg, ← hW]; simp
  obtain ⟨W1, hW1⟩ : ∃ W1, (W.alloc (.cells #[.int .i64 e.i.org, .int .i64 e.i.num, .int .i64 e.i.srv, .int .i64 e.i.red, .int .i64 e.i.size, .slice au nu cu, .slice av nv cv, .bool e.i.done, .bool e.i.gone, .bool e.i.heard, .bool e.i.shut, .int .i64 e.i.how] 63)).drew = W1 := ⟨_, rfl⟩
  have HW1 : Hid ((W.alloc (.cells #[.int .i64 e.i.org, .int .i64 e.i.num, .int .i64 e.i.srv, .int .i64 e.i.red, .int .i64 e.i.size, .slice au nu cu, .slice av nv cv, .bool e.i.done, .bool e.i.gone, .bool e.i.heard, .bool e.i.shut, .int .i64 e.i.how] 63)).drew = W1) := hW1
  have hb1 : Below w.heap.size w W1 := by rw [← hW1]; exact (hbx.alloc hbx.size _).drew
  have hq1 : W1.heap[g]? = some (.cells #[.int .i64 e.i.org, .int .i64 e.i.num, .int .i64 e.i.srv, .int .i64 e.i.red, .int .i64 e.i.size, .slice au nu cu, .slice av nv cv, .bool e.i.done, .bool e.i.gone, .bool e.i.heard, .bool e.i.shut, .int .i64 e.i.how] 63) := by rw [← hW1, ← hg]; exact heap_alloc_new' W _
  have hp1 : W1.heap[w.heap.size]? = some (rcO r sv dv) := by rw [← hW1]; exact (Below.heap_alloc _ _ _ (by omega)).trans hp
  have z10 : W1.cell? ⟨g, 10, none⟩ = some (.bool e.i.shut) := (cell_of_row _ _ _ _ _ _ hq1).trans rfl
  have f10 : W1.frozen? ⟨g, 10, none⟩ = false := by simp [World.frozen?, hq1]
  have qq0 := (heap_setCell_same W1 g 10 _ _ (.bool true) hq1)
  have hq2 : (W1.setCell ⟨g, 10, none⟩ (.bool true)).heap[g]? = some (.cells #[.int .i64 e.i.org, .int .i64 e.i.num, .int .i64 e.i.srv, .int .i64 e.i.red, .int .i64 e.i.size, .slice au nu cu, .slice av nv cv, .bool e.i.done, .bool e.i.gone, .bool e.i.heard, .bool true, .int .i64 e.i.how] 63) := qq0.trans rfl
  have hb2 : Below w.heap.size w (W1.setCell ⟨g, 10, none⟩ (.bool true)) := (Below.setCell (p := ⟨g, 10, none⟩) hb1 (by simp only; omega) (.bool true))
  obtain ⟨W2, hW2⟩ : ∃ W2, (W1.setCell ⟨g, 10, none⟩ (.bool true)) = W2 := ⟨_, rfl⟩
  have HW2 : Hid ((W1.setCell ⟨g, 10, none⟩ (.bool true)) = W2) := hW2
  rw [hW2] at hq2 hb2
  have j0 : W2.cell? ⟨g, 0, none⟩ = some (.int .i64 e.i.org) := (cell_of_row _ _ _ _ _ _ hq2).trans rfl
  have j1 : W2.cell? ⟨g, 1, none⟩ = some (.int .i64 e.i.num) := (cell_of_row _ _ _ _ _ _ hq2).trans rfl
  have j2 : W2.cell? ⟨g, 2, none⟩ = some (.int .i64 e.i.srv) := (cell_of_row _ _ _ _ _ _ hq2).trans rfl
  have j3 : W2.cell? ⟨g, 3, none⟩ = some (.int .i64 e.i.red) := (cell_of_row _ _ _ _ _ _ hq2).trans rfl
  have j4 : W2.cell? ⟨g, 4, none⟩ = some (.int .i64 e.i.size) := (cell_of_row _ _ _ _ _ _ hq2).trans rfl
  have j5 : W2.cell? ⟨g, 5, none⟩ = some (.slice au nu cu) := (cell_of_row _ _ _ _ _ _ hq2).trans rfl
  have j6 : W2.cell? ⟨g, 6, none⟩ = some (.slice av nv cv) := (cell_of_row _ _ _ _ _ _ hq2).trans rfl
  have j7 : W2.cell? ⟨g, 7, none⟩ = some (.bool e.i.done) := (cell_of_row _ _ _ _ _ _ hq2).trans rfl
  have j8 : W2.cell? ⟨g, 8, none⟩ = some (.bool e.i.gone) := (cell_of_row _ _ _ _ _ _ hq2).trans rfl
  have j9 : W2.cell? ⟨g, 9, none⟩ = some (.bool e.i.heard) := (cell_of_row _ _ _ _ _ _ hq2).trans rfl
  have j10 : W2.cell? ⟨g, 10, none⟩ = some (.bool true) := (cell_of_row _ _ _ _ _ _ hq2).trans rfl
  have j11 : W2.cell? ⟨g, 11, none⟩ = some (.int .i64 e.i.how) := (cell_of_row _ _ _ _ _ _ hq2).trans rfl
  have hio := (hok.fi hf).1
  have hrd := (h.pI.r e he).1.1
  have hrh := (h.pI.r e he).2.1
  have hSet := settle_any (h.below hb2) hok h0 { e.i with shut := true } au av nu nv cu cv ⟨hio.org.1, hio.org.2.1, hio.org.2.2⟩ hio.num (by rw [← ev]; exact own_at hrd (fun x hx => hb2.block x (own_lt hrd hx))) (by rw [← eu]; exact own_at hrh (fun x hx => hb2.block x (own_lt hrh hx))) (fun x hx => .inl ⟨e, he, rfl, by rw [ev]; exact hx⟩) (fun x hx => .inl ⟨e, he, rfl, by rw [eu]; exact hx⟩)
  have HS : Hid (Calls Tryz.prog 141 #[tP z, .agg #[.int .i64 e.i.org, .int .i64 e.i.num, .int .i64 e.i.srv, .int .i64 e.i.red, .int .i64 e.i.size, .slice au nu cu, .slice av nv cv, .bool e.i.done, .bool e.i.gone, .bool e.i.heard, .bool true, .int .i64 e.i.how]] W2 fun e' w' => e' = .returned (.tuple #[]) ∧ ∃ z', Tw w' z' (T.settle { e.i with shut := true }) ∧ Up z z' w w') := hSet.mono fun e' w' ⟨q1, z', q2, q3⟩ => ⟨q1, z', q2, (Up.below hb2).trans q3⟩
  have HG : Hid (W.heap.size = g) := hg
  clear h hT hW hbx hbd hp hW1 hW2 hb1 hb2 hq1 hq2 hp1 hrd hrh he hes hf hbz hbz0 hpz hg ev eu hio hSet hok h0 qq0
  go_enter Tryz.func109, Tryz.ntmps109
  go_wp2
  rw [HW.out]
  go_region
  all_goals rw [HW1.out, HG.out]
  all_goals go_upto_region 3 with fail
  all_goals rw [HW2.out]
  all_goals go_wp2_with (go_at_call 141; refine HS.out.mono ?_; rintro e' w' ⟨rfl, HT⟩)
  all_goals go_end0
  all_goals exact ⟨rfl, HT⟩
set_option maxRecDepth 8000 in
set_option maxHeartbeats 4000000 in
theorem hear_then {w : World} {z : Tz} {T : T8} (h : Tw w z T) (r : Rc) (hok : T.Ok) (h0 : T.id ≠ 0) (hr : sW (sR r)) {o : Ic} (hf : T.fi (sR r) = some o) (sv dv : Value) : Calls Tryz.prog 107 #[tP z, .agg (rcC r sv dv)] w (ThP z (T.settle { o with heard := true, data := [] }) w) := by
  obtain ⟨W, hW⟩ : ∃ W, w.alloc (rcO r sv dv) = W := ⟨_, rfl⟩
  have HW : Hid (w.alloc (rcO r sv dv) = W) := hW
  have hbx : Below w.heap.size w W := by rw [← hW]; exact (Below.refl _ _).alloc (Nat.le_refl _) _
  have hbd : Below w.heap.size w W.drew := hbx.drew
  have hp : W.heap[w.heap.size]? = some (rcO r sv dv) := by rw [← hW]; exact heap_alloc_new' w _
  have hT := h.below hbx
  obtain ⟨c0, c1, c2, c3, c4, c5⟩ := hT.c
  obtain ⟨k0, k1, k2, k3, k4, k5, k6, k7, k8, k9, k10⟩ := rc_cells hp
  obtain ⟨e, he, rfl, hes, _⟩ := h.lookI1 hf
  obtain ⟨av, nv, cv, ev⟩ := own_sl8 (h.pI.r e he).1.1
  obtain ⟨au, nu, cu, eu⟩ := own_sl8 (h.pI.r e he).2.1
  have hbz : Below w.heap.size w (W.alloc (.cells #[.int .i64 0, .int .i64 0, .int .i64 0, .int .i64 0, .int .i64 0, .slice none 0 0, .slice none 0 0, .bool false, .bool false, .bool false, .bool false, .int .i64 0] 63)).drew := (hbx.alloc hbx.size _).drew
  have hl : (Instr.lookup 69 (.map (some z.m2)) (.agg #[.int .i64 r.org, .int .i64 r.num]) false).run Tryz.prog W.drew = .ok (iV e.i (.slice au nu cu) (.slice av nv cv)) W.drew := eu ▸ ev ▸ lookIE (s := sR r) (h.below hbd) he hes false
  have hl2 : (Instr.lookup 69 (.map (some z.m2)) (.agg #[.int .i64 r.org, .int .i64 r.num]) false).run Tryz.prog (W.alloc (.cells #[.int .i64 0, .int .i64 0, .int .i64 0, .int .i64 0, .int .i64 0, .slice none 0 0, .slice none 0 0, .bool false, .bool false, .bool false, .bool false, .int .i64 0] 63)).drew = .ok (iV e.i (.slice au nu cu) (.slice av nv cv)) (W.alloc (.cells #[.int .i64 0, .int .i64 0, .int .i64 0, .int .i64 0, .int .i64 0, .slice none 0 0, .slice none 0 0, .bool false, .bool false, .bool false, .bool false, .int .i64 0] 63)).drew := eu ▸ ev ▸ lookIE (s := sR r) (h.below hbz) he hes false
  have hbz0 : Below w.heap.size w (W.alloc (.cells #[.int .i64 0, .int .i64 0, .int .i64 0, .int .i64 0, .int .i64 0, .slice none 0 0, .slice none 0 0, .bool false, .bool false, .bool false, .bool false, .int .i64 0] 63)) := hbx.alloc hbx.size _
  obtain ⟨y0, y1, y2, y3, y4, y5⟩ := (h.below hbz0).c
  have hpz : (W.alloc (.cells #[.int .i64 0, .int .i64 0, .int .i64 0, .int .i64 0, .int .i64 0, .slice none 0 0, .slice none 0 0, .bool false, .bool false, .bool false, .bool false, .int .i64 0] 63)).heap[w.heap.size]? = some (rcO r sv dv) := (Below.heap_alloc _ _ _ (by have := hbx.size; rw [← hW]; simp)).trans hp
  have x1 : (W.alloc (.cells #[.int .i64 0, .int .i64 0, .int .i64 0, .int .i64 0, .int .i64 0, .slice none 0 0, .slice none 0 0, .bool false, .bool false, .bool false, .bool false, .int .i64 0] 63)).cell? ⟨w.heap.size, 1, none⟩ = some (.int .i64 r.org) := (cell_of_row _ _ _ _ _ _ hpz).trans rfl
  have x2 : (W.alloc (.cells #[.int .i64 0, .int .i64 0, .int .i64 0, .int .i64 0, .int .i64 0, .slice none 0 0, .slice none 0 0, .bool false, .bool false, .bool false, .bool false, .int .i64 0] 63)).cell? ⟨w.heap.size, 2, none⟩ = some (.int .i64 r.num) := (cell_of_row _ _ _ _ _ _ hpz).trans rfl
  obtain ⟨g, hg⟩ : ∃ g, W.heap.size = g := ⟨_, rfl⟩
  have hwg : w.heap.size < g := by rw [← hg, ← hW]; simp
  obtain ⟨W1, hW1⟩ : ∃ W1, (W.alloc (.cells #[.int .i64 e.i.org, .int .i64 e.i.num, .int .i64 e.i.srv, .int .i64 e.i.red, .int .i64 e.i.size, .slice au nu cu, .slice av nv cv, .bool e.i.done, .bool e.i.gone, .bool e.i.heard, .bool e.i.shut, .int .i64 e.i.how] 63)).drew = W1 := ⟨_, rfl⟩
  have HW1 : Hid ((W.alloc (.cells #[.int .i64 e.i.org, .int .i64 e.i.num, .int .i64 e.i.srv, .int .i64 e.i.red, .int .i64 e.i.size, .slice au nu cu, .slice av nv cv, .bool e.i.done, .bool e.i.gone, .bool e.i.heard, .bool e.i.shut, .int .i64 e.i.how] 63)).drew = W1) := hW1
  have hb1 : Below w.heap.size w W1 := by rw [← hW1]; exact (hbx.alloc hbx.size _).drew
  have hq1 : W1.heap[g]? = some (.cells #[.int .i64 e.i.org, .int .i64 e.i.num, .int .i64 e.i.srv, .int .i64 e.i.red, .int .i64 e.i.size, .slice au nu cu, .slice av nv cv, .bool e.i.done, .bool e.i.gone, .bool e.i.heard, .bool e.i.shut, .int .i64 e.i.how] 63) := by rw [← hW1, ← hg]; exact heap_alloc_new' W _
  have hp1 : W1.heap[w.heap.size]? = some (rcO r sv dv) := by rw [← hW1]; exact (Below.heap_alloc _ _ _ (by omega)).trans hp
  have z9 : W1.cell? ⟨g, 9, none⟩ = some (.bool e.i.heard) := (cell_of_row _ _ _ _ _ _ hq1).trans rfl
  have f9 : W1.frozen? ⟨g, 9, none⟩ = false := by simp [World.frozen?, hq1]
  have qq0 := (heap_setCell_same W1 g 9 _ _ (.bool true) hq1)
  have z6 : (W1.setCell ⟨g, 9, none⟩ (.bool true)).cell? ⟨g, 6, none⟩ = some (.slice av nv cv) := (cell_of_row _ _ _ _ _ _ qq0).trans rfl
  have f6 : (W1.setCell ⟨g, 9, none⟩ (.bool true)).frozen? ⟨g, 6, none⟩ = false := by simp [World.frozen?, qq0]
  have qq1 := (heap_setCell_same (W1.setCell ⟨g, 9, none⟩ (.bool true)) g 6 _ _ (.slice none 0 0) qq0)
  have hq2 : ((W1.setCell ⟨g, 9, none⟩ (.bool true)).setCell ⟨g, 6, none⟩ (.slice none 0 0)).heap[g]? = some (.cells #[.int .i64 e.i.org, .int .i64 e.i.num, .int .i64 e.i.srv, .int .i64 e.i.red, .int .i64 e.i.size, .slice au nu cu, .slice none 0 0, .bool e.i.done, .bool e.i.gone, .bool true, .bool e.i.shut, .int .i64 e.i.how] 63) := qq1.trans rfl
  have hb2 : Below w.heap.size w ((W1.setCell ⟨g, 9, none⟩ (.bool true)).setCell ⟨g, 6, none⟩ (.slice none 0 0)) := (Below.setCell (p := ⟨g, 6, none⟩) (Below.setCell (p := ⟨g, 9, none⟩) hb1 (by simp only; omega) (.bool true)) (by simp only; omega) (.slice none 0 0))
  obtain ⟨W2, hW2⟩ : ∃ W2, ((W1.setCell ⟨g, 9, none⟩ (.bool true)).setCell ⟨g, 6, none⟩ (.slice none 0 0)) = W2 := ⟨_, rfl⟩
  have HW2 : Hid (((W1.setCell ⟨g, 9, none⟩ (.bool true)).setCell ⟨g, 6, none⟩ (.slice none 0 0)) = W2) := hW2
  rw [hW2] at hq2 hb2
  have j0 : W2.cell? ⟨g, 0, none⟩ = some (.int .i64 e.i.org) := (cell_of_row _ _ _ _ _ _ hq2).trans rfl
  have j1 : W2.cell? ⟨g, 1, none⟩ = some (.int .i64 e.i.num) := (cell_of_row _ _ _ _ _ _ hq2).trans rfl
  have j2 : W2.cell? ⟨g, 2, none⟩ = some (.int .i64 e.i.srv) := (cell_of_row _ _ _ _ _ _ hq2).trans rfl
  have j3 : W2.cell? ⟨g, 3, none⟩ = some (.int .i64 e.i.red) := (cell_of_row _ _ _ _ _ _ hq2).trans rfl
  have j4 : W2.cell? ⟨g, 4, none⟩ = some (.int .i64 e.i.size) := (cell_of_row _ _ _ _ _ _ hq2).trans rfl
  have j5 : W2.cell? ⟨g, 5, none⟩ = some (.slice au nu cu) := (cell_of_row _ _ _ _ _ _ hq2).trans rfl
  have j6 : W2.cell? ⟨g, 6, none⟩ = some (.slice none 0 0) := (cell_of_row _ _ _ _ _ _ hq2).trans rfl
  have j7 : W2.cell? ⟨g, 7, none⟩ = some (.bool e.i.done) := (cell_of_row _ _ _ _ _ _ hq2).trans rfl
  have j8 : W2.cell? ⟨g, 8, none⟩ = some (.bool e.i.gone) := (cell_of_row _ _ _ _ _ _ hq2).trans rfl
  have j9 : W2.cell? ⟨g, 9, none⟩ = some (.bool true) := (cell_of_row _ _ _ _ _ _ hq2).trans rfl
  have j10 : W2.cell? ⟨g, 10, none⟩ = some (.bool e.i.shut) := (cell_of_row _ _ _ _ _ _ hq2).trans rfl
  have j11 : W2.cell? ⟨g, 11, none⟩ = some (.int .i64 e.i.how) := (cell_of_row _ _ _ _ _ _ hq2).trans rfl
  have hio := (hok.fi hf).1
  have hrd := (h.pI.r e he).1.1
  have hrh := (h.pI.r e he).2.1
  have hSet := settle_any (h.below hb2) hok h0 { e.i with heard := true, data := [] } au none nu 0 cu 0 ⟨hio.org.1, hio.org.2.1, hio.org.2.2⟩ hio.num (World.ownsRow_nil _ _ _ _) (by rw [← eu]; exact own_at hrh (fun x hx => hb2.block x (own_lt hrh hx))) (fun x hx => by cases hx) (fun x hx => .inl ⟨e, he, rfl, by rw [eu]; exact hx⟩)
  have HS : Hid (Calls Tryz.prog 141 #[tP z, .agg #[.int .i64 e.i.org, .int .i64 e.i.num, .int .i64 e.i.srv, .int .i64 e.i.red, .int .i64 e.i.size, .slice au nu cu, .slice none 0 0, .bool e.i.done, .bool e.i.gone, .bool true, .bool e.i.shut, .int .i64 e.i.how]] W2 fun e' w' => e' = .returned (.tuple #[]) ∧ ∃ z', Tw w' z' (T.settle { e.i with heard := true, data := [] }) ∧ Up z z' w w') := hSet.mono fun e' w' ⟨q1, z', q2, q3⟩ => ⟨q1, z', q2, (Up.below hb2).trans q3⟩
  have HG : Hid (W.heap.size = g) := hg
  clear h hT hW hbx hbd hp hW1 hW2 hb1 hb2 hq1 hq2 hp1 hrd hrh he hes hf hbz hbz0 hpz hg ev eu hio hSet hok h0 qq0 qq1
  go_enter Tryz.func107, Tryz.ntmps107
  go_wp2
  rw [HW.out]
  go_region
  all_goals rw [HW1.out, HG.out]
  all_goals go_upto_region 3 with fail
  all_goals rw [HW2.out]
  all_goals go_wp2_with (go_at_call 141; refine HS.out.mono ?_; rintro e' w' ⟨rfl, HT⟩)
  all_goals go_end0
  all_goals exact ⟨rfl, HT⟩
end Go.Proofs.YtillgoegiplmkaaGreatDoor.B

namespace Go.Proofs.YtillgoegiplmkaaGreatDoor.B
open C
open Go.RowKit Go.Maps
set_option linter.unusedVariables false
set_option linter.unusedSimpArgs false

theorem Tw.mbK {S : Nat → Prop} {w V : World} {z : Tz} {T : T8} (h : Tw w z T) (hk : Kl S w V) (hn : ¬ S z.m2) : Mb V z.m2 z.c2 (z.I.map Im.ent) := ⟨(hk.block _ (h.ltp h.pI.pm) hn).trans h.pI.mp.blk, h.pI.mp.nd, h.pI.mp.bn, h.pI.mp.bl, h.pI.mp.wf⟩
theorem beg_none {T : T8} {s : Int × Int} (h : T.beg s = true) : T.fi s = none := by
  unfold T8.beg at h
  cases hf : T.fi s with
  | none => rfl
  | some i => rw [hf] at h; cases h
theorem und_some {T : T8} {s : Int × Int} (h : T.und s = true) : ∃ i, T.fi s = some i ∧ i.done = false ∧ i.gone = false := by
  unfold T8.und at h
  cases hf : T.fi s with
  | none => rw [hf] at h; cases h
  | some i =>
    rw [hf] at h
    simp only [Bool.and_eq_true, Bool.not_eq_true'] at h
    exact ⟨i, rfl, h.1, h.2⟩
set_option maxHeartbeats 4000000 in
theorem take_then {w : World} {z : Tz} {T : T8} (h : Tw w z T) (hok : T.Ok) (r : Rc) (hm : MayR r) (hr : sW (sR r)) (hk : r.kind = 6) (hbu : T.beg (sR r) = true ∨ T.und (sR r) = true) (hf : (un (T.at (sR r)).hv (plc r)).length ≤ 2000) (sa da : Option Addr) (ns nd sc dc : Nat) (hnd : r.data.length = nd) (hdc : nd ≤ dc) (hdm : dc ≤ 9223372036854775807) (hz : Lies .u8 w da r.data) (hsep : ∀ g, (Value.slice da nd dc).ownBlock = some g → ¬ z.F g) :
    Calls Tryz.prog 101 #[tP z, .agg (rcC r (.slice sa ns sc) (.slice da nd dc))] w (ThP z (T.putI { T.at (sR r) with srv := r.srv, red := r.red, size := r.size, data := laid (T.at (sR r)) r, hv := un (T.at (sR r)).hv (plc r) }) w) := by
  obtain ⟨_, h1, h2, h3, _⟩ := hm.k6 hk
  have hm4 : may4 r.off r.data := ⟨by omega, by omega, h1, h3⟩
  rcases hbu with hb | hu
  · have hf0 := beg_none hb
    have hat : T.at (sR r) = emp (sR r) := by unfold T8.at; rw [hf0]
    rw [hat] at hf ⊢
    exact take_core h r hr (emp (sR r)) none none sa da 0 0 0 0 ns sc nd dc 0 0 (fun V hV => (h.keep hV (fun g _ e => by cases e)).lookI0 hr hf0 false) (fun g e => by cases e) (fun g e => by cases e) (World.ownsRow_nil _ _ _ _) (SOwn.nil _ _) ⟨Nat.zero_le _, trivial⟩ (Nat.zero_le _) hm4 hnd hdc hdm hz hsep hf
  · obtain ⟨o, hfi, hd, hg⟩ := und_some hu
    have hat : T.at (sR r) = o := by unfold T8.at; rw [hfi]
    have hio := (hok.fi hfi).1
    rw [hat] at hf ⊢
    obtain ⟨e, he, rfl, hes, _⟩ := h.lookI1 hfi
    obtain ⟨av, nv, cv, ev⟩ := own_sl8 (h.pI.r e he).1.1
    obtain ⟨au, nu, cu, eu⟩ := own_sl8 (h.pI.r e he).2.1
    have hon : e.i.org = r.org ∧ e.i.num = r.num := ⟨congrArg Prod.fst hes, congrArg Prod.snd hes⟩
    have hst : IsSet e.i.hv := ⟨hio.few, hio.rt⟩
    have hdl : e.i.data.length ≤ 65536 := by
      have a1 := hio.dat
      have a2 := hio.most
      split at a1 <;> omega
    have hk2 := take_core h r hr e.i au av sa da nu nv cu cv ns sc nd dc e.i.org e.i.num (fun V hV => by
        have hl := lookB1 (mt := 69) Tryz.underlying69 (h.mbK hV (fun e2 => by
          have := (h.pI.r e he).1.2 z.m2 (by rw [ev]; exact e2)
          rw [h.pI.pm] at this
          cases this)) (List.mem_map.mpr ⟨e, he, rfl⟩) false
        rw [show e.ent.k = sR r from hes] at hl
        rw [← ev, ← eu]
        exact hl) (fun g q => ⟨e, he, hes, by rw [ev]; exact q⟩) (fun g q => ⟨e, he, hes, by rw [eu]; exact q⟩) (by rw [← ev]; exact (h.pI.r e he).1.1) (by rw [← eu]; exact (h.pI.r e he).2.1) hst hdl hm4 hnd hdc hdm hz hsep hf
    have heq : ({ e.i with org := r.org, num := r.num, srv := r.srv, red := r.red, size := r.size, data := laid e.i r, hv := un e.i.hv (plc r) } : Ic) = { e.i with srv := r.srv, red := r.red, size := r.size, data := laid e.i r, hv := un e.i.hv (plc r) } := by rw [← hon.1, ← hon.2]
    rw [heq] at hk2
    exact hk2
/-- What Apply leaves. -/
def ApP (z : Tz) (T : T8) (r : Rc) (w : World) (e : Ending) (w' : World) : Prop := e = .returned (.int .i64 (T.can r)) ∧ ∃ z', Tw w' z' (T.app r) ∧ Up z z' w w'
theorem kinds_lt {w : World} (h : Tab6 w) : 0 < w.heap.size := World.block_lt_of_cell? w ⟨0, 0, none⟩ (h 0 (by omega))
set_option maxRecDepth 8000 in
set_option maxHeartbeats 4000000 in
theorem apply_any {w : World} {z : Tz} {T : T8} (h : Tw w z T) (hok : T.Ok) (hT : Tab6 w) (r : Rc) (sa da : Option Addr) (ns nd sc dc : Nat) (hr : RIn w r sa da ns nd sc dc) (hx : 1 ≤ nd → nd ≤ dc ∧ dc ≤ 9223372036854775807 ∧ ∀ g, (Value.slice da nd dc).ownBlock = some g → ¬ z.F g) :
    Calls Tryz.prog 19 #[tP z, .agg (rcC r (.slice sa ns sc) (.slice da nd dc))] w (ApP z T r w) := by
  have hkl := kinds_lt hT
  have hcan : ∀ W : World, Below w.heap.size w W → Calls Tryz.prog 12 #[tP z, .agg (rcC r (.slice sa ns sc) (.slice da nd dc))] W fun e w' => e = .returned (.int .i64 (T.can r)) ∧ Below W.heap.size W w' := fun W hW => can_any (h.below hW) hok (hT.below hW hkl) r sa da ns nd sc dc (hr.below hW)
  by_cases hc : T.can r = 0
  · have ha : T.app r = T.then' r := by unfold T8.app; rw [if_pos hc]
    have hmb : mayB6 r = true := by
      cases hq : mayB6 r with
      | true => rfl
      | false => unfold T8.can at hc; rw [hq] at hc; simp at hc
    have hfo : T.folw r = true := by
      cases hq : T.folw r with
      | true => rfl
      | false => unfold T8.can at hc; rw [hmb, hq] at hc; simp at hc
    have hfi : T.fits r = true := by
      cases hq : T.fits r with
      | true => rfl
      | false => unfold T8.can at hc; rw [hmb, hfo, hq] at hc; simp at hc
    have hm := may_r hmb
    have ht := hm.top
    have hF : ∀ g, z.F g → g < w.heap.size := fun g hg => h.lt g hg
    rw [hc] at hcan
    have fin : ∀ (fc ft : Nat), (∀ W : World, Calls Tryz.prog 54 #[.int .i64 r.kind] W fun e w' => e = .returned (.agg #[fv fc, fv ft]) ∧ Below W.heap.size W w') → (∀ args w, (callFunc ft args).run Tryz.prog w = .ok (.enter ft args) w) → (∀ W : World, Below w.heap.size w W → Calls Tryz.prog ft #[tP z, .agg (rcC r (.slice sa ns sc) (.slice da nd dc))] W (ThP z (T.then' r) W)) → Calls Tryz.prog 19 #[tP z, .agg (rcC r (.slice sa ns sc) (.slice da nd dc))] w (ApP z T r w) := fun fc ft h1 h2 h3 => by
      refine (apply_gen r sa da ns sc nd dc fc ft (fun w' => ∃ z', Tw w' z' (T.then' r) ∧ Up z z' w w') z.F hF hcan h1 h2 (fun W hW => (h3 W hW).mono fun e w' q => ⟨q.1, ?_, ?_⟩)).mono fun e w' q => ⟨by rw [hc]; exact q.1, by rw [ha]; exact q.2⟩
      · obtain ⟨_, z', _, q2⟩ := q
        exact q2.k
      · obtain ⟨_, z', q1, q2⟩ := q
        exact ⟨z', q1, (Up.below hW).trans q2⟩
    have : r.kind = 1 ∨ r.kind = 2 ∨ r.kind = 3 ∨ r.kind = 4 ∨ r.kind = 5 ∨ r.kind = 6 ∨ r.kind = 7 ∨ r.kind = 8 ∨ r.kind = 9 ∨ r.kind = 10 ∨ r.kind = 11 ∨ r.kind = 12 := by omega
    have hid : r.kind ≠ 1 → T.id ≠ 0 := fun h1 e => by unfold T8.folw at hfo; rw [if_neg h1, if_pos e] at hfo; cases hfo
    rcases this with hk | hk | hk | hk | hk | hk | hk | hk | hk | hk | hk | hk
    · have e : T.then' r = { T with id := r.org, boots := r.size } := by unfold T8.then'; rw [if_pos hk]
      rw [e] at fin
      exact fin 90 91 (fun W => by rw [hk]; exact rowOf_any 1 _ _ rfl rfl (by omega) W) (enters_of Tryz.func91 (by kernel_rfl) rfl) (fun W hW => boot_then (h.below hW) r _ _)
    · have e : T.then' r = { T with next := r.size } := by unfold T8.then'; rw [if_neg (by omega), if_pos hk]
      rw [e] at fin
      exact fin 92 93 (fun W => by rw [hk]; exact rowOf_any 2 _ _ rfl rfl (by omega) W) (enters_of Tryz.func93 (by kernel_rfl) rfl) (fun W hW => skip_then (h.below hW) r _ _)
    · have hr' := hm.sw (by omega) (by omega) (by omega)
      have hs := hm.ses (by omega) (by omega) (by omega)
      have hl := hm.k3 hk
      have e : T.then' r = { T with ex := ins ltS Og.s ⟨r.org, r.num, r.peer, r.srv, r.red, r.size, r.data, false, 0⟩ T.ex, next := r.num + 1 } := by unfold T8.then'; rw [if_neg (by omega), if_neg (by omega), if_pos hk]
      rw [e] at fin
      exact fin 94 95 (fun W => by rw [hk]; exact rowOf_any 3 _ _ rfl rfl (by omega) W) (enters_of Tryz.func95 (by kernel_rfl) rfl) (fun W hW => open_then (h.below hW) r hr' hs.2.2.2 hs.2.2.1 _ da nd dc hr.dat (hr.lie.below hW) hr.nil (by have := hr.dat; have := hl; omega))
    · have hr' := hm.sw (by omega) (by omega) (by omega)
      obtain ⟨x, hx⟩ : ∃ x, T.fe (sR r) = some x := by
        unfold T8.folw at hfo
        rw [if_neg (by omega), if_neg (hid (by omega)), if_neg (by omega), if_neg (by omega), if_pos hk] at hfo
        cases hq : T.fe (sR r) with
        | none => rw [hq] at hfo; cases hfo
        | some x => exact ⟨x, rfl⟩
      have e : T.then' r = { T with ex := ins ltS Og.s { x with ended := true, how := r.how } T.ex } := by unfold T8.then'; rw [if_neg (by omega), if_neg (by omega), if_neg (by omega), if_pos hk]; rw [hx]
      rw [e] at fin
      exact fin 96 97 (fun W => by rw [hk]; exact rowOf_any 4 _ _ rfl rfl (by omega) W) (enters_of Tryz.func97 (by kernel_rfl) rfl) (fun W hW => end_then (h.below hW) r hr' hx _ _)
    · have hr' := hm.sw (by omega) (by omega) (by omega)
      have e : T.then' r = { T with ex := rm Og.s (sR r) T.ex } := by unfold T8.then'; rw [if_neg (by omega), if_neg (by omega), if_neg (by omega), if_neg (by omega), if_pos hk]
      rw [e] at fin
      exact fin 98 99 (fun W => by rw [hk]; exact rowOf_any 5 _ _ rfl rfl (by omega) W) (enters_of Tryz.func99 (by kernel_rfl) rfl) (fun W hW => forget_then (h.below hW) r hr' _ _)
    · have hr' := hm.sw (by omega) (by omega) (by omega)
      have hbu : T.beg (sR r) = true ∨ T.und (sR r) = true := by
        unfold T8.folw at hfo
        rw [if_neg (by omega), if_neg (hid (by omega)), if_neg (by omega), if_neg (by omega), if_neg (by omega), if_neg (by omega), if_pos hk] at hfo
        simp only [Bool.or_eq_true, Bool.and_eq_true] at hfo
        exact hfo.imp id (fun q => q.1)
      obtain ⟨hdc, hdm, hsep⟩ := hx (by have := (hm.k6 hk).2.2.1; have := hr.dat; omega)
      have hf2 : (un (T.at (sR r)).hv (plc r)).length ≤ 2000 := by unfold T8.fits at hfi; rw [if_pos hk] at hfi; simpa using hfi
      have e : T.then' r = T.putI { T.at (sR r) with srv := r.srv, red := r.red, size := r.size, data := laid (T.at (sR r)) r, hv := un (T.at (sR r)).hv (plc r) } := by unfold T8.then'; rw [if_neg (by omega), if_neg (by omega), if_neg (by omega), if_neg (by omega), if_neg (by omega), if_pos hk]
      rw [e] at fin
      exact fin 100 101 (fun W => by rw [hk]; exact rowOf_any 6 _ _ rfl rfl (by omega) W) (enters_of Tryz.func101 (by kernel_rfl) rfl) (fun W hW => take_then (h.below hW) hok r hm hr' hk hbu hf2 sa da ns nd sc dc hr.dat hdc hdm (hr.lie.below hW) hsep)
    · have hr' := hm.sw (by omega) (by omega) (by omega)
      have hu : T.und (sR r) = true := by
        unfold T8.folw at hfo
        rw [if_neg (by omega), if_neg (hid (by omega)), if_neg (by omega), if_neg (by omega), if_neg (by omega), if_neg (by omega), if_neg (by omega), if_pos hk] at hfo
        simp only [Bool.and_eq_true] at hfo
        exact hfo.1
      obtain ⟨o, ho, _⟩ := und_some hu
      have hat : T.at (sR r) = o := by unfold T8.at; rw [ho]
      have e : T.then' r = T.putI { o with done := true } := by unfold T8.then'; rw [if_neg (by omega), if_neg (by omega), if_neg (by omega), if_neg (by omega), if_neg (by omega), if_neg (by omega), if_pos hk]; rw [hat]
      rw [e] at fin
      exact fin 102 103 (fun W => by rw [hk]; exact rowOf_any 7 _ _ rfl rfl (by omega) W) (enters_of Tryz.func103 (by kernel_rfl) rfl) (fun W hW => deliver_then (h.below hW) r hr' ho _ _)
    · have hr' := hm.sw (by omega) (by omega) (by omega)
      have e : T.then' r = T.putI ⟨r.org, r.num, 0, 0, 0, [], [], false, true, false, false, r.how⟩ := by unfold T8.then'; rw [if_neg (by omega), if_neg (by omega), if_neg (by omega), if_neg (by omega), if_neg (by omega), if_neg (by omega), if_neg (by omega), if_pos hk]
      rw [e] at fin
      exact fin 104 105 (fun W => by rw [hk]; exact rowOf_any 8 _ _ rfl rfl (by omega) W) (enters_of Tryz.func105 (by kernel_rfl) rfl) (fun W hW => cancel_then (h.below hW) r hr' _ _)
    · have hr' := hm.sw (by omega) (by omega) (by omega)
      obtain ⟨o, ho⟩ : ∃ o, T.fi (sR r) = some o := by
        unfold T8.folw at hfo
        rw [if_neg (by omega), if_neg (hid (by omega)), if_neg (by omega), if_neg (by omega), if_neg (by omega), if_neg (by omega), if_neg (by omega), if_neg (by omega), if_neg (by omega), if_pos hk] at hfo
        cases hq : T.fi (sR r) with
        | none => rw [hq] at hfo; cases hfo
        | some x => exact ⟨x, rfl⟩
      have hat : T.at (sR r) = o := by unfold T8.at; rw [ho]
      have e : T.then' r = T.settle { o with heard := true, data := [] } := by unfold T8.then'; rw [if_neg (by omega), if_neg (by omega), if_neg (by omega), if_neg (by omega), if_neg (by omega), if_neg (by omega), if_neg (by omega), if_neg (by omega), if_pos hk]; rw [hat]
      rw [e] at fin
      exact fin 106 107 (fun W => by rw [hk]; exact rowOf_any 9 _ _ rfl rfl (by omega) W) (enters_of Tryz.func107 (by kernel_rfl) rfl) (fun W hW => hear_then (h.below hW) r hok (hid (by omega)) hr' ho _ _)
    · have hr' := hm.sw (by omega) (by omega) (by omega)
      obtain ⟨o, ho⟩ : ∃ o, T.fi (sR r) = some o := by
        unfold T8.folw at hfo
        rw [if_neg (by omega), if_neg (hid (by omega)), if_neg (by omega), if_neg (by omega), if_neg (by omega), if_neg (by omega), if_neg (by omega), if_neg (by omega), if_neg (by omega), if_neg (by omega), if_pos hk] at hfo
        cases hq : T.fi (sR r) with
        | none => rw [hq] at hfo; cases hfo
        | some x => exact ⟨x, rfl⟩
      have hat : T.at (sR r) = o := by unfold T8.at; rw [ho]
      have e : T.then' r = T.settle { o with shut := true } := by unfold T8.then'; rw [if_neg (by omega), if_neg (by omega), if_neg (by omega), if_neg (by omega), if_neg (by omega), if_neg (by omega), if_neg (by omega), if_neg (by omega), if_neg (by omega), if_pos hk]; rw [hat]
      rw [e] at fin
      exact fin 108 109 (fun W => by rw [hk]; exact rowOf_any 10 _ _ rfl rfl (by omega) W) (enters_of Tryz.func109 (by kernel_rfl) rfl) (fun W hW => shut_then (h.below hW) r hok (hid (by omega)) hr' ho _ _)
    · have hs := hm.k11 hk
      have e : T.then' r = T.bury r.size r.spans := by unfold T8.then'; rw [if_neg (by omega), if_neg (by omega), if_neg (by omega), if_neg (by omega), if_neg (by omega), if_neg (by omega), if_neg (by omega), if_neg (by omega), if_neg (by omega), if_neg (by omega), if_pos hk]
      rw [e] at fin
      exact fin 110 111 (fun W => by rw [hk]; exact rowOf_any 11 _ _ rfl rfl (by omega) W) (enters_of Tryz.func111 (by kernel_rfl) rfl) (fun W hW => buryAll_then (h.below hW) hok r sa ns sc _ (hr.spa.below hW) hs.2.2.2.2 (by have := hs.2.2.2.1; omega))
    · have hr' := hm.sw (by omega) (by omega) (by omega)
      have e : T.then' r = T.putI ⟨r.org, r.num, r.srv, r.red, r.size, [(0, r.red)], [], true, false, true, false, 0⟩ := by unfold T8.then'; rw [if_neg (by omega), if_neg (by omega), if_neg (by omega), if_neg (by omega), if_neg (by omega), if_neg (by omega), if_neg (by omega), if_neg (by omega), if_neg (by omega), if_neg (by omega), if_neg (by omega)]
      rw [e] at fin
      exact fin 112 113 (fun W => by rw [hk]; exact rowOf_any 12 _ _ rfl rfl (by omega) W) (enters_of Tryz.func113 (by kernel_rfl) rfl) (fun W hW => recall_then (h.below hW) r hr' _ _)
  · have ha : T.app r = T := by unfold T8.app; rw [if_neg hc]
    refine (apply_no r sa da ns sc nd dc (T.can r) hc hcan).mono fun e w' q => ⟨q.1, z, ?_, Up.below q.2⟩
    rw [ha]
    exact h.below q.2
end Go.Proofs.YtillgoegiplmkaaGreatDoor.B

namespace Go.Proofs.YtillgoegiplmkaaGreatDoor.B
open C
open Go.RowKit Go.Maps
set_option linter.unusedVariables false
set_option linter.unusedSimpArgs false

/-- A list of records that lies somewhere, with room for their bytes. -/
def RLx (w : World) (a : Option Addr) (l : List Rc) : Prop :=
  l = [] ∨ ∃ g off, a = some ⟨g, off, none⟩ ∧ ∀ i r, l[i]? = some r → ∃ sa da sc dc, (∀ j u, (rcC r (.slice sa r.spans.length sc) (.slice da r.data.length dc))[j]? = some u → w.cell? ⟨g, off + i * 11 + j, none⟩ = some u) ∧ RIn w r sa da r.spans.length r.data.length sc dc ∧ (1 ≤ r.data.length → r.data.length ≤ dc ∧ dc ≤ 9223372036854775807)
theorem RLx.below {w w' : World} {a : Option Addr} {l : List Rc} (h : RLx w a l) (hb : Below w.heap.size w w') : RLx w' a l := by
  rcases h with h | ⟨g, off, ha, h⟩
  · exact .inl h
  · refine .inr ⟨g, off, ha, fun i r hr => ?_⟩
    obtain ⟨sa, da, sc, dc, h1, h2, h3⟩ := h i r hr
    exact ⟨sa, da, sc, dc, fun j u hj => C.cell_below (h1 j u hj) hb, h2.below hb, h3⟩
theorem RLx.at {w : World} {a : Option Addr} {l : List Rc} (h : RLx w a l) {i : Nat} {r : Rc} (hr : l[i]? = some r) : ∃ g off sa da sc dc, a = some ⟨g, off, none⟩ ∧ (∀ j u, (rcC r (.slice sa r.spans.length sc) (.slice da r.data.length dc))[j]? = some u → w.cell? ⟨g, off + i * 11 + j, none⟩ = some u) ∧ RIn w r sa da r.spans.length r.data.length sc dc ∧ (1 ≤ r.data.length → r.data.length ≤ dc ∧ dc ≤ 9223372036854775807) := by
  rcases h with rfl | ⟨g, off, ha, h⟩
  · simp at hr
  · obtain ⟨sa, da, sc, dc, h1, h2, h3⟩ := h i r hr
    exact ⟨g, off, sa, da, sc, dc, ha, h1, h2, h3⟩
theorem can_zero {T : T8} {r : Rc} (h : T.can r = 0) : mayB6 r = true ∧ T.folw r = true ∧ T.fits r = true := by
  have h1 : mayB6 r = true := by
    cases hq : mayB6 r with
    | true => rfl
    | false => unfold T8.can at h; rw [hq] at h; simp at h
  have h2 : T.folw r = true := by
    cases hq : T.folw r with
    | true => rfl
    | false => unfold T8.can at h; rw [h1, hq] at h; simp at h
  refine ⟨h1, h2, ?_⟩
  cases hq : T.fits r with
  | true => rfl
  | false => unfold T8.can at h; rw [h1, h2, hq] at h; simp at h
theorem app_ok {T : T8} {r : Rc} (h : T.Ok) (hb : Bytey r.data) : (T.app r).Ok := by
  unfold T8.app
  split
  · rename_i hc
    obtain ⟨h1, h2, h3⟩ := can_zero hc
    exact ok_then h (may_r h1) hb h2 h3
  · exact h
/-- An Apply of a record whose bytes lie elsewhere. -/
theorem apply_at {w : World} {z : Tz} {T : T8} (h : Tw w z T) (hok : T.Ok) (hT : Tab6 w) (r : Rc) (sa da : Option Addr) (sc dc : Nat) (hr : RIn w r sa da r.spans.length r.data.length sc dc) (hx : 1 ≤ r.data.length → r.data.length ≤ dc ∧ dc ≤ 9223372036854775807) (hs : 1 ≤ r.data.length → ∀ x, da = some x → ¬ z.F x.block) :
    Calls Tryz.prog 19 #[tP z, .agg (rcC r (.slice sa r.spans.length sc) (.slice da r.data.length dc))] w (ApP z T r w) :=
  apply_any h hok hT r sa da _ _ sc dc hr (fun h1 => ⟨(hx h1).1, (hx h1).2, fun g hg => by
    cases da with
    | none => cases hg
    | some x =>
      simp only [Value.ownBlock, Option.some.injEq] at hg
      rw [← hg]
      exact hs h1 x rfl⟩)
theorem lies_lt {w : World} {da : Option Addr} {zs : List Int} (h : Lies .u8 w da zs) (h1 : 1 ≤ zs.length) : ∀ x, da = some x → x.block < w.heap.size := fun x hx => by
  rcases h with h0 | ⟨gd, od, ha, hc⟩
  · rw [h0] at h1; simp at h1
  · rw [hx] at ha
    simp only [Option.some.injEq] at ha
    rw [ha]
    exact World.block_lt_of_cell? w ⟨gd, od + 0, none⟩ (hc 0 (by omega))
/-- A table of the call's own. -/
structure Tn (w : World) (z : Tz) (T : T8) (W : World) : Prop where
  tw : Tw W z T
  ok : T.Ok
  low : Below w.heap.size w W
  new : ∀ g, z.F g → w.heap.size ≤ g
theorem Tn.below {w W W' : World} {z : Tz} {T : T8} (h : Tn w z T W) (hb : Below W.heap.size W W') : Tn w z T W' := ⟨h.tw.below hb, h.ok, h.low.trans (hb.mono h.low.size), h.new⟩
theorem Tn.up {w W W' : World} {z z' : Tz} {T T' : T8} (h : Tn w z T W) (hT : Tw W' z' T') (hu : Up z z' W W') (hok : T'.Ok) : Tn w z' T' W' :=
  ⟨hT, hok, h.low.trans ⟨hu.k.os, hu.k.tape, hu.k.output, hu.k.size, fun g hg => hu.k.block g (Nat.lt_of_lt_of_le hg h.low.size) (fun e => by have := h.new g e; omega)⟩, fun g hg => (hu.f g hg).elim (h.new g) (fun e => Nat.le_trans h.low.size e)⟩
/-- What Load leaves. -/
def LoP (l : List Rc) (w : World) (e : Ending) (w' : World) : Prop := ∃ o n er pv, ld t0 0 l = (o, n, er) ∧ e = .returned (.tuple #[pv, .int .i64 n, .int .i64 er]) ∧ Below w.heap.size w w' ∧ match o with | some T => ∃ z, pv = tP z ∧ Tn w z T w' | none => pv = .pointer none
theorem ld_step {T : T8} {n : Int} {r : Rc} {l : List Rc} : ld T n (r :: l) = if T.can r = 0 then ld (T.then' r) (n + 1) l else (none, n, T.can r) := rfl
theorem drop_cons {α : Type} {l : List α} {k : Nat} {x : α} (h : l[k]? = some x) : l.drop k = x :: l.drop (k + 1) := by
  obtain ⟨hk, hx⟩ := List.getElem?_eq_some_iff.mp h
  rw [List.drop_eq_getElem_cons hk, hx]
/-- What Load's loop keeps. -/
def LoI (l : List Rc) (w : World) (x k : Nat) (W : World) : Prop := ∃ z T, z.x = x ∧ Tn w z T W ∧ ld t0 0 l = ld T (k : Int) (l.drop k)
set_option maxRecDepth 8000 in
set_option maxHeartbeats 4000000 in
theorem load_any {w : World} (hT : Tab6 w) (a : Option Addr) (n c : Nat) (l : List Rc) (hl : RLx w a l) (hn : l.length = n) (hby : ∀ r ∈ l, Bytey r.data) (hbig : n ≤ 140737488355328) : Calls Tryz.prog 18 #[.slice a n c] w (LoP l w) := by
  have hkl := kinds_lt hT
  have HH : Hid (Tab6 w ∧ RLx w a l ∧ l.length = n ∧ (∀ r ∈ l, Bytey r.data)) := ⟨hT, hl, hn, hby⟩
  have HN : Hid (Calls Tryz.prog 9 #[] w fun e w' => e = .returned (.pointer (some ⟨w.heap.size + 3, 0, none⟩)) ∧ LoI l w (w.heap.size + 3) 0 w') := (new8_any w).mono fun e w' q => ⟨q.1, zNew w.heap.size, t0, rfl, ⟨q.2.1, ok_t0, q.2.2, fun g hg => by
    unfold Tz.F zNew at hg
    simp only at hg
    split at hg
    · omega
    · split at hg
      · omega
      · split at hg
        · omega
        · split at hg
          · omega
          · exact absurd rfl hg⟩, rfl⟩
  obtain ⟨X, hX⟩ : ∃ X, w.heap.size + 3 = X := ⟨_, rfl⟩
  rw [hX] at HN
  clear hT hl hn hby hX
  go_enter Tryz.func18, Tryz.ntmps18
  go_upto_region 2 with (go_at_call 9; refine HN.out.mono ?_; rintro e w1 ⟨rfl, hI0⟩)
  have HI0 : Hid (LoI l w X 0 w1) := hI0
  clear hI0 HN
  go_wp2_with fail
  go_loopw [12] (fun i wr => ∃ k : Nat, i = .int .i64 k ∧ Hid (k ≤ n ∧ LoI l w X k wr)) (fun i _ => n - (intOf i).toNat)
  case atStart => exact ⟨0, rfl, Nat.zero_le _, HI0.out⟩
  case round =>
    obtain ⟨k, rfl, hh⟩ := hrel
    have HK : Hid (k ≤ n ∧ LoI l w X k wr) := hh.out
    clear hh HI0
    by_cases hlt : k < n
    · have hlt' : (k : Int) < (n : Int) := by omega
      have hkl' : k < l.length := by rw [HH.out.2.2.1]; exact hlt
      obtain ⟨r, hr⟩ : ∃ r, l[k]? = some r := ⟨l[k], List.getElem?_eq_getElem hkl'⟩
      obtain ⟨z, T, hzx, hTn, hld⟩ := HK.out.2
      obtain ⟨g, off, sa, da, sc, dc, rfl, hc00, hri0, hro⟩ := (HH.out.2.1).at hr
      have hc : ∀ j u, (rcC r (.slice sa r.spans.length sc) (.slice da r.data.length dc))[j]? = some u → wr.cell? ⟨g, off + k * 11 + j, none⟩ = some u := fun j u hj => C.cell_below (hc00 j u hj) hTn.low
      have hri := hri0.below hTn.low
      have c0 := hc 0 _ rfl
      have c1 := hc 1 _ rfl
      have c2 := hc 2 _ rfl
      have c3 := hc 3 _ rfl
      have c4 := hc 4 _ rfl
      have c5 := hc 5 _ rfl
      have c6 := hc 6 _ rfl
      have c7 := hc 7 _ rfl
      have c8 := hc 8 _ rfl
      have c9 := hc 9 _ rfl
      have c10 := hc 10 _ rfl
      simp only [Nat.add_zero] at c0
      have hbx : Below wr.heap.size wr (wr.alloc (rcO r (.slice sa r.spans.length sc) (.slice da r.data.length dc))) := (Below.refl _ _).alloc (Nat.le_refl _) _
      have hkb : 0 < wr.heap.size := Nat.lt_of_lt_of_le hkl hTn.low.size
      have hmem : r ∈ l := List.mem_of_getElem? hr
      have HAp : Hid (Calls Tryz.prog 19 #[.pointer (some ⟨X, 0, none⟩), .agg (rcC r (.slice sa r.spans.length sc) (.slice da r.data.length dc))] (wr.alloc (rcO r (.slice sa r.spans.length sc) (.slice da r.data.length dc))) fun e w' => e = .returned (.int .i64 (T.can r)) ∧ Below w.heap.size w w' ∧ (T.can r = 0 → LoI l w X (k + 1) w') ∧ (¬ T.can r = 0 → ld t0 0 l = (none, (k : Int), T.can r))) := by
        have ha := apply_at (hTn.below hbx).tw hTn.ok ((HH.out.1.below hTn.low hkl).below hbx hkb) r sa da sc dc (hri.below hbx) hro (fun h1 x hx e => by have e1 := hTn.new _ e; have e2 := lies_lt (hri0.lie) h1 x hx; omega)
        rw [show tP z = .pointer (some ⟨X, 0, none⟩) from by rw [← hzx]] at ha
        refine ha.mono fun e w' q => ?_
        obtain ⟨q1, z', q2, q3⟩ := q
        have hN := (hTn.below hbx).up q2 q3 (app_ok hTn.ok (HH.out.2.2.2 r hmem))
        refine ⟨q1, hN.low, fun h0 => ⟨z', T.app r, q3.x.trans hzx, hN, ?_⟩, fun h0 => ?_⟩
        · rw [hld, drop_cons hr, ld_step, if_pos h0]
          unfold T8.app
          rw [if_pos h0]
          rw [show ((k + 1 : Nat) : Int) = (k : Int) + 1 from by omega]
        · rw [hld, drop_cons hr, ld_step, if_neg h0]
      obtain ⟨E, hE⟩ : ∃ E, T.can r = E := ⟨_, rfl⟩
      rw [hE] at HAp
      clear hE hc hc00 hri hri0 hro hTn hld hr hbx hkb hmem hzx
      generalize r.spans.length = ns at *
      generalize r.data.length = nd at *
      by_cases h0 : E = 0
      · have h0' : (E != 0) = false := by simp [h0]
        have H0 : Hid (E = 0) := h0
        clear h0
        go_wp2_with (go_at_call 19; refine HAp.out.mono ?_; rintro e w2 ⟨rfl, hb2, hq1, hq2⟩; have HQ : Hid (LoI l w X (k + 1) w2) := hq1 H0.out; clear hq1 hq2 hb2)
        go_roundw
        case rel => exact ⟨k + 1, by go_num, by omega, HQ.out⟩
        case measure => simp [intOf]; omega
      · have h0' : (E != 0) = true := by simp [h0]
        have H0 : Hid (¬ E = 0) := h0
        clear h0
        go_wp2_with (go_at_call 19; refine HAp.out.mono ?_; rintro e w2 ⟨rfl, hb2, hq1, hq2⟩; have HQ : Hid (ld t0 0 l = (none, (k : Int), E) ∧ Below w.heap.size w w2) := ⟨hq2 H0.out, hb2⟩; clear hq1 hq2 hb2)
        go_ret3
        exact ⟨none, k, E, _, HQ.out.1, rfl, HQ.out.2, rfl⟩
    · have hkn : k = n := by have := HK.out.1; omega
      obtain ⟨z, T, hzx, hTn, hld⟩ := HK.out.2
      have HQ : Hid (LoP l w (.returned (.tuple #[.pointer (some ⟨X, 0, none⟩), .int .i64 0, .int .i64 0])) wr) := by
        refine ⟨some T, 0, 0, _, ?_, rfl, hTn.low, z, ?_, hTn⟩
        · rw [hld, List.drop_eq_nil_of_le (by have := HH.out.2.2.1; omega)]; rfl
        · rw [← hzx]
      have hlt' : ¬ (k : Int) < (n : Int) := by omega
      clear hzx hTn hld hkn
      go_wp2
      go_ret3
      exact HQ.out
end Go.Proofs.YtillgoegiplmkaaGreatDoor.B
