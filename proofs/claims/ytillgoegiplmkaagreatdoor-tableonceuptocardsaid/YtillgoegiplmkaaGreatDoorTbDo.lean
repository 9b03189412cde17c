import Derived.Test.YtillgoegiplmkaaGreatDoorTbCg
import Derived.Test.YtillgoegiplmkaaGreatDoorTbDl
import Derived.Test.YtillgoegiplmkaaGreatDoorTbCk
import Derived.Deep.RegionHeld3
namespace Go.Proofs.YtillgoegiplmkaaGreatDoor.B
open C
open Go.RowKit Go.Maps
set_option linter.unusedVariables false
set_option linter.unusedSimpArgs false

theorem drew_heap (V : World) (k : Nat) : V.drew.heap[k]? = V.heap[k]? := rfl
set_option maxRecDepth 8000 in
set_option maxHeartbeats 4000000 in
theorem take_core {w : World} {z : Tz} {T : T8} (h : Tw w z T) (r : Rc) (hr : sW (sR r)) (o : Ic) (au av s0 da : Option Addr) (nu nv cu cv ns sc nd dc : Nat) (a0 a1 : Int)
    (hlook : ∀ V : World, Kl (fun g => (Value.slice av nv cv).ownBlock = some g) w V → (Instr.lookup 69 (.map (some z.m2)) (.agg #[.int .i64 r.org, .int .i64 r.num]) false).run Tryz.prog V = .ok (.agg #[.int .i64 a0, .int .i64 a1, .int .i64 o.srv, .int .i64 o.red, .int .i64 o.size, .slice au nu cu, .slice av nv cv, .bool o.done, .bool o.gone, .bool o.heard, .bool o.shut, .int .i64 o.how]) V)
    (hS : ∀ g, (Value.slice av nv cv).ownBlock = some g → ∃ e ∈ z.I, e.i.s = sR r ∧ e.dv.ownBlock = some g) (hH : ∀ g, (Value.slice au nu cu).ownBlock = some g → ∃ e ∈ z.I, e.i.s = sR r ∧ e.hv.ownBlock = some g)
    (hrd : BO w (.slice av nv cv) o.data) (hrh : SO w (.slice au nu cu) o.hv) (hset : IsSet o.hv) (hlen : o.data.length ≤ 65536) (hm : may4 r.off r.data) (hnd : r.data.length = nd) (hdc : nd ≤ dc) (hdm : dc ≤ 9223372036854775807) (hz : Lies .u8 w da r.data) (hsep : ∀ g, (Value.slice da nd dc).ownBlock = some g → ¬ z.F g) (hbig : (un o.hv (plc r)).length ≤ 2000) :
    Calls Tryz.prog 101 #[tP z, .agg (rcC r (.slice s0 ns sc) (.slice da nd dc))] w (ThP z (T.putI ({ o with org := r.org, num := r.num, srv := r.srv, red := r.red, size := r.size, data := laid o r, hv := un o.hv (plc r) } : Ic)) w) := by
  have hbx : Below w.heap.size w (w.alloc (rcO r (.slice s0 ns sc) (.slice da nd dc))) := (Below.refl _ _).alloc (Nat.le_refl _) _
  have hp : ((w.alloc (rcO r (.slice s0 ns sc) (.slice da nd dc)))).heap[w.heap.size]? = some (rcO r (.slice s0 ns sc) (.slice da nd dc)) := heap_alloc_new' w _
  obtain ⟨W, hW⟩ : ∃ W, (w.alloc (rcO r (.slice s0 ns sc) (.slice da nd dc))) = W := ⟨_, rfl⟩
  have HW : Hid ((w.alloc (rcO r (.slice s0 ns sc) (.slice da nd dc))) = W) := hW
  have hsz : W.heap.size = w.heap.size + 1 := by rw [← hW]; simp
  rw [hW] at hbx hp
  have hT := h.below hbx
  obtain ⟨c0, c1, c2, c3, c4, c5⟩ := hT.c
  obtain ⟨k0, k1, k2, k3, k4, k5, k6, k7, k8, k9, k10⟩ := rc_cells hp
  have hbd : Below w.heap.size w W.drew := hbx.drew
  have hbz : Below w.heap.size w (W.alloc (.cells #[.int .i64 0, .int .i64 0, .int .i64 0, .int .i64 0, .int .i64 0, .slice none 0 0, .slice none 0 0, .bool false, .bool false, .bool false, .bool false, .int .i64 0] 63)).drew := (hbx.alloc hbx.size _).drew
  have hl : (Instr.lookup 69 (.map (some z.m2)) (.agg #[.int .i64 r.org, .int .i64 r.num]) false).run Tryz.prog W.drew = .ok (.agg #[.int .i64 a0, .int .i64 a1, .int .i64 o.srv, .int .i64 o.red, .int .i64 o.size, .slice au nu cu, .slice av nv cv, .bool o.done, .bool o.gone, .bool o.heard, .bool o.shut, .int .i64 o.how]) W.drew := hlook _ (Kl.of_below hbd)
  have hl2 : (Instr.lookup 69 (.map (some z.m2)) (.agg #[.int .i64 r.org, .int .i64 r.num]) false).run Tryz.prog (W.alloc (.cells #[.int .i64 0, .int .i64 0, .int .i64 0, .int .i64 0, .int .i64 0, .slice none 0 0, .slice none 0 0, .bool false, .bool false, .bool false, .bool false, .int .i64 0] 63)).drew = .ok (.agg #[.int .i64 a0, .int .i64 a1, .int .i64 o.srv, .int .i64 o.red, .int .i64 o.size, .slice au nu cu, .slice av nv cv, .bool o.done, .bool o.gone, .bool o.heard, .bool o.shut, .int .i64 o.how]) (W.alloc (.cells #[.int .i64 0, .int .i64 0, .int .i64 0, .int .i64 0, .int .i64 0, .slice none 0 0, .slice none 0 0, .bool false, .bool false, .bool false, .bool false, .int .i64 0] 63)).drew := hlook _ (Kl.of_below hbz)
  have hbz0 : Below w.heap.size w (W.alloc (.cells #[.int .i64 0, .int .i64 0, .int .i64 0, .int .i64 0, .int .i64 0, .slice none 0 0, .slice none 0 0, .bool false, .bool false, .bool false, .bool false, .int .i64 0] 63)) := hbx.alloc hbx.size _
  obtain ⟨y0, y1, y2, y3, y4, y5⟩ := (h.below hbz0).c
  have hpz : (W.alloc (.cells #[.int .i64 0, .int .i64 0, .int .i64 0, .int .i64 0, .int .i64 0, .slice none 0 0, .slice none 0 0, .bool false, .bool false, .bool false, .bool false, .int .i64 0] 63)).heap[w.heap.size]? = some (rcO r (.slice s0 ns sc) (.slice da nd dc)) := (Below.heap_alloc _ _ _ (by omega)).trans hp
  have x1 : (W.alloc (.cells #[.int .i64 0, .int .i64 0, .int .i64 0, .int .i64 0, .int .i64 0, .slice none 0 0, .slice none 0 0, .bool false, .bool false, .bool false, .bool false, .int .i64 0] 63)).cell? ⟨w.heap.size, 1, none⟩ = some (.int .i64 r.org) := (cell_of_row _ _ _ _ _ _ hpz).trans rfl
  have x2 : (W.alloc (.cells #[.int .i64 0, .int .i64 0, .int .i64 0, .int .i64 0, .int .i64 0, .slice none 0 0, .slice none 0 0, .bool false, .bool false, .bool false, .bool false, .int .i64 0] 63)).cell? ⟨w.heap.size, 2, none⟩ = some (.int .i64 r.num) := (cell_of_row _ _ _ _ _ _ hpz).trans rfl
  obtain ⟨g, hg⟩ : ∃ g, W.heap.size = g := ⟨_, rfl⟩
  have hwg : g = w.heap.size + 1 := by rw [← hg, hsz]
  obtain ⟨W1, hW1⟩ : ∃ W1, (W.alloc (.cells #[.int .i64 a0, .int .i64 a1, .int .i64 o.srv, .int .i64 o.red, .int .i64 o.size, .slice au nu cu, .slice av nv cv, .bool o.done, .bool o.gone, .bool o.heard, .bool o.shut, .int .i64 o.how] 63)).drew = W1 := ⟨_, rfl⟩
  have HW1 : Hid ((W.alloc (.cells #[.int .i64 a0, .int .i64 a1, .int .i64 o.srv, .int .i64 o.red, .int .i64 o.size, .slice au nu cu, .slice av nv cv, .bool o.done, .bool o.gone, .bool o.heard, .bool o.shut, .int .i64 o.how] 63)).drew = W1) := hW1
  have hb1 : Below w.heap.size w W1 := by rw [← hW1]; exact (hbx.alloc hbx.size _).drew
  have hq1 : W1.heap[g]? = some (.cells #[.int .i64 a0, .int .i64 a1, .int .i64 o.srv, .int .i64 o.red, .int .i64 o.size, .slice au nu cu, .slice av nv cv, .bool o.done, .bool o.gone, .bool o.heard, .bool o.shut, .int .i64 o.how] 63) := by rw [← hW1, ← hg]; exact heap_alloc_new' W _
  have hp1 : W1.heap[w.heap.size]? = some (rcO r (.slice s0 ns sc) (.slice da nd dc)) := by rw [← hW1]; exact (Below.heap_alloc _ _ _ (by omega)).trans hp
  have HG : Hid (W.heap.size = g) := hg
  obtain ⟨l0, l1, l2, l3, l4, l5, l6, l7, l8, l9, l10⟩ := rc_cells hp1
  have hgs : ¬ w.heap.size = g := by omega
  have hgs2 : ¬ g = w.heap.size := by omega
  have f0 : ∀ k, W1.frozen? ⟨g, k, none⟩ = false := fun k => by simp [World.frozen?, hq1]
  have z0 : W1.cell? ⟨g, 0, none⟩ = some (.int .i64 a0) := (cell_of_row _ _ _ _ _ _ hq1).trans rfl
  have z1 : W1.cell? ⟨g, 1, none⟩ = some (.int .i64 a1) := (cell_of_row _ _ _ _ _ _ hq1).trans rfl
  have z2 : W1.cell? ⟨g, 2, none⟩ = some (.int .i64 o.srv) := (cell_of_row _ _ _ _ _ _ hq1).trans rfl
  have z3 : W1.cell? ⟨g, 3, none⟩ = some (.int .i64 o.red) := (cell_of_row _ _ _ _ _ _ hq1).trans rfl
  have z4 : W1.cell? ⟨g, 4, none⟩ = some (.int .i64 o.size) := (cell_of_row _ _ _ _ _ _ hq1).trans rfl
  have z5 : W1.cell? ⟨g, 5, none⟩ = some (.slice au nu cu) := (cell_of_row _ _ _ _ _ _ hq1).trans rfl
  have z6 : W1.cell? ⟨g, 6, none⟩ = some (.slice av nv cv) := (cell_of_row _ _ _ _ _ _ hq1).trans rfl
  have z7 : W1.cell? ⟨g, 7, none⟩ = some (.bool o.done) := (cell_of_row _ _ _ _ _ _ hq1).trans rfl
  have z8 : W1.cell? ⟨g, 8, none⟩ = some (.bool o.gone) := (cell_of_row _ _ _ _ _ _ hq1).trans rfl
  have z9 : W1.cell? ⟨g, 9, none⟩ = some (.bool o.heard) := (cell_of_row _ _ _ _ _ _ hq1).trans rfl
  have z10 : W1.cell? ⟨g, 10, none⟩ = some (.bool o.shut) := (cell_of_row _ _ _ _ _ _ hq1).trans rfl
  have z11 : W1.cell? ⟨g, 11, none⟩ = some (.int .i64 o.how) := (cell_of_row _ _ _ _ _ _ hq1).trans rfl
  have hsg : w.heap.size ≤ g := by omega
  have hsg3 : ¬ w.heap.size = g := by omega
  have qq0 : (W1.setCell ⟨g, 0, none⟩ (.int .i64 r.org)).heap[g]? = some (.cells #[.int .i64 r.org, .int .i64 a1, .int .i64 o.srv, .int .i64 o.red, .int .i64 o.size, .slice au nu cu, .slice av nv cv, .bool o.done, .bool o.gone, .bool o.heard, .bool o.shut, .int .i64 o.how] 63) := (heap_setCell_same W1 g 0 _ _ (.int .i64 r.org) hq1).trans rfl
  have hbb0 : Below w.heap.size w (W1.setCell ⟨g, 0, none⟩ (.int .i64 r.org)) := Below.setCell (p := ⟨g, 0, none⟩) hb1 hsg _
  have hpp0 : (W1.setCell ⟨g, 0, none⟩ (.int .i64 r.org)).heap[w.heap.size]? = some (rcO r (.slice s0 ns sc) (.slice da nd dc)) := (heap_setCell_other W1 ⟨g, 0, none⟩ w.heap.size (.int .i64 r.org) hsg3).trans hp1
  have qq1 : ((W1.setCell ⟨g, 0, none⟩ (.int .i64 r.org)).setCell ⟨g, 1, none⟩ (.int .i64 r.num)).heap[g]? = some (.cells #[.int .i64 r.org, .int .i64 r.num, .int .i64 o.srv, .int .i64 o.red, .int .i64 o.size, .slice au nu cu, .slice av nv cv, .bool o.done, .bool o.gone, .bool o.heard, .bool o.shut, .int .i64 o.how] 63) := (heap_setCell_same (W1.setCell ⟨g, 0, none⟩ (.int .i64 r.org)) g 1 _ _ (.int .i64 r.num) qq0).trans rfl
  have hbb1 : Below w.heap.size w ((W1.setCell ⟨g, 0, none⟩ (.int .i64 r.org)).setCell ⟨g, 1, none⟩ (.int .i64 r.num)) := Below.setCell (p := ⟨g, 1, none⟩) hbb0 hsg _
  have hpp1 : ((W1.setCell ⟨g, 0, none⟩ (.int .i64 r.org)).setCell ⟨g, 1, none⟩ (.int .i64 r.num)).heap[w.heap.size]? = some (rcO r (.slice s0 ns sc) (.slice da nd dc)) := (heap_setCell_other (W1.setCell ⟨g, 0, none⟩ (.int .i64 r.org)) ⟨g, 1, none⟩ w.heap.size (.int .i64 r.num) hsg3).trans hpp0
  have qq2 : (((W1.setCell ⟨g, 0, none⟩ (.int .i64 r.org)).setCell ⟨g, 1, none⟩ (.int .i64 r.num)).setCell ⟨g, 2, none⟩ (.int .i64 r.srv)).heap[g]? = some (.cells #[.int .i64 r.org, .int .i64 r.num, .int .i64 r.srv, .int .i64 o.red, .int .i64 o.size, .slice au nu cu, .slice av nv cv, .bool o.done, .bool o.gone, .bool o.heard, .bool o.shut, .int .i64 o.how] 63) := (heap_setCell_same ((W1.setCell ⟨g, 0, none⟩ (.int .i64 r.org)).setCell ⟨g, 1, none⟩ (.int .i64 r.num)) g 2 _ _ (.int .i64 r.srv) qq1).trans rfl
  have hbb2 : Below w.heap.size w (((W1.setCell ⟨g, 0, none⟩ (.int .i64 r.org)).setCell ⟨g, 1, none⟩ (.int .i64 r.num)).setCell ⟨g, 2, none⟩ (.int .i64 r.srv)) := Below.setCell (p := ⟨g, 2, none⟩) hbb1 hsg _
  have hpp2 : (((W1.setCell ⟨g, 0, none⟩ (.int .i64 r.org)).setCell ⟨g, 1, none⟩ (.int .i64 r.num)).setCell ⟨g, 2, none⟩ (.int .i64 r.srv)).heap[w.heap.size]? = some (rcO r (.slice s0 ns sc) (.slice da nd dc)) := (heap_setCell_other ((W1.setCell ⟨g, 0, none⟩ (.int .i64 r.org)).setCell ⟨g, 1, none⟩ (.int .i64 r.num)) ⟨g, 2, none⟩ w.heap.size (.int .i64 r.srv) hsg3).trans hpp1
  have qq3 : ((((W1.setCell ⟨g, 0, none⟩ (.int .i64 r.org)).setCell ⟨g, 1, none⟩ (.int .i64 r.num)).setCell ⟨g, 2, none⟩ (.int .i64 r.srv)).setCell ⟨g, 3, none⟩ (.int .i64 r.red)).heap[g]? = some (.cells #[.int .i64 r.org, .int .i64 r.num, .int .i64 r.srv, .int .i64 r.red, .int .i64 o.size, .slice au nu cu, .slice av nv cv, .bool o.done, .bool o.gone, .bool o.heard, .bool o.shut, .int .i64 o.how] 63) := (heap_setCell_same (((W1.setCell ⟨g, 0, none⟩ (.int .i64 r.org)).setCell ⟨g, 1, none⟩ (.int .i64 r.num)).setCell ⟨g, 2, none⟩ (.int .i64 r.srv)) g 3 _ _ (.int .i64 r.red) qq2).trans rfl
  have hbb3 : Below w.heap.size w ((((W1.setCell ⟨g, 0, none⟩ (.int .i64 r.org)).setCell ⟨g, 1, none⟩ (.int .i64 r.num)).setCell ⟨g, 2, none⟩ (.int .i64 r.srv)).setCell ⟨g, 3, none⟩ (.int .i64 r.red)) := Below.setCell (p := ⟨g, 3, none⟩) hbb2 hsg _
  have hpp3 : ((((W1.setCell ⟨g, 0, none⟩ (.int .i64 r.org)).setCell ⟨g, 1, none⟩ (.int .i64 r.num)).setCell ⟨g, 2, none⟩ (.int .i64 r.srv)).setCell ⟨g, 3, none⟩ (.int .i64 r.red)).heap[w.heap.size]? = some (rcO r (.slice s0 ns sc) (.slice da nd dc)) := (heap_setCell_other (((W1.setCell ⟨g, 0, none⟩ (.int .i64 r.org)).setCell ⟨g, 1, none⟩ (.int .i64 r.num)).setCell ⟨g, 2, none⟩ (.int .i64 r.srv)) ⟨g, 3, none⟩ w.heap.size (.int .i64 r.red) hsg3).trans hpp2
  have qq4 : (((((W1.setCell ⟨g, 0, none⟩ (.int .i64 r.org)).setCell ⟨g, 1, none⟩ (.int .i64 r.num)).setCell ⟨g, 2, none⟩ (.int .i64 r.srv)).setCell ⟨g, 3, none⟩ (.int .i64 r.red)).setCell ⟨g, 4, none⟩ (.int .i64 r.size)).heap[g]? = some (.cells #[.int .i64 r.org, .int .i64 r.num, .int .i64 r.srv, .int .i64 r.red, .int .i64 r.size, .slice au nu cu, .slice av nv cv, .bool o.done, .bool o.gone, .bool o.heard, .bool o.shut, .int .i64 o.how] 63) := (heap_setCell_same ((((W1.setCell ⟨g, 0, none⟩ (.int .i64 r.org)).setCell ⟨g, 1, none⟩ (.int .i64 r.num)).setCell ⟨g, 2, none⟩ (.int .i64 r.srv)).setCell ⟨g, 3, none⟩ (.int .i64 r.red)) g 4 _ _ (.int .i64 r.size) qq3).trans rfl
  have hbb4 : Below w.heap.size w (((((W1.setCell ⟨g, 0, none⟩ (.int .i64 r.org)).setCell ⟨g, 1, none⟩ (.int .i64 r.num)).setCell ⟨g, 2, none⟩ (.int .i64 r.srv)).setCell ⟨g, 3, none⟩ (.int .i64 r.red)).setCell ⟨g, 4, none⟩ (.int .i64 r.size)) := Below.setCell (p := ⟨g, 4, none⟩) hbb3 hsg _
  have hpp4 : (((((W1.setCell ⟨g, 0, none⟩ (.int .i64 r.org)).setCell ⟨g, 1, none⟩ (.int .i64 r.num)).setCell ⟨g, 2, none⟩ (.int .i64 r.srv)).setCell ⟨g, 3, none⟩ (.int .i64 r.red)).setCell ⟨g, 4, none⟩ (.int .i64 r.size)).heap[w.heap.size]? = some (rcO r (.slice s0 ns sc) (.slice da nd dc)) := (heap_setCell_other ((((W1.setCell ⟨g, 0, none⟩ (.int .i64 r.org)).setCell ⟨g, 1, none⟩ (.int .i64 r.num)).setCell ⟨g, 2, none⟩ (.int .i64 r.srv)).setCell ⟨g, 3, none⟩ (.int .i64 r.red)) ⟨g, 4, none⟩ w.heap.size (.int .i64 r.size) hsg3).trans hpp3
  have hb2 : Below w.heap.size w ((((((W1.setCell ⟨g, 0, none⟩ (.int .i64 r.org)).setCell ⟨g, 1, none⟩ (.int .i64 r.num)).setCell ⟨g, 2, none⟩ (.int .i64 r.srv)).setCell ⟨g, 3, none⟩ (.int .i64 r.red)).setCell ⟨g, 4, none⟩ (.int .i64 r.size)).drew) := hbb4.drew
  have hq2 : ((((((W1.setCell ⟨g, 0, none⟩ (.int .i64 r.org)).setCell ⟨g, 1, none⟩ (.int .i64 r.num)).setCell ⟨g, 2, none⟩ (.int .i64 r.srv)).setCell ⟨g, 3, none⟩ (.int .i64 r.red)).setCell ⟨g, 4, none⟩ (.int .i64 r.size)).drew).heap[g]? = some (.cells #[.int .i64 r.org, .int .i64 r.num, .int .i64 r.srv, .int .i64 r.red, .int .i64 r.size, .slice au nu cu, .slice av nv cv, .bool o.done, .bool o.gone, .bool o.heard, .bool o.shut, .int .i64 o.how] 63) := (drew_heap _ _).trans qq4
  have hp2 : ((((((W1.setCell ⟨g, 0, none⟩ (.int .i64 r.org)).setCell ⟨g, 1, none⟩ (.int .i64 r.num)).setCell ⟨g, 2, none⟩ (.int .i64 r.srv)).setCell ⟨g, 3, none⟩ (.int .i64 r.red)).setCell ⟨g, 4, none⟩ (.int .i64 r.size)).drew).heap[w.heap.size]? = some (rcO r (.slice s0 ns sc) (.slice da nd dc)) := (drew_heap _ _).trans hpp4
  obtain ⟨W2, hW2⟩ : ∃ W2, (((((W1.setCell ⟨g, 0, none⟩ (.int .i64 r.org)).setCell ⟨g, 1, none⟩ (.int .i64 r.num)).setCell ⟨g, 2, none⟩ (.int .i64 r.srv)).setCell ⟨g, 3, none⟩ (.int .i64 r.red)).setCell ⟨g, 4, none⟩ (.int .i64 r.size)).drew = W2 := ⟨_, rfl⟩
  have HW2 : Hid ((((((W1.setCell ⟨g, 0, none⟩ (.int .i64 r.org)).setCell ⟨g, 1, none⟩ (.int .i64 r.num)).setCell ⟨g, 2, none⟩ (.int .i64 r.srv)).setCell ⟨g, 3, none⟩ (.int .i64 r.red)).setCell ⟨g, 4, none⟩ (.int .i64 r.size)).drew = W2) := hW2
  rw [hW2] at hb2 hq2 hp2
  clear qq0 qq1 qq2 qq3 qq4 hW2 hbb0 hbb1 hbb2 hbb3 hbb4 hpp0 hpp1 hpp2 hpp3 hpp4
  have hSl : ∀ x, (Value.slice av nv cv).ownBlock = some x → x < w.heap.size := fun x hx => (hrd.lt x hx).2
  -- laid
  have HLd : Hid (Calls Tryz.prog 140 #[.agg #[.int .i64 r.org, .int .i64 r.num, .int .i64 r.srv, .int .i64 r.red, .int .i64 r.size, .slice au nu cu, .slice av nv cv, .bool o.done, .bool o.gone, .bool o.heard, .bool o.shut, .int .i64 o.how], .agg (rcC r (.slice s0 ns sc) (.slice da nd dc))] W2 fun e w' => ∃ a n c, e = .returned (.slice a n c) ∧ w'.heap[g]? = some (.cells #[.int .i64 r.org, .int .i64 r.num, .int .i64 r.srv, .int .i64 r.red, .int .i64 r.size, .slice au nu cu, .slice av nv cv, .bool o.done, .bool o.gone, .bool o.heard, .bool o.shut, .int .i64 o.how] 63) ∧ w'.heap[w.heap.size]? = some (rcO r (.slice s0 ns sc) (.slice da nd dc)) ∧ Kl (fun x => (Value.slice av nv cv).ownBlock = some x) w w' ∧ g < w'.heap.size ∧ BO w' (.slice a n c) (laid o r) ∧ ∀ x, (Value.slice a n c).ownBlock = some x → (Value.slice av nv cv).ownBlock = some x ∨ g < x) := by
    obtain ⟨i', hi'⟩ : ∃ i' : Ic, i' = ({ o with org := r.org, num := r.num, srv := r.srv, red := r.red, size := r.size } : Ic) := ⟨_, rfl⟩
    have e1 : i'.data = o.data := by rw [hi']
    have e2 : i'.hv = o.hv := by rw [hi']
    have e3 : iV i' (.slice au nu cu) (.slice av nv cv) = .agg #[.int .i64 r.org, .int .i64 r.num, .int .i64 r.srv, .int .i64 r.red, .int .i64 r.size, .slice au nu cu, .slice av nv cv, .bool o.done, .bool o.gone, .bool o.heard, .bool o.shut, .int .i64 o.how] := by rw [hi']
    have e4 : laid i' r = laid o r := by unfold laid; rw [e1, e2]
    have k1 : BO W2 (.slice av nv cv) i'.data := by rw [e1]; exact own_at hrd (fun x hx => hb2.block x (hrd.lt x hx).2)
    have k2 : SO W2 (.slice au nu cu) i'.hv := by rw [e2]; exact own_at hrh (fun x hx => hb2.block x (hrh.lt x hx).2)
    have k3 : IsSet i'.hv := by rw [e2]; exact hset
    have k4 : i'.data.length ≤ 65536 := by rw [e1]; exact hlen
    have k5 := callsIn_wide.1 (laid_any au av da nu nv cu cv nd dc (.slice s0 ns sc) W2 k1 k2 k3 k4 hm hnd hdc hdm (hz.below hb2) (fun x hx e => hsep x hx (by obtain ⟨y, hy, hy1, hy2⟩ := hS x e; unfold Tz.F; rw [(h.pI.r y hy).1.2 x hy2]; exact fun q => by cases q)) 9 (Nat.le_refl _))
    rw [e3] at k5
    refine k5.mono fun e w' q => ?_
    clear k5 e3
    obtain ⟨v, rfl, q2, q3, q4⟩ := q
    rw [e4] at q2
    obtain ⟨a, n, c, rfl⟩ := own_sl8 q2
    have hg2 : g < W2.heap.size := (Array.getElem?_eq_some_iff.1 hq2).1
    refine ⟨a, n, c, rfl, (q3.block g hg2 (fun e => by have := hSl g e; omega)).trans hq2, (q3.block _ (by omega) (fun e => by have := hSl _ e; omega)).trans hp2, ⟨q3.os.trans hb2.os, q3.tape.trans hb2.tape, q3.output.trans hb2.output, Nat.le_trans hb2.size q3.size, fun x hx e => (q3.block x (by have := hb2.size; omega) e).trans (hb2.block x hx)⟩, by have := q3.size; omega, q2, fun x hx => (q4 x hx).imp id (fun e => by omega)⟩
  -- grown
  have HGr : Hid (∀ V : World, Kl (fun x => (Value.slice av nv cv).ownBlock = some x) w V → Calls Tryz.prog 71 #[tP z, .agg (rcC r (.slice s0 ns sc) (.slice da nd dc))] V fun e w' => ∃ a n c, e = .returned (.tuple #[.slice a n c, .int .i64 0]) ∧ SOwn w' V.heap.size (.slice a n c) (un o.hv (plc r)) ∧ Below V.heap.size V w') := fun V hV => by
    have hrh' : SO V (.slice au nu cu) o.hv := own_at hrh (fun x hx => hV.block x (hrh.lt x hx).2 (fun e => by
      obtain ⟨_, ⟨h9, _⟩ | ⟨g', cap, cur, h9, _, hh, _⟩⟩ := hrh
      · rw [h9] at hx; cases hx
      · rw [h9] at hx; cases hx
        obtain ⟨_, ⟨h8, _⟩ | ⟨g', cap, cur, h8, _, hh2, _⟩⟩ := hrd
        · rw [h8] at e; cases e
        · rw [h8] at e; cases e; rw [hh] at hh2; cases hh2))
    have hpl : plc r = (r.off, r.off + (nd : Int)) := by unfold plc; rw [hnd]
    have hxl := h.ltp h.px
    have hL : ∀ V' : World, Below V.heap.size V V' → V'.cell? ⟨z.x, 4, none⟩ = some (.map (some z.m2)) ∧ (Instr.lookup 69 (.map (some z.m2)) (.agg #[.int .i64 r.org, .int .i64 r.num]) false).run Tryz.prog V' = .ok (.agg #[.int .i64 a0, .int .i64 a1, .int .i64 o.srv, .int .i64 o.red, .int .i64 o.size, .slice au nu cu, .slice av nv cv, .bool o.done, .bool o.gone, .bool o.heard, .bool o.shut, .int .i64 o.how]) V' := fun V' hV' => by
      have hk : Kl (fun x => (Value.slice av nv cv).ownBlock = some x) w V' := hV.bel hV' hV.size
      refine ⟨(cell_of_row _ _ _ _ _ _ ((hk.block z.x hxl (fun e => ?_)).trans h.box)).trans rfl, hlook V' hk⟩
      obtain ⟨y, hy, hy1, hy2⟩ := hS _ e
      have := (h.pI.r y hy).1.2 _ hy2
      rw [h.px] at this
      cases this
    have hls : Ls V (.slice au nu cu) o.hv := SOwn.ls hrh' (by have := hset.1; omega)
    have ho1 : 0 ≤ r.off ∧ r.off ≤ 65536 := ⟨hm.2.2.1, by have := hm.2.2.2; have := hm.2.1; omega⟩
    have ho2 : nd ≤ 65536 := by have := hm.1; omega
    have hgg := grownL_any (z := z) r s0 ns sc da nd dc hnd ho1 ho2 au nu cu (.int .i64 a0) (.int .i64 a1) (.int .i64 o.srv) (.int .i64 o.red) (.int .i64 o.size) (.slice av nv cv) (.bool o.done) (.bool o.gone) (.bool o.heard) (.bool o.shut) (.int .i64 o.how) o.hv hls hL
    refine hgg.mono fun e w' q => ?_
    obtain ⟨v, u, er, rfl, q2, ⟨n, q3⟩, q4⟩ := q
    have h2 := hm.2.1
    have h4 := hm.2.2.2
    rcases ar_un q3 hset (by rw [hpl]; exact hm.2.2.1) (by rw [hpl]; show r.off < r.off + (nd : Int); omega) (by rw [hpl]; show r.off + (nd : Int) ≤ _; omega) with ⟨e1, e2, rfl⟩ | ⟨e1, e2⟩
    · obtain ⟨a, n, c, rfl⟩ := own_sl8 q2
      subst e1
      exact ⟨a, n, c, rfl, q2, q4⟩
    · exact absurd hbig e2
  have HPut : Hid (∀ (V : World) (a a' : Option Addr) (n c n' c' : Nat), Kl (fun x => (Value.slice av nv cv).ownBlock = some x) w V → BO V (.slice a n c) (laid o r) → SO V (.slice a' n' c') (un o.hv (plc r)) → (∀ x, (Value.slice a n c).ownBlock = some x → (Value.slice av nv cv).ownBlock = some x ∨ w.heap.size ≤ x) → (∀ x, (Value.slice a' n' c').ownBlock = some x → w.heap.size ≤ x) → ∃ w2 z', (Instr.mapUpdate 69 (.map (some z.m2)) (.agg #[.int .i64 r.org, .int .i64 r.num]) (.agg #[.int .i64 r.org, .int .i64 r.num, .int .i64 r.srv, .int .i64 r.red, .int .i64 r.size, .slice a' n' c', .slice a n c, .bool o.done, .bool o.gone, .bool o.heard, .bool o.shut, .int .i64 o.how])).run Tryz.prog V = .ok () w2 ∧ Tw w2 z' (T.putI ({ o with org := r.org, num := r.num, srv := r.srv, red := r.red, size := r.size, data := laid o r, hv := un o.hv (plc r) } : Ic)) ∧ Up z z' w w2) := fun V a a' n c n' c' hV b1 b2 b3 b4 => by
    obtain ⟨i', hi'⟩ : ∃ i' : Ic, i' = ({ o with org := r.org, num := r.num, srv := r.srv, red := r.red, size := r.size, data := laid o r, hv := un o.hv (plc r) } : Ic) := ⟨_, rfl⟩
    have e1 : i'.data = laid o r := by rw [hi']
    have e2 : i'.hv = un o.hv (plc r) := by rw [hi']
    have e3 : iV i' (.slice a' n' c') (.slice a n c) = .agg #[.int .i64 r.org, .int .i64 r.num, .int .i64 r.srv, .int .i64 r.red, .int .i64 r.size, .slice a' n' c', .slice a n c, .bool o.done, .bool o.gone, .bool o.heard, .bool o.shut, .int .i64 o.how] := by rw [hi']
    have e4 : i'.s = sR r := by rw [hi']; rfl
    have e5 : sA i'.s = .agg #[.int .i64 r.org, .int .i64 r.num] := by rw [e4]; rfl
    rw [← e1] at b1
    rw [← e2] at b2
    have k := h.putI (o := i') (hv := .slice a' n' c') (dv := .slice a n c) (hV.mono (fun x _ e => by rw [e4]; exact hS x e)) (by rw [e4]; exact hr) b1 b2 (fun x hx => (b3 x hx).imp (fun e => by rw [e4]; exact hS x e) id) (fun x hx => .inr (b4 x hx))
    rw [e3, e5] at k
    rw [← hi']
    exact k
  have HQ : Hid (∀ V : World, V.heap[g]? = some (.cells #[.int .i64 r.org, .int .i64 r.num, .int .i64 r.srv, .int .i64 r.red, .int .i64 r.size, .slice au nu cu, .slice av nv cv, .bool o.done, .bool o.gone, .bool o.heard, .bool o.shut, .int .i64 o.how] 63) → V.cell? ⟨g, 0, none⟩ = some (.int .i64 r.org) ∧ V.cell? ⟨g, 1, none⟩ = some (.int .i64 r.num) ∧ V.cell? ⟨g, 2, none⟩ = some (.int .i64 r.srv) ∧ V.cell? ⟨g, 3, none⟩ = some (.int .i64 r.red) ∧ V.cell? ⟨g, 4, none⟩ = some (.int .i64 r.size) ∧ V.cell? ⟨g, 5, none⟩ = some (.slice au nu cu) ∧ V.cell? ⟨g, 6, none⟩ = some (.slice av nv cv) ∧ V.cell? ⟨g, 7, none⟩ = some (.bool o.done) ∧ V.cell? ⟨g, 8, none⟩ = some (.bool o.gone) ∧ V.cell? ⟨g, 9, none⟩ = some (.bool o.heard) ∧ V.cell? ⟨g, 10, none⟩ = some (.bool o.shut) ∧ V.cell? ⟨g, 11, none⟩ = some (.int .i64 o.how)) := fun V q => by
    refine ⟨?_, ?_, ?_, ?_, ?_, ?_, ?_, ?_, ?_, ?_, ?_, ?_⟩ <;> exact (cell_of_row _ _ _ _ _ _ q).trans rfl
  have HX : Hid (w.heap.size < g ∧ (∀ V, Kl (fun x => (Value.slice av nv cv).ownBlock = some x) w V → V.heap[z.x]? = some (.cells #[.int .i64 T.id, .int .i64 T.boots, .int .i64 T.next, .map (some z.m1), .map (some z.m2), .map (some z.m3)] 72 (0, 0))) ∧ (∀ x, (Value.slice av nv cv).ownBlock = some x → x < w.heap.size)) := ⟨by omega, fun V hV => (hV.block z.x (h.ltp h.px) (fun e => by
      obtain ⟨y, hy, hy1, hy2⟩ := hS _ e
      have := (h.pI.r y hy).1.2 _ hy2
      rw [h.px] at this
      cases this)).trans h.box, hSl⟩
  obtain ⟨m0, m1, m2, m3, m4, m5, m6, m7, m8, m9, m10, m11⟩ := HQ.out W2 hq2
  obtain ⟨n0, n1, n2, n3, n4, n5, n6, n7, n8, n9, n10⟩ := rc_cells hp2
  clear h hr hb1 hq1 hp1 hlook hS hH hrd hrh hset hlen hm hnd hdc hdm hz hsep hbig hwg hW hW1 hg hsz hbx hp hT hbd hbz hbz0 hpz hb2 hq2 hp2 hSl hsg
  go_enter Tryz.func101, Tryz.ntmps101
  go_wp2
  rw [HW.out]
  go_region
  all_goals (
    rw [HW1.out, HG.out]
    go_wp2
    go_region
    rw [HW2.out]
    go_upto_region 4 with (go_at_call 140; refine HLd.out.mono ?_; rintro e w3 ⟨a, n, c, rfl, i1, i2, i3, i4, i5, i6⟩; have j6 := (HQ.out w3 i1).2.2.2.2.2.2.1; have jf : w3.frozen? ⟨g, 6, none⟩ = false := (by simp [World.frozen?, i1]); have JJ : Hid (_ ∧ _ ∧ _ ∧ _ ∧ _ ∧ _) := And.intro i1 (And.intro i2 (And.intro i3 (And.intro i4 (And.intro i5 i6)))); clear i1 i2 i3 i4 i5 i6)
    obtain ⟨i1, i2, i3, i4, i5, i6⟩ := JJ.out
    obtain ⟨o1, o2, o3⟩ := HX.out
    have hng : ∀ x, (Value.slice a n c).ownBlock = some x → x ≠ g := fun x hx e => by rcases i6 x hx with e2 | e2
                                                                                      · have := o3 x e2; omega
                                                                                      · omega
    have HV3 : Hid ((w3.setCell ⟨g, 6, none⟩ (.slice a n c)).heap[g]? = some (.cells #[.int .i64 r.org, .int .i64 r.num, .int .i64 r.srv, .int .i64 r.red, .int .i64 r.size, .slice au nu cu, .slice a n c, .bool o.done, .bool o.gone, .bool o.heard, .bool o.shut, .int .i64 o.how] 63) ∧ (w3.setCell ⟨g, 6, none⟩ (.slice a n c)).heap[w.heap.size]? = some (rcO r (.slice s0 ns sc) (.slice da nd dc)) ∧ Kl (fun x => (Value.slice av nv cv).ownBlock = some x) w (w3.setCell ⟨g, 6, none⟩ (.slice a n c)) ∧ BO (w3.setCell ⟨g, 6, none⟩ (.slice a n c)) (.slice a n c) (laid o r) ∧ g < (w3.setCell ⟨g, 6, none⟩ (.slice a n c)).heap.size) :=
      ⟨(heap_setCell_same _ _ _ _ _ _ i1).trans rfl, (heap_setCell_other _ _ _ _ (by simp only; omega)).trans i2, i3.then (Kl.set w3 g 6 _) (fun x hx e => by omega), own_at i5 (fun x hx => heap_setCell_other _ _ _ _ (by simp only; exact hng x hx)), by simp [World.setCell]; exact i4⟩
    have HI6 : Hid (∀ x, (Value.slice a n c).ownBlock = some x → ((Value.slice av nv cv).ownBlock = some x ∨ w.heap.size ≤ x) ∧ x ≠ g) := fun x hx => ⟨(i6 x hx).imp id (fun e => by omega), hng x hx⟩
    obtain ⟨V3, hV3⟩ : ∃ V3, w3.setCell ⟨g, 6, none⟩ (.slice a n c) = V3 := ⟨_, rfl⟩
    rw [hV3] at HV3 ⊢
    have HG3 := HGr.out V3 HV3.out.2.2.1
    have HG3 : Hid (Calls Tryz.prog 71 #[tP z, .agg (rcC r (.slice s0 ns sc) (.slice da nd dc))] V3 fun e w' => ∃ a n c, e = .returned (.tuple #[.slice a n c, .int .i64 0]) ∧ SOwn w' V3.heap.size (.slice a n c) (un o.hv (plc r)) ∧ Below V3.heap.size V3 w') := HG3
    obtain ⟨p0, p1, p2, p3, p4, p5, p6, p7, p8, p9, p10⟩ := rc_cells HV3.out.2.1
    clear i1 i2 i3 i4 i5 i6 o1 o2 o3 hng hV3 j6 jf JJ HLd m0 m1 m2 m3 m4 m5 m6 m7 m8 m9 m10 m11 n0 n1 n2 n3 n4 n5 n6 n7 n8 n9 n10
    go_upto_region 5 with (go_at_call 71; refine HG3.out.mono ?_; rintro e w5 ⟨a', n', c', rfl, i1, i2⟩; have i3 := (i2.block g HV3.out.2.2.2.2).trans HV3.out.1; have j5 : w5.cell? ⟨g, 5, none⟩ = some (.slice au nu cu) := (cell_of_row _ _ _ _ _ _ i3).trans rfl; have jf : w5.frozen? ⟨g, 5, none⟩ = false := (by simp [World.frozen?, i3]); have JJ : Hid (_ ∧ _ ∧ _) := And.intro i1 (And.intro i2 i3); clear i1 i2 i3)
    obtain ⟨i1, i2, i3⟩ := JJ.out
    obtain ⟨q1, q2, q3, q4, q5⟩ := HV3.out
    obtain ⟨o1, o2, o3⟩ := HX.out
    have hsz3 := i2.size
    have e1 : (w5.setCell ⟨g, 5, none⟩ (.slice a' n' c')).heap[g]? = some (.cells #[.int .i64 r.org, .int .i64 r.num, .int .i64 r.srv, .int .i64 r.red, .int .i64 r.size, .slice a' n' c', .slice a n c, .bool o.done, .bool o.gone, .bool o.heard, .bool o.shut, .int .i64 o.how] 63) := (heap_setCell_same _ _ _ _ _ _ i3).trans rfl
    have e2 : (w5.setCell ⟨g, 5, none⟩ (.slice a' n' c')).heap[w.heap.size]? = some (rcO r (.slice s0 ns sc) (.slice da nd dc)) := (heap_setCell_other _ _ _ _ (by simp only; omega)).trans ((i2.block _ (by omega)).trans q2)
    have e3 : Kl (fun x => (Value.slice av nv cv).ownBlock = some x) w (w5.setCell ⟨g, 5, none⟩ (.slice a' n' c')) := (q3.bel i2 q3.size).then (Kl.set w5 g 5 _) (fun x hx e => by omega)
    have e4 : BO (w5.setCell ⟨g, 5, none⟩ (.slice a' n' c')) (.slice a n c) (laid o r) := own_at (own_at q4 (fun x hx => i2.block x (q4.lt x hx).2)) (fun x hx => heap_setCell_other _ _ _ _ (by simp only; exact (HI6.out x hx).2))
    have e5 : SO (w5.setCell ⟨g, 5, none⟩ (.slice a' n' c')) (.slice a' n' c') (un o.hv (plc r)) := own_at (i1.base (Nat.zero_le _)) (fun x hx => heap_setCell_other _ _ _ _ (by simp only; have := (i1.lt x hx).1; omega))
    have e6 : ∀ x, (Value.slice a' n' c').ownBlock = some x → w.heap.size ≤ x := fun x hx => by have := (i1.lt x hx).1; have := q3.size; omega
    obtain ⟨V5, hV5⟩ : ∃ V5, w5.setCell ⟨g, 5, none⟩ (.slice a' n' c') = V5 := ⟨_, rfl⟩
    rw [hV5] at e1 e2 e3 e4 e5 ⊢
    have hbd5 : Below V5.heap.size V5 V5.drew := (Below.refl _ _).drew
    obtain ⟨w6, z', hrun, hT6, hU6⟩ := HPut.out V5.drew a a' n c n' c' (e3.bel hbd5 e3.size) (own_at e4 (fun x _ => rfl)) (own_at e5 (fun x _ => rfl)) (fun x hx => (HI6.out x hx).1) e6
    have HTU : Hid (Tw w6 z' (T.putI ({ o with org := r.org, num := r.num, srv := r.srv, red := r.red, size := r.size, data := laid o r, hv := un o.hv (plc r) } : Ic)) ∧ Up z z' w w6) := ⟨hT6, hU6⟩
    have hx5 : V5.cell? ⟨z.x, 4, none⟩ = some (.map (some z.m2)) := (cell_of_row _ _ _ _ _ _ (o2 V5 e3)).trans rfl
    obtain ⟨r0, r1, r2, r3, r4, r5, r6, r7, r8, r9, r10⟩ := rc_cells e2
    have s0 : V5.cell? ⟨g, 0, none⟩ = some (.int .i64 r.org) := (cell_of_row _ _ _ _ _ _ e1).trans rfl
    have s1 : V5.cell? ⟨g, 1, none⟩ = some (.int .i64 r.num) := (cell_of_row _ _ _ _ _ _ e1).trans rfl
    have s2 : V5.cell? ⟨g, 2, none⟩ = some (.int .i64 r.srv) := (cell_of_row _ _ _ _ _ _ e1).trans rfl
    have s3 : V5.cell? ⟨g, 3, none⟩ = some (.int .i64 r.red) := (cell_of_row _ _ _ _ _ _ e1).trans rfl
    have s4 : V5.cell? ⟨g, 4, none⟩ = some (.int .i64 r.size) := (cell_of_row _ _ _ _ _ _ e1).trans rfl
    have s5 : V5.cell? ⟨g, 5, none⟩ = some (.slice a' n' c') := (cell_of_row _ _ _ _ _ _ e1).trans rfl
    have s6 : V5.cell? ⟨g, 6, none⟩ = some (.slice a n c) := (cell_of_row _ _ _ _ _ _ e1).trans rfl
    have s7 : V5.cell? ⟨g, 7, none⟩ = some (.bool o.done) := (cell_of_row _ _ _ _ _ _ e1).trans rfl
    have s8 : V5.cell? ⟨g, 8, none⟩ = some (.bool o.gone) := (cell_of_row _ _ _ _ _ _ e1).trans rfl
    have s9 : V5.cell? ⟨g, 9, none⟩ = some (.bool o.heard) := (cell_of_row _ _ _ _ _ _ e1).trans rfl
    have s10 : V5.cell? ⟨g, 10, none⟩ = some (.bool o.shut) := (cell_of_row _ _ _ _ _ _ e1).trans rfl
    have s11 : V5.cell? ⟨g, 11, none⟩ = some (.int .i64 o.how) := (cell_of_row _ _ _ _ _ _ e1).trans rfl
    clear HV3 i1 i2 i3 q1 q2 q3 q4 q5 o1 o2 o3 hsz3 e1 e2 e3 e4 e5 e6 hV5 hbd5 hT6 hU6 JJ j5 jf HG3 HI6 HGr HPut HX HQ HW2 p0 p1 p2 p3 p4 p5 p6 p7 p8 p9 p10
    go_region
    all_goals go_wp2
    all_goals go_end0
    all_goals exact ⟨rfl, z', HTU.out⟩)
end Go.Proofs.YtillgoegiplmkaaGreatDoor.B
