import Derived.Test.YtdfdaambfihjaaaDoorLnW2
import Derived.Test.YtdfdaambfihjaaaDoorFields
namespace Go.Proofs.YtdfdaambfihjaaaDoor.L
open Go.RowKit
set_option linter.unusedVariables false
set_option linter.unusedSimpArgs false

theorem s14_cells {W : World} {g : Nat} {v0 v1 v2 v3 v4 v5 v6 v7 v8 v9 v10 v11 v12 v13 : Value} {t : TypeId} (h : W.heap[g]? = some (.cells #[v0, v1, v2, v3, v4, v5, v6, v7, v8, v9, v10, v11, v12, v13] t (0, 0))) :
    W.cell? ⟨g, 0, none⟩ = some v0 ∧ W.cell? ⟨g, 1, none⟩ = some v1 ∧ W.cell? ⟨g, 2, none⟩ = some v2 ∧ W.cell? ⟨g, 3, none⟩ = some v3 ∧ W.cell? ⟨g, 4, none⟩ = some v4 ∧ W.cell? ⟨g, 5, none⟩ = some v5 ∧ W.cell? ⟨g, 6, none⟩ = some v6 ∧ W.cell? ⟨g, 7, none⟩ = some v7 ∧ W.cell? ⟨g, 8, none⟩ = some v8 ∧ W.cell? ⟨g, 9, none⟩ = some v9 ∧ W.cell? ⟨g, 10, none⟩ = some v10 ∧ W.cell? ⟨g, 11, none⟩ = some v11 ∧ W.cell? ⟨g, 12, none⟩ = some v12 ∧ W.cell? ⟨g, 13, none⟩ = some v13 :=
  have k : ∀ j, W.cell? ⟨g, j, none⟩ = #[v0, v1, v2, v3, v4, v5, v6, v7, v8, v9, v10, v11, v12, v13][j]? := fun j => cell_of_row _ _ _ _ _ _ h
  ⟨k 0, k 1, k 2, k 3, k 4, k 5, k 6, k 7, k 8, k 9, k 10, k 11, k 12, k 13⟩

set_option maxRecDepth 100000 in
set_option maxHeartbeats 4000000 in
/-- segment.Right of any segment. -/
theorem rightS_any (s : Sg) (hv tv dv cv : Value) (hx tx : List Xr) (w : World) (hs : SIn w s hv tv dv cv hx tx) (hT : Tab w) :
    Calls Tryd.prog 38 #[.agg (svC s hv tv dv cv)] w fun e w' => e = .returned (.int .i64 (prt s hx tx).1) ∧ Below w.heap.size w w' := by
  have h00 : 0 < w.heap.size := World.block_lt_of_cell? w ⟨0, 0, none⟩ (hT 0 (by omega))
  obtain ⟨W, hW⟩ : ∃ W, w.alloc (.cells (svC s hv tv dv cv) 37) = W := ⟨_, rfl⟩
  have HWe : Hid (w.alloc (.cells (svC s hv tv dv cv) 37) = W) := hW
  have hbW : Below w.heap.size w W := by rw [← hW]; exact (Below.refl _ _).alloc (Nat.le_refl _) _
  have HBW : Hid (Below w.heap.size w W) := hbW
  have hr : W.heap[w.heap.size]? = some (.cells (svC s hv tv dv cv) 37 (0, 0)) := by rw [← hW]; exact heap_alloc_new' _ _
  obtain ⟨y0, y1, y2, y3, y4, y5, y6, y7, y8, y9, y10, y11, y12, y13⟩ := s14_cells hr
  have hP := print_any s hv tv dv cv hx tx W (hs.below hbW) (hT.below hbW h00)
  obtain ⟨z, hz⟩ : ∃ z, (prt s hx tx).1 = z := ⟨_, rfl⟩
  have HZ : Hid ((prt s hx tx).1 = z) := hz
  rw [hz]
  clear hW hbW hr hs hT hz
  go_enter Tryd.func38, Tryd.ntmps38
  go_wp2_with fail
  rw [HWe.out]
  refine hP.mono ?_
  rintro e w1 ⟨a, c, rfl, _, hb⟩
  rw [HZ.out]
  have HF : Hid (Below w.heap.size w w1) := HBW.out.trans (hb.mono HBW.out.size)
  clear hb hP y0 y1 y2 y3 y4 y5 y6 y7 y8 y9 y10 y11 y12 y13
  go_wp2
  go_ret
  exact ⟨rfl, HF.out⟩

end Go.Proofs.YtdfdaambfihjaaaDoor.L
