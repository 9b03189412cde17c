import Derived.Test.YtnfbfdngdkkffabDoorRead
import Derived.Laws.CopyOwn
namespace Go.Proofs.YtnfbfdngdkkffabDoor
open Go.RowKit

/-- Block g is just these numbers. -/
def Blk (k : IntKind) (w : World) (g : Nat) (t : TypeId) (xs : List Int) : Prop := w.heap[g]? = some (.cells (xs.map (Value.int k)).toArray t (0, 0))

theorem Blk.lt {k : IntKind} {w : World} {g : Nat} {t : TypeId} {xs : List Int} (h : Blk k w g t xs) : g < w.heap.size := by
  rcases Nat.lt_or_ge g w.heap.size with hg | hg
  · exact hg
  · unfold Blk at h; rw [Array.getElem?_eq_none hg] at h; cases h

theorem Blk.cell {k : IntKind} {w : World} {g : Nat} {t : TypeId} {xs : List Int} (h : Blk k w g t xs) (i : Nat) (hi : i < xs.length) : w.cell? ⟨g, i, none⟩ = some (.int k (xs.getD i 0)) := by
  unfold Blk at h
  simp [World.cell?, h, List.getD_eq_getElem?_getD, List.getElem?_eq_getElem hi]

theorem Blk.frozen {k : IntKind} {w : World} {g : Nat} {t : TypeId} {xs : List Int} (h : Blk k w g t xs) (i : Nat) : w.frozen? ⟨g, i, none⟩ = false := by
  unfold Blk at h
  simp [World.frozen?, h]

theorem Blk.set {k : IntKind} {w : World} {g : Nat} {t : TypeId} {xs : List Int} (h : Blk k w g t xs) (i : Nat) (v : Int) : Blk k (w.setCell ⟨g, i, none⟩ (.int k v)) g t (xs.set i v) := by
  unfold Blk at h ⊢
  have hg : g < w.heap.size := Blk.lt h
  simp only [World.setCell, Array.getElem?_modify, h, if_true, Option.map_some]
  simp [List.map_set]

theorem Blk.of_eq {k : IntKind} {w w' : World} {g : Nat} {t : TypeId} {xs : List Int} (h : Blk k w g t xs) (e : w'.heap[g]? = w.heap[g]?) : Blk k w' g t xs := e.trans h

theorem Blk.below {k : IntKind} {w w' : World} {g B : Nat} {t : TypeId} {xs : List Int} (h : Blk k w g t xs) (hb : Below B w w') (hg : g < B) : Blk k w' g t xs := (hb.block g hg).trans h

theorem Blk.lies {k : IntKind} {w : World} {g : Nat} {t : TypeId} {xs : List Int} (h : Blk k w g t xs) (n : Nat) : Lies k w (some ⟨g, 0, none⟩) (xs.take n) := by
  refine .inr ⟨g, 0, rfl, fun i hi => ?_⟩
  have hi' : i < n ∧ i < xs.length := by simp at hi; omega
  rw [Nat.zero_add, h.cell i hi'.2]
  simp [List.getD_eq_getElem?_getD, hi'.1]

theorem grown_trans {a b c : World} {row : Option Nat} (h : a.grownBy b row) (h' : b.grownBy c row) : a.grownBy c row :=
  ⟨h'.os.trans h.os, h'.tape.trans h.tape, h'.output.trans h.output, Nat.le_trans h.size h'.size, fun k hk hne => (h'.block k (Nat.lt_of_lt_of_le hk h.size) hne).trans (h.block k hk hne)⟩

theorem grown_set (w : World) (g i : Nat) (u : Value) : w.grownBy (w.setCell ⟨g, i, none⟩ u) (some g) :=
  ⟨rfl, rfl, rfl, by simp [World.setCell], fun k _ hne => Below.heap_setCell _ _ _ _ (fun e => hne (by rw [e]))⟩

theorem Lies.block {k : IntKind} {w : World} {b off : Nat} {zs : List Int} (h : ∀ i, i < zs.length → w.cell? ⟨b, off + i, none⟩ = some (.int k (zs.getD i 0))) (hz : zs ≠ []) : b < w.heap.size := by
  have hp : 0 < zs.length := List.length_pos_iff.mpr hz
  exact World.block_lt_of_cell? w ⟨b, off + 0, none⟩ (h 0 hp)

theorem Lies.below {k : IntKind} {w w' : World} {a : Option Addr} {zs : List Int} (h : Lies k w a zs) (hb : Below w.heap.size w w') : Lies k w' a zs := by
  rcases h with rfl | ⟨b, off, rfl, h⟩
  · exact .inl rfl
  · by_cases hz : zs = []
    · exact .inl hz
    · have hl := Lies.block h hz
      exact .inr ⟨b, off, rfl, fun i hi => (hb.cell (p := ⟨b, off + i, none⟩) hl).trans (h i hi)⟩

theorem getD_append_left' (a b : List Int) (i : Nat) (h : i < a.length) : (a ++ b).getD i 0 = a.getD i 0 := by
  simp [List.getD_eq_getElem?_getD, List.getElem?_append, h]

theorem getD_repl (a : List Int) (n : Nat) (v : Int) (i : Nat) (h : a.length ≤ i) (h2 : i < a.length + n) : (a ++ List.replicate n v).getD i 0 = v := by
  rw [List.getD_eq_getElem?_getD, List.getElem?_append_right h, List.getElem?_replicate, if_pos (by omega)]; rfl

theorem halve_step (cs : List Int) (f : Int → Int) (k : Nat) (h : k < cs.length) : ((cs.take k).map f ++ cs.drop k).set k (f (cs.getD k 0)) = (cs.take (k + 1)).map f ++ cs.drop (k + 1) := by
  have hl : ((cs.take k).map f).length = k := by simp; omega
  rw [List.set_append_right _ _ (by omega), hl, Nat.sub_self, drop_cons cs k h, List.set_cons_zero, List.take_succ_eq_append_getElem h, List.map_append]
  simp [List.getD_eq_getElem?_getD, List.getElem?_eq_getElem h]

theorem halve_at (cs : List Int) (f : Int → Int) (k : Nat) (h : k < cs.length) : ((cs.take k).map f ++ cs.drop k).getD k 0 = cs.getD k 0 := by
  have hl : ((cs.take k).map f).length = k := by simp; omega
  rw [List.getD_eq_getElem?_getD, List.getElem?_append_right (by omega), hl, Nat.sub_self, drop_cons cs k h]
  simp

end Go.Proofs.YtnfbfdngdkkffabDoor
