import Derived.Test.YtjolflpmeodnaagDoorRcPr2
import Derived.Test.YtjolflpmeodnaagDoorLnt
import Derived.Laws.CopyOwn
import Derived.Deep.CutRange
namespace Go.Proofs.YtjolflpmeodnaagDoor
open Go.RowKit
set_option linter.unusedVariables false

abbrev mkD (zs : List Int) : List Int := zs ++ [177, 178]
abbrev mkS (l : List (Int × Int)) : List (Int × Int) := l ++ [(-77, 0), (-78, 0)]
theorem rsize_u8 : (Tryd.prog.info? 5).map (·.size) = some 1 := by kernel_rfl
theorem rsize_span : (Tryd.prog.info? 52).map (·.size) = some 2 := by kernel_rfl
theorem rmade_eq (n : Nat) : (madeCells (Value.cells (.int .u8 0)) (n * 1)).toList = (List.replicate n (0 : Int)).map (Value.int .u8) := by
  simp [madeCells, Value.cells, Nat.mod_one, List.map_const']
theorem rown_full {w : World} {base n g : Nat} {e : TypeId} {xs : List Value} (h : w.ownsRow base e 1 (.slice (some ⟨g, 0, none⟩) n n) n xs) : w.heap[g]? = some (.cells xs.toArray e (0, 0)) := by
  obtain ⟨_, ⟨hv, _⟩ | ⟨g', cap, cur, hv, _, hg, _, _, hs, ht⟩⟩ := h
  · cases hv
  · simp only [Value.slice.injEq, Option.some.injEq, Addr.mk.injEq, and_true, true_and] at hv
    obtain ⟨rfl, rfl⟩ := hv
    rw [List.take_of_length_le (by simp; omega)] at ht
    rw [hg, ← ht]
theorem rsplice2 (zs : List Int) (n : Nat) (hl : zs.length = n) : splice ((List.replicate (n + 2) (0 : Int)).map (Value.int .u8)) 0 (zs.map (Value.int .u8)) = (zs ++ [0, 0]).map (Value.int .u8) := by
  subst hl
  simp [splice, show zs.length + 2 - zs.length = 2 from by omega]
theorem rset1 (zs : List Int) (n : Nat) (hl : zs.length = n) (a b c : Int) : (zs ++ [a, b]).set n c = zs ++ [c, b] := by
  subst hl; rw [List.set_append_right _ _ (Nat.le_refl _), Nat.sub_self]; rfl
theorem rset2 (zs : List Int) (n : Nat) (hl : zs.length = n) (a b c : Int) : (zs ++ [a, b]).set (n + 1) c = zs ++ [a, c] := by
  subst hl; rw [List.set_append_right _ _ (by omega), show zs.length + 1 - zs.length = 1 by omega]; rfl
theorem sset1 (zs : List (Int × Int)) (n : Nat) (hl : zs.length = n) (a b c : Int × Int) : (zs ++ [a, b]).set n c = zs ++ [c, b] := by
  subst hl; rw [List.set_append_right _ _ (Nat.le_refl _), Nat.sub_self]; rfl
theorem sset2 (zs : List (Int × Int)) (n : Nat) (hl : zs.length = n) (a b c : Int × Int) : (zs ++ [a, b]).set (n + 1) c = zs ++ [a, c] := by
  subst hl; rw [List.set_append_right _ _ (by omega), show zs.length + 1 - zs.length = 1 by omega]; rfl
theorem sdrop2 (zs : List (Int × Int)) (n : Nat) (hl : zs.length = n) : zs ++ (List.replicate (n + 2) ((0 : Int), (0 : Int))).drop zs.length = zs ++ [(0, 0), (0, 0)] := by
  subst hl; rw [List.drop_replicate, show zs.length + 2 - zs.length = 2 by omega]; rfl
theorem rget1 {α : Type} (zs : List α) (n : Nat) (hl : zs.length = n) (a b : α) : (zs ++ [a, b])[n]? = some a := by
  subst hl; rw [List.getElem?_append_right (Nat.le_refl _), Nat.sub_self]; rfl
theorem rget2 {α : Type} (zs : List α) (n : Nat) (hl : zs.length = n) (a b : α) : (zs ++ [a, b])[n + 1]? = some b := by
  subst hl; rw [List.getElem?_append_right (by omega), show zs.length + 1 - zs.length = 1 by omega]; rfl
theorem rc_frozen {W : World} {g : Nat} {r : Rc} {sv dv : Value} (h : W.heap[g]? = some (rcO r sv dv)) (k : Nat) : W.frozen? ⟨g, k, none⟩ = false := by simp [World.frozen?, h]
theorem Lies.cells6 {W : World} {a : Option Addr} {zs : List Int} (h : Lies .u8 W a zs) (hp : 0 < (zs.map (Value.int .u8)).length) : ∃ ad, a = some ad ∧ ∀ j v, (zs.map (Value.int .u8))[j]? = some v → W.cell? (ad.add j) = some v := by
  rcases h with rfl | ⟨b, off, rfl, h⟩
  · simp at hp
  · refine ⟨_, rfl, fun j v hj => ?_⟩
    have hjl : j < zs.length := by
      rcases Nat.lt_or_ge j zs.length with q | q
      · exact q
      · rw [List.getElem?_eq_none (by simpa using q)] at hj; cases hj
    rw [List.getElem?_map, List.getElem?_eq_getElem hjl] at hj
    simp only [Option.map_some, Option.some.injEq] at hj
    rw [show (⟨b, off, none⟩ : Addr).add j = ⟨b, off + j, none⟩ from by unfold Addr.add; split <;> simp_all, h j hjl, ← hj]
    simp [List.getD_eq_getElem?_getD, List.getElem?_eq_getElem hjl]

abbrev rz0 : Rc := ⟨0, 0, 0, 0, 0, 0, 0, 0, 0, [], []⟩
abbrev lw (w : World) (r : Rc) (sv dv : Value) : World := (w.alloc (rcO r sv dv)).alloc (rcO rz0 (.slice none 0 0) (.slice none 0 0))
theorem lw_size (w : World) (r : Rc) (sv dv : Value) : (lw w r sv dv).heap.size = w.heap.size + 1 + 1 := by simp
theorem lw_b {w W : World} {r : Rc} {sv dv : Value} (h : Below (w.heap.size + 1 + 1) (lw w r sv dv) W) : Below w.heap.size w W :=
  (((Below.refl _ _).alloc (Nat.le_refl _) _).alloc (by simp) _ : Below w.heap.size w (lw w r sv dv)).trans (h.mono (by omega))
theorem lw_x {w W : World} {r : Rc} {sv dv : Value} (h : Below (w.heap.size + 1 + 1) (lw w r sv dv) W) : W.heap[w.heap.size]? = some (rcO r sv dv) :=
  (h.block _ (by omega)).trans ((((Below.refl _ _).alloc (Nat.le_refl _) _).block _ (by simp)).trans (heap_new6 w _))
theorem lw_z {w W : World} {r : Rc} {sv dv : Value} (h : Below (w.heap.size + 1 + 1) (lw w r sv dv) W) : W.heap[w.heap.size + 1]? = some (rcO rz0 (.slice none 0 0) (.slice none 0 0)) := by
  refine (h.block _ (by omega)).trans ?_
  have := heap_new6 (w.alloc (rcO r sv dv)) (rcO rz0 (.slice none 0 0) (.slice none 0 0))
  simpa using this
/-- A record is written over another one. -/
def rS (W : World) (g : Nat) (r : Rc) (sv dv : Value) : World := (((((((((((W.setCell ⟨g, 0, none⟩ (.int .i64 r.kind)).setCell ⟨g, 1, none⟩ (.int .i64 r.org)).setCell ⟨g, 2, none⟩ (.int .i64 r.num)).setCell ⟨g, 3, none⟩ (.int .i64 r.peer)).setCell ⟨g, 4, none⟩ (.int .i64 r.srv)).setCell ⟨g, 5, none⟩ (.int .i64 r.off)).setCell ⟨g, 6, none⟩ (.int .i64 r.red)).setCell ⟨g, 7, none⟩ (.int .i64 r.size)).setCell ⟨g, 8, none⟩ (.int .i64 r.how)).setCell ⟨g, 9, none⟩ sv).setCell ⟨g, 10, none⟩ dv)
theorem rS_heap (W : World) (g : Nat) (r q : Rc) (sv dv a b : Value) (h : W.heap[g]? = some (rcO q a b)) : (rS W g r sv dv).heap[g]? = some (rcO r sv dv) := by
  unfold rS
  simp [World.setCell, Array.getElem?_modify, h]
theorem rS_grown (W : World) (g : Nat) (r : Rc) (sv dv : Value) : W.grownBy (rS W g r sv dv) (some g) := by
  unfold rS
  iterate 10 refine C.grown_trans ?_ (grown_set _ _ _ _)
  exact grown_set _ _ _ _
theorem own_keep6 {w w' : World} {base size n : Nat} {e : TypeId} {v : Value} {xs : List Value} {row : Option Nat} (h : w.ownsRow base e size v n xs) (hg : w.grownBy w' row) (hr : ∀ k, v.ownBlock = some k → row ≠ some k) : w'.ownsRow base e size v n xs := by
  have hlt := h.lt
  obtain ⟨hl, h | ⟨g, cap, cur, rfl, hb, hh, r⟩⟩ := h
  · exact ⟨hl, .inl h⟩
  · refine ⟨hl, .inr ⟨g, cap, cur, rfl, hb, ?_, r⟩⟩
    rw [hg.block g (hlt g rfl).2 (fun e => hr g rfl e.symm)]; exact hh
theorem blk_keep {w w' : World} {g : Nat} {zs : List Int} {row : Option Nat} (h : Blk .u8 w g 5 zs) (hg : w.grownBy w' row) (hr : row ≠ some g) : Blk .u8 w' g 5 zs :=
  (hg.block g (Array.getElem?_eq_some_iff.mp h).1 (fun e => hr e.symm)).trans h
theorem lm1 {W0 w1 : World} {gd n b : Nat} (hg : W0.heap.size = gd) (hown : w1.ownsRow b 5 1 (.slice (some ⟨W0.heap.size, 0, none⟩) n n) n (madeCells (Value.cells (.int .u8 0)) (n * 1)).toList) (hgrow : W0.grownBy w1 none) :
    Hid (w1.heap[gd]? = some (.cells ((List.replicate n (0 : Int)).map (Value.int .u8)).toArray 5 (0, 0))) ∧ Hid (Below gd W0 w1) := by
  subst hg
  rw [rmade_eq] at hown
  exact ⟨rown_full hown, (Below.refl _ _).grown hgrow (Nat.le_refl _) (by intro j hj; cases hj)⟩

theorem lm5 {w W0 w4 w5 : World} {gd n b : Nat} {D : List Int} (HB : Hid (Below gd W0 w4)) (HBK : Hid (Blk .u8 w4 gd 5 D)) (hown : w5.ownsRow b 52 2 (.slice (some ⟨w4.heap.size, 0, none⟩) n n) n (madeCells (Value.cells (.agg #[.int .i64 0, .int .i64 0])) (n * 2)).toList) (hgrow : w4.grownBy w5 none) :
    Hid (C.SOwn w5 b (.slice (some ⟨w4.heap.size, 0, none⟩) n n) (List.replicate n (0, 0))) ∧ Hid (Below gd W0 w5) ∧ Hid (Blk .u8 w5 gd 5 D) ∧ gd < w4.heap.size := by
  have hlt : gd < w4.heap.size := (Array.getElem?_eq_some_iff.mp HBK.out).1
  rw [C.made_spans] at hown
  refine ⟨?_, ?_, ?_, hlt⟩
  · unfold Hid C.SOwn; rw [List.length_replicate]; exact hown
  · exact HB.out.grown hgrow (by omega) (by intro j hj; cases hj)
  · exact (hgrow.block gd hlt (by simp)).trans HBK.out
theorem lm6 {W0 w5 w6 : World} {gd gs : Nat} {D : List Int} (hlt : gd < gs) (HB : Hid (Below gd W0 w5)) (HBK : Hid (Blk .u8 w5 gd 5 D)) (hg : w5.grownBy w6 (some gs)) (hs : gd ≤ w5.heap.size) : Hid (Below gd W0 w6) ∧ Hid (Blk .u8 w6 gd 5 D) := by
  have h1 : gd < w5.heap.size := (Array.getElem?_eq_some_iff.mp HBK.out).1
  refine ⟨HB.out.grown hg hs (by intro j hj; simp only [Option.some.injEq] at hj; omega), (hg.block gd h1 (by simp; omega)).trans HBK.out⟩

end Go.Proofs.YtjolflpmeodnaagDoor
