import Derived.Test.YtjolflpmeodnaagDoorRcKpt
namespace Go.Proofs.YtjolflpmeodnaagDoor
open Go.RowKit
set_option linter.unusedVariables false

theorem gfill_set {α : Type} (A B : List α) (k : Nat) (x : α) (hk : A[k]? = some x) (hl : A.length = B.length) : (A.take k ++ B.drop k).set k x = A.take (k + 1) ++ B.drop (k + 1) := by
  have h1 : k < A.length := (List.getElem?_eq_some_iff.mp hk).1
  have h2 : (A.take k).length = k := by simp; omega
  rw [List.set_append_right _ _ (by omega), h2, Nat.sub_self]
  rw [List.drop_eq_getElem_cons (show k < B.length by omega), List.set_cons_zero, List.take_add_one, hk]
  simp
theorem gfill_at {α : Type} (A B : List α) (k : Nat) (hk : k < A.length) (hl : A.length = B.length) : (A.take k ++ B.drop k)[k]? = B[k]? := by
  have h2 : (A.take k).length = k := by simp; omega
  rw [List.getElem?_append_right (by omega), h2, Nat.sub_self, List.getElem?_drop, Nat.add_zero]
theorem gpre {α : Type} (n : Nat) (y : α) (m : List α) (k : Nat) (hk : k < n) : (List.replicate n y ++ m)[k]? = some y := by
  rw [List.getElem?_append_left (by simpa using hk), List.getElem?_replicate, if_pos hk]

/-- What alone two blocks may have changed in. -/
structure Oth (gd gs : Nat) (w w' : World) : Prop where
  os : w'.os = w.os
  tape : w'.tape = w.tape
  output : w'.output = w.output
  size : w.heap.size ≤ w'.heap.size
  block : ∀ g, g < w.heap.size → g ≠ gd → g ≠ gs → w'.heap[g]? = w.heap[g]?
theorem Oth.below {gd gs base : Nat} {w0 w w' : World} (h : Oth gd gs w w') (hb : Below base w0 w) (h1 : base ≤ gd) (h2 : base ≤ gs) (h3 : base ≤ w.heap.size) : Below base w0 w' :=
  ⟨h.os.trans hb.os, h.tape.trans hb.tape, h.output.trans hb.output, Nat.le_trans hb.size h.size, fun g hg => (h.block g (by omega) (by omega) (by omega)).trans (hb.block g hg)⟩
theorem oth_of {gd gs : Nat} {w w1 w2 w3 : World} (hb : Below w.heap.size w w1) (h1 : w1.grownBy w2 (some gd)) (h2 : w2.grownBy w3 (some gs)) : Oth gd gs w w3 := by
  have := hb.size; have := h1.size; have := h2.size
  refine ⟨h2.os.trans (h1.os.trans hb.os), h2.tape.trans (h1.tape.trans hb.tape), h2.output.trans (h1.output.trans hb.output), by omega, fun g hg e1 e2 => ?_⟩
  exact (h2.block g (by omega) (by simpa using e2)).trans ((h1.block g (by omega) (by simpa using e1)).trans (hb.block g hg))
theorem mkD_drop (zs : List Int) (nd : Nat) (h : zs.length = nd) (y : Int) : List.replicate nd y ++ (mkD zs).drop nd = mkD (List.replicate nd y) := by
  subst h; rw [mkD, List.drop_left]
theorem mkS_drop (l : List (Int × Int)) (ns : Nat) (h : l.length = ns) (y : Int × Int) : List.replicate ns y ++ (mkS l).drop ns = mkS (List.replicate ns y) := by
  subst h; rw [mkS, List.drop_left]

end Go.Proofs.YtjolflpmeodnaagDoor
