import Derived.Test.YtjolflpmeodnaagDoorRcSpl
namespace Go.Proofs.YtjolflpmeodnaagDoor
open Go.RowKit
set_option linter.unusedVariables false

/-- A row of bytes of the call's own. -/
def DOwn (w : World) (base : Nat) (v : Value) (zs : List Int) : Prop := w.ownsRow base 5 1 v zs.length (zs.map (Value.int .u8))
/-- What alone two rows may have changed in. -/
structure OthV (a b : Option Nat) (w w' : World) : Prop where
  os : w'.os = w.os
  tape : w'.tape = w.tape
  output : w'.output = w.output
  size : w.heap.size ≤ w'.heap.size
  block : ∀ g, g < w.heap.size → some g ≠ a → some g ≠ b → w'.heap[g]? = w.heap[g]?
theorem othV_of {a b : Option Nat} {w w1 w2 w3 : World} (hb : Below w.heap.size w w1) (h1 : w1.grownBy w2 a) (h2 : w2.grownBy w3 b) : OthV a b w w3 := by
  have := hb.size; have := h1.size; have := h2.size
  refine ⟨h2.os.trans (h1.os.trans hb.os), h2.tape.trans (h1.tape.trans hb.tape), h2.output.trans (h1.output.trans hb.output), by omega, fun g hg e1 e2 => ?_⟩
  exact (h2.block g (by omega) e2).trans ((h1.block g (by omega) e1).trans (hb.block g hg))
theorem rep_set {α : Type} (zs : List α) (k : Nat) (y : α) (hk : k < zs.length) : (List.replicate k y ++ zs.drop k).set k y = List.replicate (k + 1) y ++ zs.drop (k + 1) := by
  rw [List.set_append_right _ _ (by simp), List.length_replicate, Nat.sub_self, List.drop_eq_getElem_cons hk, List.set_cons_zero, List.replicate_succ', List.append_assoc]
  rfl
theorem rep_at {α : Type} (zs : List α) (k : Nat) (y : α) : (List.replicate k y ++ zs.drop k)[k]? = zs[k]? := by
  rw [List.getElem?_append_right (by simp), List.length_replicate, Nat.sub_self, List.getElem?_drop, Nat.add_zero]
theorem rep_len {α : Type} (zs : List α) (k : Nat) (y : α) (hk : k ≤ zs.length) : (List.replicate k y ++ zs.drop k).length = zs.length := by
  simp; omega
theorem rep_all {α : Type} (zs : List α) (y : α) : List.replicate zs.length y ++ zs.drop zs.length = List.replicate zs.length y := by
  simp
theorem DOwn.put {W : World} {base g n cap : Nat} {L : List Int} (h : DOwn W base (.slice (some ⟨g, 0, none⟩) n cap) L) (k : Nat) (x : Int) : DOwn (W.setCell ⟨g, k, none⟩ (.int .u8 x)) base (.slice (some ⟨g, 0, none⟩) n cap) (L.set k x) := by
  obtain ⟨a', c', hv⟩ := C.own_shape h
  simp only [Value.slice.injEq] at hv
  obtain ⟨_, rfl, _⟩ := hv
  have h1 := (World.ownsRow.stored h k (.int .u8 x)).1
  unfold DOwn
  rw [List.length_set, List.map_set]
  exact h1
theorem DOwn.cells {W : World} {base g n cap k : Nat} {L : List Int} {x : Int} (h : DOwn W base (.slice (some ⟨g, 0, none⟩) n cap) L) (hk : L[k]? = some x) : W.cell? ⟨g, k, none⟩ = some (.int .u8 x) ∧ W.frozen? ⟨g, k, none⟩ = false := by
  obtain ⟨a', c', hv⟩ := C.own_shape h
  simp only [Value.slice.injEq] at hv
  obtain ⟨_, rfl, _⟩ := hv
  have hkl : k < L.length := (List.getElem?_eq_some_iff.mp hk).1
  refine ⟨(World.ownsRow.cellAt h _ (by omega)).trans ?_, World.ownsRow.frozenAt h _⟩
  rw [List.getElem?_map, hk]; rfl

end Go.Proofs.YtjolflpmeodnaagDoor
