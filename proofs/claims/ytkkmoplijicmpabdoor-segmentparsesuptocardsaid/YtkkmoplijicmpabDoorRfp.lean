import Derived.Test.YtkkmoplijicmpabDoorGrp
namespace Go.Proofs.YtkkmoplijicmpabDoor.C
open Go.RowKit

abbrev Pz' := Sp × Bool
def pzc (x : Sp × Bool) : List Value := [.int .i64 x.1.1, .int .i64 x.1.2, .bool x.2]
theorem pzc_len (l : List (Sp × Bool)) : (l.flatMap pzc).length = l.length * 3 := by
  induction l with
  | nil => rfl
  | cons s r ih => simp [pzc, ih]; omega
theorem pzc_get (l : List (Sp × Bool)) (i : Nat) (p : Sp × Bool) (h : l[i]? = some p) : (l.flatMap pzc)[i * 3]? = some (.int .i64 p.1.1) ∧ (l.flatMap pzc)[i * 3 + 1]? = some (.int .i64 p.1.2) ∧ (l.flatMap pzc)[i * 3 + 2]? = some (.bool p.2) := by
  induction l generalizing i with
  | nil => simp at h
  | cons s r ih =>
    cases i with
    | zero => simp at h; subst h; simp [pzc]
    | succ i =>
      simp at h
      have := ih i h
      rw [List.flatMap_cons, List.getElem?_append_right (by simp [pzc]; omega), List.getElem?_append_right (by simp [pzc]; omega), List.getElem?_append_right (by simp [pzc]; omega)]
      simp only [pzc, List.length_cons, List.length_nil]
      rw [show (i + 1) * 3 - (0 + 1 + 1 + 1) = i * 3 from by omega, show (i + 1) * 3 + 1 - (0 + 1 + 1 + 1) = i * 3 + 1 from by omega, show (i + 1) * 3 + 2 - (0 + 1 + 1 + 1) = i * 3 + 2 from by omega]
      exact this
theorem cell_three_at (w : World) (x y z : Value) (t : TypeId) (n : Nat) (hn : n = w.heap.size) : ∀ j u, [x, y, z][j]? = some u → (w.alloc (.cells #[x, y, z] t)).cell? ((⟨n, 0, none⟩ : Addr).add j) = some u := by
  subst hn
  intro j u hj
  match j, hj with
  | 0, hj => simp at hj; subst hj; simp [Addr.add]
  | 1, hj => simp at hj; subst hj; simp [Addr.add]
  | 2, hj => simp at hj; subst hj; simp [Addr.add]
end Go.Proofs.YtkkmoplijicmpabDoor.C
