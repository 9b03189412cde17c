import Derived.Test.YtlagadpfnkidjadDoorBkChk
import Derived.Maps.AppendAt
import Derived.OwnWalk
import Derived.Laws.OwnMore
namespace Go.Proofs.YtlagadpfnkidjadDoor
open Go.RowKit

def pcL (x : Pc) : List Value := [.int .i64 x.typ, .int .i64 x.frm, .int .i64 x.to, .int .i64 x.chk, .int .i64 x.rep]
theorem Tryd.info_piece : (Tryd.prog.info? 46).map (fun i => (i.zero, i.size, i.bytes)) = some (some (.agg #[.int .i64 0, .int .i64 0, .int .i64 0, .int .i64 0, .int .i64 0]), 5, 40) := by kernel_rfl

/-- A row of pieces of the call's own. -/
def POwn (w : World) (base : Nat) (v : Value) (l : List Pc) : Prop := w.ownsRow base 46 5 v l.length (l.flatMap pcL)

theorem pc_len (l : List Pc) : (l.flatMap pcL).length = l.length * 5 := by
  induction l with
  | nil => rfl
  | cons s r ih => simp [pcL, ih]; omega
theorem pc_get (l : List Pc) (i : Nat) (p : Pc) (h : l[i]? = some p) : (l.flatMap pcL)[i * 5]? = some (.int .i64 p.typ) ∧ (l.flatMap pcL)[i * 5 + 1]? = some (.int .i64 p.frm) ∧ (l.flatMap pcL)[i * 5 + 2]? = some (.int .i64 p.to) ∧ (l.flatMap pcL)[i * 5 + 3]? = some (.int .i64 p.chk) ∧ (l.flatMap pcL)[i * 5 + 4]? = some (.int .i64 p.rep) := by
  induction l generalizing i with
  | nil => simp at h
  | cons s r ih =>
    cases i with
    | zero => simp at h; subst h; simp [pcL]
    | succ i =>
      simp at h
      have := ih i h
      have e : ∀ j, ((s :: r).flatMap pcL)[(i + 1) * 5 + j]? = (r.flatMap pcL)[i * 5 + j]? := fun j => by
        rw [List.flatMap_cons, List.getElem?_append_right (by simp [pcL]; omega)]
        congr 1
        simp [pcL]; omega
      exact ⟨(e 0).trans this.1, (e 1).trans this.2.1, (e 2).trans this.2.2.1, (e 3).trans this.2.2.2.1, (e 4).trans this.2.2.2.2⟩
theorem own_shp {w : World} {base n sz : Nat} {e : TypeId} {v : Value} {xs : List Value} (h : w.ownsRow base e sz v n xs) : ∃ a cap, v = .slice a n cap := by
  obtain ⟨_, ⟨rfl, rfl⟩ | ⟨g, cap, cur, rfl, _⟩⟩ := h
  · exact ⟨none, 0, rfl⟩
  · exact ⟨_, cap, rfl⟩
theorem own_pos {w : World} {base n sz : Nat} {e : TypeId} {v : Value} {xs : List Value} (h : w.ownsRow base e sz v n xs) (hn : 0 < n) : ∃ g cap, v = .slice (some ⟨g, 0, none⟩) n cap := by
  obtain ⟨_, ⟨rfl, rfl⟩ | ⟨g, cap, cur, rfl, _⟩⟩ := h
  · omega
  · exact ⟨g, cap, rfl⟩
/-- The last piece's end. -/
theorem POwn.last {w : World} {base : Nat} {v : Value} {l : List Pc} {u : Pc} (h : POwn w base v (l ++ [u])) : ∃ g cap, v = .slice (some ⟨g, 0, none⟩) (l.length + 1) cap ∧ base ≤ g ∧ g < w.heap.size ∧ w.cell? ⟨g, l.length * 5 + 2, none⟩ = some (.int .i64 u.to) := by
  obtain ⟨g, cap, hv⟩ := own_pos h (by simp)
  have hlen : (l ++ [u]).length = l.length + 1 := by simp
  have q := (pc_get (l ++ [u]) l.length u (by simp)).2.2.1
  have h' := h
  unfold POwn at h'
  rw [hlen] at h' hv
  subst hv
  have hl := World.ownsRow.lt h' g rfl
  exact ⟨g, cap, rfl, hl.1, hl.2, (World.ownsRow.cellAt h' _ (by omega)).trans q⟩
theorem cell_five (w : World) (a b c d e : Value) (t : TypeId) (n : Nat) (hn : n = w.heap.size) : ∀ j u, [a, b, c, d, e][j]? = some u → (w.alloc (.cells #[a, b, c, d, e] t)).cell? ((⟨n, 0, none⟩ : Addr).add j) = some u := by
  subst hn
  intro j u hj
  match j, hj with
  | 0, hj => simp at hj; subst hj; simp [Addr.add]
  | 1, hj => simp at hj; subst hj; simp [Addr.add]
  | 2, hj => simp at hj; subst hj; simp [Addr.add]
  | 3, hj => simp at hj; subst hj; simp [Addr.add]
  | 4, hj => simp at hj; subst hj; simp [Addr.add]

end Go.Proofs.YtlagadpfnkidjadDoor
