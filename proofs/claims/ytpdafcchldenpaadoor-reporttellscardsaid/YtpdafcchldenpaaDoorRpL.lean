import Derived.Test.YtpdafcchldenpaaDoorRpO
import Derived.Test.YtpdafcchldenpaaDoorLnt
import Derived.Deep.CutRange
namespace Go.Proofs.YtpdafcchldenpaaDoor.C
open Go.RowKit Go.Shelf
set_option linter.unusedVariables false

def mkL (l : List Sp) : List Sp := l ++ [(-7, -7), (-8, -8)]
theorem mkL_a (l : List Sp) : (l ++ (List.replicate (l.length + 2) ((0 : Int), (0 : Int))).drop l.length) = l ++ [(0, 0), (0, 0)] := by
  rw [List.drop_replicate, show l.length + 2 - l.length = 2 by omega]; rfl
theorem mkL_b (l : List Sp) : ((l ++ [((0 : Int), (0 : Int)), (0, 0)]).set l.length (-7, -7)).set (l.length + 1) (-8, -8) = mkL l := by
  rw [List.set_append_right _ _ (Nat.le_refl _), List.set_append_right _ _ (by omega)]
  simp [mkL]
theorem lent_made {w1 : World} {base g n : Nat} (h : w1.ownsRow base 40 2 (.slice (some ⟨g, 0, none⟩) n n) n (madeCells (Value.cells (.agg #[.int .i64 0, .int .i64 0])) (n * 2)).toList) : SOwn w1 base (.slice (some ⟨g, 0, none⟩) n n) (List.replicate n (0, 0)) := by
  rw [made_spans] at h
  unfold SOwn
  rw [List.length_replicate]
  exact h
theorem size_span5 : (Tryd.prog.info? 40).map (·.size) = some 2 := by kernel_rfl
end Go.Proofs.YtpdafcchldenpaaDoor.C

namespace Go.Proofs.YtpdafcchldenpaaDoor.C
open Go.RowKit Go.Shelf
set_option linter.unusedVariables false

theorem below_dN {B : Nat} {w wr : World} (h : Below B w wr) (n : Nat) : Below B w (wr.drewN n) := ⟨h.os, h.tape, h.output, h.size, h.block⟩
theorem mkL_at {l : List Sp} {k : Nat} {p : Sp} (h : l[k]? = some p) : (mkL l)[k]? = some p := by unfold mkL; rw [List.getElem?_append_left (List.getElem?_eq_some_iff.mp h).1]; exact h
theorem mkL_7 (l : List Sp) : (mkL l)[l.length]? = some (-7, -7) := by unfold mkL; rw [List.getElem?_append_right (Nat.le_refl _)]; simp
theorem mkL_8 (l : List Sp) : (mkL l)[l.length + 1]? = some (-8, -8) := by unfold mkL; rw [List.getElem?_append_right (by omega)]; simp

end Go.Proofs.YtpdafcchldenpaaDoor.C

namespace Go.Proofs.YtpdafcchldenpaaDoor.C
open Go.RowKit Go.Shelf
set_option linter.unusedVariables false

end Go.Proofs.YtpdafcchldenpaaDoor.C
