import Derived.Test.YtnclfoljfnfglaiTmPdq
namespace Go.Proofs.Ytnclfoljfnfglai
open Go.RowKit Go.Maps Go.Sort

/-! ## The order of the keys is one: SWO, and no two keys are level -/
theorem cmpI_neg (a b : Int) : cmpI a b < 0 ↔ a < b := by
  unfold cmpI; split
  · exact ⟨fun _ => by assumption, fun _ => by decide⟩
  · split
    · exact ⟨fun h => absurd h (by decide), fun h => by omega⟩
    · exact ⟨fun h => absurd h (by decide), fun h => by omega⟩
theorem ltK_iff (x y : Kx) : ltK x y = true ↔ x.1 < y.1 ∨ (x.1 = y.1 ∧ (x.2.1 < y.2.1 ∨ (x.2.1 = y.2.1 ∧ (x.2.2.1 < y.2.2.1 ∨ (x.2.2.1 = y.2.2.1 ∧ (x.2.2.2.1 < y.2.2.2.1 ∨ (x.2.2.2.1 = y.2.2.2.1 ∧ x.2.2.2.2 < y.2.2.2.2))))))) := by
  unfold ltK cmpK
  rw [decide_eq_true_iff]
  repeat' split
  all_goals rw [cmpI_neg]
  all_goals omega
theorem ltK_not (x y : Kx) : ltK x y = false ↔ ¬ (x.1 < y.1 ∨ (x.1 = y.1 ∧ (x.2.1 < y.2.1 ∨ (x.2.1 = y.2.1 ∧ (x.2.2.1 < y.2.2.1 ∨ (x.2.2.1 = y.2.2.1 ∧ (x.2.2.2.1 < y.2.2.2.1 ∨ (x.2.2.2.1 = y.2.2.2.1 ∧ x.2.2.2.2 < y.2.2.2.2)))))))) := by
  rw [← ltK_iff, Bool.not_eq_true]
theorem swoK : SWO ltK where
  irrefl x := by rw [ltK_not]; omega
  trans x y z h h' := by rw [ltK_iff] at *; omega
  ntrans x y z h h' := by rw [ltK_not] at *; omega
theorem levelK (x y : Kx) (h : ltK x y = false) (h' : ltK y x = false) : x = y := by
  rw [ltK_not] at h h'
  obtain ⟨x0, x1, x2, x3, x4⟩ := x
  obtain ⟨y0, y1, y2, y3, y4⟩ := y
  simp only [Prod.mk.injEq] at *
  omega
theorem sortK (d : Array Kx) : PermIn 0 d.size d (sort ltK d) ∧ SortedIn ltK 0 d.size (sort ltK d) := sort_sorts ltK swoK d

end Go.Proofs.Ytnclfoljfnfglai
