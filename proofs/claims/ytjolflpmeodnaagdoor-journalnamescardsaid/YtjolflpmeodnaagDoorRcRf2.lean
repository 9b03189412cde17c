import Derived.Test.YtjolflpmeodnaagDoorRcRf1
import Derived.Test.YtjolflpmeodnaagDoorRgt2
namespace Go.Proofs.YtjolflpmeodnaagDoor
open Go.RowKit
set_option linter.unusedVariables false
set_option linter.unusedSimpArgs false
theorem lenB_yes {n low : Int} (h : n = 0 ∨ (low ≤ n ∧ n ≤ 65536)) : lenB n low = true := by
  unfold lenB
  rcases h with h | h
  · subst h; rfl
  · rw [decide_eq_true h.1, decide_eq_true h.2, Bool.and_true, Bool.or_true]
theorem lenB_no {n low : Int} (h : ¬ n = 0 ∧ ¬ (low ≤ n ∧ n ≤ 65536)) : lenB n low = false := by
  unfold lenB
  rw [beq_false_of_ne h.1, Bool.false_or]
  by_cases h1 : low ≤ n
  · rw [decide_eq_true h1, decide_eq_false (fun h2 => h.2 ⟨h1, h2⟩)]; rfl
  · rw [decide_eq_false h1]; rfl
end Go.Proofs.YtjolflpmeodnaagDoor
