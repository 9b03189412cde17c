import Derived.Test.YtkkmoplijicmpabDoorRfs
namespace Go.Proofs.YtkkmoplijicmpabDoor.C
open Go.RowKit

theorem cv_pick {l : List Sp} {s : Sp} {ps : List (Sp × Bool)} (hps : IsSet l ∧ Asked s → ps = pc s.2 s.1 l) : cvB l s = (setB l && (askB s && decide ((pick false ps).length = 0))) := by
  unfold cvB
  cases hs : setB l with
  | false => rfl
  | true =>
    cases ha : askB s with
    | false => rfl
    | true =>
      rw [hps ⟨setB_iff.mp hs, askB_iff.mp ha⟩]
      show decide (gps l s = []) = decide ((gps l s).length = 0)
      by_cases hg : gps l s = []
      · simp [hg]
      · rw [decide_eq_false hg, decide_eq_false (fun e => hg (List.eq_nil_of_length_eq_zero e))]

end Go.Proofs.YtkkmoplijicmpabDoor.C
