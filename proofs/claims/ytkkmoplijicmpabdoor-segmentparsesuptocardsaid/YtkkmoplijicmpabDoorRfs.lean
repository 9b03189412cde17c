import Derived.Test.YtkkmoplijicmpabDoorRfp
namespace Go.Proofs.YtkkmoplijicmpabDoor.C
open Go.RowKit

theorem siz_ahead : ∀ {l : List Sp} {lo : Int} {k : Nat} {p : Sp}, Rt lo l → l[k]? = some p → siz (l.take k) ≤ p.1 - lo
  | [], _, _, _, _, h => by simp at h
  | s :: r, lo, 0, p, h, hk => by simp at hk; subst hk; have := h.1; simp [siz]; omega
  | s :: r, lo, k + 1, p, h, hk => by
    simp at hk
    have := siz_ahead h.2.2.2 hk
    have := h.1
    simp only [List.take_succ_cons, siz]; omega

end Go.Proofs.YtkkmoplijicmpabDoor.C
