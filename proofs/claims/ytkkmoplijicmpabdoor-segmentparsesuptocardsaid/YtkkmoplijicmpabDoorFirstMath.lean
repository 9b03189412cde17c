import Derived.Test.YtkkmoplijicmpabDoorSegMath
namespace Go.Proofs.YtkkmoplijicmpabDoor

theorem prs_short {zs : List Int} (h : zs.length ≤ 8192) : prs zs = match segp zs with
  | .bad e => (e, sg0)
  | .ok s [] => (0, s)
  | .ok _ (_ :: _) => (24, sg0) := by
  unfold prs; rw [if_neg (by omega)]; rfl

/-- P2.6, on lists. -/
theorem first_math (b : List Int) (hb : b.length ≤ 300) (e : Int) (he : e = 21 ∨ e = 22 ∨ e = 23) (h : (prs b).1 = e) (k : Nat) (hk : (prs (b.take k)).1 ≠ 20) :
    (prs (b.take k)).1 = e ∧ ∀ more : List Int, (prs (b.take k ++ more)).1 = e ∨ ((prs (b.take k ++ more)).1 = 2 ∧ 8192 < (b.take k ++ more).length) := by
  have hl : (b.take k).length ≤ 8192 := by simp; omega
  rw [prs_short (by omega)] at h
  rw [prs_short hl] at hk ⊢
  have hsplit : b = b.take k ++ b.drop k := (List.take_append_drop k b).symm
  cases hp : segp (b.take k) with
  | bad f =>
    rw [hp] at hk
    simp only at hk ⊢
    have hst := Good.segp.bad _ _ hp hk
    have h2 := hst (b.drop k)
    rw [← hsplit] at h2
    rw [h2] at h
    simp only at h
    refine ⟨h, fun more => ?_⟩
    by_cases hm : 8192 < (b.take k ++ more).length
    · right; exact ⟨by unfold prs; rw [if_pos hm], hm⟩
    · left; rw [prs_short (by omega), hst more]; exact h
  | ok s r =>
    exfalso
    obtain ⟨c, hc, hx, _⟩ := Good.segp.ok _ _ _ hp
    have h2 := hx (r ++ b.drop k)
    rw [← List.append_assoc, ← hc, ← hsplit] at h2
    rw [h2] at h
    cases hr : r ++ b.drop k with
    | nil => rw [hr] at h; simp only at h; omega
    | cons x y => rw [hr] at h; simp only at h; omega

end Go.Proofs.YtkkmoplijicmpabDoor
