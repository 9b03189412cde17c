import Derived.Test.YtjolflpmeodnaaiPlAd
import Derived.Test.YtjolflpmeodnaaiPlCo
namespace Go.Proofs.Ytjolflpmeodnaai
set_option linter.unusedVariables false
open Go.RowKit

/-! ## Rates alone tell all -/

theorem rt_perm {p x : Int} {l m : List Ct} (h : l.Perm m) : rt p x l = rt p x m := by
  induction h with
  | nil => rfl
  | cons c _ ih => simp only [rt, ih]
  | swap c d l => simp only [rt]; omega
  | trans _ _ h1 h2 => exact h1.trans h2
theorem rt_append {p x : Int} (l m : List Ct) : rt p x (l ++ m) = rt p x l + rt p x m := by
  induction l with
  | nil => simp [rt]
  | cons c l ih => simp only [List.cons_append, rt, ih]; omega

/-- The first contact in two pieces. -/
theorem rt_split {p x : Int} {q f t r at' : Int} {l : List Ct} (h1 : f ≤ at') (h2 : at' ≤ t) : rt p x (⟨q, f, at', r⟩ :: l ++ [⟨q, at', t, r⟩]) = rt p x (⟨q, f, t, r⟩ :: l) := by
  rw [rt_append]
  simp only [rt, one]
  by_cases hq : q = p
  · subst hq
    by_cases h3 : f ≤ x ∧ x < t
    · by_cases h4 : x < at'
      · rw [if_pos ⟨rfl, h3.1, h4⟩, if_neg (by omega), if_pos ⟨rfl, h3⟩]; omega
      · rw [if_neg (by omega), if_pos ⟨rfl, by omega, h3.2⟩, if_pos ⟨rfl, h3⟩]; omega
    · rw [if_neg (by omega), if_neg (by omega), if_neg (by omega)]; omega
  · simp [hq]

theorem tot_eq {p a : Int} {l m : List Ct} (hl : ∀ c ∈ l, mayC c = true) (hm : ∀ c ∈ m, mayC c = true) (h : ∀ x, rt p x l = rt p x m) : ∀ (n : Nat) {b : Int}, b = a + n → tot p a b l = tot p a b m
  | 0, b, hb => by
    have : b = a := by omega
    subst this
    rw [tot_self, tot_self]
  | n + 1, b, hb => by
    have h1 : tot p a (b - 1) l = tot p a (b - 1) m := tot_eq hl hm h n (by omega)
    have h2 := tot_add (p := p) (show a ≤ b - 1 by omega) (show b - 1 ≤ b by omega) l
    have h2' := tot_add (p := p) (show a ≤ b - 1 by omega) (show b - 1 ≤ b by omega) m
    have h3 := tot_one (p := p) (x := b - 1) hl
    have h3' := tot_one (p := p) (x := b - 1) hm
    rw [show b - 1 + 1 = b by omega] at h3 h3'
    rw [← h2, ← h2', h1, h3, h3', h]
theorem tot_eq' {p a b : Int} {l m : List Ct} (hl : ∀ c ∈ l, mayC c = true) (hm : ∀ c ∈ m, mayC c = true) (h : ∀ x, rt p x l = rt p x m) (hab : a ≤ b) : tot p a b l = tot p a b m :=
  tot_eq hl hm h (b - a).toNat (by omega)
theorem NR.congr {p a n : Int} {l m : List Ct} (h : ∀ x, rt p x l = rt p x m) (hN : NR p a l n) : NR p a m n := by
  rcases hN with ⟨h1, h2⟩ | ⟨h1, h2, h3, h4⟩
  · exact .inl ⟨h1, fun x h3 h4 => by rw [← h, ← h]; exact h2 x h3 h4⟩
  · exact .inr ⟨h1, h2, by rw [← h, ← h]; exact h3, fun x h5 h6 => by rw [← h, ← h]; exact h4 x h5 h6⟩
theorem WR.congr {p a n t : Int} {l m : List Ct} (hl : ∀ c ∈ l, mayC c = true) (hm : ∀ c ∈ m, mayC c = true) (ha : a ≤ 1099511627776) (h : ∀ x, rt p x l = rt p x m) (hN : WR p a n l t) : WR p a n m t := by
  rcases hN with ⟨h1, h2⟩ | ⟨h1, h2, h3, h4⟩
  · exact .inl ⟨h1, by rw [← tot_eq' hl hm h ha]; exact h2⟩
  · exact .inr ⟨h1, h2, by rw [← tot_eq' hl hm h h1]; exact h3, by rw [← tot_eq' hl hm h (by omega)]; exact h4⟩

/-- What a list that says the same comes to. -/
theorem right_same {l m : List Ct} (hl : rightE l = 0) (hm : ∀ c ∈ m, mayC c = true) (hn : m.length ≤ 100) (h : ∀ p x, rt p x m = rt p x l) : rightE m = 0 :=
  rightE_ok.mpr ⟨hn, hm, fun c _ => by rw [h]; exact rt_max hl c.p c.f⟩

/-- One of a row goes over to another row. -/
theorem perm_move {ol rl R : List Ct} {k : Nat} {c : Ct} (hp : (ol ++ rl).Perm R) (hk : rl[k]? = some c) : ((ol ++ [c]) ++ (rl.take k ++ rl.drop (k + 1))).Perm R := by
  refine List.Perm.trans ?_ hp
  rw [List.append_assoc]
  refine List.Perm.append_left ol ?_
  have h1 : rl = rl.take k ++ c :: rl.drop (k + 1) := by
    rw [← pl_drop rl k c hk, List.take_append_drop]
  refine List.Perm.trans ?_ (h1 ▸ List.Perm.refl _ : (rl.take k ++ c :: rl.drop (k + 1)).Perm rl)
  show (c :: (rl.take k ++ rl.drop (k + 1))).Perm _
  exact List.perm_middle.symm

end Go.Proofs.Ytjolflpmeodnaai
