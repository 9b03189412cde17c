import Derived.Test.YtjolflpmeodnaaiPlMath
import Derived.Lib.SlicesCompact
namespace Go.Proofs.Ytjolflpmeodnaai
set_option linter.unusedVariables false

theorem mem_cpt {zs : List Int} {x : Int} : x ∈ Lib.compact zs ↔ x ∈ zs := by
  unfold Lib.compact Lib.compactUpTo
  constructor
  · intro h
    obtain ⟨i, hi, rfl⟩ := List.mem_map.1 h
    have hi' : i < zs.length := List.mem_range.1 (List.mem_filter.1 hi).1
    simp [getElem!_pos, hi']
  · intro h
    have hex : ∃ i, zs[i]? = some x := List.getElem?_of_mem h
    have : ∀ (n i : Nat), i ≤ n → zs[i]? = some x → ∃ j, zs[j]? = some x ∧ Lib.keeps zs.toArray j = true := by
      intro n
      induction n with
      | zero => intro i hi hx; obtain rfl : i = 0 := by omega
                exact ⟨0, hx, Lib.keeps_lt_one _ 0 (by omega)⟩
      | succ n ih =>
        intro i hi hx
        rcases Nat.eq_zero_or_pos i with h0 | h0
        · subst h0; exact ⟨0, hx, Lib.keeps_lt_one _ 0 (by omega)⟩
        · by_cases h1 : zs[i - 1]? = some x
          · exact ih (i - 1) (by omega) h1
          · refine ⟨i, hx, Lib.keeps_pos ?_⟩
            obtain ⟨hl, hv⟩ := List.getElem?_eq_some_iff.mp hx
            have hl' : i - 1 < zs.length := by omega
            simp only [List.getElem!_toArray, getElem!_pos, hl, hl']
            intro he
            apply h1
            rw [List.getElem?_eq_getElem hl', ← he, hv]
    obtain ⟨i, hi⟩ := hex
    obtain ⟨j, hj, hk⟩ := this i i (Nat.le_refl _) hi
    obtain ⟨hl, hv⟩ := List.getElem?_eq_some_iff.mp hj
    refine List.mem_map.mpr ⟨j, List.mem_filter.mpr ⟨List.mem_range.mpr hl, hk⟩, ?_⟩
    simp [getElem!_pos, hl, hv]
theorem cpt_sorted {zs : List Int} (h : zs.Pairwise (· ≤ ·)) : (Lib.compact zs).Pairwise (· ≤ ·) := by
  unfold Lib.compact Lib.compactUpTo
  rw [List.pairwise_map]
  have h1 : (List.range zs.length).Pairwise (fun i j => i < j ∧ j < zs.length) := by
    rw [List.pairwise_iff_getElem]
    intro i j hi hj hij
    simp at hi hj ⊢
    omega
  refine (h1.filter _).imp ?_
  rintro i j ⟨h2, h3⟩
  have h4 : i < zs.length := by omega
  simp only [List.getElem!_toArray, getElem!_pos, h3, h4]
  exact List.pairwise_iff_getElem.mp h i j h4 h3 h2
theorem cpt_len (zs : List Int) : (Lib.compact zs).length ≤ zs.length := by
  unfold Lib.compact Lib.compactUpTo
  rw [List.length_map]
  exact Nat.le_trans (List.length_filter_le _ _) (by simp)
theorem srt_sorted (zs : List Int) : (zs.mergeSort fun x y => decide (x ≤ y)).Pairwise (· ≤ ·) := by
  have := List.pairwise_mergeSort (le := fun x y : Int => decide (x ≤ y)) (by intro a b c; simp; omega) (by intro a b; simp; omega) zs
  exact this.imp (by simp)

/-- The marks, as they are gathered. -/
def raw (p a b : Int) (l : List Ct) : List Int := l.foldl (fun m c => if c.p = p then m ++ [min (max c.f a) b, min (max c.t a) b] else m) [a, b]
def rawG (p a b : Int) : List Ct → List Int
  | [] => []
  | c :: l => (if c.p = p then [min (max c.f a) b, min (max c.t a) b] else []) ++ rawG p a b l
theorem rawG_append (p a b : Int) (l m : List Ct) : rawG p a b (l ++ m) = rawG p a b l ++ rawG p a b m := by
  induction l with
  | nil => rfl
  | cons c l ih => simp [rawG, ih]
theorem rawG_len (p a b : Int) (l : List Ct) : (rawG p a b l).length ≤ 2 * l.length := by
  induction l with
  | nil => simp [rawG]
  | cons c l ih => simp only [rawG, List.length_append, List.length_cons]; split <;> simp <;> omega
theorem rawG_mem {p a b : Int} {l : List Ct} {c : Ct} (hc : c ∈ l) (hp : c.p = p) : min (max c.f a) b ∈ rawG p a b l ∧ min (max c.t a) b ∈ rawG p a b l := by
  induction l with
  | nil => cases hc
  | cons d l ih =>
    simp only [rawG, List.mem_append]
    rcases List.mem_cons.mp hc with rfl | h
    · rw [if_pos hp]; exact ⟨.inl (by simp), .inl (by simp)⟩
    · exact ⟨.inr (ih h).1, .inr (ih h).2⟩
theorem rawG_rng {p a b : Int} {l : List Ct} (hab : a ≤ b) {x : Int} (hx : x ∈ rawG p a b l) : a ≤ x ∧ x ≤ b := by
  induction l with
  | nil => cases hx
  | cons d l ih =>
    simp only [rawG, List.mem_append] at hx
    rcases hx with h | h
    · split at h
      · simp at h; omega
      · cases h
    · exact ih h

theorem marks_mk {p a b : Int} (hab : a ≤ b) (l : List Ct) : MK p a b l (Lib.compact (([a, b] ++ rawG p a b l).mergeSort fun x y => decide (x ≤ y))) := by
  have hm : ∀ x, x ∈ Lib.compact (([a, b] ++ rawG p a b l).mergeSort fun x y => decide (x ≤ y)) ↔ x ∈ [a, b] ++ rawG p a b l := fun x => by
    rw [mem_cpt]; exact (List.mergeSort_perm _ _).mem_iff
  refine ⟨cpt_sorted (srt_sorted _), (hm _).mpr (by simp), (hm _).mpr (by simp), fun x hx => ?_, fun c hc hp => ?_⟩
  · have := (hm x).mp hx
    rcases List.mem_append.mp this with h | h
    · simp at h; omega
    · exact rawG_rng hab h
  · exact ⟨(hm _).mpr (List.mem_append.mpr (.inr (rawG_mem hc hp).1)), (hm _).mpr (List.mem_append.mpr (.inr (rawG_mem hc hp).2))⟩

end Go.Proofs.Ytjolflpmeodnaai
