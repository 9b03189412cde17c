import Derived.Test.YtnfbfdngdkkffabDoorMath
namespace Go.Proofs.YtnfbfdngdkkffabDoor

theorem sz_mono (a b : Int) (h0 : 0 ≤ a) (h : a ≤ b) (h1 : b ≤ 18446744073709551615) : sz a ≤ sz b := by
  obtain ⟨a1, a2, a3, a4⟩ := sz_bounds a h0 (by omega)
  obtain ⟨b1, b2, b3, b4⟩ := sz_bounds b (by omega) h1
  by_cases hc : sz a ≤ sz b
  · exact hc
  · have := a4 (by omega)
    have hp : (128 : Int) ^ sz b ≤ 128 ^ (sz a - 1) := by
      have := Nat.pow_le_pow_right (n := 128) (by omega) (show sz b ≤ sz a - 1 by omega)
      exact_mod_cast this
    omega

theorem top_digit (n : Int) (h0 : 0 ≤ n) (h1 : n ≤ 18446744073709551615) (h : sz n - 1 ≠ 0) : n / 128 ^ (sz n - 1) % 128 ≠ 0 := by
  obtain ⟨a1, a2, a3, a4⟩ := sz_bounds n h0 h1
  have h4 := a4 (by omega)
  obtain ⟨k, hk⟩ : ∃ k, sz n = k + 1 := ⟨sz n - 1, by omega⟩
  rw [hk] at a3 h4 ⊢
  simp only [Nat.add_sub_cancel] at h4 ⊢
  have hp : (0 : Int) < 128 ^ k := Int.pow_pos (by omega)
  have l : 1 ≤ n / 128 ^ k := by rw [Int.le_ediv_iff_mul_le hp]; omega
  have u : n / 128 ^ k < 128 := by rw [Int.ediv_lt_iff_lt_mul hp]; rw [Int.pow_succ] at a3; rw [Int.mul_comm]; exact a3
  omega

theorem div_top (n : Int) (h0 : 0 ≤ n) (h1 : n ≤ 18446744073709551615) : n / 128 ^ (sz n - 1 + 1) = 0 := by
  obtain ⟨a1, a2, a3, a4⟩ := sz_bounds n h0 h1
  rw [show sz n - 1 + 1 = sz n from by omega]
  exact Int.ediv_eq_zero_of_lt h0 a3

/-- P1.6, on numbers: what is written is read, whatever stands behind. -/
theorem rd_enc (n : Int) (h0 : 0 ≤ n) (h1 : n ≤ 18446744073709551615) (rest : List Int) : rd (enc n ++ rest) = (n, (sz n : Int), 0) := by
  have hs := sz_bounds n h0 h1
  have := rdGo_tl n h0 h1 (sz n - 1) 0 rest (by omega) (fun _ hk => top_digit n h0 h1 hk)
  rw [div_top n h0 h1] at this
  unfold rd enc
  rw [this]
  congr 2
  omega

theorem first_diff : ∀ (k : Nat) (a b : Int), a < b → a / 128 ^ (k + 1) = b / 128 ^ (k + 1) → ∀ p, p < k + 1 → (∀ j, j < p → (tl a k).getD j 0 = (tl b k).getD j 0) → (tl a k).getD p 0 ≠ (tl b k).getD p 0 → (tl a k).getD p 0 < (tl b k).getD p 0
  | 0, a, b, hab, hd, p, hp, hj, hne => by
    obtain rfl : p = 0 := by omega
    simp only [tl, List.getD_cons_zero] at hne ⊢
    simp at hd
    omega
  | k + 1, a, b, hab, hd, p, hp, hj, hne => by
    have hs : ∀ n : Int, n / 128 ^ (k + 1) = 128 * (n / 128 ^ (k + 1 + 1)) + n / 128 ^ (k + 1) % 128 := by
      intro n
      rw [Int.pow_succ 128 (k + 1), ← Int.ediv_ediv_of_nonneg (Int.pow_nonneg (by omega))]; omega
    have ha := hs a
    have hb := hs b
    rw [hd] at ha
    have hle : a / 128 ^ (k + 1) ≤ b / 128 ^ (k + 1) := Int.ediv_le_ediv (Int.pow_pos (by omega)) (by omega)
    cases p with
    | zero =>
      simp only [tl, List.getD_cons_zero] at hne ⊢
      omega
    | succ p =>
      have h0 := hj 0 (by omega)
      simp only [tl, List.getD_cons_zero] at h0
      simp only [tl, List.getD_cons_succ] at hne ⊢
      refine first_diff k a b hab (by omega) p (by omega) (fun j hjp => ?_) hne
      have := hj (j + 1) (by omega)
      simpa only [tl, List.getD_cons_succ] using this

theorem enc_less (a b : Int) (h0 : 0 ≤ a) (h : a < b) (h1 : b ≤ 18446744073709551615) (hs : sz a = sz b) (p : Nat) (hp : p < sz a) (hj : ∀ j, j < p → (enc a).getD j 0 = (enc b).getD j 0) (hne : (enc a).getD p 0 ≠ (enc b).getD p 0) : (enc a).getD p 0 < (enc b).getD p 0 := by
  have e : enc a = tl a (sz b - 1) := by unfold enc; rw [hs]
  rw [e] at hj hne ⊢
  unfold enc at hj hne ⊢
  have hd : a / 128 ^ (sz b - 1 + 1) = b / 128 ^ (sz b - 1 + 1) := by
    rw [div_top b (by omega) h1, ← hs]; exact div_top a h0 (by omega)
  exact first_diff (sz b - 1) a b h hd p (by have := sz_bounds b (by omega) h1; omega) hj hne

theorem enc_apart (a b : Int) (h0 : 0 ≤ a) (h : a < b) (h1 : b ≤ 18446744073709551615) : ¬ ∀ j, j < sz a → (enc a).getD j 0 = (enc b).getD j 0 := by
  intro hj
  have hla := enc_length a h0 (by omega)
  have hlb := enc_length b (by omega) h1
  have hm := sz_mono a b h0 (by omega) h1
  have hpre : enc b = enc a ++ (enc b).drop (sz a) := by
    have : enc a = (enc b).take (sz a) := by
      apply List.ext_getElem
      · simp; omega
      · intro i hi1 hi2
        have := hj i (by omega)
        rw [List.getD_eq_getElem?_getD, List.getD_eq_getElem?_getD, List.getElem?_eq_getElem hi1, List.getElem?_eq_getElem (by omega)] at this
        simpa using this
    conv => lhs; rw [← List.take_append_drop (sz a) (enc b)]
    rw [← this]
  have e1 := rd_enc b (by omega) h1 []
  rw [List.append_nil, hpre, rd_enc a h0 (by omega)] at e1
  simp only [Prod.mk.injEq] at e1
  omega

theorem tl_bytes (n : Int) : ∀ k, ∀ z ∈ tl n k, 0 ≤ z ∧ z ≤ 255
  | 0, z, hz => by simp [tl] at hz; omega
  | k + 1, z, hz => by
    rw [tl, List.mem_cons] at hz
    rcases hz with rfl | hz
    · omega
    · exact tl_bytes n k z hz

end Go.Proofs.YtnfbfdngdkkffabDoor
