import Derived.Test.YtnfbfdngdkkffabDoorRisesMath
namespace Go.Proofs.YtnfbfdngdkkffabDoor

def Nums (l : List Int) : Prop := ∀ n ∈ l, 0 ≤ n ∧ n ≤ 18446744073709551615

/-- All, with what is gathered so far. -/
def alGo : Nat → List Int → List Int → List Int × Int
  | 0, acc, _ => (acc, 0)
  | f + 1, acc, zs => if zs = [] then (acc, 0) else if (rd zs).2.2 ≠ 0 then ([], (rd zs).2.2) else alGo f (acc ++ [(rd zs).1]) (zs.drop (rd zs).2.1.toNat)

def al (zs : List Int) : List Int × Int := alGo zs.length [] zs

theorem sz_eq (n : Int) (m : Nat) (h0 : 0 ≤ n) (h1 : n ≤ 18446744073709551615) (hu : n < 128 ^ (m + 1)) (hl : m = 0 ∨ (128 : Int) ^ m ≤ n) : sz n = m + 1 := by
  obtain ⟨a1, a2, a3, a4⟩ := sz_bounds n h0 h1
  have mono : ∀ i j : Nat, i ≤ j → (128 : Int) ^ i ≤ 128 ^ j := fun i j hij => by
    have := Nat.pow_le_pow_right (n := 128) (by omega) hij
    exact_mod_cast this
  rcases Nat.lt_trichotomy (sz n) (m + 1) with h | h | h
  · have := mono (sz n) m (by omega)
    rcases hl with rfl | hl <;> omega
  · exact h
  · have := mono (m + 1) (sz n - 1) (by omega)
    have := a4 (by omega)
    omega

theorem rdGo_inv : ∀ (zs : List Int) (v i n k e : Int), (∀ z ∈ zs, 0 ≤ z ∧ z ≤ 255) → 0 ≤ v → 0 ≤ i → rdGo v i zs = (n, k, e) →
    (e = 0 ∧ ∃ m : Nat, k = i + m + 1 ∧ m + 1 ≤ zs.length ∧ zs.take (m + 1) = tl n m ∧ n / 128 ^ (m + 1) = v ∧ 0 ≤ n ∧ n ≤ 18446744073709551615 ∧ (i = 0 → zs.head? ≠ some 128)) ∨ (e ≠ 0 ∧ n = 0 ∧ k = 0 ∧ 10 ≤ e ∧ e ≤ 12)
  | [], v, i, n, k, e, hb, hv, hi, h => by
    simp only [rdGo, Prod.mk.injEq] at h
    right; omega
  | c :: r, v, i, n, k, e, hb, hv, hi, h => by
    have hc := hb c (by simp)
    rw [rdGo] at h
    split at h
    · simp only [Prod.mk.injEq] at h; right; omega
    · rename_i hf
      split at h
      · simp only [Prod.mk.injEq] at h; right; omega
      · rename_i hr
        have hhead : i = 0 → (c :: r).head? ≠ some 128 := by
          intro h0 hh
          simp at hh
          exact hf ⟨h0, hh⟩
        split at h
        · rename_i hl
          simp only [Prod.mk.injEq] at h
          obtain ⟨rfl, rfl, rfl⟩ := h
          left
          refine ⟨rfl, 0, by omega, by simp, ?_, ?_, by omega, by omega, hhead⟩
          · simp only [Nat.zero_add, List.take_succ_cons, List.take_zero, tl]
            congr 1; omega
          · simp; omega
        · rename_i hl
          rcases rdGo_inv r (v * 128 + (c - 128)) (i + 1) n k e (fun z hz => hb z (by simp [hz])) (by omega) (by omega) h with ⟨he, m, hk, hm, ht, hd, hn0, hn1, _⟩ | hx
          · left
            refine ⟨he, m + 1, by omega, by simp; omega, ?_, ?_, hn0, hn1, hhead⟩
            · rw [List.take_succ_cons, ht, tl, hd]
              congr 1; omega
            · rw [Int.pow_succ 128 (m + 1), ← Int.ediv_ediv_of_nonneg (Int.pow_nonneg (by omega)), hd]; omega
          · right; exact hx

/-- P1.7, on numbers: what is read is written as it stood there. -/
theorem rd_inv (zs : List Int) (hb : ∀ z ∈ zs, 0 ≤ z ∧ z ≤ 255) :
    ((rd zs).2.2 = 0 ∧ (rd zs).2.1 = (sz (rd zs).1 : Int) ∧ sz (rd zs).1 ≤ zs.length ∧ zs.take (sz (rd zs).1) = enc (rd zs).1 ∧ 0 ≤ (rd zs).1 ∧ (rd zs).1 ≤ 18446744073709551615) ∨ ((rd zs).2.2 ≠ 0 ∧ (rd zs).1 = 0 ∧ (rd zs).2.1 = 0 ∧ 10 ≤ (rd zs).2.2 ∧ (rd zs).2.2 ≤ 12) := by
  rcases rdGo_inv zs 0 0 (rd zs).1 (rd zs).2.1 (rd zs).2.2 hb (by omega) (by omega) rfl with ⟨he, m, hk, hm, ht, hd, hn0, hn1, hh⟩ | hx
  · left
    generalize (rd zs).1 = n at *
    have hp : (0 : Int) < 128 ^ (m + 1) := Int.pow_pos (by omega)
    have hu : n < 128 ^ (m + 1) := by
      have := Int.lt_ediv_add_one_mul_self n hp
      rw [hd] at this; omega
    have hl : m = 0 ∨ (128 : Int) ^ m ≤ n := by
      cases m with
      | zero => left; rfl
      | succ m =>
        right
        have hp' : (0 : Int) < 128 ^ (m + 1) := Int.pow_pos (by omega)
        have h1 : zs.head? = some (n / 128 ^ (m + 1) % 128 + 128) := by
          cases zs with
          | nil => simp at hm
          | cons c r =>
            rw [List.take_succ_cons, tl] at ht
            simp only [List.cons.injEq] at ht
            simp [ht.1]
        have h2 := hh rfl
        rw [h1] at h2
        simp at h2
        have hnn : 0 ≤ n / 128 ^ (m + 1) := Int.ediv_nonneg hn0 (by omega)
        have h3 : 1 ≤ n / 128 ^ (m + 1) := by omega
        rw [Int.le_ediv_iff_mul_le hp'] at h3
        omega
    have hs := sz_eq n m hn0 hn1 hu hl
    refine ⟨he, by omega, by omega, ?_, hn0, hn1⟩
    rw [hs, ht]; unfold enc; rw [hs]; rfl
  · right; exact hx

theorem alGo_inv : ∀ (f : Nat) (acc zs : List Int), zs.length ≤ f → (∀ z ∈ zs, 0 ≤ z ∧ z ≤ 255) →
    ((alGo f acc zs).2 = 0 ∧ ∃ l, (alGo f acc zs).1 = acc ++ l ∧ l.flatMap enc = zs ∧ Nums l ∧ l.length ≤ zs.length) ∨ ((alGo f acc zs).2 ≠ 0 ∧ (alGo f acc zs).1 = [] ∧ 10 ≤ (alGo f acc zs).2 ∧ (alGo f acc zs).2 ≤ 12)
  | 0, acc, zs, hf, hb => by
    obtain rfl : zs = [] := List.eq_nil_of_length_eq_zero (by omega)
    left; exact ⟨rfl, [], by simp [alGo], rfl, (fun _ h => by cases h), Nat.le_refl _⟩
  | f + 1, acc, zs, hf, hb => by
    rw [alGo]
    by_cases hz : zs = []
    · subst hz; left; exact ⟨rfl, [], by simp, rfl, (fun _ h => by cases h), Nat.le_refl _⟩
    · rw [if_neg hz]
      rcases rd_inv zs hb with ⟨he, hk, hl, ht, hn0, hn1⟩ | ⟨he, hx⟩
      · rw [if_neg (by simp [he])]
        have hsz := sz_bounds (rd zs).1 hn0 hn1
        have e : (rd zs).2.1.toNat = sz (rd zs).1 := by omega
        rw [e]
        rcases alGo_inv f (acc ++ [(rd zs).1]) (zs.drop (sz (rd zs).1)) (by simp; omega) (fun z hz => hb z (List.mem_of_mem_drop hz)) with ⟨h1, l, h2, h3, h4, h5⟩ | hx
        · left
          refine ⟨h1, (rd zs).1 :: l, by rw [h2]; simp, ?_, ?_, ?_⟩
          · rw [List.flatMap_cons, h3, ← ht, List.take_append_drop]
          · intro n hn
            rcases List.mem_cons.1 hn with rfl | hn
            · exact ⟨hn0, hn1⟩
            · exact h4 n hn
          · simp at h5 ⊢; omega
        · right; exact hx
      · rw [if_pos he]
        right; exact ⟨he, rfl, hx.2.2.1, hx.2.2.2⟩

theorem alGo_fuel : ∀ (f g : Nat) (acc zs : List Int), zs.length ≤ f → zs.length ≤ g → (∀ z ∈ zs, 0 ≤ z ∧ z ≤ 255) → alGo f acc zs = alGo g acc zs
  | 0, g, acc, zs, hf, hg, hb => by
    obtain rfl : zs = [] := List.eq_nil_of_length_eq_zero (by omega)
    cases g <;> simp [alGo]
  | f + 1, 0, acc, zs, hf, hg, hb => by
    obtain rfl : zs = [] := List.eq_nil_of_length_eq_zero (by omega)
    simp [alGo]
  | f + 1, g + 1, acc, zs, hf, hg, hb => by
    rw [alGo, alGo]
    by_cases hz : zs = []
    · rw [if_pos hz, if_pos hz]
    · rw [if_neg hz, if_neg hz]
      rcases rd_inv zs hb with ⟨he, hk, hl, ht, hn0, hn1⟩ | ⟨he, hx⟩
      · have hsz := sz_bounds (rd zs).1 hn0 hn1
        rw [if_neg (by simp [he]), if_neg (by simp [he]), show (rd zs).2.1.toNat = sz (rd zs).1 from by omega]
        exact alGo_fuel f g _ _ (by simp; omega) (by simp; omega) (fun z hz => hb z (List.mem_of_mem_drop hz))
      · rw [if_pos he, if_pos he]

theorem alGo_step (zs : List Int) (m : Nat) (acc : List Int) (hm : m < zs.length) (hb : ∀ z ∈ zs, 0 ≤ z ∧ z ≤ 255) (he : (rd (zs.drop m)).2.2 = 0) (hk : (rd (zs.drop m)).2.1 = (sz (rd (zs.drop m)).1 : Int)) (hs : 1 ≤ sz (rd (zs.drop m)).1) :
    alGo (zs.length - (m + sz (rd (zs.drop m)).1)) (acc ++ [(rd (zs.drop m)).1]) (zs.drop (m + sz (rd (zs.drop m)).1)) = alGo (zs.length - m) acc (zs.drop m) := by
  obtain ⟨f, hf⟩ : ∃ f, zs.length - m = f + 1 := ⟨zs.length - m - 1, by omega⟩
  have hne : zs.drop m ≠ [] := by intro h; have := congrArg List.length h; simp at this; omega
  rw [hf, alGo, if_neg hne, if_neg (by simp [he]), hk, Int.toNat_natCast, List.drop_drop]
  exact alGo_fuel _ _ _ _ (by simp) (by simp; omega) (fun z hz => hb z (List.mem_of_mem_drop hz))

theorem alGo_bad (zs : List Int) (m : Nat) (acc : List Int) (hm : m < zs.length) (he : (rd (zs.drop m)).2.2 ≠ 0) : alGo (zs.length - m) acc (zs.drop m) = ([], (rd (zs.drop m)).2.2) := by
  obtain ⟨f, hf⟩ : ∃ f, zs.length - m = f + 1 := ⟨zs.length - m - 1, by omega⟩
  have hne : zs.drop m ≠ [] := by intro h; have := congrArg List.length h; simp at this; omega
  rw [hf, alGo, if_neg hne, if_pos he]

theorem al_inv (zs : List Int) (hb : ∀ z ∈ zs, 0 ≤ z ∧ z ≤ 255) : Nums (al zs).1 ∧ (al zs).1.length ≤ zs.length ∧ (((al zs).2 = 0 ∧ (al zs).1.flatMap enc = zs) ∨ ((al zs).2 ≠ 0 ∧ (al zs).1 = [] ∧ 10 ≤ (al zs).2 ∧ (al zs).2 ≤ 12)) := by
  rcases alGo_inv zs.length [] zs (Nat.le_refl _) hb with ⟨h1, l, h2, h3, h4, h5⟩ | hx
  · rw [List.nil_append] at h2
    unfold al
    rw [h2]
    exact ⟨h4, h5, .inl ⟨h1, h3⟩⟩
  · refine ⟨?_, ?_, .inr hx⟩
    · have := hx.2.1; unfold al; rw [this]; exact fun _ h => by cases h
    · have := hx.2.1; unfold al; rw [this]; exact Nat.zero_le _

theorem al_first (zs : List Int) (hz : zs ≠ []) (he : (rd zs).2.2 ≠ 0) : (al zs).2 = (rd zs).2.2 := by
  unfold al
  obtain ⟨f, hf⟩ : ∃ f, zs.length = f + 1 := by cases zs with | nil => exact absurd rfl hz | cons c r => exact ⟨r.length, rfl⟩
  rw [hf, alGo, if_neg hz, if_pos he]

/-- P1.6, of a row of numbers. -/
theorem alGo_enc : ∀ (l : List Int) (f : Nat) (acc : List Int), Nums l → (l.flatMap enc).length ≤ f → alGo f acc (l.flatMap enc) = (acc ++ l, 0)
  | [], f, acc, _, _ => by cases f <;> simp [alGo]
  | n :: l, f, acc, hn, hf => by
    have h := hn n (by simp)
    have hs := sz_bounds n h.1 h.2
    have hl := enc_length n h.1 h.2
    have hp : (enc n ++ l.flatMap enc).length = sz n + (l.flatMap enc).length := by rw [List.length_append, hl]
    rw [List.flatMap_cons] at hf ⊢
    obtain ⟨g, rfl⟩ : ∃ g, f = g + 1 := ⟨f - 1, by omega⟩
    have hne : enc n ++ l.flatMap enc ≠ [] := by intro h0; rw [h0] at hp; simp at hp; omega
    rw [alGo, if_neg hne, rd_enc n h.1 h.2, if_neg (by simp)]
    simp only [Int.toNat_natCast]
    rw [show (enc n ++ l.flatMap enc).drop (sz n) = l.flatMap enc from by rw [← hl, List.drop_left], alGo_enc l g (acc ++ [n]) (fun z hz => hn z (by simp [hz])) (by omega)]
    simp

theorem al_enc (l : List Int) (hn : Nums l) : al (l.flatMap enc) = (l, 0) := by
  have := alGo_enc l (l.flatMap enc).length [] hn (Nat.le_refl _)
  simpa [al] using this

theorem enc_bytes (n : Int) : ∀ z ∈ enc n, 0 ≤ z ∧ z ≤ 255 := tl_bytes n _

theorem join_bytes (l : List Int) : ∀ z ∈ l.flatMap enc, 0 ≤ z ∧ z ≤ 255 := by
  intro z hz
  obtain ⟨n, _, h⟩ := List.mem_flatMap.1 hz
  exact enc_bytes n z h

theorem join_length (l : List Int) (h : Nums l) : (l.flatMap enc).length ≤ 10 * l.length := by
  induction l with
  | nil => simp
  | cons n l ih =>
    have hn := h n (by simp)
    have hs := sz_bounds n hn.1 hn.2
    have hl := enc_length n hn.1 hn.2
    have := ih (fun z hz => h z (by simp [hz]))
    rw [List.flatMap_cons, List.length_append, hl, List.length_cons]
    omega

/-- Numbers as bytes, one behind the other. -/
def jn (l : List Int) : List Int := l.flatMap enc
theorem jn_snoc (l : List Int) (n : Int) : jn (l ++ [n]) = jn l ++ enc n := by simp [jn, List.flatMap_append]
theorem jn_length (l : List Int) (h : Nums l) : (jn l).length ≤ 10 * l.length := join_length l h
theorem jn_bytes (l : List Int) : ∀ z ∈ jn l, 0 ≤ z ∧ z ≤ 255 := join_bytes l
theorem al_jn (l : List Int) (hn : Nums l) : al (jn l) = (l, 0) := al_enc l hn
theorem jn_al (zs : List Int) (hb : ∀ z ∈ zs, 0 ≤ z ∧ z ≤ 255) : Nums (al zs).1 ∧ (al zs).1.length ≤ zs.length ∧ (((al zs).2 = 0 ∧ jn (al zs).1 = zs) ∨ ((al zs).2 ≠ 0 ∧ (al zs).1 = [] ∧ 10 ≤ (al zs).2 ∧ (al zs).2 ≤ 12)) := al_inv zs hb

end Go.Proofs.YtnfbfdngdkkffabDoor
