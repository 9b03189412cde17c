import Derived.Lib.BitFns
namespace Go.Proofs.YtcfodcioeefbeaaDoor

/-- How many bytes a number has: its bits (0 has one, too) in groups of seven. -/
def sz (n : Int) : Nat := (Lib.bitLen (Nat.lor n.toNat 1) + 6) / 7

/-- The digits of n from the one with the place k down to the last; all but the last with the mark 128. -/
def tl (n : Int) : Nat → List Int
  | 0 => [n % 128]
  | k + 1 => (n / 128 ^ (k + 1) % 128 + 128) :: tl n k

/-- A number as bytes. -/
def enc (n : Int) : List Int := tl n (sz n - 1)

theorem tl_length (n : Int) (k : Nat) : (tl n k).length = k + 1 := by
  induction k with
  | zero => rfl
  | succ k ih => simp [tl, ih]

/-- Reading on: the number so far, how many bytes are read, what is left. The answer: number, bytes, error. -/
def rdGo (v i : Int) : List Int → Int × Int × Int
  | [] => (0, 0, 10)
  | c :: r =>
    if i = 0 ∧ c = 128 then (0, 0, 11)
    else if 144115188075855871 < v then (0, 0, 12)
    else if c < 128 then (v * 128 + c, i + 1, 0)
    else rdGo (v * 128 + (c - 128)) (i + 1) r

def rd (b : List Int) : Int × Int × Int := rdGo 0 0 b

theorem bitLen_bounds : ∀ (f x : Nat), x < 2 ^ f → x ≠ 0 → 1 ≤ Lib.bitLenAux f x ∧ 2 ^ (Lib.bitLenAux f x - 1) ≤ x ∧ x < 2 ^ Lib.bitLenAux f x
  | 0, x, h, h0 => by simp at h; omega
  | f + 1, x, h, h0 => by
    rw [Lib.bitLenAux, if_neg h0]
    by_cases h2 : x / 2 = 0
    · have : Lib.bitLenAux f (x / 2) = 0 := by rw [h2]; cases f <;> simp [Lib.bitLenAux]
      rw [this]; simp; omega
    · obtain ⟨a, b, c⟩ := bitLen_bounds f (x / 2) (by rw [Nat.pow_succ] at h; omega) h2
      generalize Lib.bitLenAux f (x / 2) = K at a b c ⊢
      refine ⟨by omega, ?_, ?_⟩
      · rw [show 1 + K - 1 = (K - 1) + 1 from by omega, Nat.pow_succ]; omega
      · rw [show 1 + K = K + 1 from by omega, Nat.pow_succ]; omega

theorem lor_one (x : Nat) : Nat.lor x 1 = x / 2 * 2 + 1 := by
  have h : x ||| 1 = x / 2 * 2 + 1 := by
    apply Nat.eq_of_testBit_eq
    intro i
    cases i with
    | zero => simp [Nat.testBit_zero]
    | succ i =>
      rw [Nat.testBit_succ, Nat.testBit_succ, Nat.or_div_two]
      congr 1
      simp; omega
  exact h

theorem sz_bounds (n : Int) (h0 : 0 ≤ n) (h1 : n ≤ 18446744073709551615) :
    1 ≤ sz n ∧ sz n ≤ 10 ∧ n < 128 ^ sz n ∧ (1 < sz n → (128 : Int) ^ (sz n - 1) ≤ n) := by
  obtain ⟨x, rfl⟩ : ∃ x : Nat, n = x := ⟨n.toNat, by omega⟩
  have hx : x < 2 ^ 64 := by omega
  have e : sz (x : Int) = (Lib.bitLenAux 64 (x / 2 * 2 + 1) + 6) / 7 := by
    unfold sz Lib.bitLen; rw [Int.toNat_natCast, lor_one]
  obtain ⟨a, b, c⟩ := bitLen_bounds 64 (x / 2 * 2 + 1) (by omega) (by omega)
  have hl : Lib.bitLenAux 64 (x / 2 * 2 + 1) ≤ 64 := Lib.bitLen_le _ 64 (Nat.le_refl _) (by omega)
  generalize Lib.bitLenAux 64 (x / 2 * 2 + 1) = K at a b c hl e
  rw [e]
  have hp : ∀ s : Nat, ((128 : Int) ^ s) = ((2 ^ (7 * s) : Nat) : Int) := by
    intro s; rw [Nat.pow_mul]; simp
  have up : x < 2 ^ (7 * ((K + 6) / 7)) := by
    have : 2 ^ K ≤ 2 ^ (7 * ((K + 6) / 7)) := Nat.pow_le_pow_right (by omega) (by omega)
    have hev : 2 ∣ 2 ^ K := by
      obtain ⟨K', rfl⟩ : ∃ K', K = K' + 1 := ⟨K - 1, by omega⟩
      exact ⟨2 ^ K', by rw [Nat.pow_succ]; omega⟩
    omega
  refine ⟨by omega, by omega, ?_, ?_⟩
  · rw [hp]; exact_mod_cast up
  · intro h
    rw [hp]
    have : 2 ^ (7 * ((K + 6) / 7 - 1)) ≤ 2 ^ (K - 1) := Nat.pow_le_pow_right (by omega) (by omega)
    have hev : 2 ∣ 2 ^ (7 * ((K + 6) / 7 - 1)) := by
      obtain ⟨m, hm⟩ : ∃ m, 7 * ((K + 6) / 7 - 1) = m + 1 := ⟨7 * ((K + 6) / 7 - 1) - 1, by omega⟩
      rw [hm]; exact ⟨2 ^ m, by rw [Nat.pow_succ]; omega⟩
    have : 2 ^ (7 * ((K + 6) / 7 - 1)) ≤ x := by omega
    exact_mod_cast this

theorem enc_length (n : Int) (h0 : 0 ≤ n) (h1 : n ≤ 18446744073709551615) : (enc n).length = sz n := by
  have := sz_bounds n h0 h1
  unfold enc; rw [tl_length]; omega

/-- Reading what is written. -/
theorem rdGo_tl (n : Int) (h0 : 0 ≤ n) (h1 : n ≤ 18446744073709551615) : ∀ (k : Nat) (i : Int) (rest : List Int), 0 ≤ i → (i = 0 → k ≠ 0 → n / 128 ^ k % 128 ≠ 0) →
    rdGo (n / 128 ^ (k + 1)) i (tl n k ++ rest) = (n, i + (k + 1), 0)
  | 0, i, rest, hi, h => by
    simp only [tl, List.cons_append, List.nil_append, rdGo]
    rw [if_neg (by omega), if_neg (by simp; omega), if_pos (by omega)]
    simp; omega
  | k + 1, i, rest, hi, h => by
    simp only [tl, List.cons_append, rdGo]
    have hv : n / 128 ^ (k + 1 + 1) ≤ n / 128 := by
      rw [show (128 : Int) ^ (k + 1 + 1) = 128 * 128 ^ (k + 1) from by rw [Int.pow_succ]; omega, ← Int.ediv_ediv_of_nonneg (by omega)]
      exact Int.ediv_le_self _ (by omega)
    have hs : n / 128 ^ (k + 1 + 1) * 128 + (n / 128 ^ (k + 1) % 128 + 128 - 128) = n / 128 ^ (k + 1) := by
      rw [Int.pow_succ 128 (k + 1), ← Int.ediv_ediv_of_nonneg (Int.pow_nonneg (by omega))]; omega
    rw [if_neg (by intro ⟨a, b⟩; exact h a (by omega) (by omega)), if_neg (by omega), if_neg (by omega), hs, rdGo_tl n h0 h1 k (i + 1) rest (by omega) (by omega)]
    simp; omega

end Go.Proofs.YtcfodcioeefbeaaDoor

namespace Go.Proofs.YtcfodcioeefbeaaDoor

theorem sz_mono (a b : Int) (h0 : 0 ≤ a) (h : a ≤ b) (h1 : b ≤ 18446744073709551615) : sz a ≤ sz b := by
  obtain ⟨a1, a2, a3, a4⟩ := sz_bounds a h0 (by omega)
  obtain ⟨b1, b2, b3, b4⟩ := sz_bounds b (by omega) h1
  by_cases hc : sz a ≤ sz b
  · exact hc
  · have := a4 (by omega)
    have hp : (128 : Int) ^ sz b ≤ 128 ^ (sz a - 1) := by
      have := Nat.pow_le_pow_right (n := 128) (by omega) (show sz b ≤ sz a - 1 by omega)
      exact_mod_cast this
    omega

theorem top_digit (n : Int) (h0 : 0 ≤ n) (h1 : n ≤ 18446744073709551615) (h : sz n - 1 ≠ 0) : n / 128 ^ (sz n - 1) % 128 ≠ 0 := by
  obtain ⟨a1, a2, a3, a4⟩ := sz_bounds n h0 h1
  have h4 := a4 (by omega)
  obtain ⟨k, hk⟩ : ∃ k, sz n = k + 1 := ⟨sz n - 1, by omega⟩
  rw [hk] at a3 h4 ⊢
  simp only [Nat.add_sub_cancel] at h4 ⊢
  have hp : (0 : Int) < 128 ^ k := Int.pow_pos (by omega)
  have l : 1 ≤ n / 128 ^ k := by rw [Int.le_ediv_iff_mul_le hp]; omega
  have u : n / 128 ^ k < 128 := by rw [Int.ediv_lt_iff_lt_mul hp]; rw [Int.pow_succ] at a3; rw [Int.mul_comm]; exact a3
  omega

theorem div_top (n : Int) (h0 : 0 ≤ n) (h1 : n ≤ 18446744073709551615) : n / 128 ^ (sz n - 1 + 1) = 0 := by
  obtain ⟨a1, a2, a3, a4⟩ := sz_bounds n h0 h1
  rw [show sz n - 1 + 1 = sz n from by omega]
  exact Int.ediv_eq_zero_of_lt h0 a3

/-- P1.6, on numbers: what is written is read, whatever stands behind. -/
theorem rd_enc (n : Int) (h0 : 0 ≤ n) (h1 : n ≤ 18446744073709551615) (rest : List Int) : rd (enc n ++ rest) = (n, (sz n : Int), 0) := by
  have hs := sz_bounds n h0 h1
  have := rdGo_tl n h0 h1 (sz n - 1) 0 rest (by omega) (fun _ hk => top_digit n h0 h1 hk)
  rw [div_top n h0 h1] at this
  unfold rd enc
  rw [this]
  congr 2
  omega

theorem first_diff : ∀ (k : Nat) (a b : Int), a < b → a / 128 ^ (k + 1) = b / 128 ^ (k + 1) → ∀ p, p < k + 1 → (∀ j, j < p → (tl a k).getD j 0 = (tl b k).getD j 0) → (tl a k).getD p 0 ≠ (tl b k).getD p 0 → (tl a k).getD p 0 < (tl b k).getD p 0
  | 0, a, b, hab, hd, p, hp, hj, hne => by
    obtain rfl : p = 0 := by omega
    simp only [tl, List.getD_cons_zero] at hne ⊢
    simp at hd
    omega
  | k + 1, a, b, hab, hd, p, hp, hj, hne => by
    have hs : ∀ n : Int, n / 128 ^ (k + 1) = 128 * (n / 128 ^ (k + 1 + 1)) + n / 128 ^ (k + 1) % 128 := by
      intro n
      rw [Int.pow_succ 128 (k + 1), ← Int.ediv_ediv_of_nonneg (Int.pow_nonneg (by omega))]; omega
    have ha := hs a
    have hb := hs b
    rw [hd] at ha
    have hle : a / 128 ^ (k + 1) ≤ b / 128 ^ (k + 1) := Int.ediv_le_ediv (Int.pow_pos (by omega)) (by omega)
    cases p with
    | zero =>
      simp only [tl, List.getD_cons_zero] at hne ⊢
      omega
    | succ p =>
      have h0 := hj 0 (by omega)
      simp only [tl, List.getD_cons_zero] at h0
      simp only [tl, List.getD_cons_succ] at hne ⊢
      refine first_diff k a b hab (by omega) p (by omega) (fun j hjp => ?_) hne
      have := hj (j + 1) (by omega)
      simpa only [tl, List.getD_cons_succ] using this

theorem enc_less (a b : Int) (h0 : 0 ≤ a) (h : a < b) (h1 : b ≤ 18446744073709551615) (hs : sz a = sz b) (p : Nat) (hp : p < sz a) (hj : ∀ j, j < p → (enc a).getD j 0 = (enc b).getD j 0) (hne : (enc a).getD p 0 ≠ (enc b).getD p 0) : (enc a).getD p 0 < (enc b).getD p 0 := by
  have e : enc a = tl a (sz b - 1) := by unfold enc; rw [hs]
  rw [e] at hj hne ⊢
  unfold enc at hj hne ⊢
  have hd : a / 128 ^ (sz b - 1 + 1) = b / 128 ^ (sz b - 1 + 1) := by
    rw [div_top b (by omega) h1, ← hs]; exact div_top a h0 (by omega)
  exact first_diff (sz b - 1) a b h hd p (by have := sz_bounds b (by omega) h1; omega) hj hne

theorem enc_apart (a b : Int) (h0 : 0 ≤ a) (h : a < b) (h1 : b ≤ 18446744073709551615) : ¬ ∀ j, j < sz a → (enc a).getD j 0 = (enc b).getD j 0 := by
  intro hj
  have hla := enc_length a h0 (by omega)
  have hlb := enc_length b (by omega) h1
  have hm := sz_mono a b h0 (by omega) h1
  have hpre : enc b = enc a ++ (enc b).drop (sz a) := by
    have : enc a = (enc b).take (sz a) := by
      apply List.ext_getElem
      · simp; omega
      · intro i hi1 hi2
        have := hj i (by omega)
        rw [List.getD_eq_getElem?_getD, List.getD_eq_getElem?_getD, List.getElem?_eq_getElem hi1, List.getElem?_eq_getElem (by omega)] at this
        simpa using this
    conv => lhs; rw [← List.take_append_drop (sz a) (enc b)]
    rw [← this]
  have e1 := rd_enc b (by omega) h1 []
  rw [List.append_nil, hpre, rd_enc a h0 (by omega)] at e1
  simp only [Prod.mk.injEq] at e1
  omega

theorem tl_bytes (n : Int) : ∀ k, ∀ z ∈ tl n k, 0 ≤ z ∧ z ≤ 255
  | 0, z, hz => by simp [tl] at hz; omega
  | k + 1, z, hz => by
    rw [tl, List.mem_cons] at hz
    rcases hz with rfl | hz
    · omega
    · exact tl_bytes n k z hz

end Go.Proofs.YtcfodcioeefbeaaDoor

namespace Go.Proofs.YtcfodcioeefbeaaDoor

def Nums (l : List Int) : Prop := ∀ n ∈ l, 0 ≤ n ∧ n ≤ 18446744073709551615

/-- All, with what is gathered so far. -/
def alGo : Nat → List Int → List Int → List Int × Int
  | 0, acc, _ => (acc, 0)
  | f + 1, acc, zs => if zs = [] then (acc, 0) else if (rd zs).2.2 ≠ 0 then ([], (rd zs).2.2) else alGo f (acc ++ [(rd zs).1]) (zs.drop (rd zs).2.1.toNat)

def al (zs : List Int) : List Int × Int := alGo zs.length [] zs

theorem sz_eq (n : Int) (m : Nat) (h0 : 0 ≤ n) (h1 : n ≤ 18446744073709551615) (hu : n < 128 ^ (m + 1)) (hl : m = 0 ∨ (128 : Int) ^ m ≤ n) : sz n = m + 1 := by
  obtain ⟨a1, a2, a3, a4⟩ := sz_bounds n h0 h1
  have mono : ∀ i j : Nat, i ≤ j → (128 : Int) ^ i ≤ 128 ^ j := fun i j hij => by
    have := Nat.pow_le_pow_right (n := 128) (by omega) hij
    exact_mod_cast this
  rcases Nat.lt_trichotomy (sz n) (m + 1) with h | h | h
  · have := mono (sz n) m (by omega)
    rcases hl with rfl | hl <;> omega
  · exact h
  · have := mono (m + 1) (sz n - 1) (by omega)
    have := a4 (by omega)
    omega

theorem rdGo_inv : ∀ (zs : List Int) (v i n k e : Int), (∀ z ∈ zs, 0 ≤ z ∧ z ≤ 255) → 0 ≤ v → 0 ≤ i → rdGo v i zs = (n, k, e) →
    (e = 0 ∧ ∃ m : Nat, k = i + m + 1 ∧ m + 1 ≤ zs.length ∧ zs.take (m + 1) = tl n m ∧ n / 128 ^ (m + 1) = v ∧ 0 ≤ n ∧ n ≤ 18446744073709551615 ∧ (i = 0 → zs.head? ≠ some 128)) ∨ (e ≠ 0 ∧ n = 0 ∧ k = 0 ∧ 10 ≤ e ∧ e ≤ 12)
  | [], v, i, n, k, e, hb, hv, hi, h => by
    simp only [rdGo, Prod.mk.injEq] at h
    right; omega
  | c :: r, v, i, n, k, e, hb, hv, hi, h => by
    have hc := hb c (by simp)
    rw [rdGo] at h
    split at h
    · simp only [Prod.mk.injEq] at h; right; omega
    · rename_i hf
      split at h
      · simp only [Prod.mk.injEq] at h; right; omega
      · rename_i hr
        have hhead : i = 0 → (c :: r).head? ≠ some 128 := by
          intro h0 hh
          simp at hh
          exact hf ⟨h0, hh⟩
        split at h
        · rename_i hl
          simp only [Prod.mk.injEq] at h
          obtain ⟨rfl, rfl, rfl⟩ := h
          left
          refine ⟨rfl, 0, by omega, by simp, ?_, ?_, by omega, by omega, hhead⟩
          · simp only [Nat.zero_add, List.take_succ_cons, List.take_zero, tl]
            congr 1; omega
          · simp; omega
        · rename_i hl
          rcases rdGo_inv r (v * 128 + (c - 128)) (i + 1) n k e (fun z hz => hb z (by simp [hz])) (by omega) (by omega) h with ⟨he, m, hk, hm, ht, hd, hn0, hn1, _⟩ | hx
          · left
            refine ⟨he, m + 1, by omega, by simp; omega, ?_, ?_, hn0, hn1, hhead⟩
            · rw [List.take_succ_cons, ht, tl, hd]
              congr 1; omega
            · rw [Int.pow_succ 128 (m + 1), ← Int.ediv_ediv_of_nonneg (Int.pow_nonneg (by omega)), hd]; omega
          · right; exact hx

/-- P1.7, on numbers: what is read is written as it stood there. -/
theorem rd_inv (zs : List Int) (hb : ∀ z ∈ zs, 0 ≤ z ∧ z ≤ 255) :
    ((rd zs).2.2 = 0 ∧ (rd zs).2.1 = (sz (rd zs).1 : Int) ∧ sz (rd zs).1 ≤ zs.length ∧ zs.take (sz (rd zs).1) = enc (rd zs).1 ∧ 0 ≤ (rd zs).1 ∧ (rd zs).1 ≤ 18446744073709551615) ∨ ((rd zs).2.2 ≠ 0 ∧ (rd zs).1 = 0 ∧ (rd zs).2.1 = 0 ∧ 10 ≤ (rd zs).2.2 ∧ (rd zs).2.2 ≤ 12) := by
  rcases rdGo_inv zs 0 0 (rd zs).1 (rd zs).2.1 (rd zs).2.2 hb (by omega) (by omega) rfl with ⟨he, m, hk, hm, ht, hd, hn0, hn1, hh⟩ | hx
  · left
    generalize (rd zs).1 = n at *
    have hp : (0 : Int) < 128 ^ (m + 1) := Int.pow_pos (by omega)
    have hu : n < 128 ^ (m + 1) := by
      have := Int.lt_ediv_add_one_mul_self n hp
      rw [hd] at this; omega
    have hl : m = 0 ∨ (128 : Int) ^ m ≤ n := by
      cases m with
      | zero => left; rfl
      | succ m =>
        right
        have hp' : (0 : Int) < 128 ^ (m + 1) := Int.pow_pos (by omega)
        have h1 : zs.head? = some (n / 128 ^ (m + 1) % 128 + 128) := by
          cases zs with
          | nil => simp at hm
          | cons c r =>
            rw [List.take_succ_cons, tl] at ht
            simp only [List.cons.injEq] at ht
            simp [ht.1]
        have h2 := hh rfl
        rw [h1] at h2
        simp at h2
        have hnn : 0 ≤ n / 128 ^ (m + 1) := Int.ediv_nonneg hn0 (by omega)
        have h3 : 1 ≤ n / 128 ^ (m + 1) := by omega
        rw [Int.le_ediv_iff_mul_le hp'] at h3
        omega
    have hs := sz_eq n m hn0 hn1 hu hl
    refine ⟨he, by omega, by omega, ?_, hn0, hn1⟩
    rw [hs, ht]; unfold enc; rw [hs]; rfl
  · right; exact hx

theorem alGo_inv : ∀ (f : Nat) (acc zs : List Int), zs.length ≤ f → (∀ z ∈ zs, 0 ≤ z ∧ z ≤ 255) →
    ((alGo f acc zs).2 = 0 ∧ ∃ l, (alGo f acc zs).1 = acc ++ l ∧ l.flatMap enc = zs ∧ Nums l ∧ l.length ≤ zs.length) ∨ ((alGo f acc zs).2 ≠ 0 ∧ (alGo f acc zs).1 = [] ∧ 10 ≤ (alGo f acc zs).2 ∧ (alGo f acc zs).2 ≤ 12)
  | 0, acc, zs, hf, hb => by
    obtain rfl : zs = [] := List.eq_nil_of_length_eq_zero (by omega)
    left; exact ⟨rfl, [], by simp [alGo], rfl, (fun _ h => by cases h), Nat.le_refl _⟩
  | f + 1, acc, zs, hf, hb => by
    rw [alGo]
    by_cases hz : zs = []
    · subst hz; left; exact ⟨rfl, [], by simp, rfl, (fun _ h => by cases h), Nat.le_refl _⟩
    · rw [if_neg hz]
      rcases rd_inv zs hb with ⟨he, hk, hl, ht, hn0, hn1⟩ | ⟨he, hx⟩
      · rw [if_neg (by simp [he])]
        have hsz := sz_bounds (rd zs).1 hn0 hn1
        have e : (rd zs).2.1.toNat = sz (rd zs).1 := by omega
        rw [e]
        rcases alGo_inv f (acc ++ [(rd zs).1]) (zs.drop (sz (rd zs).1)) (by simp; omega) (fun z hz => hb z (List.mem_of_mem_drop hz)) with ⟨h1, l, h2, h3, h4, h5⟩ | hx
        · left
          refine ⟨h1, (rd zs).1 :: l, by rw [h2]; simp, ?_, ?_, ?_⟩
          · rw [List.flatMap_cons, h3, ← ht, List.take_append_drop]
          · intro n hn
            rcases List.mem_cons.1 hn with rfl | hn
            · exact ⟨hn0, hn1⟩
            · exact h4 n hn
          · simp at h5 ⊢; omega
        · right; exact hx
      · rw [if_pos he]
        right; exact ⟨he, rfl, hx.2.2.1, hx.2.2.2⟩

theorem alGo_fuel : ∀ (f g : Nat) (acc zs : List Int), zs.length ≤ f → zs.length ≤ g → (∀ z ∈ zs, 0 ≤ z ∧ z ≤ 255) → alGo f acc zs = alGo g acc zs
  | 0, g, acc, zs, hf, hg, hb => by
    obtain rfl : zs = [] := List.eq_nil_of_length_eq_zero (by omega)
    cases g <;> simp [alGo]
  | f + 1, 0, acc, zs, hf, hg, hb => by
    obtain rfl : zs = [] := List.eq_nil_of_length_eq_zero (by omega)
    simp [alGo]
  | f + 1, g + 1, acc, zs, hf, hg, hb => by
    rw [alGo, alGo]
    by_cases hz : zs = []
    · rw [if_pos hz, if_pos hz]
    · rw [if_neg hz, if_neg hz]
      rcases rd_inv zs hb with ⟨he, hk, hl, ht, hn0, hn1⟩ | ⟨he, hx⟩
      · have hsz := sz_bounds (rd zs).1 hn0 hn1
        rw [if_neg (by simp [he]), if_neg (by simp [he]), show (rd zs).2.1.toNat = sz (rd zs).1 from by omega]
        exact alGo_fuel f g _ _ (by simp; omega) (by simp; omega) (fun z hz => hb z (List.mem_of_mem_drop hz))
      · rw [if_pos he, if_pos he]

theorem alGo_step (zs : List Int) (m : Nat) (acc : List Int) (hm : m < zs.length) (hb : ∀ z ∈ zs, 0 ≤ z ∧ z ≤ 255) (he : (rd (zs.drop m)).2.2 = 0) (hk : (rd (zs.drop m)).2.1 = (sz (rd (zs.drop m)).1 : Int)) (hs : 1 ≤ sz (rd (zs.drop m)).1) :
    alGo (zs.length - (m + sz (rd (zs.drop m)).1)) (acc ++ [(rd (zs.drop m)).1]) (zs.drop (m + sz (rd (zs.drop m)).1)) = alGo (zs.length - m) acc (zs.drop m) := by
  obtain ⟨f, hf⟩ : ∃ f, zs.length - m = f + 1 := ⟨zs.length - m - 1, by omega⟩
  have hne : zs.drop m ≠ [] := by intro h; have := congrArg List.length h; simp at this; omega
  rw [hf, alGo, if_neg hne, if_neg (by simp [he]), hk, Int.toNat_natCast, List.drop_drop]
  exact alGo_fuel _ _ _ _ (by simp) (by simp; omega) (fun z hz => hb z (List.mem_of_mem_drop hz))

theorem alGo_bad (zs : List Int) (m : Nat) (acc : List Int) (hm : m < zs.length) (he : (rd (zs.drop m)).2.2 ≠ 0) : alGo (zs.length - m) acc (zs.drop m) = ([], (rd (zs.drop m)).2.2) := by
  obtain ⟨f, hf⟩ : ∃ f, zs.length - m = f + 1 := ⟨zs.length - m - 1, by omega⟩
  have hne : zs.drop m ≠ [] := by intro h; have := congrArg List.length h; simp at this; omega
  rw [hf, alGo, if_neg hne, if_pos he]

theorem al_inv (zs : List Int) (hb : ∀ z ∈ zs, 0 ≤ z ∧ z ≤ 255) : Nums (al zs).1 ∧ (al zs).1.length ≤ zs.length ∧ (((al zs).2 = 0 ∧ (al zs).1.flatMap enc = zs) ∨ ((al zs).2 ≠ 0 ∧ (al zs).1 = [] ∧ 10 ≤ (al zs).2 ∧ (al zs).2 ≤ 12)) := by
  rcases alGo_inv zs.length [] zs (Nat.le_refl _) hb with ⟨h1, l, h2, h3, h4, h5⟩ | hx
  · rw [List.nil_append] at h2
    unfold al
    rw [h2]
    exact ⟨h4, h5, .inl ⟨h1, h3⟩⟩
  · refine ⟨?_, ?_, .inr hx⟩
    · have := hx.2.1; unfold al; rw [this]; exact fun _ h => by cases h
    · have := hx.2.1; unfold al; rw [this]; exact Nat.zero_le _

theorem al_first (zs : List Int) (hz : zs ≠ []) (he : (rd zs).2.2 ≠ 0) : (al zs).2 = (rd zs).2.2 := by
  unfold al
  obtain ⟨f, hf⟩ : ∃ f, zs.length = f + 1 := by cases zs with | nil => exact absurd rfl hz | cons c r => exact ⟨r.length, rfl⟩
  rw [hf, alGo, if_neg hz, if_pos he]

/-- P1.6, of a row of numbers. -/
theorem alGo_enc : ∀ (l : List Int) (f : Nat) (acc : List Int), Nums l → (l.flatMap enc).length ≤ f → alGo f acc (l.flatMap enc) = (acc ++ l, 0)
  | [], f, acc, _, _ => by cases f <;> simp [alGo]
  | n :: l, f, acc, hn, hf => by
    have h := hn n (by simp)
    have hs := sz_bounds n h.1 h.2
    have hl := enc_length n h.1 h.2
    have hp : (enc n ++ l.flatMap enc).length = sz n + (l.flatMap enc).length := by rw [List.length_append, hl]
    rw [List.flatMap_cons] at hf ⊢
    obtain ⟨g, rfl⟩ : ∃ g, f = g + 1 := ⟨f - 1, by omega⟩
    have hne : enc n ++ l.flatMap enc ≠ [] := by intro h0; rw [h0] at hp; simp at hp; omega
    rw [alGo, if_neg hne, rd_enc n h.1 h.2, if_neg (by simp)]
    simp only [Int.toNat_natCast]
    rw [show (enc n ++ l.flatMap enc).drop (sz n) = l.flatMap enc from by rw [← hl, List.drop_left], alGo_enc l g (acc ++ [n]) (fun z hz => hn z (by simp [hz])) (by omega)]
    simp

theorem al_enc (l : List Int) (hn : Nums l) : al (l.flatMap enc) = (l, 0) := by
  have := alGo_enc l (l.flatMap enc).length [] hn (Nat.le_refl _)
  simpa [al] using this

theorem enc_bytes (n : Int) : ∀ z ∈ enc n, 0 ≤ z ∧ z ≤ 255 := tl_bytes n _

theorem join_bytes (l : List Int) : ∀ z ∈ l.flatMap enc, 0 ≤ z ∧ z ≤ 255 := by
  intro z hz
  obtain ⟨n, _, h⟩ := List.mem_flatMap.1 hz
  exact enc_bytes n z h

theorem join_length (l : List Int) (h : Nums l) : (l.flatMap enc).length ≤ 10 * l.length := by
  induction l with
  | nil => simp
  | cons n l ih =>
    have hn := h n (by simp)
    have hs := sz_bounds n hn.1 hn.2
    have hl := enc_length n hn.1 hn.2
    have := ih (fun z hz => h z (by simp [hz]))
    rw [List.flatMap_cons, List.length_append, hl, List.length_cons]
    omega

/-- Numbers as bytes, one behind the other. -/
def jn (l : List Int) : List Int := l.flatMap enc
theorem jn_snoc (l : List Int) (n : Int) : jn (l ++ [n]) = jn l ++ enc n := by simp [jn, List.flatMap_append]
theorem jn_length (l : List Int) (h : Nums l) : (jn l).length ≤ 10 * l.length := join_length l h
theorem jn_bytes (l : List Int) : ∀ z ∈ jn l, 0 ≤ z ∧ z ≤ 255 := join_bytes l
theorem al_jn (l : List Int) (hn : Nums l) : al (jn l) = (l, 0) := al_enc l hn
theorem jn_al (zs : List Int) (hb : ∀ z ∈ zs, 0 ≤ z ∧ z ≤ 255) : Nums (al zs).1 ∧ (al zs).1.length ≤ zs.length ∧ (((al zs).2 = 0 ∧ jn (al zs).1 = zs) ∨ ((al zs).2 ≠ 0 ∧ (al zs).1 = [] ∧ 10 ≤ (al zs).2 ∧ (al zs).2 ≤ 12)) := al_inv zs hb

end Go.Proofs.YtcfodcioeefbeaaDoor
