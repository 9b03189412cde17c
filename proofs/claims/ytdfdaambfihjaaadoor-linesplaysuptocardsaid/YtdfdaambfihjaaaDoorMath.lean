import Derived.Lib.BitFns
namespace Go.Proofs.YtdfdaambfihjaaaDoor

/-- How many bytes a number has: its bits (0 has one, too) in groups of seven. -/
def sz (n : Int) : Nat := (Lib.bitLen (Nat.lor n.toNat 1) + 6) / 7

/-- The digits of n from the one with the place k down to the last; all but the last with the mark 128. -/
def tl (n : Int) : Nat → List Int
  | 0 => [n % 128]
  | k + 1 => (n / 128 ^ (k + 1) % 128 + 128) :: tl n k

/-- A number as bytes. -/
def enc (n : Int) : List Int := tl n (sz n - 1)

theorem tl_length (n : Int) (k : Nat) : (tl n k).length = k + 1 := by
  induction k with
  | zero => rfl
  | succ k ih => simp [tl, ih]

/-- Reading on: the number so far, how many bytes are read, what is left. The answer: number, bytes, error. -/
def rdGo (v i : Int) : List Int → Int × Int × Int
  | [] => (0, 0, 10)
  | c :: r =>
    if i = 0 ∧ c = 128 then (0, 0, 11)
    else if 144115188075855871 < v then (0, 0, 12)
    else if c < 128 then (v * 128 + c, i + 1, 0)
    else rdGo (v * 128 + (c - 128)) (i + 1) r

def rd (b : List Int) : Int × Int × Int := rdGo 0 0 b

theorem bitLen_bounds : ∀ (f x : Nat), x < 2 ^ f → x ≠ 0 → 1 ≤ Lib.bitLenAux f x ∧ 2 ^ (Lib.bitLenAux f x - 1) ≤ x ∧ x < 2 ^ Lib.bitLenAux f x
  | 0, x, h, h0 => by simp at h; omega
  | f + 1, x, h, h0 => by
    rw [Lib.bitLenAux, if_neg h0]
    by_cases h2 : x / 2 = 0
    · have : Lib.bitLenAux f (x / 2) = 0 := by rw [h2]; cases f <;> simp [Lib.bitLenAux]
      rw [this]; simp; omega
    · obtain ⟨a, b, c⟩ := bitLen_bounds f (x / 2) (by rw [Nat.pow_succ] at h; omega) h2
      generalize Lib.bitLenAux f (x / 2) = K at a b c ⊢
      refine ⟨by omega, ?_, ?_⟩
      · rw [show 1 + K - 1 = (K - 1) + 1 from by omega, Nat.pow_succ]; omega
      · rw [show 1 + K = K + 1 from by omega, Nat.pow_succ]; omega

theorem lor_one (x : Nat) : Nat.lor x 1 = x / 2 * 2 + 1 := by
  have h : x ||| 1 = x / 2 * 2 + 1 := by
    apply Nat.eq_of_testBit_eq
    intro i
    cases i with
    | zero => simp [Nat.testBit_zero]
    | succ i =>
      rw [Nat.testBit_succ, Nat.testBit_succ, Nat.or_div_two]
      congr 1
      simp; omega
  exact h

theorem sz_bounds (n : Int) (h0 : 0 ≤ n) (h1 : n ≤ 18446744073709551615) :
    1 ≤ sz n ∧ sz n ≤ 10 ∧ n < 128 ^ sz n ∧ (1 < sz n → (128 : Int) ^ (sz n - 1) ≤ n) := by
  obtain ⟨x, rfl⟩ : ∃ x : Nat, n = x := ⟨n.toNat, by omega⟩
  have hx : x < 2 ^ 64 := by omega
  have e : sz (x : Int) = (Lib.bitLenAux 64 (x / 2 * 2 + 1) + 6) / 7 := by
    unfold sz Lib.bitLen; rw [Int.toNat_natCast, lor_one]
  obtain ⟨a, b, c⟩ := bitLen_bounds 64 (x / 2 * 2 + 1) (by omega) (by omega)
  have hl : Lib.bitLenAux 64 (x / 2 * 2 + 1) ≤ 64 := Lib.bitLen_le _ 64 (Nat.le_refl _) (by omega)
  generalize Lib.bitLenAux 64 (x / 2 * 2 + 1) = K at a b c hl e
  rw [e]
  have hp : ∀ s : Nat, ((128 : Int) ^ s) = ((2 ^ (7 * s) : Nat) : Int) := by
    intro s; rw [Nat.pow_mul]; simp
  have up : x < 2 ^ (7 * ((K + 6) / 7)) := by
    have : 2 ^ K ≤ 2 ^ (7 * ((K + 6) / 7)) := Nat.pow_le_pow_right (by omega) (by omega)
    have hev : 2 ∣ 2 ^ K := by
      obtain ⟨K', rfl⟩ : ∃ K', K = K' + 1 := ⟨K - 1, by omega⟩
      exact ⟨2 ^ K', by rw [Nat.pow_succ]; omega⟩
    omega
  refine ⟨by omega, by omega, ?_, ?_⟩
  · rw [hp]; exact_mod_cast up
  · intro h
    rw [hp]
    have : 2 ^ (7 * ((K + 6) / 7 - 1)) ≤ 2 ^ (K - 1) := Nat.pow_le_pow_right (by omega) (by omega)
    have hev : 2 ∣ 2 ^ (7 * ((K + 6) / 7 - 1)) := by
      obtain ⟨m, hm⟩ : ∃ m, 7 * ((K + 6) / 7 - 1) = m + 1 := ⟨7 * ((K + 6) / 7 - 1) - 1, by omega⟩
      rw [hm]; exact ⟨2 ^ m, by rw [Nat.pow_succ]; omega⟩
    have : 2 ^ (7 * ((K + 6) / 7 - 1)) ≤ x := by omega
    exact_mod_cast this

theorem enc_length (n : Int) (h0 : 0 ≤ n) (h1 : n ≤ 18446744073709551615) : (enc n).length = sz n := by
  have := sz_bounds n h0 h1
  unfold enc; rw [tl_length]; omega

end Go.Proofs.YtdfdaambfihjaaaDoor

namespace Go.Proofs.YtdfdaambfihjaaaDoor

theorem sz_mono (a b : Int) (h0 : 0 ≤ a) (h : a ≤ b) (h1 : b ≤ 18446744073709551615) : sz a ≤ sz b := by
  obtain ⟨a1, a2, a3, a4⟩ := sz_bounds a h0 (by omega)
  obtain ⟨b1, b2, b3, b4⟩ := sz_bounds b (by omega) h1
  by_cases hc : sz a ≤ sz b
  · exact hc
  · have := a4 (by omega)
    have hp : (128 : Int) ^ sz b ≤ 128 ^ (sz a - 1) := by
      have := Nat.pow_le_pow_right (n := 128) (by omega) (show sz b ≤ sz a - 1 by omega)
      exact_mod_cast this
    omega

end Go.Proofs.YtdfdaambfihjaaaDoor

namespace Go.Proofs.YtdfdaambfihjaaaDoor

def Nums (l : List Int) : Prop := ∀ n ∈ l, 0 ≤ n ∧ n ≤ 18446744073709551615

/-- All, with what is gathered so far. -/
def alGo : Nat → List Int → List Int → List Int × Int
  | 0, acc, _ => (acc, 0)
  | f + 1, acc, zs => if zs = [] then (acc, 0) else if (rd zs).2.2 ≠ 0 then ([], (rd zs).2.2) else alGo f (acc ++ [(rd zs).1]) (zs.drop (rd zs).2.1.toNat)

def al (zs : List Int) : List Int × Int := alGo zs.length [] zs

theorem sz_eq (n : Int) (m : Nat) (h0 : 0 ≤ n) (h1 : n ≤ 18446744073709551615) (hu : n < 128 ^ (m + 1)) (hl : m = 0 ∨ (128 : Int) ^ m ≤ n) : sz n = m + 1 := by
  obtain ⟨a1, a2, a3, a4⟩ := sz_bounds n h0 h1
  have mono : ∀ i j : Nat, i ≤ j → (128 : Int) ^ i ≤ 128 ^ j := fun i j hij => by
    have := Nat.pow_le_pow_right (n := 128) (by omega) hij
    exact_mod_cast this
  rcases Nat.lt_trichotomy (sz n) (m + 1) with h | h | h
  · have := mono (sz n) m (by omega)
    rcases hl with rfl | hl <;> omega
  · exact h
  · have := mono (m + 1) (sz n - 1) (by omega)
    have := a4 (by omega)
    omega

theorem join_length (l : List Int) (h : Nums l) : (l.flatMap enc).length ≤ 10 * l.length := by
  induction l with
  | nil => simp
  | cons n l ih =>
    have hn := h n (by simp)
    have hs := sz_bounds n hn.1 hn.2
    have hl := enc_length n hn.1 hn.2
    have := ih (fun z hz => h z (by simp [hz]))
    rw [List.flatMap_cons, List.length_append, hl, List.length_cons]
    omega

/-- Numbers as bytes, one behind the other. -/
def jn (l : List Int) : List Int := l.flatMap enc
theorem jn_snoc (l : List Int) (n : Int) : jn (l ++ [n]) = jn l ++ enc n := by simp [jn, List.flatMap_append]
theorem jn_length (l : List Int) (h : Nums l) : (jn l).length ≤ 10 * l.length := join_length l h
end Go.Proofs.YtdfdaambfihjaaaDoor
