import Derived.Lib.BitFns
namespace Go.Proofs.YtnfbfdngdkkffabDoor

/-- How many bytes a number has: its bits (0 has one, too) in groups of seven. -/
def sz (n : Int) : Nat := (Lib.bitLen (Nat.lor n.toNat 1) + 6) / 7

/-- The digits of n from the one with the place k down to the last; all but the last with the mark 128. -/
def tl (n : Int) : Nat → List Int
  | 0 => [n % 128]
  | k + 1 => (n / 128 ^ (k + 1) % 128 + 128) :: tl n k

/-- A number as bytes. -/
def enc (n : Int) : List Int := tl n (sz n - 1)

theorem tl_length (n : Int) (k : Nat) : (tl n k).length = k + 1 := by
  induction k with
  | zero => rfl
  | succ k ih => simp [tl, ih]

/-- Reading on: the number so far, how many bytes are read, what is left. The answer: number, bytes, error. -/
def rdGo (v i : Int) : List Int → Int × Int × Int
  | [] => (0, 0, 10)
  | c :: r =>
    if i = 0 ∧ c = 128 then (0, 0, 11)
    else if 144115188075855871 < v then (0, 0, 12)
    else if c < 128 then (v * 128 + c, i + 1, 0)
    else rdGo (v * 128 + (c - 128)) (i + 1) r

def rd (b : List Int) : Int × Int × Int := rdGo 0 0 b

theorem bitLen_bounds : ∀ (f x : Nat), x < 2 ^ f → x ≠ 0 → 1 ≤ Lib.bitLenAux f x ∧ 2 ^ (Lib.bitLenAux f x - 1) ≤ x ∧ x < 2 ^ Lib.bitLenAux f x
  | 0, x, h, h0 => by simp at h; omega
  | f + 1, x, h, h0 => by
    rw [Lib.bitLenAux, if_neg h0]
    by_cases h2 : x / 2 = 0
    · have : Lib.bitLenAux f (x / 2) = 0 := by rw [h2]; cases f <;> simp [Lib.bitLenAux]
      rw [this]; simp; omega
    · obtain ⟨a, b, c⟩ := bitLen_bounds f (x / 2) (by rw [Nat.pow_succ] at h; omega) h2
      generalize Lib.bitLenAux f (x / 2) = K at a b c ⊢
      refine ⟨by omega, ?_, ?_⟩
      · rw [show 1 + K - 1 = (K - 1) + 1 from by omega, Nat.pow_succ]; omega
      · rw [show 1 + K = K + 1 from by omega, Nat.pow_succ]; omega

theorem lor_one (x : Nat) : Nat.lor x 1 = x / 2 * 2 + 1 := by
  have h : x ||| 1 = x / 2 * 2 + 1 := by
    apply Nat.eq_of_testBit_eq
    intro i
    cases i with
    | zero => simp [Nat.testBit_zero]
    | succ i =>
      rw [Nat.testBit_succ, Nat.testBit_succ, Nat.or_div_two]
      congr 1
      simp; omega
  exact h

theorem sz_bounds (n : Int) (h0 : 0 ≤ n) (h1 : n ≤ 18446744073709551615) :
    1 ≤ sz n ∧ sz n ≤ 10 ∧ n < 128 ^ sz n ∧ (1 < sz n → (128 : Int) ^ (sz n - 1) ≤ n) := by
  obtain ⟨x, rfl⟩ : ∃ x : Nat, n = x := ⟨n.toNat, by omega⟩
  have hx : x < 2 ^ 64 := by omega
  have e : sz (x : Int) = (Lib.bitLenAux 64 (x / 2 * 2 + 1) + 6) / 7 := by
    unfold sz Lib.bitLen; rw [Int.toNat_natCast, lor_one]
  obtain ⟨a, b, c⟩ := bitLen_bounds 64 (x / 2 * 2 + 1) (by omega) (by omega)
  have hl : Lib.bitLenAux 64 (x / 2 * 2 + 1) ≤ 64 := Lib.bitLen_le _ 64 (Nat.le_refl _) (by omega)
  generalize Lib.bitLenAux 64 (x / 2 * 2 + 1) = K at a b c hl e
  rw [e]
  have hp : ∀ s : Nat, ((128 : Int) ^ s) = ((2 ^ (7 * s) : Nat) : Int) := by
    intro s; rw [Nat.pow_mul]; simp
  have up : x < 2 ^ (7 * ((K + 6) / 7)) := by
    have : 2 ^ K ≤ 2 ^ (7 * ((K + 6) / 7)) := Nat.pow_le_pow_right (by omega) (by omega)
    have hev : 2 ∣ 2 ^ K := by
      obtain ⟨K', rfl⟩ : ∃ K', K = K' + 1 := ⟨K - 1, by omega⟩
      exact ⟨2 ^ K', by rw [Nat.pow_succ]; omega⟩
    omega
  refine ⟨by omega, by omega, ?_, ?_⟩
  · rw [hp]; exact_mod_cast up
  · intro h
    rw [hp]
    have : 2 ^ (7 * ((K + 6) / 7 - 1)) ≤ 2 ^ (K - 1) := Nat.pow_le_pow_right (by omega) (by omega)
    have hev : 2 ∣ 2 ^ (7 * ((K + 6) / 7 - 1)) := by
      obtain ⟨m, hm⟩ : ∃ m, 7 * ((K + 6) / 7 - 1) = m + 1 := ⟨7 * ((K + 6) / 7 - 1) - 1, by omega⟩
      rw [hm]; exact ⟨2 ^ m, by rw [Nat.pow_succ]; omega⟩
    have : 2 ^ (7 * ((K + 6) / 7 - 1)) ≤ x := by omega
    exact_mod_cast this

theorem enc_length (n : Int) (h0 : 0 ≤ n) (h1 : n ≤ 18446744073709551615) : (enc n).length = sz n := by
  have := sz_bounds n h0 h1
  unfold enc; rw [tl_length]; omega

/-- Reading what is written. -/
theorem rdGo_tl (n : Int) (h0 : 0 ≤ n) (h1 : n ≤ 18446744073709551615) : ∀ (k : Nat) (i : Int) (rest : List Int), 0 ≤ i → (i = 0 → k ≠ 0 → n / 128 ^ k % 128 ≠ 0) →
    rdGo (n / 128 ^ (k + 1)) i (tl n k ++ rest) = (n, i + (k + 1), 0)
  | 0, i, rest, hi, h => by
    simp only [tl, List.cons_append, List.nil_append, rdGo]
    rw [if_neg (by omega), if_neg (by simp; omega), if_pos (by omega)]
    simp; omega
  | k + 1, i, rest, hi, h => by
    simp only [tl, List.cons_append, rdGo]
    have hv : n / 128 ^ (k + 1 + 1) ≤ n / 128 := by
      rw [show (128 : Int) ^ (k + 1 + 1) = 128 * 128 ^ (k + 1) from by rw [Int.pow_succ]; omega, ← Int.ediv_ediv_of_nonneg (by omega)]
      exact Int.ediv_le_self _ (by omega)
    have hs : n / 128 ^ (k + 1 + 1) * 128 + (n / 128 ^ (k + 1) % 128 + 128 - 128) = n / 128 ^ (k + 1) := by
      rw [Int.pow_succ 128 (k + 1), ← Int.ediv_ediv_of_nonneg (Int.pow_nonneg (by omega))]; omega
    rw [if_neg (by intro ⟨a, b⟩; exact h a (by omega) (by omega)), if_neg (by omega), if_neg (by omega), hs, rdGo_tl n h0 h1 k (i + 1) rest (by omega) (by omega)]
    simp; omega

end Go.Proofs.YtnfbfdngdkkffabDoor
