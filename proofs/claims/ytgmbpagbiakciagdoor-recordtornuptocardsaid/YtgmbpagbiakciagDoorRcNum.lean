import Derived.Test.YtgmbpagbiakciagDoorRcApp
namespace Go.Proofs.YtgmbpagbiakciagDoor
open Go.RowKit
set_option linter.unusedVariables false

theorem pow_mono {a b : Nat} (h : a ≤ b) : (128 : Int) ^ a ≤ 128 ^ b := by
  have := Nat.pow_le_pow_right (n := 128) (by omega) h
  exact_mod_cast this
theorem div_pow (n : Int) (k : Nat) : n / 128 ^ (k + 1) / 128 = n / 128 ^ (k + 1 + 1) := by
  rw [Int.pow_succ (128 : Int) (k + 1), Int.ediv_ediv_of_nonneg (Int.pow_nonneg (by omega))]
theorem tl_rev (n : Int) (k : Nat) : (tl n (k + 1)).reverse = (tl n k).reverse ++ [n / 128 ^ (k + 1) % 128 + 128] := by
  show ((n / 128 ^ (k + 1) % 128 + 128) :: tl n k).reverse = _
  rw [List.reverse_cons]
/-- The digits from the last one on. -/
def lowV (n : Int) (k : Nat) : List Value := (tl n k).reverse.map (Value.int .u8)
theorem more_digits {n : Int} {k : Nat} (h0 : 0 ≤ n) (h1 : n ≤ 18446744073709551615) (h : 0 < n / 128 ^ (k + 1)) : k + 1 < sz n := by
  have hb := sz_bounds n h0 h1
  rcases Nat.lt_or_ge (k + 1) (sz n) with q | q
  · exact q
  · exfalso
    have h2 : (128 : Int) ^ sz n ≤ 128 ^ (k + 1) := pow_mono q
    have h3 : n < 128 ^ (k + 1) := by omega
    rw [Int.ediv_eq_zero_of_lt h0 h3] at h
    omega
theorem all_digits {n : Int} {k : Nat} (h0 : 0 ≤ n) (h1 : n ≤ 18446744073709551615) (h : ¬ 0 < n / 128 ^ (k + 1)) (hk : k + 1 ≤ sz n) : k + 1 = sz n := by
  have hb := sz_bounds n h0 h1
  rcases Nat.lt_or_ge (k + 1) (sz n) with q | q
  · exfalso
    have h2 := hb.2.2.2 (by omega)
    have h3 : (128 : Int) ^ (k + 1) ≤ 128 ^ (sz n - 1) := pow_mono (by omega)
    have hp : (0 : Int) < 128 ^ (k + 1) := Int.pow_pos (by omega)
    have h4 : 1 ≤ n / 128 ^ (k + 1) := by rw [Int.le_ediv_iff_mul_le hp]; omega
    omega
  · omega

theorem own_pos7 {w : World} {base n sz : Nat} {e : TypeId} {v : Value} {xs : List Value} (h : w.ownsRow base e sz v n xs) (hn : 0 < n) : ∃ g cap, v = .slice (some ⟨g, 0, none⟩) n cap ∧ base ≤ g := by
  obtain ⟨_, ⟨rfl, rfl⟩ | ⟨g, cap, cur, rfl, hb, _⟩⟩ := h
  · omega
  · exact ⟨g, cap, rfl, hb⟩
theorem own_low {w : World} {base n : Nat} {e : TypeId} {v : Value} {xs : List Value} {g : Nat} (h : w.ownsRow base e 1 v n xs) (hg : v.ownBlock = some g) : g < w.heap.size := (h.lt g hg).2

end Go.Proofs.YtgmbpagbiakciagDoor
