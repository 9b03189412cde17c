import Derived.Test.YticdedcgmofpjaaDoorChecked
import Derived.Test.YticdedcgmofpjaaDoorLen
import Derived.WalkKit
import Derived.WalkSpells
import Derived.WalkLawsBesides
import Derived.Laws.BitsAllLaws
namespace Go.Proofs.YticdedcgmofpjaaDoor
open Go.RowKit

theorem or_one (n : Int) (h0 : 0 ≤ n) (h1 : n ≤ 18446744073709551615) : bits .or .u64 n 1 = ((Nat.lor n.toNat 1 : Nat) : Int) := by
  rw [u64_or n 1 h0 (by omega) (by omega) (by omega)]; rfl
theorem or_one_lt (n : Int) (h0 : 0 ≤ n) (h1 : n ≤ 18446744073709551615) : ((Nat.lor n.toNat 1 : Nat) : Int) ≤ 18446744073709551615 := by
  rw [lor_one]; omega

set_option maxHeartbeats 400000 in
theorem size_any (n : Int) (w : World) (h0 : 0 ≤ n) (h1 : n ≤ 18446744073709551615) :
    Calls Tryd.prog 5 #[.int .u64 n] w fun e w' => e = .returned (.int .i64 (sz n)) ∧ w = w' := by
  have ho := or_one n h0 h1
  have hl := or_one_lt n h0 h1
  have hb : Lib.bitLen (Nat.lor n.toNat 1) ≤ 64 := Lib.bitLen_le _ 64 (Nat.le_refl _) (by omega)
  have hn : (0 : Int) ≤ ((Nat.lor n.toNat 1 : Nat) : Int) := by omega
  have hs : Hid ((sz n : Int) = ((Lib.bitLen (Nat.lor n.toNat 1) : Int) + 6) / 7) := by unfold Hid sz; omega
  generalize Nat.lor n.toNat 1 = y at ho hl hb hn hs
  go_enter Tryd.func5, Tryd.ntmps5
  go_wp2_with (go_at_call 26; refine (len64_any _ _ hn hl).mono ?_; rintro e w' ⟨rfl, rfl⟩)
  go_ret
  refine ⟨congrArg Ending.returned (congrArg (Value.int IntKind.i64) ?_), rfl⟩
  rw [hs.out]; omega

theorem pow7 (k : Nat) : (2 : Int) ^ (7 * k) = 128 ^ k := by rw [Int.pow_mul]; rfl

theorem hi_digit (n : Int) (k : Nat) (h0 : 0 ≤ n) : bits .or .u8 (n / 2 ^ (7 * k) % 256) 128 = n / 128 ^ k % 128 + 128 := by
  rw [pow7]
  have hq : 0 ≤ n / 128 ^ k := Int.ediv_nonneg h0 (Int.pow_nonneg (by omega))
  generalize n / 128 ^ k = q at hq ⊢
  rw [u8_or _ _ (by omega) (by omega) (by omega) (by omega)]
  obtain ⟨x, hx⟩ : ∃ x : Nat, q = x := ⟨q.toNat, by omega⟩
  subst hx
  have e : (((x : Int) % 256).toNat ||| (128 : Int).toNat) = x % 128 + 128 := by
    rw [show ((x : Int) % 256).toNat = x % 256 from by omega, show (128 : Int).toNat = 2 ^ 7 from rfl]
    by_cases hb : x % 256 < 128
    · rw [Nat.or_comm, nat_join 7 (2 ^ 7) (x % 256) (by omega) (by omega)]; omega
    · rw [show x % 256 = 2 ^ 7 ||| (x % 128) from by rw [nat_join 7 (2 ^ 7) (x % 128) (by omega) (by omega)]; omega]
      rw [Nat.or_comm, ← Nat.or_assoc, Nat.or_self, nat_join 7 (2 ^ 7) (x % 128) (by omega) (by omega)]; omega
  rw [e]; omega

theorem lo_digit (n : Int) (h0 : 0 ≤ n) : bits .andNot .u8 (n % 256) 128 = n % 128 := by
  rw [u8_andNot _ _ (by omega) (by omega) (by omega) (by omega)]
  obtain ⟨x, hx⟩ : ∃ x : Nat, n = x := ⟨n.toNat, by omega⟩
  subst hx
  rw [show ((x : Int) % 256).toNat = x % 256 from by omega, show 255 - (128 : Int).toNat = 127 from rfl, nat_mask7]
  omega

theorem Tryd.info_u8 : (Tryd.prog.info? 5).map (fun i => (i.zero, i.size, i.bytes)) = some (some (.int .u8 0), 1, 1) := by kernel_rfl

end Go.Proofs.YticdedcgmofpjaaDoor
