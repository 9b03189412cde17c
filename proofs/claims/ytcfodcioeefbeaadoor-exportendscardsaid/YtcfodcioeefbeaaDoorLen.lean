import Derived.Test.YtcfodcioeefbeaaDoorChecked
import Derived.Test.YtcfodcioeefbeaaDoorMath
import Derived.Lib.Small
import Derived.Lib.Walk
namespace Go.Proofs.YtcfodcioeefbeaaDoor

/-- bits.Len64, held against the number of halvings: one division for each step of eight, sixteen, thirty-two. -/
theorem len_part (x : Int) (j : Nat) (d : Int) (hd : d = 2 ^ j) (h0 : 0 ≤ x) (h1 : x ≤ 18446744073709551615) (hlo : j = 0 ∨ d ≤ x) (hhi : x / d ≤ 255) :
    (j : Int) + Lib.len8 (x / d % 256) = Lib.bitLen x.toNat ∧ 0 ≤ Lib.len8 (x / d % 256) ∧ Lib.len8 (x / d % 256) ≤ 8 := by
  obtain ⟨y, rfl⟩ : ∃ y : Nat, x = y := ⟨x.toNat, by omega⟩
  have hp : (0 : Int) < d := by rw [hd]; exact Int.pow_pos (by omega)
  have q0 : (0 : Int) ≤ (y : Int) / d := Int.ediv_nonneg (by omega) (by omega)
  rw [Lib.len8_of _ (by omega) (by omega)]
  have l8 := Lib.bitLen_le8' ((y : Int) / d % 256) (by omega) (by omega)
  refine ⟨?_, by omega, by omega⟩
  have e : ((y : Int) / d % 256).toNat = y / 2 ^ j := by
    have hq : (y : Int) / d % 256 = (y : Int) / d := Int.emod_eq_of_lt q0 (by omega)
    rw [hq, hd]
    have : ((2 : Int) ^ j) = ((2 ^ j : Nat) : Int) := by simp
    rw [this, ← Int.natCast_ediv, Int.toNat_natCast]
  rw [e, Int.toNat_natCast]
  rcases hlo with rfl | hlo
  · simp
  · rw [Lib.bitLen_shift j y (by have : ((2 ^ j : Nat) : Int) ≤ y := by rw [hd] at hlo; exact_mod_cast hlo
                                 exact_mod_cast this) (by omega)]
    simp

set_option maxHeartbeats 1000000 in
set_option maxRecDepth 100000 in
theorem len64_any (x : Int) (w : World) (h0 : 0 ≤ x) (h1 : x ≤ 18446744073709551615) :
    Calls Tryd.prog 43 #[.int .u64 x] w fun e w' => e = .returned (.int .i64 (Lib.bitLen x.toNat)) ∧ w = w' := by
  go_enter Tryd.func43, Tryd.ntmps43
  go_wp2
  all_goals (go_ret; refine ⟨congrArg Ending.returned (congrArg (Value.int IntKind.i64) ?_), rfl⟩)
  all_goals have hb : Lib.bitLen x.toNat ≤ 64 := Lib.bitLen_le _ 64 (Nat.le_refl _) (by omega)
  all_goals first
    | (rw [show x / 4294967296 / 65536 / 256 = x / 72057594037927936 from by omega]; have k := len_part x 56 72057594037927936 (by decide) h0 h1 (by omega) (by omega); omega)
    | (rw [show x / 4294967296 / 65536 = x / 281474976710656 from by omega]; have k := len_part x 48 281474976710656 (by decide) h0 h1 (by omega) (by omega); omega)
    | (rw [show x / 4294967296 / 256 = x / 1099511627776 from by omega]; have k := len_part x 40 1099511627776 (by decide) h0 h1 (by omega) (by omega); omega)
    | (have k := len_part x 32 4294967296 (by decide) h0 h1 (by omega) (by omega); omega)
    | (rw [show x / 65536 / 256 = x / 16777216 from by omega]; have k := len_part x 24 16777216 (by decide) h0 h1 (by omega) (by omega); omega)
    | (have k := len_part x 16 65536 (by decide) h0 h1 (by omega) (by omega); omega)
    | (have k := len_part x 8 256 (by decide) h0 h1 (by omega) (by omega); omega)
    | (have k := len_part x 0 1 (by decide) h0 h1 (by omega) (by omega); rw [Int.ediv_one] at k; omega)

end Go.Proofs.YtcfodcioeefbeaaDoor
