import Derived.Test.YtjolflpmeodnaagDoorRcAwk
import Derived.BigQuiet
import Derived.Deep.QuietTactic
namespace Go.Proofs.YtjolflpmeodnaagDoor
open Go.RowKit
set_option linter.unusedVariables false

theorem or_u32 (k : Nat) (v c : Int) (hk : k ≤ 31) (v0 : 0 ≤ v) (c0 : 0 ≤ c) (hc : c < 2 ^ k) (hv : v * 2 ^ k < 4294967296) (hc2 : c < 4294967296) : bits .or .u32 (v * 2 ^ k) c = v * 2 ^ k + c := by
  obtain ⟨x, rfl⟩ : ∃ x : Nat, v = x := ⟨v.toNat, by omega⟩
  obtain ⟨y, rfl⟩ : ∃ y : Nat, c = y := ⟨c.toNat, by omega⟩
  have hy : y < 2 ^ k := by exact_mod_cast hc
  have h0 : (0 : Int) ≤ (x : Int) * 2 ^ k := Int.mul_nonneg v0 (Int.le_of_lt (Int.pow_pos (by decide)))
  rw [u32_or _ _ h0 hv c0 hc2]
  rw [show ((x : Int) * 2 ^ k).toNat = x * 2 ^ k from by rw [show (x : Int) * 2 ^ k = ((x * 2 ^ k : Nat) : Int) by simp]; exact Int.toNat_natCast _, Int.toNat_natCast, nat_join k (x * 2 ^ k) y (Nat.mul_mod_left _ _) hy]
  simp
set_option maxRecDepth 100000 in
set_option maxHeartbeats 1000000 in
theorem word_any (g off n c : Nat) (x0 x1 x2 x3 : Int) (w : World) (hn : 4 ≤ n) (h0 : 0 ≤ x0 ∧ x0 ≤ 255) (h1 : 0 ≤ x1 ∧ x1 ≤ 255) (h2 : 0 ≤ x2 ∧ x2 ≤ 255) (h3 : 0 ≤ x3 ∧ x3 ≤ 255)
    (c0 : w.cell? ⟨g, off, none⟩ = some (.int .u8 x0)) (c1 : w.cell? ⟨g, off + 1, none⟩ = some (.int .u8 x1)) (c2 : w.cell? ⟨g, off + 2, none⟩ = some (.int .u8 x2)) (c3 : w.cell? ⟨g, off + 3, none⟩ = some (.int .u8 x3)) :
    Calls Tryd.prog 43 #[.slice (some ⟨g, off, none⟩) n c] w fun e w' => e = .returned (.int .u32 (x0 * 16777216 + x1 * 65536 + x2 * 256 + x3)) ∧ Below w.heap.size w w' := by
  have hn' : (4 : Int) ≤ n := by omega
  go_enter Tryd.func43, Tryd.ntmps43
  go_wp2
  go_quiet (fail)
  go_wp2
  go_ret
  refine ⟨congrArg (fun z => Ending.returned (Value.int .u32 z)) ?_, ⟨rfl, rfl, rfl, Nat.le_refl _, fun _ _ => rfl⟩⟩
  rw [show x0 * 16777216 = x0 * 2 ^ 24 by omega, or_u32 24 x0 _ (by omega) (by omega) (by omega) (by omega) (by omega) (by omega)]
  rw [show x0 * 2 ^ 24 + x1 * 65536 = (x0 * 256 + x1) * 2 ^ 16 by omega, or_u32 16 _ _ (by omega) (by omega) (by omega) (by omega) (by omega) (by omega)]
  rw [show (x0 * 256 + x1) * 2 ^ 16 + x2 * 256 = (x0 * 65536 + x1 * 256 + x2) * 2 ^ 8 by omega, or_u32 8 _ _ (by omega) (by omega) (by omega) (by omega) (by omega) (by omega)]
  all_goals omega
end Go.Proofs.YtjolflpmeodnaagDoor
