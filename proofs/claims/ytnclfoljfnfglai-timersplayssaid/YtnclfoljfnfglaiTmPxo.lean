import Derived.Test.YtnclfoljfnfglaiTmPsf
import Derived.Sort.Walk7
namespace Go.Proofs.Ytnclfoljfnfglai
open Go.RowKit Go.Maps Go.Sort
set_option linter.unusedVariables false

theorem xorL (x c : Nat) (hx : x < 18446744073709551616) : bits .xor .u64 (x : Int) (IntKind.u64.wrap ((x : Int) * (c : Int))) = ((x ^^^ (x * c % 18446744073709551616) : Nat) : Int) := by
  rw [IntKind.wrap_u64, show ((x : Int) * (c : Int) % 18446744073709551616) = ((x * c % 18446744073709551616 : Nat) : Int) by rw [Int.natCast_emod, Int.natCast_mul]; rfl]
  exact bits_xor_u64_nat _ _ hx (Nat.mod_lt _ (by decide))
theorem xorR (x c : Nat) (hx : x < 18446744073709551616) : bits .xor .u64 (x : Int) ((x : Int) / (c : Int)) = ((x ^^^ (x / c) : Nat) : Int) := by
  rw [show ((x : Int) / (c : Int)) = ((x / c : Nat) : Int) by push_cast; rfl]
  exact bits_xor_u64_nat _ _ hx (Nat.lt_of_le_of_lt (Nat.div_le_self _ _) hx)
theorem xor_lt {x y : Nat} (hx : x < 18446744073709551616) (hy : y < 18446744073709551616) : x ^^^ y < 18446744073709551616 := Nat.xor_lt_two_pow (n := 64) hx hy

set_option maxHeartbeats 4000000 in
set_option maxRecDepth 100000 in
theorem xor_any (rb X : Nat) (hX : X < 18446744073709551616) (w : World) (hc : w.cell? ⟨rb, 0, none⟩ = some (.int .u64 X)) (hf : w.frozen? ⟨rb, 0, none⟩ = false) :
    Calls Try.prog 101 #[.pointer (some ⟨rb, 0, none⟩)] w fun e w' => e = .returned (.int .u64 (xorNextN X : Nat)) ∧ w' = (w.setCell ⟨rb, 0, none⟩ (.int .u64 (xorNextN X : Nat))).drewN 3 := by
  have f1 := xorL X 8192 hX
  obtain ⟨A, hA⟩ : ∃ A : Nat, X ^^^ (X * 8192 % 18446744073709551616) = A := ⟨_, rfl⟩
  have lA : A < 18446744073709551616 := hA ▸ xor_lt hX (Nat.mod_lt _ (by decide))
  have f2 := xorR A 128 lA
  obtain ⟨B, hB⟩ : ∃ B : Nat, A ^^^ (A / 128) = B := ⟨_, rfl⟩
  have lB : B < 18446744073709551616 := hB ▸ xor_lt lA (Nat.lt_of_le_of_lt (Nat.div_le_self _ _) lA)
  have f3 := xorL B 131072 lB
  obtain ⟨C, hC⟩ : ∃ C : Nat, B ^^^ (B * 131072 % 18446744073709551616) = C := ⟨_, rfl⟩
  rw [hA, show ((8192 : Nat) : Int) = 8192 from rfl] at f1
  rw [hB, show ((128 : Nat) : Int) = 128 from rfl] at f2
  rw [hC, show ((131072 : Nat) : Int) = 131072 from rfl] at f3
  have hv : xorNextN X = C := by unfold xorNextN; simp only []; rw [hA, hB, hC]
  rw [hv]
  have hss : ∀ v v', (w.setCell ⟨rb, 0, none⟩ v).setCell ⟨rb, 0, none⟩ v' = w.setCell ⟨rb, 0, none⟩ v' := setCell_setCell w rb 0
  clear hA hB hC hv
  go_enter Try.func101, Try.ntmps101
  go_wp2
  go_region
  all_goals go_wp2
  all_goals go_region
  all_goals go_wp2
  all_goals go_region
  all_goals go_wp2
  go_ret
  exact ⟨rfl, rfl⟩

end Go.Proofs.Ytnclfoljfnfglai
