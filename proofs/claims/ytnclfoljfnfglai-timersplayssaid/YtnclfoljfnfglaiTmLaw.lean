import Derived.Test.YtnclfoljfnfglaiTmLft
import Derived.Test.YtnclfoljfnfglaiTmPsw
import Derived.Deep.RegionHeld3
namespace Go.Proofs.Ytnclfoljfnfglai
open Go.RowKit Go.Maps
set_option linter.unusedVariables false

/-! ## The law's own small calls -/
def pk (c n : Int) : Int := (if c < 0 then -(c + 1) else c) % n
theorem pk_lo (c n : Int) (hn : 0 < n) : 0 ≤ pk c n := Int.emod_nonneg _ (by omega)
theorem pk_hi (c n : Int) (hn : 0 < n) : pk c n < n := Int.emod_lt_of_pos _ hn
theorem kI_iff {x : Int} (h : kI x = true) : -9223372036854775808 ≤ x ∧ x ≤ 9223372036854775807 := by
  simp [kI, Lit.wf, IntKind.min, IntKind.max, IntKind.bits, IntKind.signed] at h; omega
theorem pick_any (c n : Int) (w : World) (hc : kI c = true) (h0 : 0 < n) (hn : n ≤ 1000) :
    Calls Try.prog 25 #[.int .i64 c, .int .i64 n] w fun e w' => e = .returned (.int .i64 (pk c n)) ∧ w' = w := by
  have hb := kI_iff hc
  have hn0 : ¬ n = 0 := by omega
  have hlo := pk_lo c n h0
  have hhi := pk_hi c n h0
  by_cases c0 : c < 0
  · have h1 : IntKind.i64.wrap (c + 1) = c + 1 := by rw [IntKind.wrap_i64]; omega
    have h2 : IntKind.i64.wrap (-(c + 1)) = -(c + 1) := by rw [IntKind.wrap_i64]; omega
    have h3 : Int.tmod (-(c + 1)) n = pk c n := by unfold pk; rw [if_pos c0, Int.tmod_eq_emod_of_nonneg (by omega)]
    have h4 : IntKind.i64.wrap (pk c n) = pk c n := by rw [IntKind.wrap_i64]; omega
    clear hc
    obtain ⟨q, hq⟩ : ∃ q, pk c n = q := ⟨_, rfl⟩
    rw [hq] at h3 h4 ⊢
    go_enter Try.func25, Try.ntmps25
    go_wp2
    go_ret
    exact ⟨rfl, rfl⟩
  · have h3 : Int.tmod c n = pk c n := by unfold pk; rw [if_neg c0, Int.tmod_eq_emod_of_nonneg (by omega)]
    have h4 : IntKind.i64.wrap (pk c n) = pk c n := by rw [IntKind.wrap_i64]; omega
    clear hc
    obtain ⟨q, hq⟩ : ∃ q, pk c n = q := ⟨_, rfl⟩
    rw [hq] at h3 h4 ⊢
    go_enter Try.func25, Try.ntmps25
    go_wp2
    go_ret
    exact ⟨rfl, rfl⟩

/-- One of three peers, by a number below 8. -/
def hb (h p : Int) : Bool := decide (h / (2 ^ (p - 1).toNat : Nat) % 2 = 1)
set_option maxHeartbeats 1000000 in
theorem held_any (h p : Int) (w : World) (hh : 0 ≤ h ∧ h < 8) (hp : 1 ≤ p ∧ p ≤ 3) :
    Calls Try.prog 29 #[.int .i64 h, .int .i64 p] w fun e w' => e = .returned (.bool (hb h p)) ∧ w' = w := by
  have h1 : h = 0 ∨ h = 1 ∨ h = 2 ∨ h = 3 ∨ h = 4 ∨ h = 5 ∨ h = 6 ∨ h = 7 := by omega
  have p1 : p = 1 ∨ p = 2 ∨ p = 3 := by omega
  rcases p1 with rfl | rfl | rfl <;> rcases h1 with rfl | rfl | rfl | rfl | rfl | rfl | rfl | rfl
  all_goals (
    go_enter Try.func29, Try.ntmps29
    go_wp2
    go_ret
    exact ⟨rfl, rfl⟩)

/-- A key that may be, of raw numbers. -/
def rgt (k : Kx) : Kx := (1 + pk k.1 3, 1 + pk k.2.1 3, 1 + pk k.2.2.1 3, 1 + pk k.2.2.2.1 4, pk k.2.2.2.2 4)
theorem rgt_may (k : Kx) : mayK (rgt k) := by
  have h1 := pk_lo k.1 3 (by omega)
  have h2 := pk_hi k.1 3 (by omega)
  have h3 := pk_lo k.2.1 3 (by omega)
  have h4 := pk_hi k.2.1 3 (by omega)
  have h5 := pk_lo k.2.2.1 3 (by omega)
  have h6 := pk_hi k.2.2.1 3 (by omega)
  have h7 := pk_lo k.2.2.2.1 4 (by omega)
  have h8 := pk_hi k.2.2.2.1 4 (by omega)
  have h9 := pk_lo k.2.2.2.2 4 (by omega)
  have h10 := pk_hi k.2.2.2.2 4 (by omega)
  unfold mayK rgt
  simp only
  omega
theorem rgt_peer (k : Kx) : 1 ≤ (rgt k).1 ∧ (rgt k).1 ≤ 3 := by
  have h1 := pk_lo k.1 3 (by omega)
  have h2 := pk_hi k.1 3 (by omega)
  unfold rgt
  simp only
  omega

end Go.Proofs.Ytnclfoljfnfglai
