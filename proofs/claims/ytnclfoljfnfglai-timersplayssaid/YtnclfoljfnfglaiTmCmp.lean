import Derived.Test.YtnclfoljfnfglaiTmSta
import Derived.Deep.RegionHeld3
import Derived.Deep.RegionWith
import Derived.Deep.Cut
namespace Go.Proofs.Ytnclfoljfnfglai
open Go.RowKit Go.Maps
set_option linter.unusedVariables false

def cmpI (a b : Int) : Int := if a < b then -1 else if b < a then 1 else 0
theorem isNaN_any (a : Int) (w : World) : Calls Try.prog 98 #[.int .i64 a] w fun e w' => e = .returned (.bool false) ∧ w = w' := by
  go_enter Try.func98, Try.ntmps98
  go_wp2
  go_ret
  exact ⟨rfl, rfl⟩
theorem cmpI_any (a b : Int) (w : World) : Calls Try.prog 78 #[.int .i64 a, .int .i64 b] w fun e w' => e = .returned (.int .i64 (cmpI a b)) ∧ w = w' := by
  have h1 := isNaN_any a w
  have h2 := isNaN_any b w
  unfold cmpI
  by_cases c1 : a < b
  · rw [if_pos c1]
    go_enter Try.func78, Try.ntmps78
    go_wp2_with fail
    refine h1.mono ?_
    rintro e w' ⟨rfl, rfl⟩
    go_wp2_with fail
    refine h2.mono ?_
    rintro e w' ⟨rfl, rfl⟩
    go_wp2
    go_ret
    exact ⟨rfl, rfl⟩
  · rw [if_neg c1]
    by_cases c2 : b < a
    · rw [if_pos c2]
      go_enter Try.func78, Try.ntmps78
      go_wp2_with fail
      refine h1.mono ?_
      rintro e w' ⟨rfl, rfl⟩
      go_wp2_with fail
      refine h2.mono ?_
      rintro e w' ⟨rfl, rfl⟩
      go_wp2
      go_ret
      exact ⟨rfl, rfl⟩
    · rw [if_neg c2]
      go_enter Try.func78, Try.ntmps78
      go_wp2_with fail
      refine h1.mono ?_
      rintro e w' ⟨rfl, rfl⟩
      go_wp2_with fail
      refine h2.mono ?_
      rintro e w' ⟨rfl, rfl⟩
      go_wp2
      go_ret
      exact ⟨rfl, rfl⟩

theorem fld0_any (k : Kx) (w : World) : Calls Try.prog 68 #[kA k] w fun e w' => e = .returned (.int .i64 k.1) ∧ w' = w.alloc (kO k) := by
  go_enter Try.func68, Try.ntmps68
  go_wp2
  go_ret
  exact ⟨rfl, rfl⟩
theorem fld1_any (k : Kx) (w : World) : Calls Try.prog 69 #[kA k] w fun e w' => e = .returned (.int .i64 k.2.1) ∧ w' = w.alloc (kO k) := by
  go_enter Try.func69, Try.ntmps69
  go_wp2
  go_ret
  exact ⟨rfl, rfl⟩
theorem fld2_any (k : Kx) (w : World) : Calls Try.prog 70 #[kA k] w fun e w' => e = .returned (.int .i64 k.2.2.1) ∧ w' = w.alloc (kO k) := by
  go_enter Try.func70, Try.ntmps70
  go_wp2
  go_ret
  exact ⟨rfl, rfl⟩
theorem fld3_any (k : Kx) (w : World) : Calls Try.prog 71 #[kA k] w fun e w' => e = .returned (.int .i64 k.2.2.2.1) ∧ w' = w.alloc (kO k) := by
  go_enter Try.func71, Try.ntmps71
  go_wp2
  go_ret
  exact ⟨rfl, rfl⟩
theorem fld4_any (k : Kx) (w : World) : Calls Try.prog 72 #[kA k] w fun e w' => e = .returned (.int .i64 k.2.2.2.2) ∧ w' = w.alloc (kO k) := by
  go_enter Try.func72, Try.ntmps72
  go_wp2
  go_ret
  exact ⟨rfl, rfl⟩

abbrev ordO : Obj := .cells #[.func (.func 68) #[] #[], .func (.func 69) #[] #[], .func (.func 70) #[] #[], .func (.func 71) #[] #[], .func (.func 72) #[] #[]] 100
theorem keyOrder_any (w : World) : Calls Try.prog 56 #[] w fun e w' => e = .returned (.slice (some ⟨w.heap.size, 0, none⟩) 5 5) ∧ w' = w.alloc ordO := by
  go_enter Try.func56, Try.ntmps56
  go_wp2
  go_ret
  exact ⟨rfl, rfl⟩

/-- The order of keys as a number. -/
def cmpK (a b : Kx) : Int :=
  if a.1 ≠ b.1 then cmpI a.1 b.1 else if a.2.1 ≠ b.2.1 then cmpI a.2.1 b.2.1 else if a.2.2.1 ≠ b.2.2.1 then cmpI a.2.2.1 b.2.2.1 else if a.2.2.2.1 ≠ b.2.2.2.1 then cmpI a.2.2.2.1 b.2.2.2.1 else cmpI a.2.2.2.2 b.2.2.2.2

end Go.Proofs.Ytnclfoljfnfglai
