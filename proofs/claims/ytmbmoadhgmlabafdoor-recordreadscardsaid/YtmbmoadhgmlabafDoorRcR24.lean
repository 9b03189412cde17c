import Derived.Test.YtmbmoadhgmlabafDoorRcR23
import Derived.Test.YtmbmoadhgmlabafDoorRcLtr
namespace Go.Proofs.YtmbmoadhgmlabafDoor
open Go.RowKit
set_option linter.unusedVariables false
set_option linter.unusedSimpArgs false

/-- A record with one number more. -/
def setN (r : Rc) (j : Nat) (n : Int) : Rc :=
  if j = 0 then { r with org := n } else if j = 1 then { r with num := n } else if j = 2 then { r with peer := n } else if j = 3 then { r with srv := n }
  else if j = 4 then { r with off := n } else if j = 5 then { r with red := n } else if j = 6 then { r with size := n } else { r with how := n }
set_option maxRecDepth 100000 in
set_option maxHeartbeats 4000000 in
theorem with2_any (r : Rc) (sa da : Option Addr) (ns nd sc dc : Nat) (j : Nat) (hj : j < 8) (n : Int) (w : World) :
    Calls Tryd.prog 53 #[.agg (rcC r (.slice sa ns sc) (.slice da nd dc)), .int .u8 (ltL.getD j 0).toNat, .int .i64 n] w fun e w' => e = .returned (.agg (rcC (setN r j n) (.slice sa ns sc) (.slice da nd dc))) ∧ Below w.heap.size w w' := by
  have : j = 0 ∨ j = 1 ∨ j = 2 ∨ j = 3 ∨ j = 4 ∨ j = 5 ∨ j = 6 ∨ j = 7 := by omega
  rcases this with rfl | rfl | rfl | rfl | rfl | rfl | rfl | rfl
  · go_enter Tryd.func53, Tryd.ntmps53
    go_wp2
    refine bodyPost_ret (v := .agg (rcC { r with org := n } (.slice sa ns sc) (.slice da nd dc))) (by simp [results, Tryd.results53, go_sem, rcC]) rfl ?_
    exact ⟨rfl, ((Below.refl _ _).alloc (Nat.le_refl _) _).alloc (by simp) _⟩
  · go_enter Tryd.func53, Tryd.ntmps53
    go_wp2
    refine bodyPost_ret (v := .agg (rcC { r with num := n } (.slice sa ns sc) (.slice da nd dc))) (by simp [results, Tryd.results53, go_sem, rcC]) rfl ?_
    exact ⟨rfl, ((Below.refl _ _).alloc (Nat.le_refl _) _).alloc (by simp) _⟩
  · go_enter Tryd.func53, Tryd.ntmps53
    go_wp2
    refine bodyPost_ret (v := .agg (rcC { r with peer := n } (.slice sa ns sc) (.slice da nd dc))) (by simp [results, Tryd.results53, go_sem, rcC]) rfl ?_
    exact ⟨rfl, ((Below.refl _ _).alloc (Nat.le_refl _) _).alloc (by simp) _⟩
  · go_enter Tryd.func53, Tryd.ntmps53
    go_wp2
    refine bodyPost_ret (v := .agg (rcC { r with srv := n } (.slice sa ns sc) (.slice da nd dc))) (by simp [results, Tryd.results53, go_sem, rcC]) rfl ?_
    exact ⟨rfl, ((Below.refl _ _).alloc (Nat.le_refl _) _).alloc (by simp) _⟩
  · go_enter Tryd.func53, Tryd.ntmps53
    go_wp2
    refine bodyPost_ret (v := .agg (rcC { r with off := n } (.slice sa ns sc) (.slice da nd dc))) (by simp [results, Tryd.results53, go_sem, rcC]) rfl ?_
    exact ⟨rfl, ((Below.refl _ _).alloc (Nat.le_refl _) _).alloc (by simp) _⟩
  · go_enter Tryd.func53, Tryd.ntmps53
    go_wp2
    refine bodyPost_ret (v := .agg (rcC { r with red := n } (.slice sa ns sc) (.slice da nd dc))) (by simp [results, Tryd.results53, go_sem, rcC]) rfl ?_
    exact ⟨rfl, ((Below.refl _ _).alloc (Nat.le_refl _) _).alloc (by simp) _⟩
  · go_enter Tryd.func53, Tryd.ntmps53
    go_wp2
    refine bodyPost_ret (v := .agg (rcC { r with size := n } (.slice sa ns sc) (.slice da nd dc))) (by simp [results, Tryd.results53, go_sem, rcC]) rfl ?_
    exact ⟨rfl, ((Below.refl _ _).alloc (Nat.le_refl _) _).alloc (by simp) _⟩
  · go_enter Tryd.func53, Tryd.ntmps53
    go_wp2
    refine bodyPost_ret (v := .agg (rcC { r with how := n } (.slice sa ns sc) (.slice da nd dc))) (by simp [results, Tryd.results53, go_sem, rcC]) rfl ?_
    exact ⟨rfl, ((Below.refl _ _).alloc (Nat.le_refl _) _).alloc (by simp) _⟩
end Go.Proofs.YtmbmoadhgmlabafDoor
