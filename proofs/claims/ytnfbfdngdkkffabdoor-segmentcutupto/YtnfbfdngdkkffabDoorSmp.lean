import Derived.Test.YtnfbfdngdkkffabDoorLex29
import Derived.Test.YtnfbfdngdkkffabDoorParse
namespace Go.Proofs.YtnfbfdngdkkffabDoor
open Go.RowKit

/-- The document's example. -/
def smp : Sg := ⟨3, 1, 5, [], [], 7, 0, [9, 9], 1, 0, 0, 0, [], 0⟩
/-- It, with its bytes in block g. -/
abbrev smpV (g : Nat) : Value := .agg #[.int .i64 3, .int .i64 1, .int .i64 5, .slice none 0 0, .slice none 0 0, .int .i64 7, .int .i64 0, .slice (some ⟨g, 0, none⟩) 2 2, .int .i64 1, .int .i64 0, .int .i64 0, .int .i64 0, .slice none 0 0, .int .i64 0]
abbrev smpO (g : Nat) : Obj := .cells #[.int .i64 3, .int .i64 1, .int .i64 5, .slice none 0 0, .slice none 0 0, .int .i64 7, .int .i64 0, .slice (some ⟨g, 0, none⟩) 2 2, .int .i64 1, .int .i64 0, .int .i64 0, .int .i64 0, .slice none 0 0, .int .i64 0] 28

set_option maxRecDepth 100000 in
set_option maxHeartbeats 1000000 in
theorem sample_any (w : World) : Calls Tryd.prog 21 #[] w fun e w' => ∃ g, e = .returned (smpV g) ∧ Blk .u8 w' g 5 [9, 9] ∧ w.heap.size ≤ g ∧ Below w.heap.size w w' := by
  go_enter Tryd.func21, Tryd.ntmps21
  go_wp2
  refine bodyPost_ret (v := smpV (w.heap.size + 1)) (by simp [results, Tryd.results21, go_sem]) rfl ?_
  refine ⟨_, rfl, ?_, by omega, ((Below.refl _ _).alloc (Nat.le_refl _) _).alloc (by simp) _⟩
  have := heap_alloc_new' (w.alloc (smpO (w.heap.size + 1))) (.cells #[.int .u8 9, .int .u8 9] 5)
  simp only [World.size_alloc] at this
  exact this

set_option maxHeartbeats 1000000 in
theorem claims_smp (g : Nat) (w : World) : Calls Tryd.prog 61 #[smpV g] w fun e w' => e = .returned (.bool true) ∧ ∃ y, w' = ext w y := by
  go_enter Tryd.func61, Tryd.ntmps61
  go_wp2
  refine wp_loop_rounds 1 ?_
  rw [rounds_succ]
  go_wp2
  go_ret
  exact ⟨rfl, ⟨[smpO g], 0⟩, rfl⟩

theorem leastCheck7 (w : World) : Calls Tryd.prog 59 #[.int .u8 7] w fun e w' => e = .returned (.int .i64 1) ∧ w = w' := leastCheck_any 7 w
theorem leastReport7 (w : World) : Calls Tryd.prog 60 #[.int .u8 7] w fun e w' => e = .returned (.int .i64 0) ∧ w = w' := leastReport_any 7 w

set_option maxRecDepth 100000 in
set_option maxHeartbeats 4000000 in
theorem fields_smp (g : Nat) (w : World) : Calls Tryd.prog 29 #[smpV g, .int .u8 7] w fun e w' => e = .returned (.bool true) ∧ ∃ y, w' = ext w y := by
  go_enter Tryd.func29, Tryd.ntmps29
  go_wp2_with fail
  have hc : ∀ (x : Xt) (j : Nat), (ext (w.alloc (smpO g)) x).cell? ⟨w.heap.size, j, none⟩ = (w.alloc (smpO g)).cell? ⟨w.heap.size, j, none⟩ := fun x j => ext_cell _ x _ (by simp)
  refine wp_region_ext (by kernel_rfl) lex29 ?_
  simp only [List.append_eq, List.cons_append, List.nil_append]
  repeat (go_big_quiet_step (first
    | (go_at_call 56; exact ext_same (between_t _ _ _ _ (by decide)))
    | (go_at_call 57; exact ext_same (extsMayBe_nil _ _ _))
    | (go_at_call 58; exact ext_same (allow_t _ _ _ _ _ _ (by decide)))
    | (go_at_call 59; exact ext_same (leastCheck7 _))
    | (go_at_call 60; exact ext_same (leastReport7 _))
    | (go_at_call 61; exact ext_more (claims_smp g _))))
  refine wpQuiet_nil ?_
  intro w' hw'
  obtain ⟨x, hw''⟩ := hw'
  subst hw''
  go_wp2
  go_ret
  exact ⟨rfl, ⟨smpO g :: x.os, x.n⟩, rfl⟩

end Go.Proofs.YtnfbfdngdkkffabDoor
