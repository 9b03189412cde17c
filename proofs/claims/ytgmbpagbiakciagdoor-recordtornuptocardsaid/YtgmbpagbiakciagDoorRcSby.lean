import Derived.Test.YtgmbpagbiakciagDoorRcNum
namespace Go.Proofs.YtgmbpagbiakciagDoor
open Go.RowKit
set_option linter.unusedVariables false

/-- Two lists that say the same: sameBytes says so. -/
theorem sameBytes_eq (a b : Option Addr) (zs : List Int) (n ca cb : Nat) (w : World) (hn : zs.length = n) (hm : n ≤ 140737488355328) (ha : Lies .u8 w a zs) (hb : Lies .u8 w b zs) :
    Calls Tryd.prog 11 #[.slice a n ca, .slice b n cb] w fun e w' => e = .returned (.bool true) ∧ Below w.heap.size w w' := by
  by_cases h0 : n = 0
  · subst h0
    go_enter Tryd.func11, Tryd.ntmps11
    go_wp2_with fail
    refine wp_loop_rounds 1 ?_
    rw [rounds_succ]
    go_wp2
    go_ret
    exact ⟨rfl, Below.refl _ _⟩
  · rcases ha with h | ⟨ga, oa, rfl, ca'⟩
    · rw [h] at hn; simp at hn; omega
    rcases hb with h | ⟨gb, ob, rfl, cb'⟩
    · rw [h] at hn; simp at hn; omega
    have HA : Hid (∀ W, Below w.heap.size w W → ∀ i, i < n → W.cell? ⟨ga, oa + i, none⟩ = some (.int .u8 (zs.getD i 0))) := fun W hW i hi => C.cell_below (ca' i (by omega)) hW
    have HB : Hid (∀ W, Below w.heap.size w W → ∀ i, i < n → W.cell? ⟨gb, ob + i, none⟩ = some (.int .u8 (zs.getD i 0))) := fun W hW i hi => C.cell_below (cb' i (by omega)) hW
    clear ca' cb' hn
    go_enter Tryd.func11, Tryd.ntmps11
    go_wp2_with fail
    go_loopw [5] (fun i wr => ∃ k : Nat, k ≤ n ∧ i = .int .i64 k ∧ Below w.heap.size w wr) (fun i _ => n - (intOf i).toNat)
    case atStart => exact ⟨0, Nat.zero_le _, rfl, Below.refl _ _⟩
    case round =>
      obtain ⟨k, hk, rfl, hbw⟩ := hrel
      have HBW : Hid (Below w.heap.size w wr) := hbw
      clear hbw
      by_cases hlt : k < n
      · have c1 := HA.out wr HBW.out k hlt
        have c2 := HB.out wr HBW.out k hlt
        have hlt' : (k : Int) < (n : Int) := by omega
        generalize zs.getD k 0 = y at *
        go_upto_region 6 with fail
        go_quiet (fail)
        go_wp2
        go_roundw
        case rel => exact ⟨k + 1, by omega, by go_num, ⟨HBW.out.os, HBW.out.tape, HBW.out.output, HBW.out.size, HBW.out.block⟩⟩
        case measure => simp [intOf]; omega
      · have hlt' : ¬ (k : Int) < (n : Int) := by omega
        go_wp2
        go_ret
        exact ⟨rfl, HBW.out⟩
end Go.Proofs.YtgmbpagbiakciagDoor
