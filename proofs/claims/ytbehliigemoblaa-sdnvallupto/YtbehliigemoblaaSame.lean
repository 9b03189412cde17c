import Derived.Test.YtbehliigemoblaaAll
import Derived.Deep.QuietTactic
import Derived.BigQuiet
namespace Go.Proofs.Ytbehliigemoblaa
open Go.RowKit

set_option maxHeartbeats 1000000 in
theorem same_some (b off b' off' : Nat) (l : List Int) (cap cap' : Nat) (w : World) (hm : l.length ≤ 140737488355328)
    (hc : ∀ i, i < l.length → w.cell? ⟨b, off + i, none⟩ = some (.int .u64 (l.getD i 0))) (hc' : ∀ i, i < l.length → w.cell? ⟨b', off' + i, none⟩ = some (.int .u64 (l.getD i 0))) :
    Calls Try.prog 23 #[.slice (some ⟨b, off, none⟩) l.length cap, .slice (some ⟨b', off', none⟩) l.length cap'] w fun e w' => e = .returned (.bool true) ∧ ∃ nd, w' = w.drewN nd := by
  have HC : Hid (∀ i, i < l.length → w.cell? ⟨b, off + i, none⟩ = some (.int .u64 (l.getD i 0))) := hc
  have HC' : Hid (∀ i, i < l.length → w.cell? ⟨b', off' + i, none⟩ = some (.int .u64 (l.getD i 0))) := hc'
  clear hc hc'
  go_enter Try.func23, Try.ntmps23
  go_wp2_with fail
  go_loopw [5] (fun i wr => ∃ k nd : Nat, k ≤ l.length ∧ i = .int .i64 k ∧ wr = w.drewN nd) (fun i _ => l.length - (intOf i).toNat)
  case atStart => exact ⟨0, 0, Nat.zero_le _, rfl, rfl⟩
  case round =>
    obtain ⟨k, nd, hk, rfl, rfl⟩ := hrel
    by_cases hlt : k < l.length
    · have c1 := HC.out k hlt
      have c2 := HC'.out k hlt
      generalize l.getD k 0 = x at c1 c2
      have hi1 : (k : Int) < (l.length : Int) := by omega
      go_wp2_with fail
      go_quiet (fail)
      go_wp2
      go_roundw
      case rel => exact ⟨k + 1, _, by omega, by go_num, rfl⟩
      case measure => simp [intOf]; omega
    · go_wp2
      go_ret
      exact ⟨rfl, _, rfl⟩

set_option maxHeartbeats 1000000 in
theorem same_none (a a' : Option Addr) (cap cap' : Nat) (w : World) :
    Calls Try.prog 23 #[.slice a 0 cap, .slice a' 0 cap'] w fun e w' => e = .returned (.bool true) ∧ ∃ nd, w' = w.drewN nd := by
  go_enter Try.func23, Try.ntmps23
  go_wp2_with fail
  refine wp_loop_rounds 1 ?_
  rw [rounds_succ]
  go_wp2
  go_ret
  exact ⟨rfl, 0, rfl⟩

theorem same_any (a a' : Option Addr) (l : List Int) (len cap cap' : Nat) (w : World) (hl : l.length = len) (hm : len ≤ 140737488355328) (hc : Lies .u64 w a l) (hc' : Lies .u64 w a' l) :
    Calls Try.prog 23 #[.slice a len cap, .slice a' len cap'] w fun e w' => e = .returned (.bool true) ∧ ∃ nd, w' = w.drewN nd := by
  subst hl
  rcases hc with rfl | ⟨b, off, rfl, hc⟩
  · exact same_none a a' cap cap' w
  · rcases hc' with rfl | ⟨b', off', rfl, hc'⟩
    · exact same_none _ a' cap cap' w
    · exact same_some b off b' off' l cap cap' w hm hc hc'

end Go.Proofs.Ytbehliigemoblaa
