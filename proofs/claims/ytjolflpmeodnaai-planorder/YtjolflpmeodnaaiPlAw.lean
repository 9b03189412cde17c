import Derived.Test.YtjolflpmeodnaaiPlWh
import Derived.Test.YtjolflpmeodnaaiPlRf
namespace Go.Proofs.Ytjolflpmeodnaai
set_option linter.unusedVariables false
open Go.RowKit

theorem tick_any (x : Int) (w : World) : Calls Try.prog 9 #[.int .i64 x] w fun e w' => e = .returned (.int .i64 (cn x)) ∧ w' = w := by
  go_enter Try.func9, Try.ntmps9
  go_wp2
  go_ret
  exact ⟨rfl, rfl⟩

/-- The plan of the document's examples. -/
def awL : List Ct := [⟨7, 10, 20, 2⟩, ⟨7, 15, 30, 3⟩]
theorem aw_right : rightE awL = 0 := by decide
theorem aw_rate : rt 7 (cn 15) awL = 5 := by decide
theorem aw_may : ∀ c ∈ awL, mayC c = true := (rightE_ok.mp aw_right).2.1
theorem aw_when {t : Int} (h : WnP 7 (cn 0) 3 awL (rightE awL) t) : t = 11 :=
  WR.uniq aw_may (by decide) ((h.2 aw_right).2 (by decide)) (.inr ⟨by decide, by decide, by decide, by decide⟩)

abbrev awO : Obj := .cells #[.int .i64 7, .int .i64 10, .int .i64 20, .int .i64 2, .int .i64 7, .int .i64 15, .int .i64 30, .int .i64 3] 33
theorem aw_cta (w : World) : Cta (w.alloc awO) (some ⟨w.heap.size, 0, none⟩) awL := by
  refine .inr ⟨w.heap.size, 0, rfl, fun i c hc => ?_⟩
  match i, hc with
  | 0, hc => simp [awL] at hc; subst hc; simp
  | 1, hc => simp [awL] at hc; subst hc; simp
  | i + 2, hc => simp [awL] at hc

set_option maxHeartbeats 2000000 in
theorem awake9_any (w : World) : Calls Try.prog 6 #[] w fun e w' => e = .returned (.bool true) ∧ Below w.heap.size w w' := by
  have HA := rate9_any (some ⟨w.heap.size, 0, none⟩) 2 awL 7 15 (w.alloc awO) (aw_cta w) (by decide)
  rw [if_pos aw_right, aw_rate] at HA
  have HB : Hid (Below w.heap.size w (w.alloc awO)) := (Below.refl _ _).alloc (Nat.le_refl _) _
  have HC : Hid (Cta (w.alloc awO) (some ⟨w.heap.size, 0, none⟩) awL) := aw_cta w
  rw [show awL.length = 2 from rfl] at HA
  go_enter Try.func6, Try.ntmps6
  go_wp2_with fail
  refine HA.mono ?_
  rintro e w1 ⟨rfl, hb1⟩
  have HW := when9_any (some ⟨w.heap.size, 0, none⟩) 2 awL 7 0 3 w1 (HC.out.below hb1) (by decide) (by decide)
  rw [show awL.length = 2 from rfl] at HW
  have HB1 : Hid (Below w.heap.size w w1) := HB.out.trans (hb1.mono HB.out.size)
  clear hb1 HA HB HC
  go_wp2_with fail
  refine HW.mono ?_
  rintro e w2 ⟨⟨t, rfl, ht⟩, hb2⟩
  obtain rfl := aw_when ht
  have HB2 : Hid (Below w.heap.size w w2) := HB1.out.trans (hb2.mono HB1.out.size)
  clear hb2 HW ht
  go_wp2
  go_ret
  exact ⟨rfl, HB2.out⟩

end Go.Proofs.Ytjolflpmeodnaai
