import Derived.Test.YtdfdaambfihjaaaDoorLnC
namespace Go.Proofs.YtdfdaambfihjaaaDoor
open Go.RowKit
set_option linter.unusedVariables false
set_option linter.unusedSimpArgs false

/-- The kind of a segment, by its type: answers, controls, data. -/
def kd (t : Int) : Int := if t = 9 then 0 else if t = 13 then 0 else if t = 15 then 0 else if t = 8 then 1 else if t = 12 then 1 else if t = 14 then 1 else 2

set_option maxHeartbeats 2000000 in
theorem rank11_any (t : Int) (w : World) : Calls Tryd.prog 29 #[.int .i64 t] w fun e w' => e = .returned (.int .i64 (kd t)) ∧ w = w' := by
  obtain ⟨q, hq⟩ : ∃ q, kd t = q := ⟨_, rfl⟩
  have HQ : Hid (kd t = q) := hq
  rw [hq]
  clear hq
  by_cases h9 : t = 9
  · subst h9
    go_enter Tryd.func29, Tryd.ntmps29
    go_wp2
    go_ret
    exact ⟨by rw [← HQ.out]; rfl, rfl⟩
  by_cases h13 : t = 13
  · subst h13
    go_enter Tryd.func29, Tryd.ntmps29
    go_wp2
    go_ret
    exact ⟨by rw [← HQ.out]; rfl, rfl⟩
  by_cases h15 : t = 15
  · subst h15
    go_enter Tryd.func29, Tryd.ntmps29
    go_wp2
    go_ret
    exact ⟨by rw [← HQ.out]; rfl, rfl⟩
  by_cases h8 : t = 8
  · subst h8
    go_enter Tryd.func29, Tryd.ntmps29
    go_wp2
    go_ret
    exact ⟨by rw [← HQ.out]; rfl, rfl⟩
  by_cases h12 : t = 12
  · subst h12
    go_enter Tryd.func29, Tryd.ntmps29
    go_wp2
    go_ret
    exact ⟨by rw [← HQ.out]; rfl, rfl⟩
  by_cases h14 : t = 14
  · subst h14
    go_enter Tryd.func29, Tryd.ntmps29
    go_wp2
    go_ret
    exact ⟨by rw [← HQ.out]; rfl, rfl⟩
  have e9 : (t == 9) = false := by simpa using h9
  have e13 : (t == 13) = false := by simpa using h13
  have e15 : (t == 15) = false := by simpa using h15
  have e8 : (t == 8) = false := by simpa using h8
  have e12 : (t == 12) = false := by simpa using h12
  have e14 : (t == 14) = false := by simpa using h14
  have HK : Hid (q = 2) := by show q = 2; rw [← HQ.out]; unfold kd; simp [h9, h13, h15, h8, h12, h14]
  clear h9 h13 h15 h8 h12 h14 HQ
  go_enter Tryd.func29, Tryd.ntmps29
  go_wp2
  go_ret
  exact ⟨by rw [HK.out]; rfl, rfl⟩

set_option maxHeartbeats 4000000 in
theorem kindOf_any (s : Sg) (hv tv dv cv : Value) (w : World) : Calls Tryd.prog 39 #[.agg (svC s hv tv dv cv)] w fun e w' => e = .returned (.int .i64 (kd s.typ)) ∧ Below w.heap.size w w' := by
  obtain ⟨t, ht⟩ : ∃ t, s.typ = t := ⟨_, rfl⟩
  obtain ⟨q, hq⟩ : ∃ q, kd t = q := ⟨_, rfl⟩
  have HQ : Hid (kd t = q) := hq
  have hb : Below w.heap.size w (w.alloc (.cells (svC s hv tv dv cv) 37)) := (Below.refl _ _).alloc (Nat.le_refl _) _
  have HB : Hid (Below w.heap.size w (w.alloc (.cells (svC s hv tv dv cv) 37))) := hb
  rw [ht, hq]
  clear hq hb
  have en : ∀ c : Int, t = c → (t == c) = true := fun c h => by simp [h]
  have ef : ∀ c : Int, t ≠ c → (t == c) = false := fun c h => by simpa using h
  have HE : Hid (∀ c : Int, t = c → kd c = q) := fun c h => by rw [← h]; exact HQ.out
  by_cases h9 : t = 9
  · subst h9
    go_enter Tryd.func39, Tryd.ntmps39
    go_wp2
    go_ret
    exact ⟨by rw [← HQ.out]; rfl, HB.out⟩
  by_cases h13 : t = 13
  · subst h13
    go_enter Tryd.func39, Tryd.ntmps39
    go_wp2
    go_ret
    exact ⟨by rw [← HQ.out]; rfl, HB.out⟩
  by_cases h15 : t = 15
  · subst h15
    go_enter Tryd.func39, Tryd.ntmps39
    go_wp2
    go_ret
    exact ⟨by rw [← HQ.out]; rfl, HB.out⟩
  by_cases h8 : t = 8
  · subst h8
    go_enter Tryd.func39, Tryd.ntmps39
    go_wp2
    go_ret
    exact ⟨by rw [← HQ.out]; rfl, HB.out⟩
  by_cases h12 : t = 12
  · subst h12
    go_enter Tryd.func39, Tryd.ntmps39
    go_wp2
    go_ret
    exact ⟨by rw [← HQ.out]; rfl, HB.out⟩
  by_cases h14 : t = 14
  · subst h14
    go_enter Tryd.func39, Tryd.ntmps39
    go_wp2
    go_ret
    exact ⟨by rw [← HQ.out]; rfl, HB.out⟩
  have e9 := ef 9 h9
  have e13 := ef 13 h13
  have e15 := ef 15 h15
  have e8 := ef 8 h8
  have e12 := ef 12 h12
  have e14 := ef 14 h14
  have HK : Hid (q = 2) := by show q = 2; rw [← HQ.out]; unfold kd; simp [h9, h13, h15, h8, h12, h14]
  clear h9 h13 h15 h8 h12 h14 HQ en ef HE
  go_enter Tryd.func39, Tryd.ntmps39
  go_wp2
  go_ret
  exact ⟨by rw [HK.out]; rfl, HB.out⟩

end Go.Proofs.YtdfdaambfihjaaaDoor
