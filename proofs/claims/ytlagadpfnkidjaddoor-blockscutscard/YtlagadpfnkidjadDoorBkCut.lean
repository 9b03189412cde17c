import Derived.Test.YtlagadpfnkidjadDoorBkRed
namespace Go.Proofs.YtlagadpfnkidjadDoor
open Go.RowKit

set_option maxHeartbeats 400000 in
theorem btwn_any (n lo hi : Int) (w : World) :
    Calls Tryd.prog 34 #[.int .i64 n, .int .i64 lo, .int .i64 hi] w fun e w' => e = .returned (.bool (btw n lo hi)) ∧ w = w' := by
  have HB : Hid (btw n lo hi = decide (lo ≤ n ∧ n ≤ hi)) := rfl
  generalize btw n lo hi = q at *
  go_enter Tryd.func34, Tryd.ntmps34
  by_cases h1 : lo ≤ n
  · by_cases h2 : n ≤ hi
    · go_wp2
      go_ret
      exact ⟨by rw [HB.out]; simp [h1, h2], rfl⟩
    · go_wp2
      go_ret
      exact ⟨by rw [HB.out]; simp [h2], rfl⟩
  · go_wp2
    go_ret
    exact ⟨by rw [HB.out, decide_eq_false (by omega)]; rfl, rfl⟩

theorem btwn_v (n lo hi : Int) (q : Bool) (h : btw n lo hi = q) (w : World) : Calls Tryd.prog 34 #[.int .i64 n, .int .i64 lo, .int .i64 hi] w fun e w' => e = .returned (.bool q) ∧ w = w' := by
  have := btwn_any n lo hi w; rw [h] at this; exact this
theorem pcl_btw (k : Pk) : pclB k = (btw k.srv 0 4611686018427387903 && (btw k.size 1 65536 && (btw k.red 0 k.size && (btw k.mtu 80 4096 && btw k.every 0 65536)))) := by
  simp only [pclB, btw, ← Bool.decide_and, decide_eq_decide]
  omega
theorem ses_btw (k : Pk) : sesB k = (btw k.org 1 4611686018427387903 && btw k.num 1 4611686018427387902) := by
  simp only [sesB, btw, ← Bool.decide_and, decide_eq_decide]
  omega

set_option maxHeartbeats 1000000 in
theorem parcel_any (k : Pk) (w : World) :
    Calls Tryd.prog 67 #[.agg #[.int .i64 k.srv, .int .i64 k.size, .int .i64 k.red, .int .i64 k.mtu, .int .i64 k.every]] w fun e w' => e = .returned (.bool (pclB k)) ∧ Below w.heap.size w w' := by
  have HB : Hid (Below w.heap.size w (w.alloc (.cells #[.int .i64 k.srv, .int .i64 k.size, .int .i64 k.red, .int .i64 k.mtu, .int .i64 k.every] 28))) := (Below.refl _ _).alloc (Nat.le_refl _) _
  rw [pcl_btw]
  obtain ⟨q1, h1⟩ : ∃ q, btw k.srv 0 4611686018427387903 = q := ⟨_, rfl⟩
  obtain ⟨q2, h2⟩ : ∃ q, btw k.size 1 65536 = q := ⟨_, rfl⟩
  obtain ⟨q3, h3⟩ : ∃ q, btw k.red 0 k.size = q := ⟨_, rfl⟩
  obtain ⟨q4, h4⟩ : ∃ q, btw k.mtu 80 4096 = q := ⟨_, rfl⟩
  obtain ⟨q5, h5⟩ : ∃ q, btw k.every 0 65536 = q := ⟨_, rfl⟩
  rw [h1, h2, h3, h4, h5]
  have C1 := btwn_v _ _ _ _ h1
  have C2 := btwn_v _ _ _ _ h2
  have C3 := btwn_v _ _ _ _ h3
  have C4 := btwn_v _ _ _ _ h4
  have C5 := btwn_v _ _ _ _ h5
  clear h1 h2 h3 h4 h5
  go_enter Tryd.func67, Tryd.ntmps67
  go_wp2_with fail
  refine (C1 _).mono ?_
  rintro e w' ⟨rfl, rfl⟩
  cases q1
  · go_wp2
    go_ret
    exact ⟨rfl, HB.out⟩
  go_wp2_with fail
  refine (C2 _).mono ?_
  rintro e w' ⟨rfl, rfl⟩
  cases q2
  · go_wp2
    go_ret
    exact ⟨rfl, HB.out⟩
  go_wp2_with fail
  refine (C3 _).mono ?_
  rintro e w' ⟨rfl, rfl⟩
  cases q3
  · go_wp2
    go_ret
    exact ⟨rfl, HB.out⟩
  go_wp2_with fail
  refine (C4 _).mono ?_
  rintro e w' ⟨rfl, rfl⟩
  cases q4
  · go_wp2
    go_ret
    exact ⟨rfl, HB.out⟩
  go_wp2_with fail
  refine (C5 _).mono ?_
  rintro e w' ⟨rfl, rfl⟩
  cases q5
  · go_wp2
    go_ret
    exact ⟨rfl, HB.out⟩
  go_wp2
  go_ret
  exact ⟨rfl, HB.out⟩

set_option maxHeartbeats 1000000 in
theorem fault_any (k : Pk) (w : World) :
    Calls Tryd.prog 33 #[.agg (knC k)] w fun e w' => e = .returned (.int .i64 (if sesB k = false then 1 else if pclB k = false then 40 else 0)) ∧ Below w.heap.size w w' := by
  have HB : Hid (Below w.heap.size w (w.alloc (.cells (knC k) 85))) := (Below.refl _ _).alloc (Nat.le_refl _) _
  rw [ses_btw]
  obtain ⟨q1, h1⟩ : ∃ q, btw k.org 1 4611686018427387903 = q := ⟨_, rfl⟩
  obtain ⟨q2, h2⟩ : ∃ q, btw k.num 1 4611686018427387902 = q := ⟨_, rfl⟩
  rw [h1, h2]
  have C1 := btwn_v _ _ _ _ h1
  have C2 := btwn_v _ _ _ _ h2
  have C3 := parcel_any k
  obtain ⟨q3, h3⟩ : ∃ q, pclB k = q := ⟨_, rfl⟩
  rw [h3] at C3 ⊢
  clear h1 h2 h3
  go_enter Tryd.func33, Tryd.ntmps33
  cases q1
  · go_wp2_with fail
    refine (C1 _).mono ?_
    rintro e w' ⟨rfl, rfl⟩
    go_wp2
    go_ret
    exact ⟨rfl, HB.out⟩
  cases q2
  · go_wp2_with fail
    refine (C1 _).mono ?_
    rintro e w' ⟨rfl, rfl⟩
    go_wp2_with fail
    refine (C2 _).mono ?_
    rintro e w' ⟨rfl, rfl⟩
    go_wp2
    go_ret
    exact ⟨rfl, HB.out⟩
  cases q3
  all_goals (
    go_wp2_with fail
    refine (C1 _).mono ?_
    rintro e w' ⟨rfl, rfl⟩
    go_wp2_with fail
    refine (C2 _).mono ?_
    rintro e w' ⟨rfl, rfl⟩
    go_wp2_with fail
    refine (C3 _).mono ?_
    rintro e w3 ⟨rfl, hb3⟩
    have HB3 : Hid (Below w.heap.size w w3) := HB.out.trans (hb3.mono (by simp))
    clear hb3
    go_wp2
    go_ret
    exact ⟨rfl, HB3.out⟩)

end Go.Proofs.YtlagadpfnkidjadDoor
