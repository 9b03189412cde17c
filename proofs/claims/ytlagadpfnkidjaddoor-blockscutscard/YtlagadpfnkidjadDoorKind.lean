import Derived.Test.YtlagadpfnkidjadDoorCur
namespace Go.Proofs.YtlagadpfnkidjadDoor
open Go.RowKit

def tabl : List Int := [3, 7, 7, 7, 3, 0, 0, 3, 9, 17, 0, 0, 33, 1, 33, 1]
/-- The table of the types lies in its variable. -/
def Tab (w : World) : Prop := ∀ i : Nat, i < 16 → w.cell? ⟨0, i, none⟩ = some (.int .u8 (tabl.getD i 0))

theorem Tab.grown {w w' : World} {row : Option Nat} (h : Tab w) (hg : w.grownBy w' row) (hr : row ≠ some 0) : Tab w' := fun i hi => hg.cell (h i hi) (fun e => hr e.symm)
theorem Tab.below {w w' : World} {B : Nat} (h : Tab w) (hb : Below B w w') (hB : 0 < B) : Tab w' := fun i hi => (hb.cell (p := ⟨0, i, none⟩) hB).trans (h i hi)

theorem shp_cases (t : Int) : shp t = 0 ∨ shp t = 1 ∨ shp t = 3 ∨ shp t = 7 ∨ shp t = 9 ∨ shp t = 17 ∨ shp t = 33 := by
  unfold shp
  split
  · simp
  · rename_i h
    have : t.toNat < 16 := by omega
    generalize t.toNat = k at this
    have h : k = 0 ∨ k = 1 ∨ k = 2 ∨ k = 3 ∨ k = 4 ∨ k = 5 ∨ k = 6 ∨ k = 7 ∨ k = 8 ∨ k = 9 ∨ k = 10 ∨ k = 11 ∨ k = 12 ∨ k = 13 ∨ k = 14 ∨ k = 15 := by omega
    rcases h with rfl | rfl | rfl | rfl | rfl | rfl | rfl | rfl | rfl | rfl | rfl | rfl | rfl | rfl | rfl | rfl <;> simp

set_option maxHeartbeats 400000 in
theorem shapeOf_any (t : Int) (w : World) (h : Tab w) :
    Calls Tryd.prog 80 #[.int .i64 t] w fun e w' => e = .returned (.int .u8 (shp t)) ∧ w = w' := by
  by_cases h0 : t < 0
  · have hs : Hid (shp t = 0) := by unfold Hid shp; rw [if_pos (by omega)]
    generalize shp t = q at *
    go_enter Tryd.func80, Tryd.ntmps80
    go_wp2
    go_ret
    exact ⟨by rw [hs.out]; rfl, rfl⟩
  · by_cases h1 : 16 ≤ t
    · have hs : Hid (shp t = 0) := by unfold Hid shp; rw [if_pos (by omega)]
      generalize shp t = q at *
      have h0' : decide (t < 0) = false := by simpa using h0
      go_enter Tryd.func80, Tryd.ntmps80
      go_wp2
      go_ret
      exact ⟨by rw [hs.out]; rfl, rfl⟩
    · have hs : Hid (shp t = tabl.getD t.toNat 0) := by unfold Hid shp; rw [if_neg (by omega)]; rfl
      generalize shp t = q at *
      have hc := h t.toNat (by omega)
      obtain ⟨k, rfl⟩ : ∃ k : Nat, t = k := ⟨t.toNat, by omega⟩
      rw [Int.toNat_natCast] at hc hs
      generalize tabl.getD k 0 = z at *
      have h2 : (k : Int) < 16 := by omega
      have h3 : 0 ≤ (k : Int) := by omega
      clear h h0 h1
      go_enter Tryd.func80, Tryd.ntmps80
      go_wp2
      go_ret
      exact ⟨by rw [hs.out]; rfl, rfl⟩

def anyB (p s : Int) : Bool := bits .and .u8 p s != 0
set_option maxHeartbeats 400000 in
theorem any_any (p s : Int) (w : World) :
    Calls Tryd.prog 81 #[.int .u8 p, .int .u8 s] w fun e w' => e = .returned (.bool (anyB p s)) ∧ w = w' := by
  go_enter Tryd.func81, Tryd.ntmps81
  go_wp2
  go_ret
  exact ⟨rfl, rfl⟩

def one (q : Bool) : Int := if q then 1 else 0
set_option maxHeartbeats 400000 in
theorem oneIf_any (q : Bool) (w : World) :
    Calls Tryd.prog 111 #[.bool q] w fun e w' => e = .returned (.int .i64 (one q)) ∧ w = w' := by
  cases q
  · go_enter Tryd.func111, Tryd.ntmps111
    go_wp2
    go_ret
    exact ⟨rfl, rfl⟩
  · go_enter Tryd.func111, Tryd.ntmps111
    go_wp2
    go_ret
    exact ⟨rfl, rfl⟩
set_option maxHeartbeats 400000 in
theorem leastCheck_any (p : Int) (w : World) :
    Calls Tryd.prog 94 #[.int .u8 p] w fun e w' => e = .returned (.int .i64 (one (anyB p 4))) ∧ w = w' := by
  go_enter Tryd.func94, Tryd.ntmps94
  go_wp2_with (first | (go_at_call 81; refine (any_any _ _ _).mono ?_; rintro e w' ⟨rfl, rfl⟩) | (go_at_call 111; refine (oneIf_any _ _).mono ?_; rintro e w' ⟨rfl, rfl⟩))
  go_ret
  exact ⟨rfl, rfl⟩
set_option maxHeartbeats 400000 in
theorem leastReport_any (p : Int) (w : World) :
    Calls Tryd.prog 95 #[.int .u8 p] w fun e w' => e = .returned (.int .i64 (one (anyB p 24))) ∧ w = w' := by
  go_enter Tryd.func95, Tryd.ntmps95
  go_wp2_with (first | (go_at_call 81; refine (any_any _ _ _).mono ?_; rintro e w' ⟨rfl, rfl⟩) | (go_at_call 111; refine (oneIf_any _ _).mono ?_; rintro e w' ⟨rfl, rfl⟩))
  go_ret
  exact ⟨rfl, rfl⟩

theorem step_fail {α : Type} {zs : List Int} {p : Pr α} {st : St} (v : α) (x : Int) (hx : x ≠ 0) (hp : st.1 = 0 → p (zs.drop st.2) = .bad x) : Step zs p st v (if st.1 = 0 then x else st.1, st.2) := by
  by_cases hf : st.1 = 0
  · rw [if_pos hf]; exact Step.fault _ _ _ hf hx (hp hf)
  · rw [if_neg hf]; exact Step.bad _ hf

theorem anyB_odd (t : Int) : anyB (shp t) 1 = decide (shp t % 2 = 1) := by
  rcases shp_cases t with h | h | h | h | h | h | h <;> rw [h] <;> decide

end Go.Proofs.YtlagadpfnkidjadDoor
