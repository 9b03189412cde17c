import Derived.Test.YtillgoegiplmkaaGreatDoorNums
import Derived.Test.YtillgoegiplmkaaGreatDoorRcMath
namespace Go.Proofs.YtillgoegiplmkaaGreatDoor
open Go.RowKit

/-- Is a field one of these? -/
def hasB (f : Int) (i : Nat) : Bool := bits .and .u16 f (2 ^ i) != 0

set_option maxHeartbeats 400000 in
theorem rhas_any (f : Int) (i : Nat) (w : World) (hi : i < 10) :
    Calls Tryz.prog 153 #[.int .u16 f, .int .i64 i] w fun e w' => e = .returned (.bool (hasB f i)) ∧ w = w' := by
  have h63 : (i : Int) < 64 := by omega
  have h2 : (2 : Int) ^ i ≤ 512 := by
    have : i = 0 ∨ i = 1 ∨ i = 2 ∨ i = 3 ∨ i = 4 ∨ i = 5 ∨ i = 6 ∨ i = 7 ∨ i = 8 ∨ i = 9 := by omega
    rcases this with rfl | rfl | rfl | rfl | rfl | rfl | rfl | rfl | rfl | rfl <;> decide
  have h20 : (0 : Int) < (2 : Int) ^ i := Int.pow_pos (by omega)
  have hw : IntKind.u16.wrap ((2 : Int) ^ i) = 2 ^ i := by simp only [IntKind.wrap, IntKind.bits, IntKind.signed]; simp; omega
  go_enter Tryz.func153, Tryz.ntmps153
  go_wp2
  go_ret
  exact ⟨rfl, rfl⟩

set_option maxHeartbeats 400000 in
theorem rbetween_any (n lo hi : Int) (w : World) :
    Calls Tryz.prog 155 #[.int .i64 n, .int .i64 lo, .int .i64 hi] w fun e w' => e = .returned (.bool (decide (lo ≤ n) && decide (n ≤ hi))) ∧ w = w' := by
  by_cases h1 : lo ≤ n
  · have h1' : decide (lo ≤ n) = true := decide_eq_true h1
    go_enter Tryz.func155, Tryz.ntmps155
    go_wp2
    go_ret
    exact ⟨by rw [h1']; rfl, rfl⟩
  · have h1' : decide (lo ≤ n) = false := decide_eq_false h1
    go_enter Tryz.func155, Tryz.ntmps155
    go_wp2
    go_ret
    exact ⟨rfl, rfl⟩

/-- A number that a field may be. -/
def numB (i : Nat) (n : Int) : Bool := if i = 0 then (decide (1 ≤ n) && decide (n ≤ 4611686018427387903)) else if i = 1 then (decide (1 ≤ n) && decide (n ≤ 4611686018427387902)) else (decide (0 ≤ n) && decide (n ≤ 4611686018427387903))
set_option maxHeartbeats 400000 in
theorem numberMayBe_any (i : Nat) (n : Int) (w : World) :
    Calls Tryz.prog 154 #[.int .i64 i, .int .i64 n] w fun e w' => e = .returned (.bool (numB i n)) ∧ w = w' := by
  by_cases h0 : i = 0
  · subst h0
    go_enter Tryz.func154, Tryz.ntmps154
    go_wp2_with (go_at_call 155; refine (rbetween_any _ _ _ _).mono ?_; rintro e w' ⟨rfl, rfl⟩)
    go_ret
    exact ⟨rfl, rfl⟩
  · by_cases h1 : i = 1
    · subst h1
      go_enter Tryz.func154, Tryz.ntmps154
      go_wp2_with (go_at_call 155; refine (rbetween_any _ _ _ _).mono ?_; rintro e w' ⟨rfl, rfl⟩)
      go_ret
      exact ⟨rfl, rfl⟩
    · have h0' : ¬ (i : Int) = 0 := by omega
      have h1' : ¬ (i : Int) = 1 := by omega
      have hn : numB i n = (decide (0 ≤ n) && decide (n ≤ 4611686018427387903)) := by unfold numB; rw [if_neg h0, if_neg h1]
      rw [hn]
      clear hn
      go_enter Tryz.func154, Tryz.ntmps154
      go_wp2_with (go_at_call 155; refine (rbetween_any _ _ _ _).mono ?_; rintro e w' ⟨rfl, rfl⟩)
      go_ret
      exact ⟨rfl, rfl⟩

/-- The kinds' fields. -/
def kiT : List Int := [0, 65, 64, 623, 131, 3, 635, 3, 131, 3, 3, 320, 107]
/-- The table of the kinds' fields lies where its initialiser laid it. -/
def Tab6 (w : World) : Prop := ∀ i : Nat, i < 13 → w.cell? ⟨0, i, none⟩ = some (.int .u16 (kiT.getD i 0))
theorem Tab6.below {w w' : World} {B : Nat} (h : Tab6 w) (hb : Below B w w') (hB : 0 < B) : Tab6 w' := fun i hi => (hb.cell (p := ⟨0, i, none⟩) hB).trans (h i hi)
theorem tab6_pos {w : World} (h : Tab6 w) : 0 < w.heap.size := World.block_lt_of_cell? w ⟨0, 0, none⟩ (h 0 (by omega))

abbrev nextV : Value := .agg #[.int .i64 2, .int .i64 0, .int .i64 0, .int .i64 0, .int .i64 0, .int .i64 0, .int .i64 0, .int .i64 300, .int .i64 0, .slice none 0 0, .slice none 0 0]
abbrev nextO : Obj := .cells #[.int .i64 2, .int .i64 0, .int .i64 0, .int .i64 0, .int .i64 0, .int .i64 0, .int .i64 0, .int .i64 300, .int .i64 0, .slice none 0 0, .slice none 0 0] 35
abbrev nextN : Value := .agg #[.int .i64 0, .int .i64 0, .int .i64 0, .int .i64 0, .int .i64 0, .int .i64 0, .int .i64 300, .int .i64 0]

theorem heap_new6 (w : World) (o : Obj) : (w.alloc o).heap[w.heap.size]? = some o := by
  have : (w.alloc o).heap = w.heap.push o := rfl
  rw [this]; simp
/-- What is no bytes stays as it is. -/
def Keeps8 (w w' : World) : Prop := ∀ (g : Nat) (cs : Array Value) (t : TypeId) (fr : Nat × Nat), w.heap[g]? = some (.cells cs t fr) → t ≠ 5 → w'.heap[g]? = some (.cells cs t fr)
/-- What stands in the row as the numbers are put there. -/
def FrmO (w : World) (base : Nat) (v : Value) (k : Nat) : Prop :=
  (k ≤ 6 ∧ w.ownsRow base 5 1 v 1 [.int .u8 2]) ∨ (6 < k ∧ w.ownsRow base 5 1 v 3 [.int .u8 2, .int .u8 130, .int .u8 44])
end Go.Proofs.YtillgoegiplmkaaGreatDoor
