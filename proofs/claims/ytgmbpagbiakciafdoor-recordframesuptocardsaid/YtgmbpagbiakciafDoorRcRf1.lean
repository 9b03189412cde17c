import Derived.Test.YtgmbpagbiakciafDoorRcPr2
namespace Go.Proofs.YtgmbpagbiakciafDoor
open Go.RowKit

/-- A kind's letters. -/
def fsB (k : Int) : List UInt8 :=
  if k = 1 then [79, 90] else if k = 2 then [90] else if k = 3 then [79, 78, 80, 86, 82, 90, 68] else if k = 4 then [79, 78, 72] else if k = 8 then [79, 78, 72]
  else if k = 5 then [79, 78] else if k = 7 then [79, 78] else if k = 9 then [79, 78] else if k = 10 then [79, 78] else if k = 6 then [79, 78, 86, 70, 82, 90, 68]
  else if k = 11 then [90, 83] else if k = 12 then [79, 78, 86, 82, 90] else []
abbrev fsV (k : Int) : Value := .string ⟨(fsB k).toArray⟩

set_option maxRecDepth 100000 in
set_option maxHeartbeats 2000000 in
theorem fields2_any (k : Int) (w : World) :
    Calls Tryd.prog 43 #[.int .i64 k] w fun e w' => e = .returned (fsV k) ∧ w = w' := by
  by_cases h1 : k = 1
  · subst h1
    go_enter Tryd.func43, Tryd.ntmps43
    go_wp2
    go_ret
    exact ⟨rfl, rfl⟩
  by_cases h2 : k = 2
  · subst h2
    go_enter Tryd.func43, Tryd.ntmps43
    go_wp2
    go_ret
    exact ⟨rfl, rfl⟩
  by_cases h3 : k = 3
  · subst h3
    go_enter Tryd.func43, Tryd.ntmps43
    go_wp2
    go_ret
    exact ⟨rfl, rfl⟩
  by_cases h4 : k = 4
  · subst h4
    go_enter Tryd.func43, Tryd.ntmps43
    go_wp2
    go_ret
    exact ⟨rfl, rfl⟩
  by_cases h8 : k = 8
  · subst h8
    go_enter Tryd.func43, Tryd.ntmps43
    go_wp2
    go_ret
    exact ⟨rfl, rfl⟩
  by_cases h5 : k = 5
  · subst h5
    go_enter Tryd.func43, Tryd.ntmps43
    go_wp2
    go_ret
    exact ⟨rfl, rfl⟩
  by_cases h7 : k = 7
  · subst h7
    go_enter Tryd.func43, Tryd.ntmps43
    go_wp2
    go_ret
    exact ⟨rfl, rfl⟩
  by_cases h9 : k = 9
  · subst h9
    go_enter Tryd.func43, Tryd.ntmps43
    go_wp2
    go_ret
    exact ⟨rfl, rfl⟩
  by_cases h10 : k = 10
  · subst h10
    go_enter Tryd.func43, Tryd.ntmps43
    go_wp2
    go_ret
    exact ⟨rfl, rfl⟩
  by_cases h6 : k = 6
  · subst h6
    go_enter Tryd.func43, Tryd.ntmps43
    go_wp2
    go_ret
    exact ⟨rfl, rfl⟩
  by_cases h11 : k = 11
  · subst h11
    go_enter Tryd.func43, Tryd.ntmps43
    go_wp2
    go_ret
    exact ⟨rfl, rfl⟩
  by_cases h12 : k = 12
  · subst h12
    go_enter Tryd.func43, Tryd.ntmps43
    go_wp2
    go_ret
    exact ⟨rfl, rfl⟩
  have HE : Hid (fsB k = []) := by unfold Hid fsB; rw [if_neg h1, if_neg h2, if_neg h3, if_neg h4, if_neg h8, if_neg h5, if_neg h7, if_neg h9, if_neg h10, if_neg h6, if_neg h11, if_neg h12]
  go_enter Tryd.func43, Tryd.ntmps43
  go_wp2
  go_ret
  exact ⟨congrArg Ending.returned (show Value.string ⟨#[]⟩ = Value.string ⟨(fsB k).toArray⟩ by rw [HE.out]), rfl⟩

/-- Is a letter in a word? -/
def hasS (l : List UInt8) (c : UInt8) : Bool := l.contains c
theorem hasS_cons (x : UInt8) (l : List UInt8) (c : UInt8) : hasS (x :: l) c = (c == x || hasS l c) := by unfold hasS; rw [List.contains_cons]
set_option maxHeartbeats 1000000 in
theorem has2_any (l : List UInt8) (c : UInt8) (hl : l.length ≤ 10) (w : World) :
    Calls Tryd.prog 46 #[.string ⟨l.toArray⟩, .int .u8 c.toNat] w fun e w' => e = .returned (.bool (hasS l c)) ∧ w = w' := by
  go_enter Tryd.func46, Tryd.ntmps46
  go_wp2_with fail
  go_loop [5] (fun i => ∃ k : Nat, k ≤ l.length ∧ i = .int .i64 k ∧ hasS l c = hasS (l.drop k) c) (fun i => l.length - (intOf i).toNat)
  case atStart => exact ⟨0, Nat.zero_le _, rfl, rfl⟩
  case round =>
    obtain ⟨k, hk, rfl, hh⟩ := hrel
    have HH : Hid (hasS l c = hasS (l.drop k) c) := hh
    clear hh
    by_cases hlt : k < l.length
    · have hlt' : (k : Int) < (l.length : Int) := by omega
      have HD : Hid (l.drop k = l[k] :: l.drop (k + 1)) := List.drop_eq_getElem_cons hlt
      go_wp2
      · rename_i h _
        have hx : l[k] = c := by
          have h2 : (l[k].toNat : Int) = (c.toNat : Int) := beq_iff_eq.mp h
          exact UInt8.toNat_inj.mp (by omega)
        go_ret
        exact ⟨congrArg (fun b => Ending.returned (Value.bool b)) (by rw [HH.out, HD.out, hasS_cons, hx]; simp), rfl⟩
      · rename_i h
        have hx : ¬ c = l[k] := by
          intro e
          have h2 : ¬ (l[k].toNat : Int) = (c.toNat : Int) := beq_eq_false_iff_ne.mp h
          exact h2 (by rw [e])
        go_round
        case rel => exact ⟨k + 1, by omega, by go_num, by rw [HH.out, HD.out, hasS_cons, beq_false_of_ne hx]; rfl⟩
        case measure => simp [intOf]; omega
    · have he : l.drop k = [] := List.drop_eq_nil_of_le (by omega)
      have HE : Hid (hasS l c = false) := by unfold Hid; rw [HH.out, he]; rfl
      go_wp2
      go_ret
      exact ⟨congrArg (fun b => Ending.returned (Value.bool b)) HE.out.symm, rfl⟩

abbrev ltL : List UInt8 := [79, 78, 80, 86, 70, 82, 90, 72]
set_option maxRecDepth 100000 in
set_option maxHeartbeats 1000000 in
theorem get2_any (r : Rc) (sv dv : Value) (i : Nat) (hi : i < 8) (w : World) :
    Calls Tryd.prog 45 #[.agg (rcC r sv dv), .int .u8 (ltL.getD i 0).toNat] w fun e w' => e = .returned (.int .i64 (nmA r i)) ∧ w' = w.alloc (rcO r sv dv) := by
  have : i = 0 ∨ i = 1 ∨ i = 2 ∨ i = 3 ∨ i = 4 ∨ i = 5 ∨ i = 6 ∨ i = 7 := by omega
  rcases this with rfl | rfl | rfl | rfl | rfl | rfl | rfl | rfl
  all_goals
    go_enter Tryd.func45, Tryd.ntmps45
    go_wp2
    go_ret
    exact ⟨rfl, rfl⟩
end Go.Proofs.YtgmbpagbiakciafDoor
