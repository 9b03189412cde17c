import Derived.Test.YtjolflpmeodnaagDoorRcPr2
namespace Go.Proofs.YtjolflpmeodnaagDoor
open Go.RowKit

/-- A kind's letters. -/
def fsB (k : Int) : List UInt8 :=
  if k = 1 then [79, 90] else if k = 2 then [90] else if k = 3 then [79, 78, 80, 86, 82, 90, 68] else if k = 4 then [79, 78, 72] else if k = 8 then [79, 78, 72]
  else if k = 5 then [79, 78] else if k = 7 then [79, 78] else if k = 9 then [79, 78] else if k = 10 then [79, 78] else if k = 6 then [79, 78, 86, 70, 82, 90, 68]
  else if k = 11 then [90, 83] else if k = 12 then [79, 78, 86, 82, 90] else []
abbrev fsV (k : Int) : Value := .string ⟨(fsB k).toArray⟩

/-- Is a letter in a word? -/
def hasS (l : List UInt8) (c : UInt8) : Bool := l.contains c
theorem hasS_cons (x : UInt8) (l : List UInt8) (c : UInt8) : hasS (x :: l) c = (c == x || hasS l c) := by unfold hasS; rw [List.contains_cons]
abbrev ltL : List UInt8 := [79, 78, 80, 86, 70, 82, 90, 72]
set_option maxRecDepth 100000 in
set_option maxHeartbeats 1000000 in
theorem get2_any (r : Rc) (sv dv : Value) (i : Nat) (hi : i < 8) (w : World) :
    Calls Tryd.prog 22 #[.agg (rcC r sv dv), .int .u8 (ltL.getD i 0).toNat] w fun e w' => e = .returned (.int .i64 (nmA r i)) ∧ w' = w.alloc (rcO r sv dv) := by
  have : i = 0 ∨ i = 1 ∨ i = 2 ∨ i = 3 ∨ i = 4 ∨ i = 5 ∨ i = 6 ∨ i = 7 := by omega
  rcases this with rfl | rfl | rfl | rfl | rfl | rfl | rfl | rfl
  all_goals
    go_enter Tryd.func22, Tryd.ntmps22
    go_wp2
    go_ret
    exact ⟨rfl, rfl⟩
end Go.Proofs.YtjolflpmeodnaagDoor
