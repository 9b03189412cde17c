import Derived.Test.YtpdafcchldenpaaDoorRpM
namespace Go.Proofs.YtpdafcchldenpaaDoor.C
open Go.RowKit Go.Shelf
set_option linter.unusedVariables false

/-! ## The reference's Missing -/
theorem miss_step {L : List Pz} {j : Nat} {x : Pz} (hx : L[j]? = some x) : pick false (L.take (j + 1)) = pick false (L.take j) ++ (if x.2 = false then [x.1] else []) := by
  rw [List.take_add_one, hx, pick_append]
  cases e : x.2 <;> simp [pick, e]
theorem pick_le (L : List Pz) (j : Nat) : (pick false (L.take j)).length ≤ j := Nat.le_trans (pick_len false _) (by rw [List.length_take]; exact Nat.min_le_left _ _)
theorem SOwn.app2 {w : World} {base : Nat} {v : Value} {l : List Sp} {p : Sp} (h : w.ownsRow base 40 2 v (l.length + 1) (l.flatMap spc ++ [.int .i64 p.1, .int .i64 p.2])) : SOwn w base v (l ++ [p]) := by
  unfold SOwn
  rw [List.length_append, List.flatMap_append]
  exact h
theorem below_app {w2 wr w9 : World} {v : Value} {l : List Sp} {o : Obj} (hb : Below w2.heap.size w2 wr) (hs : SOwn wr w2.heap.size v l) (hg : (wr.alloc o).grownBy w9 v.ownBlock) : Below w2.heap.size w2 w9 :=
  (hb.alloc hb.size o).grown hg (by have := hb.size; simp; omega) (fun k hk => (hs.lt k hk).1)
/-- Where two thousand are reached nothing more is taken. -/
theorem pick_more {L : List Pz} {j : Nat} (h : (pick false (L.take j)).length = 2000) : (pick false L).take 2000 = pick false (L.take j) := by
  have e : pick false L = pick false (L.take j) ++ pick false (L.drop j) := by rw [← pick_append, List.take_append_drop]
  rw [e, List.take_append_of_le_length (by omega), List.take_of_length_le (by omega)]

end Go.Proofs.YtpdafcchldenpaaDoor.C
