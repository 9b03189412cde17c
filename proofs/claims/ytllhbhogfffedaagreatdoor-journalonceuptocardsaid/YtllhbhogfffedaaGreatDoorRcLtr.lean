import Derived.Test.YtllhbhogfffedaaGreatDoorRcR23
namespace Go.Proofs.YtllhbhogfffedaaGreatDoor
open Go.RowKit
set_option linter.unusedVariables false
set_option linter.unusedSimpArgs false

/-- What a letter says. -/
def ltB (r : Rc) (c : UInt8) : List Int := if c = 68 then enc r.data.length ++ r.data else if c = 83 then spB r.spans else enc (nmA r (ltL.idxOf c))
def letOk (k : Int) (c : UInt8) : Bool := (c == 68 && hasB (kf k) 9) || ((c == 83 && hasB (kf k) 8) || ltL.contains c)
theorem let_all {k : Int} (h : kf k ≠ 0) : (fsB k).all (letOk k) = true := by
  rcases kf_cases h with rfl | rfl | rfl | rfl | rfl | rfl | rfl | rfl | rfl | rfl | rfl | rfl <;> decide
theorem let_cases {k : Int} (h : kf k ≠ 0) {c : UInt8} (hc : c ∈ fsB k) : (c = 68 ∧ hasB (kf k) 9 = true) ∨ (c = 83 ∧ hasB (kf k) 8 = true) ∨ ∃ j, j < 8 ∧ c = ltL.getD j 0 := by
  have h1 := List.all_eq_true.mp (let_all h) c hc
  unfold letOk at h1
  simp only [Bool.or_eq_true, Bool.and_eq_true, beq_iff_eq] at h1
  rcases h1 with h1 | h1 | h1
  · exact .inl h1
  · exact .inr (.inl h1)
  · right; right
    have h2 : c ∈ ltL := List.contains_iff_mem.mp h1
    obtain ⟨j, hj⟩ := List.getElem?_of_mem h2
    have hl : j < ltL.length := (List.getElem?_eq_some_iff.mp hj).1
    exact ⟨j, hl, by rw [List.getD_eq_getElem?_getD, hj]; rfl⟩
theorem nmB_zero (f : Int) (r : Rc) : nmB f r 0 = [] := rfl
theorem ltB68 (r : Rc) : ltB r 68 = enc r.data.length ++ r.data := by unfold ltB; rw [if_pos rfl]
theorem ltB83 (r : Rc) : ltB r 83 = spB r.spans := by unfold ltB; rw [if_neg (by decide), if_pos rfl]
theorem ltBn (r : Rc) (j : Nat) (hj : j < 8) : ltB r (ltL.getD j 0) = enc (nmA r j) := by
  have : j = 0 ∨ j = 1 ∨ j = 2 ∨ j = 3 ∨ j = 4 ∨ j = 5 ∨ j = 6 ∨ j = 7 := by omega
  rcases this with rfl | rfl | rfl | rfl | rfl | rfl | rfl | rfl <;> (unfold ltB; rw [if_neg (by decide), if_neg (by decide)]; rfl)

theorem ltB79 (r : Rc) : ltB r 79 = enc (nmA r 0) := ltBn r 0 (by decide)
theorem ltB78 (r : Rc) : ltB r 78 = enc (nmA r 1) := ltBn r 1 (by decide)
theorem ltB80 (r : Rc) : ltB r 80 = enc (nmA r 2) := ltBn r 2 (by decide)
theorem ltB86 (r : Rc) : ltB r 86 = enc (nmA r 3) := ltBn r 3 (by decide)
theorem ltB70 (r : Rc) : ltB r 70 = enc (nmA r 4) := ltBn r 4 (by decide)
theorem ltB82 (r : Rc) : ltB r 82 = enc (nmA r 5) := ltBn r 5 (by decide)
theorem ltB90 (r : Rc) : ltB r 90 = enc (nmA r 6) := ltBn r 6 (by decide)
theorem ltB72 (r : Rc) : ltB r 72 = enc (nmA r 7) := ltBn r 7 (by decide)
theorem prl1 (r : Rc) (h : r.kind = 1) : prB r = r.kind :: (fsB r.kind).flatMap (ltB r) := by
  unfold prB tailB
  rw [h]
  have e0 : hasB (kf 1) 0 = true := by decide
  have e1 : hasB (kf 1) 1 = false := by decide
  have e2 : hasB (kf 1) 2 = false := by decide
  have e3 : hasB (kf 1) 3 = false := by decide
  have e4 : hasB (kf 1) 4 = false := by decide
  have e5 : hasB (kf 1) 5 = false := by decide
  have e6 : hasB (kf 1) 6 = true := by decide
  have e7 : hasB (kf 1) 7 = false := by decide
  have e8 : hasB (kf 1) 8 = false := by decide
  have e9 : hasB (kf 1) 9 = false := by decide
  have hf : fsB 1 = [79, 90] := by decide
  rw [hf]
  simp only [nmB_succ, nmB_zero, e0, e1, e2, e3, e4, e5, e6, e7, e8, e9, if_true, Bool.false_eq_true, if_false, List.nil_append, List.append_nil, List.flatMap_cons, List.flatMap_nil, ltB68, ltB83, ltB79, ltB78, ltB80, ltB86, ltB70, ltB82, ltB90, ltB72, List.append_assoc]
theorem prl2 (r : Rc) (h : r.kind = 2) : prB r = r.kind :: (fsB r.kind).flatMap (ltB r) := by
  unfold prB tailB
  rw [h]
  have e0 : hasB (kf 2) 0 = false := by decide
  have e1 : hasB (kf 2) 1 = false := by decide
  have e2 : hasB (kf 2) 2 = false := by decide
  have e3 : hasB (kf 2) 3 = false := by decide
  have e4 : hasB (kf 2) 4 = false := by decide
  have e5 : hasB (kf 2) 5 = false := by decide
  have e6 : hasB (kf 2) 6 = true := by decide
  have e7 : hasB (kf 2) 7 = false := by decide
  have e8 : hasB (kf 2) 8 = false := by decide
  have e9 : hasB (kf 2) 9 = false := by decide
  have hf : fsB 2 = [90] := by decide
  rw [hf]
  simp only [nmB_succ, nmB_zero, e0, e1, e2, e3, e4, e5, e6, e7, e8, e9, if_true, Bool.false_eq_true, if_false, List.nil_append, List.append_nil, List.flatMap_cons, List.flatMap_nil, ltB68, ltB83, ltB79, ltB78, ltB80, ltB86, ltB70, ltB82, ltB90, ltB72, List.append_assoc]
theorem prl3 (r : Rc) (h : r.kind = 3) : prB r = r.kind :: (fsB r.kind).flatMap (ltB r) := by
  unfold prB tailB
  rw [h]
  have e0 : hasB (kf 3) 0 = true := by decide
  have e1 : hasB (kf 3) 1 = true := by decide
  have e2 : hasB (kf 3) 2 = true := by decide
  have e3 : hasB (kf 3) 3 = true := by decide
  have e4 : hasB (kf 3) 4 = false := by decide
  have e5 : hasB (kf 3) 5 = true := by decide
  have e6 : hasB (kf 3) 6 = true := by decide
  have e7 : hasB (kf 3) 7 = false := by decide
  have e8 : hasB (kf 3) 8 = false := by decide
  have e9 : hasB (kf 3) 9 = true := by decide
  have hf : fsB 3 = [79, 78, 80, 86, 82, 90, 68] := by decide
  rw [hf]
  simp only [nmB_succ, nmB_zero, e0, e1, e2, e3, e4, e5, e6, e7, e8, e9, if_true, Bool.false_eq_true, if_false, List.nil_append, List.append_nil, List.flatMap_cons, List.flatMap_nil, ltB68, ltB83, ltB79, ltB78, ltB80, ltB86, ltB70, ltB82, ltB90, ltB72, List.append_assoc]
theorem prl4 (r : Rc) (h : r.kind = 4) : prB r = r.kind :: (fsB r.kind).flatMap (ltB r) := by
  unfold prB tailB
  rw [h]
  have e0 : hasB (kf 4) 0 = true := by decide
  have e1 : hasB (kf 4) 1 = true := by decide
  have e2 : hasB (kf 4) 2 = false := by decide
  have e3 : hasB (kf 4) 3 = false := by decide
  have e4 : hasB (kf 4) 4 = false := by decide
  have e5 : hasB (kf 4) 5 = false := by decide
  have e6 : hasB (kf 4) 6 = false := by decide
  have e7 : hasB (kf 4) 7 = true := by decide
  have e8 : hasB (kf 4) 8 = false := by decide
  have e9 : hasB (kf 4) 9 = false := by decide
  have hf : fsB 4 = [79, 78, 72] := by decide
  rw [hf]
  simp only [nmB_succ, nmB_zero, e0, e1, e2, e3, e4, e5, e6, e7, e8, e9, if_true, Bool.false_eq_true, if_false, List.nil_append, List.append_nil, List.flatMap_cons, List.flatMap_nil, ltB68, ltB83, ltB79, ltB78, ltB80, ltB86, ltB70, ltB82, ltB90, ltB72, List.append_assoc]
theorem prl5 (r : Rc) (h : r.kind = 5) : prB r = r.kind :: (fsB r.kind).flatMap (ltB r) := by
  unfold prB tailB
  rw [h]
  have e0 : hasB (kf 5) 0 = true := by decide
  have e1 : hasB (kf 5) 1 = true := by decide
  have e2 : hasB (kf 5) 2 = false := by decide
  have e3 : hasB (kf 5) 3 = false := by decide
  have e4 : hasB (kf 5) 4 = false := by decide
  have e5 : hasB (kf 5) 5 = false := by decide
  have e6 : hasB (kf 5) 6 = false := by decide
  have e7 : hasB (kf 5) 7 = false := by decide
  have e8 : hasB (kf 5) 8 = false := by decide
  have e9 : hasB (kf 5) 9 = false := by decide
  have hf : fsB 5 = [79, 78] := by decide
  rw [hf]
  simp only [nmB_succ, nmB_zero, e0, e1, e2, e3, e4, e5, e6, e7, e8, e9, if_true, Bool.false_eq_true, if_false, List.nil_append, List.append_nil, List.flatMap_cons, List.flatMap_nil, ltB68, ltB83, ltB79, ltB78, ltB80, ltB86, ltB70, ltB82, ltB90, ltB72, List.append_assoc]
theorem prl6 (r : Rc) (h : r.kind = 6) : prB r = r.kind :: (fsB r.kind).flatMap (ltB r) := by
  unfold prB tailB
  rw [h]
  have e0 : hasB (kf 6) 0 = true := by decide
  have e1 : hasB (kf 6) 1 = true := by decide
  have e2 : hasB (kf 6) 2 = false := by decide
  have e3 : hasB (kf 6) 3 = true := by decide
  have e4 : hasB (kf 6) 4 = true := by decide
  have e5 : hasB (kf 6) 5 = true := by decide
  have e6 : hasB (kf 6) 6 = true := by decide
  have e7 : hasB (kf 6) 7 = false := by decide
  have e8 : hasB (kf 6) 8 = false := by decide
  have e9 : hasB (kf 6) 9 = true := by decide
  have hf : fsB 6 = [79, 78, 86, 70, 82, 90, 68] := by decide
  rw [hf]
  simp only [nmB_succ, nmB_zero, e0, e1, e2, e3, e4, e5, e6, e7, e8, e9, if_true, Bool.false_eq_true, if_false, List.nil_append, List.append_nil, List.flatMap_cons, List.flatMap_nil, ltB68, ltB83, ltB79, ltB78, ltB80, ltB86, ltB70, ltB82, ltB90, ltB72, List.append_assoc]
theorem prl7 (r : Rc) (h : r.kind = 7) : prB r = r.kind :: (fsB r.kind).flatMap (ltB r) := by
  unfold prB tailB
  rw [h]
  have e0 : hasB (kf 7) 0 = true := by decide
  have e1 : hasB (kf 7) 1 = true := by decide
  have e2 : hasB (kf 7) 2 = false := by decide
  have e3 : hasB (kf 7) 3 = false := by decide
  have e4 : hasB (kf 7) 4 = false := by decide
  have e5 : hasB (kf 7) 5 = false := by decide
  have e6 : hasB (kf 7) 6 = false := by decide
  have e7 : hasB (kf 7) 7 = false := by decide
  have e8 : hasB (kf 7) 8 = false := by decide
  have e9 : hasB (kf 7) 9 = false := by decide
  have hf : fsB 7 = [79, 78] := by decide
  rw [hf]
  simp only [nmB_succ, nmB_zero, e0, e1, e2, e3, e4, e5, e6, e7, e8, e9, if_true, Bool.false_eq_true, if_false, List.nil_append, List.append_nil, List.flatMap_cons, List.flatMap_nil, ltB68, ltB83, ltB79, ltB78, ltB80, ltB86, ltB70, ltB82, ltB90, ltB72, List.append_assoc]
theorem prl8 (r : Rc) (h : r.kind = 8) : prB r = r.kind :: (fsB r.kind).flatMap (ltB r) := by
  unfold prB tailB
  rw [h]
  have e0 : hasB (kf 8) 0 = true := by decide
  have e1 : hasB (kf 8) 1 = true := by decide
  have e2 : hasB (kf 8) 2 = false := by decide
  have e3 : hasB (kf 8) 3 = false := by decide
  have e4 : hasB (kf 8) 4 = false := by decide
  have e5 : hasB (kf 8) 5 = false := by decide
  have e6 : hasB (kf 8) 6 = false := by decide
  have e7 : hasB (kf 8) 7 = true := by decide
  have e8 : hasB (kf 8) 8 = false := by decide
  have e9 : hasB (kf 8) 9 = false := by decide
  have hf : fsB 8 = [79, 78, 72] := by decide
  rw [hf]
  simp only [nmB_succ, nmB_zero, e0, e1, e2, e3, e4, e5, e6, e7, e8, e9, if_true, Bool.false_eq_true, if_false, List.nil_append, List.append_nil, List.flatMap_cons, List.flatMap_nil, ltB68, ltB83, ltB79, ltB78, ltB80, ltB86, ltB70, ltB82, ltB90, ltB72, List.append_assoc]
theorem prl9 (r : Rc) (h : r.kind = 9) : prB r = r.kind :: (fsB r.kind).flatMap (ltB r) := by
  unfold prB tailB
  rw [h]
  have e0 : hasB (kf 9) 0 = true := by decide
  have e1 : hasB (kf 9) 1 = true := by decide
  have e2 : hasB (kf 9) 2 = false := by decide
  have e3 : hasB (kf 9) 3 = false := by decide
  have e4 : hasB (kf 9) 4 = false := by decide
  have e5 : hasB (kf 9) 5 = false := by decide
  have e6 : hasB (kf 9) 6 = false := by decide
  have e7 : hasB (kf 9) 7 = false := by decide
  have e8 : hasB (kf 9) 8 = false := by decide
  have e9 : hasB (kf 9) 9 = false := by decide
  have hf : fsB 9 = [79, 78] := by decide
  rw [hf]
  simp only [nmB_succ, nmB_zero, e0, e1, e2, e3, e4, e5, e6, e7, e8, e9, if_true, Bool.false_eq_true, if_false, List.nil_append, List.append_nil, List.flatMap_cons, List.flatMap_nil, ltB68, ltB83, ltB79, ltB78, ltB80, ltB86, ltB70, ltB82, ltB90, ltB72, List.append_assoc]
theorem prl10 (r : Rc) (h : r.kind = 10) : prB r = r.kind :: (fsB r.kind).flatMap (ltB r) := by
  unfold prB tailB
  rw [h]
  have e0 : hasB (kf 10) 0 = true := by decide
  have e1 : hasB (kf 10) 1 = true := by decide
  have e2 : hasB (kf 10) 2 = false := by decide
  have e3 : hasB (kf 10) 3 = false := by decide
  have e4 : hasB (kf 10) 4 = false := by decide
  have e5 : hasB (kf 10) 5 = false := by decide
  have e6 : hasB (kf 10) 6 = false := by decide
  have e7 : hasB (kf 10) 7 = false := by decide
  have e8 : hasB (kf 10) 8 = false := by decide
  have e9 : hasB (kf 10) 9 = false := by decide
  have hf : fsB 10 = [79, 78] := by decide
  rw [hf]
  simp only [nmB_succ, nmB_zero, e0, e1, e2, e3, e4, e5, e6, e7, e8, e9, if_true, Bool.false_eq_true, if_false, List.nil_append, List.append_nil, List.flatMap_cons, List.flatMap_nil, ltB68, ltB83, ltB79, ltB78, ltB80, ltB86, ltB70, ltB82, ltB90, ltB72, List.append_assoc]
theorem prl11 (r : Rc) (h : r.kind = 11) : prB r = r.kind :: (fsB r.kind).flatMap (ltB r) := by
  unfold prB tailB
  rw [h]
  have e0 : hasB (kf 11) 0 = false := by decide
  have e1 : hasB (kf 11) 1 = false := by decide
  have e2 : hasB (kf 11) 2 = false := by decide
  have e3 : hasB (kf 11) 3 = false := by decide
  have e4 : hasB (kf 11) 4 = false := by decide
  have e5 : hasB (kf 11) 5 = false := by decide
  have e6 : hasB (kf 11) 6 = true := by decide
  have e7 : hasB (kf 11) 7 = false := by decide
  have e8 : hasB (kf 11) 8 = true := by decide
  have e9 : hasB (kf 11) 9 = false := by decide
  have hf : fsB 11 = [90, 83] := by decide
  rw [hf]
  simp only [nmB_succ, nmB_zero, e0, e1, e2, e3, e4, e5, e6, e7, e8, e9, if_true, Bool.false_eq_true, if_false, List.nil_append, List.append_nil, List.flatMap_cons, List.flatMap_nil, ltB68, ltB83, ltB79, ltB78, ltB80, ltB86, ltB70, ltB82, ltB90, ltB72, List.append_assoc]
theorem prl12 (r : Rc) (h : r.kind = 12) : prB r = r.kind :: (fsB r.kind).flatMap (ltB r) := by
  unfold prB tailB
  rw [h]
  have e0 : hasB (kf 12) 0 = true := by decide
  have e1 : hasB (kf 12) 1 = true := by decide
  have e2 : hasB (kf 12) 2 = false := by decide
  have e3 : hasB (kf 12) 3 = true := by decide
  have e4 : hasB (kf 12) 4 = false := by decide
  have e5 : hasB (kf 12) 5 = true := by decide
  have e6 : hasB (kf 12) 6 = true := by decide
  have e7 : hasB (kf 12) 7 = false := by decide
  have e8 : hasB (kf 12) 8 = false := by decide
  have e9 : hasB (kf 12) 9 = false := by decide
  have hf : fsB 12 = [79, 78, 86, 82, 90] := by decide
  rw [hf]
  simp only [nmB_succ, nmB_zero, e0, e1, e2, e3, e4, e5, e6, e7, e8, e9, if_true, Bool.false_eq_true, if_false, List.nil_append, List.append_nil, List.flatMap_cons, List.flatMap_nil, ltB68, ltB83, ltB79, ltB78, ltB80, ltB86, ltB70, ltB82, ltB90, ltB72, List.append_assoc]
theorem pr_letters (r : Rc) (h : kf r.kind ≠ 0) : prB r = r.kind :: (fsB r.kind).flatMap (ltB r) := by
  rcases kf_cases h with h | h | h | h | h | h | h | h | h | h | h | h
  · exact prl1 r h
  · exact prl2 r h
  · exact prl3 r h
  · exact prl4 r h
  · exact prl5 r h
  · exact prl6 r h
  · exact prl7 r h
  · exact prl8 r h
  · exact prl9 r h
  · exact prl10 r h
  · exact prl11 r h
  · exact prl12 r h
end Go.Proofs.YtllhbhogfffedaaGreatDoor

namespace Go.Proofs.YtllhbhogfffedaaGreatDoor
open Go.RowKit
set_option linter.unusedVariables false
set_option linter.unusedSimpArgs false

/-- A record with one number more. -/
def setN (r : Rc) (j : Nat) (n : Int) : Rc :=
  if j = 0 then { r with org := n } else if j = 1 then { r with num := n } else if j = 2 then { r with peer := n } else if j = 3 then { r with srv := n }
  else if j = 4 then { r with off := n } else if j = 5 then { r with red := n } else if j = 6 then { r with size := n } else { r with how := n }
set_option maxRecDepth 100000 in
set_option maxHeartbeats 4000000 in
theorem with2_any (r : Rc) (sa da : Option Addr) (ns nd sc dc : Nat) (j : Nat) (hj : j < 8) (n : Int) (w : World) :
    Calls Tryz.prog 93 #[.agg (rcC r (.slice sa ns sc) (.slice da nd dc)), .int .u8 (ltL.getD j 0).toNat, .int .i64 n] w fun e w' => e = .returned (.agg (rcC (setN r j n) (.slice sa ns sc) (.slice da nd dc))) ∧ Below w.heap.size w w' := by
  have : j = 0 ∨ j = 1 ∨ j = 2 ∨ j = 3 ∨ j = 4 ∨ j = 5 ∨ j = 6 ∨ j = 7 := by omega
  rcases this with rfl | rfl | rfl | rfl | rfl | rfl | rfl | rfl
  · go_enter Tryz.func93, Tryz.ntmps93
    go_wp2
    refine bodyPost_ret (v := .agg (rcC { r with org := n } (.slice sa ns sc) (.slice da nd dc))) (by simp [results, Tryz.results93, go_sem, rcC]) rfl ?_
    exact ⟨rfl, ((Below.refl _ _).alloc (Nat.le_refl _) _).alloc (by simp) _⟩
  · go_enter Tryz.func93, Tryz.ntmps93
    go_wp2
    refine bodyPost_ret (v := .agg (rcC { r with num := n } (.slice sa ns sc) (.slice da nd dc))) (by simp [results, Tryz.results93, go_sem, rcC]) rfl ?_
    exact ⟨rfl, ((Below.refl _ _).alloc (Nat.le_refl _) _).alloc (by simp) _⟩
  · go_enter Tryz.func93, Tryz.ntmps93
    go_wp2
    refine bodyPost_ret (v := .agg (rcC { r with peer := n } (.slice sa ns sc) (.slice da nd dc))) (by simp [results, Tryz.results93, go_sem, rcC]) rfl ?_
    exact ⟨rfl, ((Below.refl _ _).alloc (Nat.le_refl _) _).alloc (by simp) _⟩
  · go_enter Tryz.func93, Tryz.ntmps93
    go_wp2
    refine bodyPost_ret (v := .agg (rcC { r with srv := n } (.slice sa ns sc) (.slice da nd dc))) (by simp [results, Tryz.results93, go_sem, rcC]) rfl ?_
    exact ⟨rfl, ((Below.refl _ _).alloc (Nat.le_refl _) _).alloc (by simp) _⟩
  · go_enter Tryz.func93, Tryz.ntmps93
    go_wp2
    refine bodyPost_ret (v := .agg (rcC { r with off := n } (.slice sa ns sc) (.slice da nd dc))) (by simp [results, Tryz.results93, go_sem, rcC]) rfl ?_
    exact ⟨rfl, ((Below.refl _ _).alloc (Nat.le_refl _) _).alloc (by simp) _⟩
  · go_enter Tryz.func93, Tryz.ntmps93
    go_wp2
    refine bodyPost_ret (v := .agg (rcC { r with red := n } (.slice sa ns sc) (.slice da nd dc))) (by simp [results, Tryz.results93, go_sem, rcC]) rfl ?_
    exact ⟨rfl, ((Below.refl _ _).alloc (Nat.le_refl _) _).alloc (by simp) _⟩
  · go_enter Tryz.func93, Tryz.ntmps93
    go_wp2
    refine bodyPost_ret (v := .agg (rcC { r with size := n } (.slice sa ns sc) (.slice da nd dc))) (by simp [results, Tryz.results93, go_sem, rcC]) rfl ?_
    exact ⟨rfl, ((Below.refl _ _).alloc (Nat.le_refl _) _).alloc (by simp) _⟩
  · go_enter Tryz.func93, Tryz.ntmps93
    go_wp2
    refine bodyPost_ret (v := .agg (rcC { r with how := n } (.slice sa ns sc) (.slice da nd dc))) (by simp [results, Tryz.results93, go_sem, rcC]) rfl ?_
    exact ⟨rfl, ((Below.refl _ _).alloc (Nat.le_refl _) _).alloc (by simp) _⟩
end Go.Proofs.YtllhbhogfffedaaGreatDoor

namespace Go.Proofs.YtllhbhogfffedaaGreatDoor
open Go.RowKit
set_option linter.unusedVariables false
set_option linter.unusedSimpArgs false

/-- What a letter makes of a record and of what is left. -/
def upL (s : Rc × Option (List Int)) (c : UInt8) : Rc × Option (List Int) :=
  if c = 68 then ({ s.1 with data := (byt2P s.2).1 }, (byt2P s.2).2)
  else if c = 83 then ({ s.1 with spans := (sps2P s.2).1 }, (sps2P s.2).2)
  else (setN s.1 (ltL.idxOf c) (num2P s.2).1, (num2P s.2).2)
def runL (s : Rc × Option (List Int)) (cs : List UInt8) : Rc × Option (List Int) := cs.foldl upL s
def isL (c : UInt8) : Prop := c = 68 ∨ c = 83 ∨ ∃ j, j < 8 ∧ c = ltL.getD j 0
theorem idx_lt (j : Nat) (hj : j < 8) : ltL.idxOf (ltL.getD j 0) = j := by
  have : j = 0 ∨ j = 1 ∨ j = 2 ∨ j = 3 ∨ j = 4 ∨ j = 5 ∨ j = 6 ∨ j = 7 := by omega
  rcases this with rfl | rfl | rfl | rfl | rfl | rfl | rfl | rfl <;> decide
theorem lt_ne (j : Nat) (hj : j < 8) : ltL.getD j 0 ≠ 68 ∧ ltL.getD j 0 ≠ 83 := by
  have : j = 0 ∨ j = 1 ∨ j = 2 ∨ j = 3 ∨ j = 4 ∨ j = 5 ∨ j = 6 ∨ j = 7 := by omega
  rcases this with rfl | rfl | rfl | rfl | rfl | rfl | rfl | rfl <;> decide
theorem upL68 (s : Rc × Option (List Int)) : upL s 68 = ({ s.1 with data := (byt2P s.2).1 }, (byt2P s.2).2) := by unfold upL; rw [if_pos rfl]
theorem upL83 (s : Rc × Option (List Int)) : upL s 83 = ({ s.1 with spans := (sps2P s.2).1 }, (sps2P s.2).2) := by unfold upL; rw [if_neg (by decide), if_pos rfl]
theorem upLn (s : Rc × Option (List Int)) (j : Nat) (hj : j < 8) : upL s (ltL.getD j 0) = (setN s.1 j (num2P s.2).1, (num2P s.2).2) := by
  unfold upL; rw [if_neg (lt_ne j hj).1, if_neg (lt_ne j hj).2, idx_lt j hj]
theorem nmA_setN (r : Rc) (j i : Nat) (hj : j < 8) (hi : i < 8) (n : Int) : nmA (setN r j n) i = if i = j then n else nmA r i := by
  have h1 : j = 0 ∨ j = 1 ∨ j = 2 ∨ j = 3 ∨ j = 4 ∨ j = 5 ∨ j = 6 ∨ j = 7 := by omega
  have h2 : i = 0 ∨ i = 1 ∨ i = 2 ∨ i = 3 ∨ i = 4 ∨ i = 5 ∨ i = 6 ∨ i = 7 := by omega
  rcases h1 with rfl | rfl | rfl | rfl | rfl | rfl | rfl | rfl <;> rcases h2 with rfl | rfl | rfl | rfl | rfl | rfl | rfl | rfl <;> rfl
theorem setN_lists (r : Rc) (j : Nat) (n : Int) : (setN r j n).spans = r.spans ∧ (setN r j n).data = r.data ∧ (setN r j n).kind = r.kind := by
  unfold setN
  repeat' split
  all_goals exact ⟨rfl, rfl, rfl⟩
theorem ltB_congr {r r' : Rc} (c : UInt8) (hc : isL c) (h1 : c = 68 → r'.data = r.data) (h2 : c = 83 → r'.spans = r.spans) (h3 : ∀ j, j < 8 → c = ltL.getD j 0 → nmA r' j = nmA r j) : ltB r' c = ltB r c := by
  rcases hc with rfl | rfl | ⟨j, hj, rfl⟩
  · rw [ltB68, ltB68, h1 rfl]
  · rw [ltB83, ltB83, h2 rfl]
  · rw [ltBn r' j hj, ltBn r j hj, h3 j hj rfl]
/-- Another letter's bytes stay. -/
theorem upL_other (s : Rc × Option (List Int)) {c d : UInt8} (hc : isL c) (hd : isL d) (hne : d ≠ c) : ltB (upL s c).1 d = ltB s.1 d := by
  rcases hc with rfl | rfl | ⟨j, hj, rfl⟩
  · rw [upL68]
    exact ltB_congr d hd (fun h => absurd h hne) (fun _ => rfl) (fun _ _ _ => rfl)
  · rw [upL83]
    exact ltB_congr d hd (fun _ => rfl) (fun h => absurd h hne) (fun _ _ _ => rfl)
  · rw [upLn s j hj]
    refine ltB_congr d hd (fun _ => (setN_lists _ _ _).2.1) (fun _ => (setN_lists _ _ _).1) (fun i hi e => ?_)
    rw [nmA_setN _ j i hj hi, if_neg]
    intro e2; subst e2; exact hne e
theorem upL_kind (s : Rc × Option (List Int)) {c : UInt8} (hc : isL c) : (upL s c).1.kind = s.1.kind := by
  rcases hc with rfl | rfl | ⟨j, hj, rfl⟩
  · rw [upL68]
  · rw [upL83]
  · rw [upLn s j hj]; exact (setN_lists _ _ _).2.2
theorem num2_inv {q : Option (List Int)} {v : Int} {t' : List Int} (hb : ∀ t, q = some t → Bytey t) (h : num2P q = (v, some t')) : ∃ t, q = some t ∧ t = enc v ++ t' ∧ Bytey t' ∧ 0 ≤ v := by
  cases q with
  | none => simp [num2P] at h
  | some t =>
    cases hn : numP t with
    | none => unfold num2P at h; simp only [hn] at h; cases h
    | some p =>
      obtain ⟨v2, t2⟩ := p
      unfold num2P at h; simp only [hn, Prod.mk.injEq, Option.some.injEq] at h
      obtain ⟨rfl, rfl⟩ := h
      obtain ⟨_, _, _, h4, _, _, h7, _⟩ := numP_inv (hb t rfl) hn
      exact ⟨t, rfl, h4, (numP_by (hb t rfl) hn).1, h7⟩
theorem sp2_inv : ∀ {k : Nat} {q : Option (List Int)} {l : List (Int × Int)} {t' : List Int}, (∀ t, q = some t → Bytey t) → sp2P k q = (l, some t') → ∃ t, q = some t ∧ t = l.flatMap spB1 ++ t'
  | 0, q, l, t', hb, h => by
    simp only [sp2P, Prod.mk.injEq] at h
    obtain ⟨rfl, rfl⟩ := h
    exact ⟨t', rfl, by simp⟩
  | k + 1, q, l, t', hb, h => by
    simp only [sp2P] at h
    split at h
    · cases h
    · rename_i l' t1 h1
      obtain ⟨t, e1, e2⟩ := sp2_inv hb h1
      have hbt := (sp2P_by hb h1).2.1
      simp only [Prod.mk.injEq] at h
      obtain ⟨rfl, h2⟩ := h
      split at h2
      · cases h2
      · obtain ⟨_, _, b3⟩ := num2_bd (q := some t1) (fun t h => by cases h; exact hbt)
        obtain ⟨t2, f1, f2, _, _⟩ := num2_inv (q := (num2P (some t1)).2) (v := (num2P (num2P (some t1)).2).1) (t' := t') (fun t h => (b3 t h).1) (by rw [← h2])
        obtain ⟨t3, g1, g2, _, _⟩ := num2_inv (q := some t1) (v := (num2P (some t1)).1) (t' := t2) (fun t h => by cases h; exact hbt) (by rw [← f1])
        cases g1
        refine ⟨t, e1, ?_⟩
        have hx : ∀ a b : Int, a + b - a = b := fun a b => by omega
        rw [e2, List.flatMap_append]
        simp only [List.flatMap_cons, List.flatMap_nil, List.append_nil, spB1, List.append_assoc, hx]
        rw [← f2, ← g2]
/-- What a letter has taken. -/
theorem upL_took (s : Rc × Option (List Int)) {c : UInt8} (hc : isL c) {t' : List Int} (hb : ∀ t, s.2 = some t → Bytey t) (h : (upL s c).2 = some t') : ∃ t, s.2 = some t ∧ t = ltB (upL s c).1 c ++ t' ∧ Bytey t' := by
  rcases hc with rfl | rfl | ⟨j, hj, rfl⟩
  · rw [upL68] at h ⊢
    simp only at h
    rw [byt2_eq] at h
    cases hq : (num2P s.2).2 with
    | none => rw [hq] at h; cases h
    | some t1 =>
      rw [hq] at h
      simp only at h
      split at h
      · rename_i hn
        simp only [Option.some.injEq] at h
        obtain ⟨t, e1, e2, e3, e4⟩ := num2_inv (v := (num2P s.2).1) (t' := t1) hb (by rw [← hq])
        refine ⟨t, e1, ?_, by rw [← h]; exact bytey_drop e3 _⟩
        have hd : (byt2P s.2).1 = t1.take (num2P s.2).1.toNat := by rw [byt2_eq, hq]; simp only [if_pos hn]
        rw [ltB68]
        simp only [hd]
        have hlen : (((t1.take (num2P s.2).1.toNat).length : Nat) : Int) = (num2P s.2).1 := by rw [List.length_take]; omega
        rw [hlen, List.append_assoc, ← h, List.take_append_drop]
        exact e2
      · cases h
  · rw [upL83] at h ⊢
    simp only at h
    unfold sps2P at h
    obtain ⟨_, _, b3⟩ := num2_bd hb
    have hs : sp2P (num2P s.2).1.toNat (num2P s.2).2 = ((sps2P s.2).1, some t') := by unfold sps2P; rw [← h]
    obtain ⟨t1, e1, e2⟩ := sp2_inv (fun t h => (b3 t h).1) hs
    obtain ⟨hl, hbt, _⟩ := sp2P_by (fun t h => (b3 t h).1) hs
    obtain ⟨t, f1, f2, _, f4⟩ := num2_inv (v := (num2P s.2).1) (t' := t1) hb (by rw [← e1])
    refine ⟨t, f1, ?_, hbt⟩
    rw [ltB83]
    unfold spB
    simp only
    rw [hl, Int.toNat_of_nonneg f4, f2, e2, List.append_assoc]
  · rw [upLn s j hj] at h ⊢
    simp only at h
    obtain ⟨t, e1, e2, e3, e4⟩ := num2_inv (v := (num2P s.2).1) (t' := t') hb (by rw [← h])
    refine ⟨t, e1, ?_, e3⟩
    rw [ltBn _ j hj, nmA_setN _ j j hj hj, if_pos rfl]
    exact e2
theorem run_inv : ∀ (cs : List UInt8) (s : Rc × Option (List Int)) {t' : List Int}, (∀ c ∈ cs, isL c) → cs.Nodup → (∀ t, s.2 = some t → Bytey t) → (runL s cs).2 = some t' → ∃ t, s.2 = some t ∧ t = cs.flatMap (ltB (runL s cs).1) ++ t' ∧ (runL s cs).1.kind = s.1.kind ∧ ∀ d, isL d → d ∉ cs → ltB (runL s cs).1 d = ltB s.1 d
  | [], s, t', hL, hN, hb, h => by
    exact ⟨t', h, by simp, rfl, fun _ _ _ => rfl⟩
  | c :: cs, s, t', hL, hN, hb, h => by
    have hc := hL c (by simp)
    rw [List.nodup_cons] at hN
    have hr : runL s (c :: cs) = runL (upL s c) cs := rfl
    rw [hr] at h ⊢
    have hbu : ∀ t, (upL s c).2 = some t → Bytey t := fun t ht => by
      obtain ⟨_, _, _, h3⟩ := upL_took s hc hb ht
      exact h3
    obtain ⟨t1, e1, e2, e3, e4⟩ := run_inv cs (upL s c) (fun d hd => hL d (List.mem_cons_of_mem _ hd)) hN.2 hbu h
    obtain ⟨t, f1, f2, f3⟩ := upL_took s hc hb e1
    refine ⟨t, f1, ?_, e3.trans (upL_kind s hc), fun d hd hnd => ?_⟩
    · rw [List.flatMap_cons, e4 c hc hN.1, List.append_assoc, f2, e2]
    · rw [e4 d hd (fun h => hnd (List.mem_cons_of_mem _ h))]
      exact upL_other s hc hd (fun e => hnd (by rw [e]; simp))
end Go.Proofs.YtllhbhogfffedaaGreatDoor
