import Derived.Test.YtllhbhogfffedaaGreatDoorJkSs
import Derived.Test.YtllhbhogfffedaaGreatDoorRcFrM
import Derived.Deep.RegionHeld3
namespace Go.Proofs.YtllhbhogfffedaaGreatDoor
open Go.RowKit
set_option linter.unusedVariables false
set_option linter.unusedSimpArgs false

/-- What a letter says. -/
def ltB (r : Rc) (c : UInt8) : List Int := if c = 68 then enc r.data.length ++ r.data else if c = 83 then spB r.spans else enc (nmA r (ltL.idxOf c))
def letOk (k : Int) (c : UInt8) : Bool := (c == 68 && hasB (kf k) 9) || ((c == 83 && hasB (kf k) 8) || ltL.contains c)
theorem let_all {k : Int} (h : kf k ≠ 0) : (fsB k).all (letOk k) = true := by
  rcases kf_cases h with rfl | rfl | rfl | rfl | rfl | rfl | rfl | rfl | rfl | rfl | rfl | rfl <;> decide
theorem let_cases {k : Int} (h : kf k ≠ 0) {c : UInt8} (hc : c ∈ fsB k) : (c = 68 ∧ hasB (kf k) 9 = true) ∨ (c = 83 ∧ hasB (kf k) 8 = true) ∨ ∃ j, j < 8 ∧ c = ltL.getD j 0 := by
  have h1 := List.all_eq_true.mp (let_all h) c hc
  unfold letOk at h1
  simp only [Bool.or_eq_true, Bool.and_eq_true, beq_iff_eq] at h1
  rcases h1 with h1 | h1 | h1
  · exact .inl h1
  · exact .inr (.inl h1)
  · right; right
    have h2 : c ∈ ltL := List.contains_iff_mem.mp h1
    obtain ⟨j, hj⟩ := List.getElem?_of_mem h2
    have hl : j < ltL.length := (List.getElem?_eq_some_iff.mp hj).1
    exact ⟨j, hl, by rw [List.getD_eq_getElem?_getD, hj]; rfl⟩
theorem nmB_zero (f : Int) (r : Rc) : nmB f r 0 = [] := rfl
theorem ltB68 (r : Rc) : ltB r 68 = enc r.data.length ++ r.data := by unfold ltB; rw [if_pos rfl]
theorem ltB83 (r : Rc) : ltB r 83 = spB r.spans := by unfold ltB; rw [if_neg (by decide), if_pos rfl]
theorem ltBn (r : Rc) (j : Nat) (hj : j < 8) : ltB r (ltL.getD j 0) = enc (nmA r j) := by
  have : j = 0 ∨ j = 1 ∨ j = 2 ∨ j = 3 ∨ j = 4 ∨ j = 5 ∨ j = 6 ∨ j = 7 := by omega
  rcases this with rfl | rfl | rfl | rfl | rfl | rfl | rfl | rfl <;> (unfold ltB; rw [if_neg (by decide), if_neg (by decide)]; rfl)

theorem ltB79 (r : Rc) : ltB r 79 = enc (nmA r 0) := ltBn r 0 (by decide)
theorem ltB78 (r : Rc) : ltB r 78 = enc (nmA r 1) := ltBn r 1 (by decide)
theorem ltB80 (r : Rc) : ltB r 80 = enc (nmA r 2) := ltBn r 2 (by decide)
theorem ltB86 (r : Rc) : ltB r 86 = enc (nmA r 3) := ltBn r 3 (by decide)
theorem ltB70 (r : Rc) : ltB r 70 = enc (nmA r 4) := ltBn r 4 (by decide)
theorem ltB82 (r : Rc) : ltB r 82 = enc (nmA r 5) := ltBn r 5 (by decide)
theorem ltB90 (r : Rc) : ltB r 90 = enc (nmA r 6) := ltBn r 6 (by decide)
theorem ltB72 (r : Rc) : ltB r 72 = enc (nmA r 7) := ltBn r 7 (by decide)
theorem prl1 (r : Rc) (h : r.kind = 1) : prB r = r.kind :: (fsB r.kind).flatMap (ltB r) := by
  unfold prB tailB
  rw [h]
  have e0 : hasB (kf 1) 0 = true := by decide
  have e1 : hasB (kf 1) 1 = false := by decide
  have e2 : hasB (kf 1) 2 = false := by decide
  have e3 : hasB (kf 1) 3 = false := by decide
  have e4 : hasB (kf 1) 4 = false := by decide
  have e5 : hasB (kf 1) 5 = false := by decide
  have e6 : hasB (kf 1) 6 = true := by decide
  have e7 : hasB (kf 1) 7 = false := by decide
  have e8 : hasB (kf 1) 8 = false := by decide
  have e9 : hasB (kf 1) 9 = false := by decide
  have hf : fsB 1 = [79, 90] := by decide
  rw [hf]
  simp only [nmB_succ, nmB_zero, e0, e1, e2, e3, e4, e5, e6, e7, e8, e9, if_true, Bool.false_eq_true, if_false, List.nil_append, List.append_nil, List.flatMap_cons, List.flatMap_nil, ltB68, ltB83, ltB79, ltB78, ltB80, ltB86, ltB70, ltB82, ltB90, ltB72, List.append_assoc]
theorem prl2 (r : Rc) (h : r.kind = 2) : prB r = r.kind :: (fsB r.kind).flatMap (ltB r) := by
  unfold prB tailB
  rw [h]
  have e0 : hasB (kf 2) 0 = false := by decide
  have e1 : hasB (kf 2) 1 = false := by decide
  have e2 : hasB (kf 2) 2 = false := by decide
  have e3 : hasB (kf 2) 3 = false := by decide
  have e4 : hasB (kf 2) 4 = false := by decide
  have e5 : hasB (kf 2) 5 = false := by decide
  have e6 : hasB (kf 2) 6 = true := by decide
  have e7 : hasB (kf 2) 7 = false := by decide
  have e8 : hasB (kf 2) 8 = false := by decide
  have e9 : hasB (kf 2) 9 = false := by decide
  have hf : fsB 2 = [90] := by decide
  rw [hf]
  simp only [nmB_succ, nmB_zero, e0, e1, e2, e3, e4, e5, e6, e7, e8, e9, if_true, Bool.false_eq_true, if_false, List.nil_append, List.append_nil, List.flatMap_cons, List.flatMap_nil, ltB68, ltB83, ltB79, ltB78, ltB80, ltB86, ltB70, ltB82, ltB90, ltB72, List.append_assoc]
theorem prl3 (r : Rc) (h : r.kind = 3) : prB r = r.kind :: (fsB r.kind).flatMap (ltB r) := by
  unfold prB tailB
  rw [h]
  have e0 : hasB (kf 3) 0 = true := by decide
  have e1 : hasB (kf 3) 1 = true := by decide
  have e2 : hasB (kf 3) 2 = true := by decide
  have e3 : hasB (kf 3) 3 = true := by decide
  have e4 : hasB (kf 3) 4 = false := by decide
  have e5 : hasB (kf 3) 5 = true := by decide
  have e6 : hasB (kf 3) 6 = true := by decide
  have e7 : hasB (kf 3) 7 = false := by decide
  have e8 : hasB (kf 3) 8 = false := by decide
  have e9 : hasB (kf 3) 9 = true := by decide
  have hf : fsB 3 = [79, 78, 80, 86, 82, 90, 68] := by decide
  rw [hf]
  simp only [nmB_succ, nmB_zero, e0, e1, e2, e3, e4, e5, e6, e7, e8, e9, if_true, Bool.false_eq_true, if_false, List.nil_append, List.append_nil, List.flatMap_cons, List.flatMap_nil, ltB68, ltB83, ltB79, ltB78, ltB80, ltB86, ltB70, ltB82, ltB90, ltB72, List.append_assoc]
theorem prl4 (r : Rc) (h : r.kind = 4) : prB r = r.kind :: (fsB r.kind).flatMap (ltB r) := by
  unfold prB tailB
  rw [h]
  have e0 : hasB (kf 4) 0 = true := by decide
  have e1 : hasB (kf 4) 1 = true := by decide
  have e2 : hasB (kf 4) 2 = false := by decide
  have e3 : hasB (kf 4) 3 = false := by decide
  have e4 : hasB (kf 4) 4 = false := by decide
  have e5 : hasB (kf 4) 5 = false := by decide
  have e6 : hasB (kf 4) 6 = false := by decide
  have e7 : hasB (kf 4) 7 = true := by decide
  have e8 : hasB (kf 4) 8 = false := by decide
  have e9 : hasB (kf 4) 9 = false := by decide
  have hf : fsB 4 = [79, 78, 72] := by decide
  rw [hf]
  simp only [nmB_succ, nmB_zero, e0, e1, e2, e3, e4, e5, e6, e7, e8, e9, if_true, Bool.false_eq_true, if_false, List.nil_append, List.append_nil, List.flatMap_cons, List.flatMap_nil, ltB68, ltB83, ltB79, ltB78, ltB80, ltB86, ltB70, ltB82, ltB90, ltB72, List.append_assoc]
theorem prl5 (r : Rc) (h : r.kind = 5) : prB r = r.kind :: (fsB r.kind).flatMap (ltB r) := by
  unfold prB tailB
  rw [h]
  have e0 : hasB (kf 5) 0 = true := by decide
  have e1 : hasB (kf 5) 1 = true := by decide
  have e2 : hasB (kf 5) 2 = false := by decide
  have e3 : hasB (kf 5) 3 = false := by decide
  have e4 : hasB (kf 5) 4 = false := by decide
  have e5 : hasB (kf 5) 5 = false := by decide
  have e6 : hasB (kf 5) 6 = false := by decide
  have e7 : hasB (kf 5) 7 = false := by decide
  have e8 : hasB (kf 5) 8 = false := by decide
  have e9 : hasB (kf 5) 9 = false := by decide
  have hf : fsB 5 = [79, 78] := by decide
  rw [hf]
  simp only [nmB_succ, nmB_zero, e0, e1, e2, e3, e4, e5, e6, e7, e8, e9, if_true, Bool.false_eq_true, if_false, List.nil_append, List.append_nil, List.flatMap_cons, List.flatMap_nil, ltB68, ltB83, ltB79, ltB78, ltB80, ltB86, ltB70, ltB82, ltB90, ltB72, List.append_assoc]
theorem prl6 (r : Rc) (h : r.kind = 6) : prB r = r.kind :: (fsB r.kind).flatMap (ltB r) := by
  unfold prB tailB
  rw [h]
  have e0 : hasB (kf 6) 0 = true := by decide
  have e1 : hasB (kf 6) 1 = true := by decide
  have e2 : hasB (kf 6) 2 = false := by decide
  have e3 : hasB (kf 6) 3 = true := by decide
  have e4 : hasB (kf 6) 4 = true := by decide
  have e5 : hasB (kf 6) 5 = true := by decide
  have e6 : hasB (kf 6) 6 = true := by decide
  have e7 : hasB (kf 6) 7 = false := by decide
  have e8 : hasB (kf 6) 8 = false := by decide
  have e9 : hasB (kf 6) 9 = true := by decide
  have hf : fsB 6 = [79, 78, 86, 70, 82, 90, 68] := by decide
  rw [hf]
  simp only [nmB_succ, nmB_zero, e0, e1, e2, e3, e4, e5, e6, e7, e8, e9, if_true, Bool.false_eq_true, if_false, List.nil_append, List.append_nil, List.flatMap_cons, List.flatMap_nil, ltB68, ltB83, ltB79, ltB78, ltB80, ltB86, ltB70, ltB82, ltB90, ltB72, List.append_assoc]
theorem prl7 (r : Rc) (h : r.kind = 7) : prB r = r.kind :: (fsB r.kind).flatMap (ltB r) := by
  unfold prB tailB
  rw [h]
  have e0 : hasB (kf 7) 0 = true := by decide
  have e1 : hasB (kf 7) 1 = true := by decide
  have e2 : hasB (kf 7) 2 = false := by decide
  have e3 : hasB (kf 7) 3 = false := by decide
  have e4 : hasB (kf 7) 4 = false := by decide
  have e5 : hasB (kf 7) 5 = false := by decide
  have e6 : hasB (kf 7) 6 = false := by decide
  have e7 : hasB (kf 7) 7 = false := by decide
  have e8 : hasB (kf 7) 8 = false := by decide
  have e9 : hasB (kf 7) 9 = false := by decide
  have hf : fsB 7 = [79, 78] := by decide
  rw [hf]
  simp only [nmB_succ, nmB_zero, e0, e1, e2, e3, e4, e5, e6, e7, e8, e9, if_true, Bool.false_eq_true, if_false, List.nil_append, List.append_nil, List.flatMap_cons, List.flatMap_nil, ltB68, ltB83, ltB79, ltB78, ltB80, ltB86, ltB70, ltB82, ltB90, ltB72, List.append_assoc]
theorem prl8 (r : Rc) (h : r.kind = 8) : prB r = r.kind :: (fsB r.kind).flatMap (ltB r) := by
  unfold prB tailB
  rw [h]
  have e0 : hasB (kf 8) 0 = true := by decide
  have e1 : hasB (kf 8) 1 = true := by decide
  have e2 : hasB (kf 8) 2 = false := by decide
  have e3 : hasB (kf 8) 3 = false := by decide
  have e4 : hasB (kf 8) 4 = false := by decide
  have e5 : hasB (kf 8) 5 = false := by decide
  have e6 : hasB (kf 8) 6 = false := by decide
  have e7 : hasB (kf 8) 7 = true := by decide
  have e8 : hasB (kf 8) 8 = false := by decide
  have e9 : hasB (kf 8) 9 = false := by decide
  have hf : fsB 8 = [79, 78, 72] := by decide
  rw [hf]
  simp only [nmB_succ, nmB_zero, e0, e1, e2, e3, e4, e5, e6, e7, e8, e9, if_true, Bool.false_eq_true, if_false, List.nil_append, List.append_nil, List.flatMap_cons, List.flatMap_nil, ltB68, ltB83, ltB79, ltB78, ltB80, ltB86, ltB70, ltB82, ltB90, ltB72, List.append_assoc]
theorem prl9 (r : Rc) (h : r.kind = 9) : prB r = r.kind :: (fsB r.kind).flatMap (ltB r) := by
  unfold prB tailB
  rw [h]
  have e0 : hasB (kf 9) 0 = true := by decide
  have e1 : hasB (kf 9) 1 = true := by decide
  have e2 : hasB (kf 9) 2 = false := by decide
  have e3 : hasB (kf 9) 3 = false := by decide
  have e4 : hasB (kf 9) 4 = false := by decide
  have e5 : hasB (kf 9) 5 = false := by decide
  have e6 : hasB (kf 9) 6 = false := by decide
  have e7 : hasB (kf 9) 7 = false := by decide
  have e8 : hasB (kf 9) 8 = false := by decide
  have e9 : hasB (kf 9) 9 = false := by decide
  have hf : fsB 9 = [79, 78] := by decide
  rw [hf]
  simp only [nmB_succ, nmB_zero, e0, e1, e2, e3, e4, e5, e6, e7, e8, e9, if_true, Bool.false_eq_true, if_false, List.nil_append, List.append_nil, List.flatMap_cons, List.flatMap_nil, ltB68, ltB83, ltB79, ltB78, ltB80, ltB86, ltB70, ltB82, ltB90, ltB72, List.append_assoc]
theorem prl10 (r : Rc) (h : r.kind = 10) : prB r = r.kind :: (fsB r.kind).flatMap (ltB r) := by
  unfold prB tailB
  rw [h]
  have e0 : hasB (kf 10) 0 = true := by decide
  have e1 : hasB (kf 10) 1 = true := by decide
  have e2 : hasB (kf 10) 2 = false := by decide
  have e3 : hasB (kf 10) 3 = false := by decide
  have e4 : hasB (kf 10) 4 = false := by decide
  have e5 : hasB (kf 10) 5 = false := by decide
  have e6 : hasB (kf 10) 6 = false := by decide
  have e7 : hasB (kf 10) 7 = false := by decide
  have e8 : hasB (kf 10) 8 = false := by decide
  have e9 : hasB (kf 10) 9 = false := by decide
  have hf : fsB 10 = [79, 78] := by decide
  rw [hf]
  simp only [nmB_succ, nmB_zero, e0, e1, e2, e3, e4, e5, e6, e7, e8, e9, if_true, Bool.false_eq_true, if_false, List.nil_append, List.append_nil, List.flatMap_cons, List.flatMap_nil, ltB68, ltB83, ltB79, ltB78, ltB80, ltB86, ltB70, ltB82, ltB90, ltB72, List.append_assoc]
theorem prl11 (r : Rc) (h : r.kind = 11) : prB r = r.kind :: (fsB r.kind).flatMap (ltB r) := by
  unfold prB tailB
  rw [h]
  have e0 : hasB (kf 11) 0 = false := by decide
  have e1 : hasB (kf 11) 1 = false := by decide
  have e2 : hasB (kf 11) 2 = false := by decide
  have e3 : hasB (kf 11) 3 = false := by decide
  have e4 : hasB (kf 11) 4 = false := by decide
  have e5 : hasB (kf 11) 5 = false := by decide
  have e6 : hasB (kf 11) 6 = true := by decide
  have e7 : hasB (kf 11) 7 = false := by decide
  have e8 : hasB (kf 11) 8 = true := by decide
  have e9 : hasB (kf 11) 9 = false := by decide
  have hf : fsB 11 = [90, 83] := by decide
  rw [hf]
  simp only [nmB_succ, nmB_zero, e0, e1, e2, e3, e4, e5, e6, e7, e8, e9, if_true, Bool.false_eq_true, if_false, List.nil_append, List.append_nil, List.flatMap_cons, List.flatMap_nil, ltB68, ltB83, ltB79, ltB78, ltB80, ltB86, ltB70, ltB82, ltB90, ltB72, List.append_assoc]
theorem prl12 (r : Rc) (h : r.kind = 12) : prB r = r.kind :: (fsB r.kind).flatMap (ltB r) := by
  unfold prB tailB
  rw [h]
  have e0 : hasB (kf 12) 0 = true := by decide
  have e1 : hasB (kf 12) 1 = true := by decide
  have e2 : hasB (kf 12) 2 = false := by decide
  have e3 : hasB (kf 12) 3 = true := by decide
  have e4 : hasB (kf 12) 4 = false := by decide
  have e5 : hasB (kf 12) 5 = true := by decide
  have e6 : hasB (kf 12) 6 = true := by decide
  have e7 : hasB (kf 12) 7 = false := by decide
  have e8 : hasB (kf 12) 8 = false := by decide
  have e9 : hasB (kf 12) 9 = false := by decide
  have hf : fsB 12 = [79, 78, 86, 82, 90] := by decide
  rw [hf]
  simp only [nmB_succ, nmB_zero, e0, e1, e2, e3, e4, e5, e6, e7, e8, e9, if_true, Bool.false_eq_true, if_false, List.nil_append, List.append_nil, List.flatMap_cons, List.flatMap_nil, ltB68, ltB83, ltB79, ltB78, ltB80, ltB86, ltB70, ltB82, ltB90, ltB72, List.append_assoc]
theorem pr_letters (r : Rc) (h : kf r.kind ≠ 0) : prB r = r.kind :: (fsB r.kind).flatMap (ltB r) := by
  rcases kf_cases h with h | h | h | h | h | h | h | h | h | h | h | h
  · exact prl1 r h
  · exact prl2 r h
  · exact prl3 r h
  · exact prl4 r h
  · exact prl5 r h
  · exact prl6 r h
  · exact prl7 r h
  · exact prl8 r h
  · exact prl9 r h
  · exact prl10 r h
  · exact prl11 r h
  · exact prl12 r h
end Go.Proofs.YtllhbhogfffedaaGreatDoor

namespace Go.Proofs.YtllhbhogfffedaaGreatDoor
open Go.RowKit
set_option linter.unusedVariables false
set_option linter.unusedSimpArgs false

/-- A record with one number more. -/
def setN (r : Rc) (j : Nat) (n : Int) : Rc :=
  if j = 0 then { r with org := n } else if j = 1 then { r with num := n } else if j = 2 then { r with peer := n } else if j = 3 then { r with srv := n }
  else if j = 4 then { r with off := n } else if j = 5 then { r with red := n } else if j = 6 then { r with size := n } else { r with how := n }
end Go.Proofs.YtllhbhogfffedaaGreatDoor

namespace Go.Proofs.YtllhbhogfffedaaGreatDoor
open Go.RowKit
set_option linter.unusedVariables false
set_option linter.unusedSimpArgs false

/-- What a letter makes of a record and of what is left. -/
def upL (s : Rc × Option (List Int)) (c : UInt8) : Rc × Option (List Int) :=
  if c = 68 then ({ s.1 with data := (byt2P s.2).1 }, (byt2P s.2).2)
  else if c = 83 then ({ s.1 with spans := (sps2P s.2).1 }, (sps2P s.2).2)
  else (setN s.1 (ltL.idxOf c) (num2P s.2).1, (num2P s.2).2)
def runL (s : Rc × Option (List Int)) (cs : List UInt8) : Rc × Option (List Int) := cs.foldl upL s
def isL (c : UInt8) : Prop := c = 68 ∨ c = 83 ∨ ∃ j, j < 8 ∧ c = ltL.getD j 0
end Go.Proofs.YtllhbhogfffedaaGreatDoor

namespace Go.Proofs.YtllhbhogfffedaaGreatDoor
open Go.RowKit
set_option linter.unusedVariables false
set_option linter.unusedSimpArgs false

def cpL (r s : Rc) (c : UInt8) : Rc := if c = 68 then { s with data := r.data } else if c = 83 then { s with spans := r.spans } else setN s (ltL.idxOf c) (nmA r (ltL.idxOf c))
/-- What the reference answers of what it has read. -/
def r2R (s : Rc × Option (List Int)) : Rc × Int := match s.2 with
  | some [] => if mayB6 s.1 then (s.1, 0) else (rz0, 61)
  | _ => (rz0, 61)
end Go.Proofs.YtllhbhogfffedaaGreatDoor

namespace Go.Proofs.YtllhbhogfffedaaGreatDoor
open Go.RowKit
set_option linter.unusedVariables false
set_option linter.unusedSimpArgs false

/-- What the reference has read so far. -/
structure Rd2 (wr w : World) (B bx rb g off n c : Nat) (zs : List Int) (s : Rc × Option (List Int)) : Prop where
  ex : ∃ sa da sc dc, wr.heap[bx]? = some (rcO s.1 (.slice sa s.1.spans.length sc) (.slice da s.1.data.length dc)) ∧ C.SOwn wr B (.slice sa s.1.spans.length sc) s.1.spans ∧ wr.ownsRow B 5 1 (.slice da s.1.data.length dc) s.1.data.length (s.1.data.map (Value.int .u8)) ∧ ∀ j, (Value.slice sa s.1.spans.length sc).ownBlock = some j → (Value.slice da s.1.data.length dc).ownBlock ≠ some j
  rd : R2 wr rb g off n c zs s.2
  be : Below w.heap.size w wr
  zh : wr.heap[w.heap.size]? = some (rcO rz0 (.slice none 0 0) (.slice none 0 0))
  dl : s.1.data.length ≤ n
  sz : B ≤ wr.heap.size
end Go.Proofs.YtllhbhogfffedaaGreatDoor

namespace Go.Proofs.YtllhbhogfffedaaGreatDoor
open Go.RowKit
set_option linter.unusedVariables false
set_option linter.unusedSimpArgs false

end Go.Proofs.YtllhbhogfffedaaGreatDoor
