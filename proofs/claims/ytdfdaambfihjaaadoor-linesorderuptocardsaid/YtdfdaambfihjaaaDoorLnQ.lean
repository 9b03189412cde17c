import Derived.Test.YtdfdaambfihjaaaDoorLnX
import Derived.Test.YtdfdaambfihjaaaDoorLnK
import Derived.BigQuiet
import Derived.Deep.RegionHeld3
namespace Go.Proofs.YtdfdaambfihjaaaDoor.L
open Go.RowKit
set_option linter.unusedVariables false
set_option linter.unusedSimpArgs false

/-! ## A queue of segments in memory -/
/-- A segment as a value: its numbers, and the values of its four lists. -/
structure Sv where
  s : Sg
  hv : Value
  tv : Value
  dv : Value
  cv : Value
def Sv.L (x : Sv) : List Value := [.int .i64 x.s.typ, .int .i64 x.s.org, .int .i64 x.s.num, x.hv, x.tv, .int .i64 x.s.srv, .int .i64 x.s.off, x.dv, .int .i64 x.s.chk, .int .i64 x.s.rep, .int .i64 x.s.upp, .int .i64 x.s.low, x.cv, .int .i64 x.s.rsn]
/-- Each of its cells is one cell. -/
def Sv.One (x : Sv) : Prop := ∀ u ∈ x.L, u.oneCell' = true
def seg (l : List Sv) : List Value := l.flatMap Sv.L
theorem seg_len (l : List Sv) : (seg l).length = l.length * 14 := by
  induction l with
  | nil => rfl
  | cons y r ih => unfold seg at *; rw [List.flatMap_cons, List.length_append, ih, List.length_cons]; simp [Sv.L]; omega
theorem seg_app (l m : List Sv) : seg (l ++ m) = seg l ++ seg m := List.flatMap_append
theorem seg_one {l : List Sv} (h : ∀ x ∈ l, x.One) : ∀ u ∈ seg l, u.oneCell' = true := fun u hu => by
  obtain ⟨x, hx, h2⟩ := List.mem_flatMap.mp hu
  exact h x hx u h2
theorem seg_take (l : List Sv) (n : Nat) : (seg l).take (n * 14) = seg (l.take n) := by
  induction n generalizing l with
  | zero => simp [seg]
  | succ n ih =>
    cases l with
    | nil => simp [seg]
    | cons y r =>
      have h := ih r
      have h2 : seg (y :: r) = y.L ++ seg r := List.flatMap_cons
      have h3 : seg ((y :: r).take (n + 1)) = y.L ++ seg (r.take n) := by rw [List.take_succ_cons]; exact List.flatMap_cons
      have hl : y.L.length = 14 := rfl
      rw [h2, h3, List.take_append, ← h, hl, List.take_of_length_le (by rw [hl]; omega)]
      congr 2
      omega
theorem seg_drop (l : List Sv) (n : Nat) : (seg l).drop (n * 14) = seg (l.drop n) := by
  induction n generalizing l with
  | zero => simp [seg]
  | succ n ih =>
    cases l with
    | nil => simp [seg]
    | cons y r =>
      have h := ih r
      have h2 : seg (y :: r) = y.L ++ seg r := List.flatMap_cons
      have h3 : seg ((y :: r).drop (n + 1)) = seg (r.drop n) := by rw [List.drop_succ_cons]
      have hl : y.L.length = 14 := rfl
      rw [h2, h3, List.drop_append, ← h, hl, List.drop_of_length_le (by rw [hl]; omega), List.nil_append]
      congr 1
      omega

/-- What alone the blocks of S may have changed in. -/
structure Kl (S : Nat → Prop) (w w' : World) : Prop where
  os : w'.os = w.os
  tape : w'.tape = w.tape
  output : w'.output = w.output
  size : w.heap.size ≤ w'.heap.size
  block : ∀ g, g < w.heap.size → ¬ S g → w'.heap[g]? = w.heap[g]?
theorem Kl.refl (S : Nat → Prop) (w : World) : Kl S w w := ⟨rfl, rfl, rfl, Nat.le_refl _, fun _ _ _ => rfl⟩
/-- A step that may touch what is new since w, too. -/
theorem Kl.then {S S' : Nat → Prop} {w w1 w2 : World} (h : Kl S w w1) (h' : Kl S' w1 w2) (hs : ∀ g, g < w.heap.size → S' g → S g) : Kl S w w2 :=
  ⟨h'.os.trans h.os, h'.tape.trans h.tape, h'.output.trans h.output, Nat.le_trans h.size h'.size, fun g hg hS => (h'.block g (Nat.lt_of_lt_of_le hg h.size) (fun e => hS (hs g hg e))).trans (h.block g hg hS)⟩
theorem Kl.mono {S S' : Nat → Prop} {w w' : World} (h : Kl S w w') (hs : ∀ g, g < w.heap.size → S g → S' g) : Kl S' w w' := ⟨h.os, h.tape, h.output, h.size, fun g hg hS => h.block g hg (fun e => hS (hs g hg e))⟩
theorem Kl.grown {S : Nat → Prop} {w0 w w' : World} {row : Option Nat} (h : Kl S w0 w) (hg : w.grownBy w' row) (hr : ∀ k, row = some k → S k ∨ w0.heap.size ≤ k) : Kl S w0 w' :=
  ⟨hg.os.trans h.os, hg.tape.trans h.tape, hg.output.trans h.output, Nat.le_trans h.size hg.size, fun g hgl hS => (hg.block g (Nat.lt_of_lt_of_le hgl h.size) (fun e => by
    rcases hr g e.symm with h1 | h1
    · exact hS h1
    · omega)).trans (h.block g hgl hS)⟩
theorem Kl.of_below {S : Nat → Prop} {w w' : World} (h : Below w.heap.size w w') : Kl S w w' := ⟨h.os, h.tape, h.output, h.size, fun g hg _ => h.block g hg⟩
theorem Kl.below {S : Nat → Prop} {w w1 w2 : World} (h : Kl S w w1) (h' : Below w1.heap.size w1 w2) : Kl S w w2 := h.then (Kl.of_below (S := fun _ => False) h') (fun _ _ e => e.elim)
theorem Kl.drewN {S : Nat → Prop} {w0 w : World} (h : Kl S w0 w) (n : Nat) : Kl S w0 (w.drewN n) := ⟨h.os, h.tape, h.output, h.size, h.block⟩
theorem Kl.own {S : Nat → Prop} {w w' : World} (h : Kl S w w') {base size n : Nat} {e : TypeId} {v : Value} {xs : List Value} (ho : w.ownsRow base e size v n xs) (hn : ∀ g, v.ownBlock = some g → ¬ S g) : w'.ownsRow base e size v n xs := by
  have hl := ho.lt
  obtain ⟨h1, h2 | ⟨g, cap, cur, e1, e2, e3, e4⟩⟩ := ho
  · exact ⟨h1, .inl h2⟩
  · subst e1
    exact ⟨h1, .inr ⟨g, cap, cur, rfl, e2, (h.block g (hl g rfl).2 (hn g rfl)).trans e3, e4⟩⟩
theorem Kl.cell {S : Nat → Prop} {w w' : World} (h : Kl S w w') {g o : Nat} {u : Value} (hc : w.cell? ⟨g, o, none⟩ = some u) (hn : ¬ S g) : w'.cell? ⟨g, o, none⟩ = some u := by
  have hl := World.block_lt_of_cell? w ⟨g, o, none⟩ hc
  rw [← hc]
  unfold World.cell?
  simp only [h.block g hl hn]

theorem count_any (w : World) (x o n c f : Nat) (a : Option Addr) (c0 : w.cell? ⟨x, o, none⟩ = some (.slice a n c)) (c1 : w.cell? ⟨x, o + 1, none⟩ = some (.int .i64 f)) (hf : f ≤ n) (hn : n ≤ 1099511627776) :
    Calls Tryd.prog 34 #[.pointer (some ⟨x, o, none⟩)] w fun e w' => e = .returned (.int .i64 ((n - f : Nat) : Int)) ∧ Below w.heap.size w w' := by
  obtain ⟨k, hk⟩ : ∃ k, n - f = k := ⟨_, rfl⟩
  have hw : IntKind.i64.wrap ((n : Int) - (f : Int)) = (k : Int) := by rw [IntKind.wrap_i64]; omega
  rw [hk]
  clear hk
  go_enter Tryd.func34, Tryd.ntmps34
  go_wp2_with fail
  go_quiet (fail)
  go_wp2
  go_ret
  refine ⟨by first | rfl | (simp; omega), ?_⟩
  first | exact Below.refl _ _ | exact below_drewN' (Below.refl _ _) _

end Go.Proofs.YtdfdaambfihjaaaDoor.L
