import Derived.Test.YtdfdaambfihjaaaDoorOw2
import Derived.BigQuiet
import Derived.Deep.RegionHeld3
import Derived.Lib.SliceRun
namespace Go.Proofs.YtdfdaambfihjaaaDoor
open Go.RowKit
set_option linter.unusedVariables false
set_option linter.unusedSimpArgs false

/-- The kind of a segment, by its type: answers, controls, data. -/
def kd (t : Int) : Int := if t = 9 then 0 else if t = 13 then 0 else if t = 15 then 0 else if t = 8 then 1 else if t = 12 then 1 else if t = 14 then 1 else 2

set_option maxHeartbeats 2000000 in
theorem rank11_any (t : Int) (w : World) : Calls Tryd.prog 29 #[.int .i64 t] w fun e w' => e = .returned (.int .i64 (kd t)) ∧ w = w' := by
  obtain ⟨q, hq⟩ : ∃ q, kd t = q := ⟨_, rfl⟩
  have HQ : Hid (kd t = q) := hq
  rw [hq]
  clear hq
  by_cases h9 : t = 9
  · subst h9
    go_enter Tryd.func29, Tryd.ntmps29
    go_wp2
    go_ret
    exact ⟨by rw [← HQ.out]; rfl, rfl⟩
  by_cases h13 : t = 13
  · subst h13
    go_enter Tryd.func29, Tryd.ntmps29
    go_wp2
    go_ret
    exact ⟨by rw [← HQ.out]; rfl, rfl⟩
  by_cases h15 : t = 15
  · subst h15
    go_enter Tryd.func29, Tryd.ntmps29
    go_wp2
    go_ret
    exact ⟨by rw [← HQ.out]; rfl, rfl⟩
  by_cases h8 : t = 8
  · subst h8
    go_enter Tryd.func29, Tryd.ntmps29
    go_wp2
    go_ret
    exact ⟨by rw [← HQ.out]; rfl, rfl⟩
  by_cases h12 : t = 12
  · subst h12
    go_enter Tryd.func29, Tryd.ntmps29
    go_wp2
    go_ret
    exact ⟨by rw [← HQ.out]; rfl, rfl⟩
  by_cases h14 : t = 14
  · subst h14
    go_enter Tryd.func29, Tryd.ntmps29
    go_wp2
    go_ret
    exact ⟨by rw [← HQ.out]; rfl, rfl⟩
  have e9 : (t == 9) = false := by simpa using h9
  have e13 : (t == 13) = false := by simpa using h13
  have e15 : (t == 15) = false := by simpa using h15
  have e8 : (t == 8) = false := by simpa using h8
  have e12 : (t == 12) = false := by simpa using h12
  have e14 : (t == 14) = false := by simpa using h14
  have HK : Hid (q = 2) := by show q = 2; rw [← HQ.out]; unfold kd; simp [h9, h13, h15, h8, h12, h14]
  clear h9 h13 h15 h8 h12 h14 HQ
  go_enter Tryd.func29, Tryd.ntmps29
  go_wp2
  go_ret
  exact ⟨by rw [HK.out]; rfl, rfl⟩

set_option maxHeartbeats 4000000 in
theorem kindOf_any (s : Sg) (hv tv dv cv : Value) (w : World) : Calls Tryd.prog 39 #[.agg (svC s hv tv dv cv)] w fun e w' => e = .returned (.int .i64 (kd s.typ)) ∧ Below w.heap.size w w' := by
  obtain ⟨t, ht⟩ : ∃ t, s.typ = t := ⟨_, rfl⟩
  obtain ⟨q, hq⟩ : ∃ q, kd t = q := ⟨_, rfl⟩
  have HQ : Hid (kd t = q) := hq
  have hb : Below w.heap.size w (w.alloc (.cells (svC s hv tv dv cv) 37)) := (Below.refl _ _).alloc (Nat.le_refl _) _
  have HB : Hid (Below w.heap.size w (w.alloc (.cells (svC s hv tv dv cv) 37))) := hb
  rw [ht, hq]
  clear hq hb
  have en : ∀ c : Int, t = c → (t == c) = true := fun c h => by simp [h]
  have ef : ∀ c : Int, t ≠ c → (t == c) = false := fun c h => by simpa using h
  have HE : Hid (∀ c : Int, t = c → kd c = q) := fun c h => by rw [← h]; exact HQ.out
  by_cases h9 : t = 9
  · subst h9
    go_enter Tryd.func39, Tryd.ntmps39
    go_wp2
    go_ret
    exact ⟨by rw [← HQ.out]; rfl, HB.out⟩
  by_cases h13 : t = 13
  · subst h13
    go_enter Tryd.func39, Tryd.ntmps39
    go_wp2
    go_ret
    exact ⟨by rw [← HQ.out]; rfl, HB.out⟩
  by_cases h15 : t = 15
  · subst h15
    go_enter Tryd.func39, Tryd.ntmps39
    go_wp2
    go_ret
    exact ⟨by rw [← HQ.out]; rfl, HB.out⟩
  by_cases h8 : t = 8
  · subst h8
    go_enter Tryd.func39, Tryd.ntmps39
    go_wp2
    go_ret
    exact ⟨by rw [← HQ.out]; rfl, HB.out⟩
  by_cases h12 : t = 12
  · subst h12
    go_enter Tryd.func39, Tryd.ntmps39
    go_wp2
    go_ret
    exact ⟨by rw [← HQ.out]; rfl, HB.out⟩
  by_cases h14 : t = 14
  · subst h14
    go_enter Tryd.func39, Tryd.ntmps39
    go_wp2
    go_ret
    exact ⟨by rw [← HQ.out]; rfl, HB.out⟩
  have e9 := ef 9 h9
  have e13 := ef 13 h13
  have e15 := ef 15 h15
  have e8 := ef 8 h8
  have e12 := ef 12 h12
  have e14 := ef 14 h14
  have HK : Hid (q = 2) := by show q = 2; rw [← HQ.out]; unfold kd; simp [h9, h13, h15, h8, h12, h14]
  clear h9 h13 h15 h8 h12 h14 HQ en ef HE
  go_enter Tryd.func39, Tryd.ntmps39
  go_wp2
  go_ret
  exact ⟨by rw [HK.out]; rfl, HB.out⟩

end Go.Proofs.YtdfdaambfihjaaaDoor

namespace Go.Proofs.YtdfdaambfihjaaaDoor.L
open Go.RowKit
set_option linter.unusedVariables false
set_option linter.unusedSimpArgs false

/-! ## A queue of segments in memory -/
/-- A segment as a value: its numbers, and the values of its four lists. -/
structure Sv where
  s : Sg
  hv : Value
  tv : Value
  dv : Value
  cv : Value
def Sv.L (x : Sv) : List Value := [.int .i64 x.s.typ, .int .i64 x.s.org, .int .i64 x.s.num, x.hv, x.tv, .int .i64 x.s.srv, .int .i64 x.s.off, x.dv, .int .i64 x.s.chk, .int .i64 x.s.rep, .int .i64 x.s.upp, .int .i64 x.s.low, x.cv, .int .i64 x.s.rsn]
/-- Each of its cells is one cell. -/
def Sv.One (x : Sv) : Prop := ∀ u ∈ x.L, u.oneCell' = true
def seg (l : List Sv) : List Value := l.flatMap Sv.L
theorem seg_len (l : List Sv) : (seg l).length = l.length * 14 := by
  induction l with
  | nil => rfl
  | cons y r ih => unfold seg at *; rw [List.flatMap_cons, List.length_append, ih, List.length_cons]; simp [Sv.L]; omega
theorem seg_app (l m : List Sv) : seg (l ++ m) = seg l ++ seg m := List.flatMap_append
theorem seg_one {l : List Sv} (h : ∀ x ∈ l, x.One) : ∀ u ∈ seg l, u.oneCell' = true := fun u hu => by
  obtain ⟨x, hx, h2⟩ := List.mem_flatMap.mp hu
  exact h x hx u h2
theorem seg_take (l : List Sv) (n : Nat) : (seg l).take (n * 14) = seg (l.take n) := by
  induction n generalizing l with
  | zero => simp [seg]
  | succ n ih =>
    cases l with
    | nil => simp [seg]
    | cons y r =>
      have h := ih r
      have h2 : seg (y :: r) = y.L ++ seg r := List.flatMap_cons
      have h3 : seg ((y :: r).take (n + 1)) = y.L ++ seg (r.take n) := by rw [List.take_succ_cons]; exact List.flatMap_cons
      have hl : y.L.length = 14 := rfl
      rw [h2, h3, List.take_append, ← h, hl, List.take_of_length_le (by rw [hl]; omega)]
      congr 2
      omega
theorem seg_drop (l : List Sv) (n : Nat) : (seg l).drop (n * 14) = seg (l.drop n) := by
  induction n generalizing l with
  | zero => simp [seg]
  | succ n ih =>
    cases l with
    | nil => simp [seg]
    | cons y r =>
      have h := ih r
      have h2 : seg (y :: r) = y.L ++ seg r := List.flatMap_cons
      have h3 : seg ((y :: r).drop (n + 1)) = seg (r.drop n) := by rw [List.drop_succ_cons]
      have hl : y.L.length = 14 := rfl
      rw [h2, h3, List.drop_append, ← h, hl, List.drop_of_length_le (by rw [hl]; omega), List.nil_append]
      congr 1
      omega

/-- What alone the blocks of S may have changed in. -/
structure Kl (S : Nat → Prop) (w w' : World) : Prop where
  os : w'.os = w.os
  tape : w'.tape = w.tape
  output : w'.output = w.output
  size : w.heap.size ≤ w'.heap.size
  block : ∀ g, g < w.heap.size → ¬ S g → w'.heap[g]? = w.heap[g]?
theorem Kl.refl (S : Nat → Prop) (w : World) : Kl S w w := ⟨rfl, rfl, rfl, Nat.le_refl _, fun _ _ _ => rfl⟩
/-- A step that may touch what is new since w, too. -/
theorem Kl.then {S S' : Nat → Prop} {w w1 w2 : World} (h : Kl S w w1) (h' : Kl S' w1 w2) (hs : ∀ g, g < w.heap.size → S' g → S g) : Kl S w w2 :=
  ⟨h'.os.trans h.os, h'.tape.trans h.tape, h'.output.trans h.output, Nat.le_trans h.size h'.size, fun g hg hS => (h'.block g (Nat.lt_of_lt_of_le hg h.size) (fun e => hS (hs g hg e))).trans (h.block g hg hS)⟩
theorem Kl.mono {S S' : Nat → Prop} {w w' : World} (h : Kl S w w') (hs : ∀ g, g < w.heap.size → S g → S' g) : Kl S' w w' := ⟨h.os, h.tape, h.output, h.size, fun g hg hS => h.block g hg (fun e => hS (hs g hg e))⟩
theorem Kl.grown {S : Nat → Prop} {w0 w w' : World} {row : Option Nat} (h : Kl S w0 w) (hg : w.grownBy w' row) (hr : ∀ k, row = some k → S k ∨ w0.heap.size ≤ k) : Kl S w0 w' :=
  ⟨hg.os.trans h.os, hg.tape.trans h.tape, hg.output.trans h.output, Nat.le_trans h.size hg.size, fun g hgl hS => (hg.block g (Nat.lt_of_lt_of_le hgl h.size) (fun e => by
    rcases hr g e.symm with h1 | h1
    · exact hS h1
    · omega)).trans (h.block g hgl hS)⟩
theorem Kl.of_below {S : Nat → Prop} {w w' : World} (h : Below w.heap.size w w') : Kl S w w' := ⟨h.os, h.tape, h.output, h.size, fun g hg _ => h.block g hg⟩
theorem Kl.below {S : Nat → Prop} {w w1 w2 : World} (h : Kl S w w1) (h' : Below w1.heap.size w1 w2) : Kl S w w2 := h.then (Kl.of_below (S := fun _ => False) h') (fun _ _ e => e.elim)
theorem Kl.own {S : Nat → Prop} {w w' : World} (h : Kl S w w') {base size n : Nat} {e : TypeId} {v : Value} {xs : List Value} (ho : w.ownsRow base e size v n xs) (hn : ∀ g, v.ownBlock = some g → ¬ S g) : w'.ownsRow base e size v n xs := by
  have hl := ho.lt
  obtain ⟨h1, h2 | ⟨g, cap, cur, e1, e2, e3, e4⟩⟩ := ho
  · exact ⟨h1, .inl h2⟩
  · subst e1
    exact ⟨h1, .inr ⟨g, cap, cur, rfl, e2, (h.block g (hl g rfl).2 (hn g rfl)).trans e3, e4⟩⟩
theorem Kl.cell {S : Nat → Prop} {w w' : World} (h : Kl S w w') {g o : Nat} {u : Value} (hc : w.cell? ⟨g, o, none⟩ = some u) (hn : ¬ S g) : w'.cell? ⟨g, o, none⟩ = some u := by
  have hl := World.block_lt_of_cell? w ⟨g, o, none⟩ hc
  rw [← hc]
  unfold World.cell?
  simp only [h.block g hl hn]

theorem count_any (w : World) (x o n c f : Nat) (a : Option Addr) (c0 : w.cell? ⟨x, o, none⟩ = some (.slice a n c)) (c1 : w.cell? ⟨x, o + 1, none⟩ = some (.int .i64 f)) (hf : f ≤ n) (hn : n ≤ 1099511627776) :
    Calls Tryd.prog 34 #[.pointer (some ⟨x, o, none⟩)] w fun e w' => e = .returned (.int .i64 ((n - f : Nat) : Int)) ∧ Below w.heap.size w w' := by
  obtain ⟨k, hk⟩ : ∃ k, n - f = k := ⟨_, rfl⟩
  have hw : IntKind.i64.wrap ((n : Int) - (f : Int)) = (k : Int) := by rw [IntKind.wrap_i64]; omega
  rw [hk]
  clear hk
  go_enter Tryd.func34, Tryd.ntmps34
  go_wp2_with fail
  go_quiet (fail)
  go_wp2
  go_ret
  refine ⟨by first | rfl | (simp; omega), ?_⟩
  first | exact Below.refl _ _ | exact below_drewN' (Below.refl _ _) _

end Go.Proofs.YtdfdaambfihjaaaDoor.L

namespace Go.Proofs.YtdfdaambfihjaaaDoor.L
open Go.RowKit
set_option linter.unusedVariables false
set_option linter.unusedSimpArgs false

theorem seg_info : (Tryd.prog.info? 37).map (fun i => (i.zero, i.size, i.bytes)) = some (some (.agg #[.int .i64 0, .int .i64 0, .int .i64 0, .slice none 0 0, .slice none 0 0, .int .i64 0, .int .i64 0, .slice none 0 0, .int .i64 0, .int .i64 0, .int .i64 0, .int .i64 0, .slice none 0 0, .int .i64 0]), 14, 176) := by kernel_rfl
theorem own_hp {w : World} {b1 n1 z1 g : Nat} {e1 t : TypeId} {v1 : Value} {x1 : List Value} {cs : Array Value} {fr : Nat × Nat} (h1 : w.ownsRow b1 e1 z1 v1 n1 x1) (hh : w.heap[g]? = some (.cells cs t fr)) (he : e1 ≠ t) : v1.ownBlock ≠ some g := by
  obtain ⟨_, ⟨rfl, _⟩ | ⟨g', cap, cur, rfl, _, h3, _⟩⟩ := h1
  · intro e; cases e
  · intro e
    simp only [Value.ownBlock, Option.some.injEq] at e
    subst e
    rw [h3] at hh
    simp only [Option.some.injEq, Obj.cells.injEq] at hh
    exact he hh.2.1
theorem grown_blk {w w' : World} {row : Option Nat} (h : w.grownBy w' row) {g : Nat} (hg : g < w.heap.size) (hn : row ≠ some g) : w'.heap[g]? = w.heap[g]? := h.block g hg (fun e => hn e.symm)
theorem own_blk {w w' : World} {base n size : Nat} {e : TypeId} {v : Value} {xs : List Value} (h : w.ownsRow base e size v n xs) (hb : ∀ g, v.ownBlock = some g → w'.heap[g]? = w.heap[g]?) : w'.ownsRow base e size v n xs := by
  obtain ⟨h1, h2 | ⟨g, cap, cur, e1, e2, e3, e4⟩⟩ := h
  · exact ⟨h1, .inl h2⟩
  · subst e1
    exact ⟨h1, .inr ⟨g, cap, cur, rfl, e2, (hb g rfl).trans e3, e4⟩⟩
theorem own_dr {w : World} {b e z n : Nat} {v : Value} {xs : List Value} (h : w.ownsRow b e z v n xs) (d : Nat) : (w.drewN d).ownsRow b e z v n xs := h
theorem grown_dr {w w6 : World} {row : Option Nat} {o : Obj} {d : Nat} (h : ((w.drewN d).alloc o).grownBy w6 row) : w.grownBy w6 row :=
  ⟨h.os, h.tape, h.output, Nat.le_trans (by simp) h.size, fun k hk hn => (h.block k (Nat.lt_of_lt_of_le hk (by simp)) hn).trans (Below.heap_alloc _ _ k hk)⟩
theorem grown_al {w w6 : World} {row : Option Nat} {o : Obj} (h : (w.alloc o).grownBy w6 row) : w.grownBy w6 row :=
  ⟨h.os, h.tape, h.output, Nat.le_trans (by simp) h.size, fun k hk hn => (h.block k (Nat.lt_of_lt_of_le hk (by simp)) hn).trans (Below.heap_alloc _ _ k hk)⟩
theorem row_new (w : World) (l : List Value) (t : TypeId) (d : Nat) : ∀ j u, l[j]? = some u → ((w.drewN d).alloc (.cells l.toArray t)).cell? ((⟨w.heap.size, 0, none⟩ : Addr).add j) = some u := fun j u h => by
  rw [addr_add, Nat.zero_add]
  show ((w.drewN d).alloc (.cells l.toArray t)).cell? ⟨(w.drewN d).heap.size, j, none⟩ = some u
  rw [cell_of_row _ _ _ l.toArray t (0, 0) (heap_alloc_new' (w.drewN d) _)]
  simpa using h
theorem own_sl {w : World} {base size n : Nat} {e : TypeId} {v : Value} {xs : List Value} (h : w.ownsRow base e size v n xs) : ∃ a c, v = .slice a n c := by
  obtain ⟨_, ⟨rfl, rfl⟩ | ⟨g', cap, cur, rfl, _⟩⟩ := h
  · exact ⟨_, _, rfl⟩
  · exact ⟨_, _, rfl⟩

/-- What a call does to a queue's row at its cell. -/
structure QP (w w' : World) (x o n : Nat) (v v' : Value) (cs : Array Value) (t : TypeId) (xs : List Value) : Prop where
  box : w'.heap[x]? = some (.cells (cs.setIfInBounds o v') t (0, 0))
  row : w'.ownsRow 0 37 14 v' n xs
  at' : ∀ g, v'.ownBlock = some g → v.ownBlock = some g ∨ w.heap.size ≤ g
  kl : Kl (fun g => g = x ∨ v.ownBlock = some g) w w'

set_option maxRecDepth 100000 in
set_option maxHeartbeats 4000000 in
theorem qput_any (w : World) (x o n : Nat) (v : Value) (xs : List Value) (y : Sv) (cs : Array Value) (t : TypeId) (hb : w.heap[x]? = some (.cells cs t (0, 0))) (ht : 37 ≠ t) (hv : cs[o]? = some v) (hr : w.ownsRow 0 37 14 v n xs) (hy : y.One) (hn : n ≤ 549755813888) :
    Calls Tryd.prog 42 #[.pointer (some ⟨x, o, none⟩), .agg (svC y.s y.hv y.tv y.dv y.cv)] w fun e w' => (∃ u, e = .returned u) ∧ ∃ v', QP w w' x o (n + 1) v v' cs t (xs ++ y.L) := by
  obtain ⟨i0, hi, hz0, hz1, hz2⟩ := info_parts seg_info
  obtain ⟨a, c, rfl⟩ := own_sl hr
  have hxl := (Array.getElem?_eq_some_iff.1 hb).1
  obtain ⟨W, hW⟩ : ∃ W, w.alloc (.cells (svC y.s y.hv y.tv y.dv y.cv) 37) = W := ⟨_, rfl⟩
  have gW : w.grownBy W none := by rw [← hW]; exact World.grownBy_alloc w _ none
  have hsz : W.heap.size = w.heap.size + 1 := by rw [← hW]; simp
  have hbW : W.heap[x]? = some (.cells cs t (0, 0)) := (grown_blk gW hxl (by simp)).trans hb
  have c0 : W.cell? ⟨x, o, none⟩ = some (.slice a n c) := (cell_of_row _ _ _ _ _ _ hbW).trans hv
  have f0 : W.frozen? ⟨x, o, none⟩ = false := frozen_of_row _ _ _ _ _ hbW
  have hnw : W.heap[w.heap.size]? = some (.cells (svC y.s y.hv y.tv y.dv y.cv) 37 (0, 0)) := by rw [← hW]; exact heap_alloc_new' _ _
  have HR : Hid (W.ownsRow 0 37 14 (.slice a n c) n xs) := own_blk hr (fun g hg => grown_blk gW (hr.lt g hg).2 (by simp))
  have HB : Hid (W.heap[x]? = some (.cells cs t (0, 0)) ∧ x < w.heap.size ∧ w.grownBy W none ∧ W.heap.size = w.heap.size + 1 ∧ (Value.slice a n c).ownBlock ≠ some x) := ⟨hbW, hxl, gW, hsz, own_hp hr hb ht⟩
  have HY : Hid (y.One) := hy
  have HWe : Hid (w.alloc (.cells (svC y.s y.hv y.tv y.dv y.cv) 37) = W) := hW
  have k0 : ∀ j u, y.L[j]? = some u → W.cell? ⟨w.heap.size, j, none⟩ = some u := fun j u h => by rw [cell_of_row _ _ _ _ _ _ hnw]; simpa [Sv.L] using h
  have y0 := k0 0 _ rfl
  have y1 := k0 1 _ rfl
  have y2 := k0 2 _ rfl
  have y3 := k0 3 _ rfl
  have y4 := k0 4 _ rfl
  have y5 := k0 5 _ rfl
  have y6 := k0 6 _ rfl
  have y7 := k0 7 _ rfl
  have y8 := k0 8 _ rfl
  have y9 := k0 9 _ rfl
  have y10 := k0 10 _ rfl
  have y11 := k0 11 _ rfl
  have y12 := k0 12 _ rfl
  have y13 := k0 13 _ rfl
  have pa : ∀ q, (W.alloc q).cell? ⟨x, o, none⟩ = some (.slice a n c) := fun q => cell_below c0 ((Below.refl _ _).alloc (Nat.le_refl _) q)
  clear k0 hb hv hr hy hW gW hbW hnw hsz hxl
  go_enter Tryd.func42, Tryd.ntmps42
  go_wp2_with fail
  rw [HWe.out]
  go_region_law (first
    | (refine step_append_at rfl (.tmp 8) (.tmp 10) 30 rfl 0 37 i0 _ 14 176 Tryd.underlying30 hi hz0 hz1 hz2 rfl (by decide) (.slice a n c) n xs (by simp [Act.eval]) (World.ownsRow.alloc (own_dr HR.out 1) _) ⟨W.heap.size, 0, none⟩ 1 1 y.L (by simp [Act.eval]) rfl (row_new W y.L 37 1) HY.out (by unfold maxLen; omega) (by omega) (by simp) ?_
       intro v6 w6 hown6 hgrow6 hat6
       have hg6 := grown_dr hgrow6
       obtain ⟨a6, c6, hv6⟩ := own_sl hown6
       subst hv6
       have hbx : w6.heap[x]? = W.heap[x]? := grown_blk hg6 (by have := HB.out.2.1; have := HB.out.2.2.2.1; omega) HB.out.2.2.2.2
       have p06 : w6.cell? ⟨x, o, none⟩ = some (.slice a n c) := (World.cell?_of_block (a := ⟨x, o, none⟩) hbx).trans c0
       have f06 : w6.frozen? ⟨x, o, none⟩ = false := (World.frozen?_of_block (a := ⟨x, o, none⟩) hbx).trans f0
       have HX : Hid (QP w (w6.setCell ⟨x, o, none⟩ (.slice a6 (n + 1) c6)) x o (n + 1) (.slice a n c) (.slice a6 (n + 1) c6) cs t (xs ++ y.L)) := by
         have hb6 := hbx.trans HB.out.1
         refine ⟨heap_setCell_same _ _ _ _ _ _ hb6, own_blk hown6 (fun g hg => heap_setCell_other _ _ _ _ (fun e => own_hp hown6 hb6 ht (by rw [hg, e]))), fun g hg => ?_, ?_⟩
         · rcases hat6 with e | e
           · exact .inl (e ▸ hg)
           · rw [hg] at e; simp at e; have := HB.out.2.2.2.1; omega
         · refine ((Kl.refl _ w).grown HB.out.2.2.1 (fun k hk => by cases hk)).grown hg6 (fun k hk => .inl (.inr hk)) |>.grown (grown_set _ _ _ _) (fun k hk => ?_)
           simp at hk
           exact .inl (.inl hk.symm)
       clear hown6 hgrow6 hat6 hg6 hbx))
  all_goals (
    go_wp2
    refine bodyPost_end (v := .tuple #[]) (by simp [results, Tryd.results42, go_sem]) rfl ?_
    exact ⟨⟨_, rfl⟩, _, HX.out⟩)

end Go.Proofs.YtdfdaambfihjaaaDoor.L

namespace Go.Proofs.YtdfdaambfihjaaaDoor.L
open Go.RowKit
set_option linter.unusedVariables false
set_option linter.unusedSimpArgs false

/-- An append of nothing, as one step of a region that draws. -/
theorem step_append_nil {P : Program} {ops : Array Oper} {o : Oper} {a : Act} {w : World} {K : Act → World → Prop} {Q : Exit → Act → World → Prop} {E : Prop}
    (hg : o.guard = none) (s x : Operand) (t : TypeId) (hop : o.op = Op.call { callee := Callee.builtin Builtin.append, args := #[s, x], argTypes := #[t, t] })
    (base : Nat) (e : TypeId) (i : TypeInfo) (size : Nat) (ht : P.underlying t = some (.slice e)) (hi : P.info? e = some i)
    (v : Value) (n : Nat) (xs : List Value) (hs : a.eval s = v) (hown : w.ownsRow base e size v n xs) (hx : a.eval x = .slice none 0 0)
    (hK : K (a.put o.dst v) w) : if Region.wanted o (yielded ops a.tmps) = true then Oper.wp P o a w K Q else E := by
  have hw : Region.wanted o (yielded ops a.tmps) = true := by simp [Region.wanted, hg]
  rw [if_pos hw]
  have hrun := run_append_owned_none (P := P) (w := w) base t o.type e i size ht hi v n xs hown
  unfold Oper.wp
  simp [execOp, hop, resolve, invoke, builtin, hs, hx, hrun, Result.andThen]
  exact hK

/-- What a call does to both cells of a queue. -/
structure QR (w w' : World) (x o n f : Nat) (v v' : Value) (cs : Array Value) (t : TypeId) (xs : List Value) : Prop where
  box : w'.heap[x]? = some (.cells ((cs.setIfInBounds o v').setIfInBounds (o + 1) (.int .i64 f)) t (0, 0))
  row : w'.ownsRow 0 37 14 v' n xs
  at' : ∀ g, v'.ownBlock = some g → v.ownBlock = some g ∨ w.heap.size ≤ g
  kl : Kl (fun g => g = x ∨ v.ownBlock = some g) w w'

set_option maxRecDepth 100000 in
set_option maxHeartbeats 4000000 in
theorem qpack_any (w : World) (x o f m : Nat) (v : Value) (Z ys : List Value) (cs : Array Value) (t : TypeId) (hb : w.heap[x]? = some (.cells cs t (0, 0))) (ht : 37 ≠ t) (hv : cs[o]? = some v) (hf : cs[o + 1]? = some (.int .i64 f)) (hZ : Z.length = f * 14) (hr : w.ownsRow 0 37 14 v (f + m) (Z ++ ys)) (hy : ∀ u ∈ ys, u.oneCell' = true) (hn : f + m ≤ 549755813888) :
    Calls Tryd.prog 55 #[.pointer (some ⟨x, o, none⟩)] w fun e w' => (∃ u, e = .returned u) ∧ ∃ v', QR w w' x o m 0 v v' cs t ys := by
  obtain ⟨i0, hi, hz0, hz1, hz2⟩ := info_parts seg_info
  have hxl := (Array.getElem?_eq_some_iff.1 hb).1
  have c0 : w.cell? ⟨x, o, none⟩ = some v := (cell_of_row _ _ _ _ _ _ hb).trans hv
  have c1 : w.cell? ⟨x, o + 1, none⟩ = some (.int .i64 f) := (cell_of_row _ _ _ _ _ _ hb).trans hf
  have f0 : w.frozen? ⟨x, o, none⟩ = false := frozen_of_row _ _ _ _ _ hb
  have f1 : w.frozen? ⟨x, o + 1, none⟩ = false := frozen_of_row _ _ _ _ _ hb
  have HB : Hid (w.heap[x]? = some (.cells cs t (0, 0)) ∧ x < w.heap.size) := ⟨hb, hxl⟩
  have hyl : ys.length = m * 14 := by have := hr.1; rw [List.length_append, hZ] at this; omega
  have HS : ∀ (v6 : Value) (w6 : World), w6.ownsRow 0 37 14 v6 (0 + m) ([] ++ ys) → w.grownBy w6 none → (v6.ownBlock = none ∨ v6.ownBlock = some w.heap.size) → Hid (w6.heap[x]? = w.heap[x]? ∧ ∀ V : World, V.heap = ((w6.setCell ⟨x, o, none⟩ v6).setCell ⟨x, o + 1, none⟩ (.int .i64 0)).heap → V.os = w.os → V.tape = w.tape → V.output = w.output → QR w V x o m 0 v v6 cs t ys) := fun v6 w6 h1 h2 h3 => by
    have hbx : w6.heap[x]? = w.heap[x]? := grown_blk h2 HB.out.2 (by simp)
    refine ⟨hbx, fun V hV o1 o2 o3 => ?_⟩
    have hb6 := hbx.trans HB.out.1
    rw [Nat.zero_add, List.nil_append] at h1
    have e1 := heap_setCell_same w6 x o _ _ v6 hb6
    have e2 := heap_setCell_same _ x (o + 1) _ _ (.int .i64 0) e1
    have ho : ∀ g, g ≠ x → V.heap[g]? = w6.heap[g]? := fun g hg => by rw [hV]; exact (heap_setCell_other _ _ _ _ hg).trans (heap_setCell_other _ _ _ _ hg)
    refine ⟨by rw [hV]; exact e2, own_blk h1 (fun g hg => ho g (fun e => own_hp h1 hb6 ht (by rw [hg, e]))), fun g hg => ?_, ⟨o1, o2, o3, by rw [hV]; simpa [World.setCell] using h2.size, fun g hg hn => (ho g (fun e => hn (.inl e))).trans (grown_blk h2 hg (by simp))⟩⟩
    rcases h3 with e | e
    · rw [hg] at e; cases e
    · rw [hg] at e; simp at e; exact .inr (by omega)
  have HSS : Hid (∀ (v6 : Value) (w6 : World), w6.ownsRow 0 37 14 v6 (0 + m) ([] ++ ys) → w.grownBy w6 none → (v6.ownBlock = none ∨ v6.ownBlock = some w.heap.size) → Hid (w6.heap[x]? = w.heap[x]? ∧ ∀ V : World, V.heap = ((w6.setCell ⟨x, o, none⟩ v6).setCell ⟨x, o + 1, none⟩ (.int .i64 0)).heap → V.os = w.os → V.tape = w.tape → V.output = w.output → QR w V x o m 0 v v6 cs t ys)) := HS
  have HY : Hid (∀ u ∈ ys, u.oneCell' = true) := hy
  have HYl : Hid (ys.length = m * 14) := hyl
  have hr0 := hr
  obtain ⟨_, ⟨rfl, h0⟩ | ⟨g, cap, cur, rfl, _, hg, hnc, hcm, hcz, hcur⟩⟩ := hr0
  · obtain rfl : f = 0 := by omega
    obtain rfl : m = 0 := by omega
    obtain rfl : ys = [] := List.eq_nil_of_length_eq_zero (by omega)
    clear HS hb hr hv hf hy hZ hyl
    go_enter Tryd.func55, Tryd.ntmps55
    go_region_law (first
      | (refine step_append_nil rfl (.const (.slice none 0 0)) (.tmp 11) 30 rfl 0 37 i0 14 Tryd.underlying30 hi (.slice none 0 0) 0 [] (by simp [Act.eval]) (World.ownsRow_nil _ _ _ _) (by first | rfl | simp [Act.eval, Act.put]) ?_
         have HX := HSS.out (.slice none 0 0) w (World.ownsRow_nil _ _ _ _) ⟨rfl, rfl, rfl, Nat.le_refl _, fun _ _ _ => rfl⟩ (.inl rfl)))
    all_goals (
      go_wp2
      refine bodyPost_end (v := .tuple #[]) (by simp [results, Tryd.results55, go_sem]) rfl ?_
      exact ⟨⟨_, rfl⟩, _, HX.out.2 _ rfl rfl rfl rfl⟩)
  · have hw1 : (f : Int) ≤ (f + m : Nat) := by omega
    have hf0 : 0 ≤ (f : Int) := by omega
    have hfc : (f : Int) ≤ (cap : Int) := by omega
    have e1 : f + m - f = m := by omega
    obtain ⟨ad, had⟩ : ∃ ad, (if cap = f then some (⟨g, 0, none⟩ : Addr) else some ⟨g, f * 14, none⟩) = some ad := by split <;> exact ⟨_, rfl⟩
    have HC : Hid (∀ (d j : Nat) u, ys[j]? = some u → (w.drewN d).cell? (ad.add j) = some u) := fun d j u h => by
      have hj := (List.getElem?_eq_some_iff.mp h).1
      rw [if_neg (by omega)] at had
      cases had
      rw [addr_add]
      show w.cell? ⟨g, f * 14 + j, none⟩ = some u
      have := hr.cells (g := g) rfl (f * 14 + j) u (by rw [List.getElem?_append_right (by omega), hZ, Nat.add_sub_cancel_left]; exact h)
      rwa [addr_add, Nat.zero_add] at this
    obtain ⟨N, hN⟩ : ∃ N, f + m = N := ⟨_, rfl⟩
    have HN : Hid (f + m = N) := hN
    rw [hN] at c0 hw1 e1 hnc hn
    have hmN : m ≤ N := by omega
    rw [hN] at HSS ⊢
    clear HS hb hr hv hf hy hZ hyl hg hcz hcur hN
    go_enter Tryd.func55, Tryd.ntmps55
    go_region_law (first
      | (refine step_append_at rfl (.const (.slice none 0 0)) (.tmp 11) 30 rfl 0 37 i0 _ 14 176 Tryd.underlying30 hi hz0 hz1 hz2 rfl (by decide) (.slice none 0 0) 0 [] (by simp [Act.eval]) (World.ownsRow_nil _ _ _ _) ad m (cap - f) ys (by first | rfl | (simp [Act.eval, Act.put, had]; done) | simp [Act.eval, Act.put, ← had]) HYl.out (HC.out 1) HY.out (by unfold maxLen; omega) (by omega) (by simp) ?_
         intro v6 w6 hown6 hgrow6 hat6
         have HX := HSS.out v6 w6 hown6 ⟨hgrow6.os, hgrow6.tape, hgrow6.output, hgrow6.size, fun k hk hn => hgrow6.block k hk (fun e => hn (by rw [e]; rfl))⟩ hat6
         have p06 : w6.cell? ⟨x, o, none⟩ = some (.slice (some ⟨g, 0, none⟩) N cap) := (World.cell?_of_block (a := ⟨x, o, none⟩) HX.out.1).trans c0
         have f06 : w6.frozen? ⟨x, o, none⟩ = false := (World.frozen?_of_block (a := ⟨x, o, none⟩) HX.out.1).trans f0
         have p16 : w6.cell? ⟨x, o + 1, none⟩ = some (.int .i64 f) := (World.cell?_of_block (a := ⟨x, o + 1, none⟩) HX.out.1).trans c1
         have f16 : w6.frozen? ⟨x, o + 1, none⟩ = false := (World.frozen?_of_block (a := ⟨x, o + 1, none⟩) HX.out.1).trans f1
         have HG : Hid (w6.os = w.os ∧ w6.tape = w.tape ∧ w6.output = w.output) := ⟨hgrow6.os, hgrow6.tape, hgrow6.output⟩
         obtain ⟨a6, c6, hv6⟩ := own_sl hown6
         rw [Nat.zero_add] at hv6
         subst hv6
         clear hown6 hgrow6 hat6))
    all_goals (
      go_wp2
      refine bodyPost_end (v := .tuple #[]) (by simp [results, Tryd.results55, go_sem]) rfl ?_
      exact ⟨⟨_, rfl⟩, _, HX.out.2 _ rfl HG.out.1 HG.out.2.1 HG.out.2.2⟩)

end Go.Proofs.YtdfdaambfihjaaaDoor.L

namespace Go.Proofs.YtdfdaambfihjaaaDoor.L
open Go.RowKit
set_option linter.unusedVariables false
set_option linter.unusedSimpArgs false

/-! ## clear of segments -/
def zseg : Array Value := #[.int .i64 0, .int .i64 0, .int .i64 0, .slice none 0 0, .slice none 0 0, .int .i64 0, .int .i64 0, .slice none 0 0, .int .i64 0, .int .i64 0, .int .i64 0, .int .i64 0, .slice none 0 0, .int .i64 0]
def zrow (n : Nat) : List Value := (Builtin.zeroCells zseg n).toList
theorem zrow_len (n : Nat) : (zrow n).length = n * 14 := by unfold zrow Builtin.zeroCells; simp [zseg]
theorem zrow_one (n : Nat) : ∀ v ∈ zrow n, v.oneCell' = true := by
  intro v hv
  unfold zrow Builtin.zeroCells at hv
  rw [Array.toList_map, List.mem_map] at hv
  obtain ⟨i, hi, rfl⟩ := hv
  have hlt : i % zseg.size < 14 := Nat.mod_lt _ (by decide)
  generalize i % zseg.size = k at hlt
  have : ∀ k : Fin 14, (zseg[k.val]!).oneCell' = true := by decide
  exact this ⟨k, hlt⟩
theorem clear_run (w : World) (b o n c : Nat) (hn : 0 < n) (hc : ∀ j, j < n * 14 → (w.cell? ⟨b, o + j, none⟩).isSome = true) (hf : ∀ j, j < n * 14 → w.frozen? ⟨b, o + j, none⟩ = false) (ty : TypeId) :
    (Builtin.clear_ #[30] ty #[.slice (some ⟨b, o, none⟩) n c]).run Tryd.prog w = .ok (.tuple #[]) (w.setCells b o (zrow n)) := by
  have hv : (zeroValue 37).run Tryd.prog w = .ok (.agg zseg) w := by
    obtain ⟨i0, hi, hz0, hz1, hz2⟩ := info_parts seg_info
    first | exact Tryd.zeroValue37 w | exact Tryd.zeroValue37 | simp [zeroValue, typeInfo, hi, hz0, zseg] | simp [zeroValue, typeInfo, zseg, Tryd.t37]
  have hzc : (Builtin.zeroCells (Value.agg zseg).cells n).toList = zrow n := rfl
  have hst := run_storeCells_cells (P := Tryd.prog) b o (zrow n) 0 w (by rw [zrow_len]; simpa using hc) (by rw [zrow_len]; simpa using hf) (zrow_one n)
  simp only [Nat.add_zero] at hst
  obtain ⟨m, rfl⟩ : ∃ m, n = m + 1 := ⟨n - 1, by omega⟩
  simp [Builtin.clear_, run_underlying Tryd.underlying30, hv, hzc, hst]
/-- Numbers laid over a list, from a place on. -/
def lay : List Value → Nat → List Value → List Value
  | xs, _, [] => xs
  | xs, o, z :: r => lay (xs.set o z) (o + 1) r
theorem lay_app : ∀ (zs A Z B : List Value), A.length = zs.length → lay (Z ++ (A ++ B)) Z.length zs = Z ++ (zs ++ B)
  | [], A, Z, B, h => by
    obtain rfl : A = [] := List.eq_nil_of_length_eq_zero h
    rfl
  | z :: r, a :: A, Z, B, h => by
    have h2 := lay_app r A (Z ++ [z]) B (by simpa using h)
    unfold lay
    have e : (Z ++ (a :: A ++ B)).set Z.length z = (Z ++ [z]) ++ (A ++ B) := by simp
    rw [e, show Z.length + 1 = (Z ++ [z]).length by simp, h2]
    simp
theorem own_lay {base g N cap sz : Nat} {e : TypeId} : ∀ (zs xs : List Value) (o : Nat) (w : World), w.ownsRow base e sz (.slice (some ⟨g, 0, none⟩) N cap) N xs → (w.setCells g o zs).ownsRow base e sz (.slice (some ⟨g, 0, none⟩) N cap) N (lay xs o zs)
  | [], xs, o, w, h => h
  | z :: r, xs, o, w, h => own_lay r (xs.set o z) (o + 1) _ (World.ownsRow.stored h o z).1
theorem setCells_other (g : Nat) : ∀ (zs : List Value) (o : Nat) (w : World), (∀ k, k ≠ g → (w.setCells g o zs).heap[k]? = w.heap[k]?) ∧ (w.setCells g o zs).os = w.os ∧ (w.setCells g o zs).tape = w.tape ∧ (w.setCells g o zs).output = w.output ∧ (w.setCells g o zs).heap.size = w.heap.size
  | [], o, w => ⟨fun _ _ => rfl, rfl, rfl, rfl, rfl⟩
  | z :: r, o, w => by
    obtain ⟨h1, h2, h3, h4, h5⟩ := setCells_other g r (o + 1) (w.setCell ⟨g, o, none⟩ z)
    exact ⟨fun k hk => (h1 k hk).trans (heap_setCell_other _ _ _ _ hk), h2, h3, h4, h5.trans (by simp [World.setCell])⟩
theorem grown_cells (g o : Nat) (zs : List Value) (w : World) : w.grownBy (w.setCells g o zs) (some g) := by
  obtain ⟨h1, h2, h3, h4, h5⟩ := setCells_other g zs o w
  exact ⟨h2, h3, h4, by omega, fun k _ hk => h1 k (fun e => hk (by rw [e]))⟩
/-- Segments that were cleared within a row. -/
theorem own_clear {base g N cap n f : Nat} {w : World} {Z A B : List Value} (h : w.ownsRow base 37 14 (.slice (some ⟨g, 0, none⟩) N cap) N (Z ++ (A ++ B))) (hZ : Z.length = f * 14) (hA : A.length = n * 14) :
    (w.setCells g (f * 14) (zrow n)).ownsRow base 37 14 (.slice (some ⟨g, 0, none⟩) N cap) N (Z ++ (zrow n ++ B)) := by
  have := own_lay (zrow n) _ (f * 14) w h
  rwa [← hZ, lay_app _ _ _ _ (by rw [hA, zrow_len]), hZ] at this
theorem own_in {base g N cap j : Nat} {w : World} {e : TypeId} {sz : Nat} {xs : List Value} (h : w.ownsRow base e sz (.slice (some ⟨g, 0, none⟩) N cap) N xs) (hj : j < xs.length) : (w.cell? ⟨g, j, none⟩).isSome = true ∧ w.frozen? ⟨g, j, none⟩ = false := by
  refine ⟨?_, ?_⟩
  · have := h.cells (g := g) rfl j xs[j] (List.getElem?_eq_getElem hj)
    rw [addr_add, Nat.zero_add] at this
    rw [this]; rfl
  · obtain ⟨_, ⟨e1, _⟩ | ⟨g', cap', cur, e1, _, q1, _⟩⟩ := h
    · cases e1
    · simp only [Value.slice.injEq, Option.some.injEq, Addr.mk.injEq] at e1
      obtain ⟨⟨rfl, _⟩, _⟩ := e1
      exact frozen_of_row _ _ _ _ _ q1

end Go.Proofs.YtdfdaambfihjaaaDoor.L
