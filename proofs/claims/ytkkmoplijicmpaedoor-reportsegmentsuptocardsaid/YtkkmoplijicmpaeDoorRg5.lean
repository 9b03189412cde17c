import Derived.Test.YtkkmoplijicmpaeDoorRg4
import Derived.Deep.RegionLaw
import Derived.Deep.CutRange
namespace Go.Proofs.YtkkmoplijicmpaeDoor
open Go.RowKit
set_option linter.unusedVariables false
set_option linter.unusedSimpArgs false

set_option maxRecDepth 100000 in
set_option maxHeartbeats 4000000 in
/-- The reference's Same of any two reports: true where they say the same. -/
theorem same5_gen (r t : Rr) (a b : Option Addr) (n m ca cb : Nat) (w : World) (hn : r.clm.length = n) (hm : t.clm.length = m) (hA : CIn w (.slice a n ca) r.clm) (hB : CIn w (.slice b m cb) t.clm) :
    Calls Tryd.prog 40 #[.agg (rpA r n a ca), .agg (rpA t m b cb)] w (SmPost (r = t) w) := by
  obtain ⟨P, hP⟩ : ∃ P, SmPost (r = t) w = P := ⟨_, rfl⟩
  have HEnd : Hid (∀ q V, (r = t → q = true) → Below w.heap.size w V → P (.returned (.bool q)) V) := fun q V h hV => by rw [← hP]; exact ⟨q, rfl, h, hV⟩
  rw [hP]
  obtain ⟨W, hW⟩ : ∃ W, (w.alloc (.cells (rpA r n a ca) 75)).alloc (.cells (rpA t m b cb) 75) = W := ⟨_, rfl⟩
  have hbW : Below w.heap.size w W := by rw [← hW]; exact ((Below.refl _ _).alloc (Nat.le_refl _) _).alloc (by simp) _
  have HS := sameSpans_gen _ _ _ _ W (hA.below hbW) (hB.below hbW)
  have HBW : Hid (Below w.heap.size w W) := hbW
  have HWe : Hid (_ = W) := hW
  have hb0 : W.heap[w.heap.size]? = some (.cells (rpA r n a ca) 75 (0, 0)) := by rw [← hW]; exact al_old (al_new _ _)
  have hb1 : W.heap[w.heap.size + 1]? = some (.cells (rpA t m b cb) 75 (0, 0)) := by rw [← hW, show w.heap.size + 1 = (w.alloc (.cells (rpA r n a ca) 75)).heap.size by simp]; exact al_new _ _
  have HC : Hid (∀ W2, Below W.heap.size W W2 → ∀ j u, (rpA r n a ca)[j]? = some u → W2.cell? ⟨w.heap.size, j, none⟩ = some u) := fun W2 h2 j u hj => by
    rw [cell_of_row _ _ _ _ _ _ ((h2.block w.heap.size (Array.getElem?_eq_some_iff.1 hb0).1).trans hb0)]; exact hj
  have HD : Hid (∀ W2, Below W.heap.size W W2 → ∀ j u, (rpA t m b cb)[j]? = some u → W2.cell? ⟨w.heap.size + 1, j, none⟩ = some u) := fun W2 h2 j u hj => by
    rw [cell_of_row _ _ _ _ _ _ ((h2.block (w.heap.size + 1) (Array.getElem?_eq_some_iff.1 hb1).1).trans hb1)]; exact hj
  have HEq : Hid (r = t → r.clm = t.clm ∧ r.ser = t.ser ∧ r.chk = t.chk ∧ r.upp = t.upp ∧ r.low = t.low) := fun h => by subst h; exact ⟨rfl, rfl, rfl, rfl, rfl⟩
  obtain ⟨s0, s1, s2, s3, cl⟩ := r
  obtain ⟨t0, t1, t2, t3, dl⟩ := t
  clear hW hbW hb0 hb1 hA hB hn hm hP
  go_enter Tryd.func40, Tryd.ntmps40
  go_wp2_with fail
  rw [HWe.out]
  refine HS.mono ?_
  rintro e w2 ⟨q, rfl, hq, hb2⟩
  have c0 := HC.out w2 hb2 0 _ rfl
  have c1 := HC.out w2 hb2 1 _ rfl
  have c2 := HC.out w2 hb2 2 _ rfl
  have c3 := HC.out w2 hb2 3 _ rfl
  have d0 := HD.out w2 hb2 0 _ rfl
  have d1 := HD.out w2 hb2 1 _ rfl
  have d2 := HD.out w2 hb2 2 _ rfl
  have d3 := HD.out w2 hb2 3 _ rfl
  have HB2 : Hid (Below w.heap.size w w2) := HBW.out.trans (hb2.mono HBW.out.size)
  have HQ : Hid (cl = dl → q = true) := hq
  clear hb2 hq HC HD HS
  cases q with
  | false =>
    have HE : Hid (P (.returned (.bool false)) w2) := HEnd.out _ _ (fun h => HQ.out (HEq.out h).1) HB2.out
    go_wp2
    first | exact HE.out | (go_ret; exact HE.out)
  | true =>
  by_cases h0 : s0 = t0
  rotate_left
  · have e0 : (s0 == t0) = false := by simp [h0]
    have HE : Hid (P (.returned (.bool false)) w2) := HEnd.out _ _ (fun h => absurd (HEq.out h).2.1 h0) HB2.out
    go_wp2
    first | exact HE.out | (go_ret; exact HE.out)
  have e0 : (s0 == t0) = true := by simp [h0]
  by_cases h1 : s1 = t1
  rotate_left
  · have e1 : (s1 == t1) = false := by simp [h1]
    have HE : Hid (P (.returned (.bool false)) w2) := HEnd.out _ _ (fun h => absurd (HEq.out h).2.2.1 h1) HB2.out
    clear h0
    go_wp2
    first | exact HE.out | (go_ret; exact HE.out)
  have e1 : (s1 == t1) = true := by simp [h1]
  by_cases h2 : s2 = t2
  rotate_left
  · have e2 : (s2 == t2) = false := by simp [h2]
    have HE : Hid (P (.returned (.bool false)) w2) := HEnd.out _ _ (fun h => absurd (HEq.out h).2.2.2.1 h2) HB2.out
    clear h0 h1
    go_wp2
    first | exact HE.out | (go_ret; exact HE.out)
  have e2 : (s2 == t2) = true := by simp [h2]
  by_cases h3 : s3 = t3
  rotate_left
  · have e3 : (s3 == t3) = false := by simp [h3]
    have HE : Hid (P (.returned (.bool false)) w2) := HEnd.out _ _ (fun h => absurd (HEq.out h).2.2.2.2 h3) HB2.out
    clear h0 h1 h2
    go_wp2
    first | exact HE.out | (go_ret; exact HE.out)
  have e3 : (s3 == t3) = true := by simp [h3]
  have HE : Hid (P (.returned (.bool true)) w2) := HEnd.out _ _ (fun _ => rfl) HB2.out
  clear h0 h1 h2 h3
  go_wp2
  first | exact HE.out | (go_ret; exact HE.out)

/-! ## Take -/
theorem own_ty {w : World} {b1 b2 n1 n2 z1 z2 : Nat} {e1 e2 : TypeId} {v1 v2 : Value} {x1 x2 : List Value} (h1 : w.ownsRow b1 e1 z1 v1 n1 x1) (h2 : w.ownsRow b2 e2 z2 v2 n2 x2) (he : e1 ≠ e2) {g : Nat} (hg : v1.ownBlock = some g) : v2.ownBlock ≠ some g := by
  intro hg2
  obtain ⟨_, ⟨rfl, _⟩ | ⟨g1, c1, cur1, rfl, _, q1, _⟩⟩ := h1
  · cases hg
  obtain ⟨_, ⟨rfl, _⟩ | ⟨g2, c2, cur2, rfl, _, q2, _⟩⟩ := h2
  · cases hg2
  cases hg
  cases hg2
  rw [q1] at q2
  simp only [Option.some.injEq, Obj.cells.injEq] at q2
  exact he q2.2.1
theorem own_hp {w : World} {b1 n1 z1 g : Nat} {e1 t : TypeId} {v1 : Value} {x1 : List Value} {cs : Array Value} {fr : Nat × Nat} (h1 : w.ownsRow b1 e1 z1 v1 n1 x1) (hh : w.heap[g]? = some (.cells cs t fr)) (he : e1 ≠ t) : v1.ownBlock ≠ some g := by
  intro hg
  obtain ⟨_, ⟨rfl, _⟩ | ⟨g1, c1, cur1, rfl, _, q1, _⟩⟩ := h1
  · cases hg
  cases hg
  rw [q1] at hh
  simp only [Option.some.injEq, Obj.cells.injEq] at hh
  exact he hh.2.1
/-- Where Take stands: what Rows holds by now, and what alone has changed. -/
structure TkS (w wr : World) (pr : Nat) (v0 : Value) (V : List Value) (kb ks ke : Nat) (cs : List Value) (bv sv ev : Value) : Prop where
  box : wr.heap[pr]? = some (.cells #[bv, sv, ev] 73 (0, 0))
  rb : wr.ownsRow 0 34 1 bv kb (List.replicate kb nl)
  rs : wr.ownsRow 0 26 1 sv (V.length + ks) (V ++ cs.take ks)
  re : wr.ownsRow 0 79 1 ev ke (List.replicate ke nl)
  os : wr.os = w.os
  tape : wr.tape = w.tape
  output : wr.output = w.output
  size : w.heap.size ≤ wr.heap.size
  block : ∀ g, g < w.heap.size → g ≠ pr → v0.ownBlock ≠ some g → wr.heap[g]? = w.heap[g]?
  nb : ∀ g, bv.ownBlock = some g → w.heap.size ≤ g
  ns : ∀ g, sv.ownBlock = some g → v0.ownBlock = some g ∨ w.heap.size ≤ g
  ne : ∀ g, ev.ownBlock = some g → w.heap.size ≤ g
theorem grown_blk {w w' : World} {row : Option Nat} (h : w.grownBy w' row) {g : Nat} (hg : g < w.heap.size) (hn : row ≠ some g) : w'.heap[g]? = w.heap[g]? := h.block g hg (fun e => hn e.symm)
theorem TkS.stepB {w wr w6 : World} {pr kb ks ke : Nat} {v0 bv sv ev bv' : Value} {V cs : List Value} (h : TkS w wr pr v0 V kb ks ke cs bv sv ev) (ho : w6.ownsRow 0 34 1 bv' (kb + 1) (List.replicate kb nl ++ [nl])) (hg : wr.grownBy w6 bv.ownBlock) (hat : bv'.ownBlock = bv.ownBlock ∨ ∃ g, bv'.ownBlock = some g ∧ wr.heap.size ≤ g) (hpr : pr < w.heap.size) : TkS w (w6.setCell ⟨pr, 0, none⟩ bv') pr v0 V (kb + 1) ks ke cs bv' sv ev := by
  have hp := (Array.getElem?_eq_some_iff.1 h.box).1
  have b6 : w6.heap[pr]? = some (.cells #[bv, sv, ev] 73 (0, 0)) := (grown_blk hg hp (own_hp h.rb h.box (by decide))).trans h.box
  have hb' : bv'.ownBlock ≠ some pr := own_hp ho b6 (by decide)
  have r1 : w6.ownsRow 0 26 1 sv (V.length + ks) (V ++ cs.take ks) := C.own_blk2 h.rs (fun g hgb => grown_blk hg (World.ownsRow.lt h.rs g hgb).2 (fun e => own_ty h.rs h.rb (by decide) hgb e))
  have r2 : w6.ownsRow 0 79 1 ev ke (List.replicate ke nl) := C.own_blk2 h.re (fun g hgb => grown_blk hg (World.ownsRow.lt h.re g hgb).2 (fun e => own_ty h.re h.rb (by decide) hgb e))
  have st : ∀ g, g ≠ pr → (w6.setCell ⟨pr, 0, none⟩ bv').heap[g]? = w6.heap[g]? := fun g hgp => heap_setCell_other _ _ _ _ (by simpa using hgp)
  refine ⟨heap_setCell_same _ _ _ _ _ _ b6, ?_, C.own_blk2 r1 (fun g hgb => st g (fun e => own_hp r1 b6 (by decide) (e ▸ hgb))), C.own_blk2 r2 (fun g hgb => st g (fun e => own_hp r2 b6 (by decide) (e ▸ hgb))), hg.os.trans h.os, hg.tape.trans h.tape, hg.output.trans h.output, by simpa using Nat.le_trans h.size hg.size, fun g hgl hgp hgv => (st g hgp).trans ((grown_blk hg (Nat.lt_of_lt_of_le hgl h.size) (fun e => by have := h.nb g e; omega)).trans (h.block g hgl hgp hgv)), fun g hgb => ?_, h.ns, h.ne⟩
  · rw [List.replicate_succ']
    exact C.own_blk2 ho (fun g hgb => st g (fun e => hb' (e ▸ hgb)))
  · rcases hat with e | ⟨g', e, h2⟩
    · exact h.nb g (e ▸ hgb)
    · rw [e] at hgb; cases hgb; exact Nat.le_trans h.size h2
theorem TkS.stepS {w wr w6 : World} {pr kb ks ke : Nat} {v0 bv sv ev sv' cv : Value} {V cs : List Value} (h : TkS w wr pr v0 V kb ks ke cs bv sv ev) (hc : cs[ks]? = some cv) (ho : w6.ownsRow 0 26 1 sv' (V.length + ks + 1) ((V ++ cs.take ks) ++ [cv])) (hg : wr.grownBy w6 sv.ownBlock) (hat : sv'.ownBlock = sv.ownBlock ∨ ∃ g, sv'.ownBlock = some g ∧ wr.heap.size ≤ g) (hpr : pr < w.heap.size) : TkS w (w6.setCell ⟨pr, 1, none⟩ sv') pr v0 V kb (ks + 1) ke cs bv sv' ev := by
  have hp := (Array.getElem?_eq_some_iff.1 h.box).1
  have b6 : w6.heap[pr]? = some (.cells #[bv, sv, ev] 73 (0, 0)) := (grown_blk hg hp (own_hp h.rs h.box (by decide))).trans h.box
  have hb' : sv'.ownBlock ≠ some pr := own_hp ho b6 (by decide)
  have r1 : w6.ownsRow 0 34 1 bv kb (List.replicate kb nl) := C.own_blk2 h.rb (fun g hgb => grown_blk hg (World.ownsRow.lt h.rb g hgb).2 (fun e => own_ty h.rb h.rs (by decide) hgb e))
  have r2 : w6.ownsRow 0 79 1 ev ke (List.replicate ke nl) := C.own_blk2 h.re (fun g hgb => grown_blk hg (World.ownsRow.lt h.re g hgb).2 (fun e => own_ty h.re h.rs (by decide) hgb e))
  have st : ∀ g, g ≠ pr → (w6.setCell ⟨pr, 1, none⟩ sv').heap[g]? = w6.heap[g]? := fun g hgp => heap_setCell_other _ _ _ _ (by simpa using hgp)
  refine ⟨heap_setCell_same _ _ _ _ _ _ b6, C.own_blk2 r1 (fun g hgb => st g (fun e => own_hp r1 b6 (by decide) (e ▸ hgb))), ?_, C.own_blk2 r2 (fun g hgb => st g (fun e => own_hp r2 b6 (by decide) (e ▸ hgb))), hg.os.trans h.os, hg.tape.trans h.tape, hg.output.trans h.output, by simpa using Nat.le_trans h.size hg.size, fun g hgl hgp hgv => (st g hgp).trans ((grown_blk hg (Nat.lt_of_lt_of_le hgl h.size) (fun e => by rcases h.ns g e with q | q; exact hgv q; omega)).trans (h.block g hgl hgp hgv)), h.nb, fun g hgb => ?_, h.ne⟩
  · rw [List.take_add_one, hc, ← List.append_assoc]
    exact C.own_blk2 ho (fun g hgb => st g (fun e => hb' (e ▸ hgb)))
  · rcases hat with e | ⟨g', e, h2⟩
    · exact h.ns g (e ▸ hgb)
    · rw [e] at hgb; cases hgb; exact .inr (Nat.le_trans h.size h2)
theorem TkS.stepE {w wr w6 : World} {pr kb ks ke : Nat} {v0 bv sv ev ev' : Value} {V cs : List Value} (h : TkS w wr pr v0 V kb ks ke cs bv sv ev) (ho : w6.ownsRow 0 79 1 ev' (ke + 2) (List.replicate ke nl ++ [nl, nl])) (hg : wr.grownBy w6 ev.ownBlock) (hat : ev'.ownBlock = ev.ownBlock ∨ ∃ g, ev'.ownBlock = some g ∧ wr.heap.size ≤ g) (hpr : pr < w.heap.size) : TkS w (w6.setCell ⟨pr, 2, none⟩ ev') pr v0 V kb ks (ke + 2) cs bv sv ev' := by
  have hp := (Array.getElem?_eq_some_iff.1 h.box).1
  have b6 : w6.heap[pr]? = some (.cells #[bv, sv, ev] 73 (0, 0)) := (grown_blk hg hp (own_hp h.re h.box (by decide))).trans h.box
  have hb' : ev'.ownBlock ≠ some pr := own_hp ho b6 (by decide)
  have r1 : w6.ownsRow 0 34 1 bv kb (List.replicate kb nl) := C.own_blk2 h.rb (fun g hgb => grown_blk hg (World.ownsRow.lt h.rb g hgb).2 (fun e => own_ty h.rb h.re (by decide) hgb e))
  have r2 : w6.ownsRow 0 26 1 sv (V.length + ks) (V ++ cs.take ks) := C.own_blk2 h.rs (fun g hgb => grown_blk hg (World.ownsRow.lt h.rs g hgb).2 (fun e => own_ty h.rs h.re (by decide) hgb e))
  have st : ∀ g, g ≠ pr → (w6.setCell ⟨pr, 2, none⟩ ev').heap[g]? = w6.heap[g]? := fun g hgp => heap_setCell_other _ _ _ _ (by simpa using hgp)
  refine ⟨heap_setCell_same _ _ _ _ _ _ b6, C.own_blk2 r1 (fun g hgb => st g (fun e => own_hp r1 b6 (by decide) (e ▸ hgb))), C.own_blk2 r2 (fun g hgb => st g (fun e => own_hp r2 b6 (by decide) (e ▸ hgb))), ?_, hg.os.trans h.os, hg.tape.trans h.tape, hg.output.trans h.output, by simpa using Nat.le_trans h.size hg.size, fun g hgl hgp hgv => (st g hgp).trans ((grown_blk hg (Nat.lt_of_lt_of_le hgl h.size) (fun e => by have := h.ne g e; omega)).trans (h.block g hgl hgp hgv)), h.nb, h.ns, fun g hgb => ?_⟩
  · rw [show List.replicate (ke + 2) nl = List.replicate ke nl ++ [nl, nl] by rw [List.replicate_succ', List.replicate_succ', List.append_assoc]; rfl]
    exact C.own_blk2 ho (fun g hgb => st g (fun e => hb' (e ▸ hgb)))
  · rcases hat with e | ⟨g', e, h2⟩
    · exact h.ne g (e ▸ hgb)
    · rw [e] at hgb; cases hgb; exact Nat.le_trans h.size h2

theorem tk_rowsB : (Tryd.prog.info? 34).map (fun i => (i.zero, i.size, i.bytes)) = some (some (.slice none 0 0), 1, 24) := by kernel_rfl
theorem tk_rowsS : (Tryd.prog.info? 26).map (fun i => (i.zero, i.size, i.bytes)) = some (some (.slice none 0 0), 1, 24) := by kernel_rfl
theorem tk_rowsE : (Tryd.prog.info? 79).map (fun i => (i.zero, i.size, i.bytes)) = some (some (.slice none 0 0), 1, 24) := by kernel_rfl
theorem TkS.cells {w wr : World} {pr kb ks ke : Nat} {v0 bv sv ev : Value} {V cs : List Value} (h : TkS w wr pr v0 V kb ks ke cs bv sv ev) : (wr.cell? ⟨pr, 0, none⟩ = some bv ∧ wr.cell? ⟨pr, 1, none⟩ = some sv ∧ wr.cell? ⟨pr, 2, none⟩ = some ev) ∧ wr.frozen? ⟨pr, 0, none⟩ = false ∧ wr.frozen? ⟨pr, 1, none⟩ = false ∧ wr.frozen? ⟨pr, 2, none⟩ = false :=
  ⟨⟨(cell_of_row _ _ _ _ _ _ h.box).trans rfl, (cell_of_row _ _ _ _ _ _ h.box).trans rfl, (cell_of_row _ _ _ _ _ _ h.box).trans rfl⟩, frozen_of_row _ _ _ _ _ h.box, frozen_of_row _ _ _ _ _ h.box, frozen_of_row _ _ _ _ _ h.box⟩
theorem one_at2 (w : World) (a : Value) (t : TypeId) (d : Nat) : ∀ j u, [a][j]? = some u → ((w.drewN d).alloc (.cells #[a] t)).cell? ((⟨w.heap.size, 0, none⟩ : Addr).add j) = some u := C.one_new5 (w.drewN d) a t
theorem two_at2 (w : World) (a b : Value) (t : TypeId) (d : Nat) : ∀ j u, [a, b][j]? = some u → ((w.drewN d).alloc (.cells #[a, b] t)).cell? ((⟨w.heap.size, 0, none⟩ : Addr).add j) = some u := cell_two_new (w.drewN d) a b t
theorem own_dr {w : World} {b e z n : Nat} {v : Value} {xs : List Value} (h : w.ownsRow b e z v n xs) (d : Nat) : (w.drewN d).ownsRow b e z v n xs := h
theorem grown_dr {w w6 : World} {row : Option Nat} {o : Obj} {d : Nat} (h : ((w.drewN d).alloc o).grownBy w6 row) : w.grownBy w6 row :=
  ⟨h.os, h.tape, h.output, Nat.le_trans (by simp) h.size, fun k hk hn => (h.block k (Nat.lt_of_lt_of_le hk (by simp)) hn).trans (Below.heap_alloc _ _ k hk)⟩

set_option maxRecDepth 100000 in
set_option maxHeartbeats 16000000 in
/-- Take of segments that have but claims. -/
theorem take_claims (pr gl : Nat) (v0 : Value) (V cs : List Value) (N : Nat) (w : World) (hb : w.heap[pr]? = some (.cells #[nl, v0, nl] 73 (0, 0))) (hv : w.ownsRow 0 26 1 v0 V.length V) (hN : cs.length = N) (hNs : N ≤ 1000) (hVs : V.length ≤ 1000) (hcs : ∀ cv ∈ cs, ∃ a n c, cv = .slice a n c)
    (hg : gl < w.heap.size) (hgp : gl ≠ pr) (hgv : v0.ownBlock ≠ some gl)
    (hc : ∀ (k : Nat) cv, cs[k]? = some cv → w.cell? ⟨gl, k * 14 + 3, none⟩ = some nl ∧ w.cell? ⟨gl, k * 14 + 4, none⟩ = some nl ∧ w.cell? ⟨gl, k * 14 + 7, none⟩ = some nl ∧ w.cell? ⟨gl, k * 14 + 12, none⟩ = some cv) :
    Calls Tryd.prog 42 #[.pointer (some ⟨pr, 0, none⟩), .slice (some ⟨gl, 0, none⟩) N N] w fun e w' => e = .returned (.tuple #[]) ∧ ∃ bv sv ev, TkS w w' pr v0 V N N (2 * N) cs bv sv ev := by
  obtain ⟨iB, hiB, hB0, hB1, hB2⟩ := info_parts tk_rowsB
  obtain ⟨iS, hiS, hS0, hS1, hS2⟩ := info_parts tk_rowsS
  obtain ⟨iE, hiE, hE0, hE1, hE2⟩ := info_parts tk_rowsE
  have HT0 : Hid (TkS w w pr v0 V 0 0 0 cs nl v0 nl) := ⟨hb, World.ownsRow_nil _ _ _ _, by simpa using hv, World.ownsRow_nil _ _ _ _, rfl, rfl, rfl, Nat.le_refl _, fun _ _ _ _ => rfl, (fun g hg => by cases hg), (fun g hg => .inl hg), (fun g hg => by cases hg)⟩
  have HPr : Hid (pr < w.heap.size) := (Array.getElem?_eq_some_iff.1 hb).1
  have HCs : Hid (∀ cv ∈ cs, ∃ a n c, cv = .slice a n c) := hcs
  have HGl : Hid (∀ V' : World, (∀ g, g < w.heap.size → g ≠ pr → v0.ownBlock ≠ some g → V'.heap[g]? = w.heap[g]?) → ∀ (k : Nat) cv, cs[k]? = some cv → V'.cell? ⟨gl, k * 14 + 3, none⟩ = some nl ∧ V'.cell? ⟨gl, k * 14 + 4, none⟩ = some nl ∧ V'.cell? ⟨gl, k * 14 + 7, none⟩ = some nl ∧ V'.cell? ⟨gl, k * 14 + 12, none⟩ = some cv) := fun V' hV k cv hk => by
    have e := hV gl hg hgp hgv
    obtain ⟨q1, q2, q3, q4⟩ := hc k cv hk
    exact ⟨(World.cell?_of_block (a := ⟨gl, k * 14 + 3, none⟩) e).trans q1, (World.cell?_of_block (a := ⟨gl, k * 14 + 4, none⟩) e).trans q2, (World.cell?_of_block (a := ⟨gl, k * 14 + 7, none⟩) e).trans q3, (World.cell?_of_block (a := ⟨gl, k * 14 + 12, none⟩) e).trans q4⟩
  have HN : Hid (cs.length = N) := hN
  obtain ⟨M, hM⟩ : ∃ M, V.length = M := ⟨_, rfl⟩
  have HM : Hid (V.length = M) := hM
  rw [hM] at hVs
  clear hb hv hc hN hM hg hgp hgv hcs
  go_enter Tryd.func42, Tryd.ntmps42
  go_wp2_with fail
  go_loopw [4] (fun i wr => ∃ (k : Nat) (bv sv ev : Value), k ≤ N ∧ i = .int .i64 k ∧ Hid (TkS w wr pr v0 V k k (2 * k) cs bv sv ev)) (fun i _ => N - (intOf i).toNat)
  case atStart => exact ⟨0, nl, v0, nl, by omega, rfl, HT0⟩
  case round =>
    obtain ⟨k, bv, sv, ev, hk, rfl, HT⟩ := hrel
    clear HT0
    by_cases hlt : k < N
    · have hlt' : (k : Int) < (N : Int) := by omega
      have hwk : IntKind.i64.wrap ((k : Int) + 1) = (k : Int) + 1 := by rw [IntKind.wrap_i64]; omega
      obtain ⟨cv, hcv⟩ := get_one cs k (by rw [HN.out]; exact hlt)
      have HCv : Hid (cs[k]? = some cv) := hcv
      obtain ⟨ca, cn, cc, rfl⟩ := HCs.out cv (List.mem_of_getElem? hcv)
      clear hcv
      go_upto_region 3 with fail
      go_cut [4] from 7 to 115 (fun i wx => i = .int .i64 k ∧ ∃ bx, Hid (TkS w wx pr v0 V (k + 1) k (2 * k) cs bx sv ev))
      case first =>
        obtain ⟨ab, cb, rfl⟩ := own_sl5 HT.out.rb
        obtain ⟨⟨p0, p1, p2⟩, f0, f1, f2⟩ := HT.out.cells
        obtain ⟨g3, g4, g7, g12⟩ := HGl.out wr HT.out.block k _ HCv.out
        have pa : ∀ o, (wr.alloc o).cell? ⟨pr, 0, none⟩ = some (.slice ab k cb) := fun o => cell_below p0 ((Below.refl _ _).alloc (Nat.le_refl _) o)
        go_region_law (first
          | (refine step_append_at rfl (.tmp 17) (.tmp 23) 70 rfl 0 34 iB (.slice none 0 0) 1 24 Tryd.underlying70 hiB hB0 hB1 hB2 rfl (by decide) (.slice ab k cb) k (List.replicate k nl) (by simp [Act.eval]) (World.ownsRow.alloc (own_dr HT.out.rb 1) _) ⟨wr.heap.size, 0, none⟩ 1 1 [nl] (by simp [Act.eval]) rfl (one_at2 _ _ _ 1) (by simp [Value.oneCell']) (by unfold maxLen; omega) (by omega) (by simp) ?_
             intro v6 w6 hown6 hgrow6 hat6
             obtain ⟨a6, c6, hv6⟩ := own_sl5 hown6
             subst hv6
             have HX : Hid (TkS w (w6.setCell ⟨pr, 0, none⟩ (.slice a6 (k + 1) c6)) pr v0 V (k + 1) k (2 * k) cs (.slice a6 (k + 1) c6) sv ev) := HT.out.stepB hown6 (grown_dr hgrow6) (hat6.imp id (fun e => ⟨_, e, by simp⟩)) HPr.out
             have hbx : w6.heap[pr]? = wr.heap[pr]? := grown_blk (grown_dr hgrow6) (Array.getElem?_eq_some_iff.1 HT.out.box).1 (own_hp HT.out.rb HT.out.box (by decide))
             have p06 : w6.cell? ⟨pr, 0, none⟩ = some (.slice ab k cb) := (World.cell?_of_block (a := ⟨pr, 0, none⟩) hbx).trans p0
             have f06 : w6.frozen? ⟨pr, 0, none⟩ = false := (World.frozen?_of_block (a := ⟨pr, 0, none⟩) hbx).trans f0
             clear hown6 hgrow6 hat6 hbx))
        all_goals (
          go_wp2_with fail
          go_meet
          exact ⟨rfl, _, HX⟩)
      case rest =>
      obtain ⟨rfl, bx, HX⟩ := hcut
      clear HT
      go_upto_region 4 with fail
      go_cut [4] from 7 to 115 (fun i wx => i = .int .i64 k ∧ ∃ sx, Hid (TkS w wx pr v0 V (k + 1) (k + 1) (2 * k) cs bx sx ev))
      case first =>
        obtain ⟨wb, hwb⟩ : ∃ x, x = wc := ⟨_, rfl⟩
        subst hwb
        obtain ⟨asv, csv, hsv⟩ := own_sl5 HX.out.rs
        rw [HM.out] at hsv
        subst hsv
        have HRs : Hid (wb.ownsRow 0 26 1 (.slice asv (M + k) csv) (M + k) (V ++ cs.take k)) := by have h := HX.out.rs; rw [HM.out] at h; exact h
        obtain ⟨⟨p0, p1, p2⟩, f0, f1, f2⟩ := HX.out.cells
        obtain ⟨g3, g4, g7, g12⟩ := HGl.out wb HX.out.block k _ HCv.out
        have pa : ∀ o, (wb.alloc o).cell? ⟨pr, 1, none⟩ = some (.slice asv (M + k) csv) := fun o => cell_below p1 ((Below.refl _ _).alloc (Nat.le_refl _) o)
        go_region_law (first
          | (refine step_append_at rfl (.tmp 31) (.tmp 37) 67 rfl 0 26 iS (.slice none 0 0) 1 24 Tryd.underlying67 hiS hS0 hS1 hS2 rfl (by decide) (.slice asv (M + k) csv) (M + k) (V ++ cs.take k) (by simp [Act.eval]) (World.ownsRow.alloc (own_dr HRs.out 1) _) ⟨wb.heap.size, 0, none⟩ 1 1 [.slice ca cn cc] (by simp [Act.eval]) rfl (one_at2 _ _ _ 1) (by simp [Value.oneCell']) (by unfold maxLen; omega) (by omega) (by simp) ?_
             intro v7 w7 hown7 hgrow7 hat7
             obtain ⟨a7, c7, hv7⟩ := own_sl5 hown7
             subst hv7
             have HX7 : Hid (TkS w (w7.setCell ⟨pr, 1, none⟩ (.slice a7 (M + k + 1) c7)) pr v0 V (k + 1) (k + 1) (2 * k) cs bx (.slice a7 (M + k + 1) c7) ev) := HX.out.stepS HCv.out (by rw [HM.out]; exact hown7) (grown_dr hgrow7) (hat7.imp id (fun e => ⟨_, e, by simp⟩)) HPr.out
             have hbx : w7.heap[pr]? = wb.heap[pr]? := grown_blk (grown_dr hgrow7) (Array.getElem?_eq_some_iff.1 HX.out.box).1 (own_hp HX.out.rs HX.out.box (by decide))
             have p17 : w7.cell? ⟨pr, 1, none⟩ = some (.slice asv (M + k) csv) := (World.cell?_of_block (a := ⟨pr, 1, none⟩) hbx).trans p1
             have f17 : w7.frozen? ⟨pr, 1, none⟩ = false := (World.frozen?_of_block (a := ⟨pr, 1, none⟩) hbx).trans f1
             clear hown7 hgrow7 hat7 hbx))
        all_goals (
          go_wp2_with fail
          go_meet
          exact ⟨rfl, _, HX7⟩)
      case rest =>
      obtain ⟨rfl, sx, HX7⟩ := hcut
      clear HX
      go_upto_region 5 with fail
      go_cut [4] from 7 to 115 (fun i wx => i = .int .i64 k ∧ ∃ ex, Hid (TkS w wx pr v0 V (k + 1) (k + 1) (2 * k + 2) cs bx sx ex))
      case first =>
        obtain ⟨wd, hwd⟩ : ∃ x, x = wc := ⟨_, rfl⟩
        subst hwd
        obtain ⟨aev, cev, hev⟩ := own_sl5 HX7.out.re
        subst hev
        obtain ⟨⟨p0, p1, p2⟩, f0, f1, f2⟩ := HX7.out.cells
        obtain ⟨g3, g4, g7, g12⟩ := HGl.out wd HX7.out.block k _ HCv.out
        have pa : ∀ o, (wd.alloc o).cell? ⟨pr, 2, none⟩ = some (.slice aev (2 * k) cev) := fun o => cell_below p2 ((Below.refl _ _).alloc (Nat.le_refl _) o)
        have ga : ∀ o, (wd.alloc o).cell? ⟨gl, k * 14 + 3, none⟩ = some nl ∧ (wd.alloc o).cell? ⟨gl, k * 14 + 4, none⟩ = some nl := fun o => ⟨cell_below g3 ((Below.refl _ _).alloc (Nat.le_refl _) o), cell_below g4 ((Below.refl _ _).alloc (Nat.le_refl _) o)⟩
        clear ga g7 g12
        go_region_law (first
          | (refine step_append_at rfl (.tmp 45) (.tmp 56) 71 rfl 0 79 iE (.slice none 0 0) 1 24 Tryd.underlying71 hiE hE0 hE1 hE2 rfl (by decide) (.slice aev (2 * k) cev) (2 * k) (List.replicate (2 * k) nl) (by simp [Act.eval]) (World.ownsRow.alloc (own_dr HX7.out.re 1) _) ⟨wd.heap.size, 0, none⟩ 2 2 [nl, nl] (by simp [Act.eval]) rfl (two_at2 _ _ _ _ 1) (by simp [Value.oneCell']) (by unfold maxLen; omega) (by omega) (by simp) ?_
             intro v8 w8 hown8 hgrow8 hat8
             obtain ⟨a8, c8, hv8⟩ := own_sl5 hown8
             subst hv8
             have HX8 : Hid (TkS w (w8.setCell ⟨pr, 2, none⟩ (.slice a8 (2 * k + 2) c8)) pr v0 V (k + 1) (k + 1) (2 * k + 2) cs bx sx (.slice a8 (2 * k + 2) c8)) := HX7.out.stepE hown8 (grown_dr hgrow8) (hat8.imp id (fun e => ⟨_, e, by simp⟩)) HPr.out
             have hbx : w8.heap[pr]? = wd.heap[pr]? := grown_blk (grown_dr hgrow8) (Array.getElem?_eq_some_iff.1 HX7.out.box).1 (own_hp HX7.out.re HX7.out.box (by decide))
             have p28 : w8.cell? ⟨pr, 2, none⟩ = some (.slice aev (2 * k) cev) := (World.cell?_of_block (a := ⟨pr, 2, none⟩) hbx).trans p2
             have f28 : w8.frozen? ⟨pr, 2, none⟩ = false := (World.frozen?_of_block (a := ⟨pr, 2, none⟩) hbx).trans f2
             clear hown8 hgrow8 hat8 hbx))
        all_goals (
          go_wp2_with fail
          go_meet
          exact ⟨rfl, _, HX8⟩)
      case rest =>
      obtain ⟨rfl, ex, HX8⟩ := hcut
      clear HX7
      obtain ⟨wd, hwd⟩ : ∃ x, x = wc := ⟨_, rfl⟩
      subst hwd
      obtain ⟨g3, g4, g7, g12⟩ := HGl.out _ HX8.out.block k _ HCv.out
      go_wp2_with fail
      go_loopw [5] (fun v5 wr' => v5 = .int .i64 0 ∧ wr' = wd) (fun _ _ => 0)
      case atStart => exact ⟨rfl, rfl⟩
      case round =>
        obtain ⟨rfl, hwr⟩ := hrel
        rw [hwr]
        clear hwr
        go_wp2_with fail
        go_loopw [6] (fun v6 wr' => v6 = .int .i64 0 ∧ wr' = wd) (fun _ _ => 0)
        case atStart => exact ⟨rfl, rfl⟩
        case round =>
          obtain ⟨rfl, hwr⟩ := hrel
          rw [hwr]
          clear hwr
          go_wp2
          go_roundw
          case rel => exact ⟨k + 1, _, _, _, by omega, by go_num, HX8⟩
          case measure => simp [intOf]; omega
    · have hlt' : ¬ (k : Int) < (N : Int) := by omega
      have hkn : k = N := by omega
      have HE : Hid (∃ bv sv ev, TkS w wr pr v0 V N N (2 * N) cs bv sv ev) := ⟨bv, sv, ev, by have h := HT.out; rw [hkn] at h; exact h⟩
      clear hkn HT
      go_wp2
      go_end0
      exact ⟨rfl, HE.out⟩

end Go.Proofs.YtkkmoplijicmpaeDoor
