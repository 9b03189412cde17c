import Derived.Test.YtdfdaambfihjaaaDoorRpO
import Derived.Test.YtdfdaambfihjaaaDoorBody
namespace Go.Proofs.YtdfdaambfihjaaaDoor
open Go.RowKit
set_option linter.unusedVariables false
set_option linter.unusedSimpArgs false

theorem own_tyX {w : World} {b1 b2 n1 n2 z1 z2 : Nat} {e1 e2 : TypeId} {v1 v2 : Value} {x1 x2 : List Value} (h1 : w.ownsRow b1 e1 z1 v1 n1 x1) (h2 : w.ownsRow b2 e2 z2 v2 n2 x2) (he : e1 ≠ e2) {g : Nat} (hg : v1.ownBlock = some g) : v2.ownBlock ≠ some g := by
  intro hg2
  obtain ⟨_, ⟨rfl, _⟩ | ⟨g1, c1, cur1, rfl, _, q1, _⟩⟩ := h1
  · cases hg
  obtain ⟨_, ⟨rfl, _⟩ | ⟨g2, c2, cur2, rfl, _, q2, _⟩⟩ := h2
  · cases hg2
  cases hg
  cases hg2
  rw [q1] at q2
  simp only [Option.some.injEq, Obj.cells.injEq] at q2
  exact he q2.2.1
theorem own_hpX {w : World} {b1 n1 z1 g : Nat} {e1 t : TypeId} {v1 : Value} {x1 : List Value} {cs : Array Value} {fr : Nat × Nat} (h1 : w.ownsRow b1 e1 z1 v1 n1 x1) (hh : w.heap[g]? = some (.cells cs t fr)) (he : e1 ≠ t) : v1.ownBlock ≠ some g := by
  intro hg
  obtain ⟨_, ⟨rfl, _⟩ | ⟨g1, c1, cur1, rfl, _, q1, _⟩⟩ := h1
  · cases hg
  cases hg
  rw [q1] at hh
  simp only [Option.some.injEq, Obj.cells.injEq] at hh
  exact he hh.2.1
theorem grown_blkX {w w' : World} {row : Option Nat} (h : w.grownBy w' row) {g : Nat} (hg : g < w.heap.size) (hn : row ≠ some g) : w'.heap[g]? = w.heap[g]? := h.block g hg (fun e => hn e.symm)
abbrev nlX : Value := .slice none 0 0

/-- Where Take stands: what Rows holds by now, and what alone has changed. -/
structure TkX (w wr : World) (pr : Nat) (Bs Ss Es : List Value) (bv sv ev : Value) : Prop where
  box : wr.heap[pr]? = some (.cells #[bv, sv, ev] 55 (0, 0))
  rb : wr.ownsRow 0 34 1 bv Bs.length Bs
  rs : wr.ownsRow 0 35 1 sv Ss.length Ss
  re : wr.ownsRow 0 33 1 ev Es.length Es
  os : wr.os = w.os
  tape : wr.tape = w.tape
  output : wr.output = w.output
  size : w.heap.size ≤ wr.heap.size
  block : ∀ g, g < w.heap.size → g ≠ pr → wr.heap[g]? = w.heap[g]?
  nb : ∀ g, bv.ownBlock = some g → w.heap.size ≤ g
  ns : ∀ g, sv.ownBlock = some g → w.heap.size ≤ g
  ne : ∀ g, ev.ownBlock = some g → w.heap.size ≤ g
theorem TkX.stepB {w wr w6 : World} {pr : Nat} {bv sv ev v' x : Value} {Bs Ss Es : List Value} (h : TkX w wr pr Bs Ss Es bv sv ev) (ho : w6.ownsRow 0 34 1 v' (Bs.length + 1) (Bs ++ [x])) (hg : wr.grownBy w6 bv.ownBlock) (hat : v'.ownBlock = bv.ownBlock ∨ ∃ g, v'.ownBlock = some g ∧ wr.heap.size ≤ g) (hpr : pr < w.heap.size) : TkX w (w6.setCell ⟨pr, 0, none⟩ v') pr (Bs ++ [x]) Ss Es v' sv ev := by
  have hp := (Array.getElem?_eq_some_iff.1 h.box).1
  have b6 : w6.heap[pr]? = some (.cells #[bv, sv, ev] 55 (0, 0)) := (grown_blkX hg hp (own_hpX h.rb h.box (by decide))).trans h.box
  have hb' : v'.ownBlock ≠ some pr := own_hpX ho b6 (by decide)
  have qrs : w6.ownsRow 0 35 1 sv Ss.length Ss := C.own_blk2 h.rs (fun g hgb => grown_blkX hg (World.ownsRow.lt h.rs g hgb).2 (fun e => own_tyX h.rs h.rb (by decide) hgb e))
  have qre : w6.ownsRow 0 33 1 ev Es.length Es := C.own_blk2 h.re (fun g hgb => grown_blkX hg (World.ownsRow.lt h.re g hgb).2 (fun e => own_tyX h.re h.rb (by decide) hgb e))
  have st : ∀ g, g ≠ pr → (w6.setCell ⟨pr, 0, none⟩ v').heap[g]? = w6.heap[g]? := fun g hgp => heap_setCell_other _ _ _ _ (by simpa using hgp)
  have hnew : ∀ g, v'.ownBlock = some g → w.heap.size ≤ g := fun g hgb => by
    rcases hat with e | ⟨g', e, h2⟩
    · exact h.nb g (e ▸ hgb)
    · rw [e] at hgb; cases hgb; exact Nat.le_trans h.size h2
  have hrow : (w6.setCell ⟨pr, 0, none⟩ v').ownsRow 0 34 1 v' (Bs ++ [x]).length (Bs ++ [x]) := by
    rw [List.length_append]
    exact C.own_blk2 ho (fun g hgb => st g (fun e => hb' (e ▸ hgb)))
  exact ⟨heap_setCell_same _ _ _ _ _ _ b6, hrow, C.own_blk2 qrs (fun g hgb => st g (fun e => own_hpX qrs b6 (by decide) (e ▸ hgb))), C.own_blk2 qre (fun g hgb => st g (fun e => own_hpX qre b6 (by decide) (e ▸ hgb))), hg.os.trans h.os, hg.tape.trans h.tape, hg.output.trans h.output, by simpa using Nat.le_trans h.size hg.size, fun g hgl hgp => (st g hgp).trans ((grown_blkX hg (Nat.lt_of_lt_of_le hgl h.size) (fun e => by have := h.nb g e; omega)).trans (h.block g hgl hgp)), hnew, h.ns, h.ne⟩
theorem TkX.stepS {w wr w6 : World} {pr : Nat} {bv sv ev v' x : Value} {Bs Ss Es : List Value} (h : TkX w wr pr Bs Ss Es bv sv ev) (ho : w6.ownsRow 0 35 1 v' (Ss.length + 1) (Ss ++ [x])) (hg : wr.grownBy w6 sv.ownBlock) (hat : v'.ownBlock = sv.ownBlock ∨ ∃ g, v'.ownBlock = some g ∧ wr.heap.size ≤ g) (hpr : pr < w.heap.size) : TkX w (w6.setCell ⟨pr, 1, none⟩ v') pr Bs (Ss ++ [x]) Es bv v' ev := by
  have hp := (Array.getElem?_eq_some_iff.1 h.box).1
  have b6 : w6.heap[pr]? = some (.cells #[bv, sv, ev] 55 (0, 0)) := (grown_blkX hg hp (own_hpX h.rs h.box (by decide))).trans h.box
  have hb' : v'.ownBlock ≠ some pr := own_hpX ho b6 (by decide)
  have qrb : w6.ownsRow 0 34 1 bv Bs.length Bs := C.own_blk2 h.rb (fun g hgb => grown_blkX hg (World.ownsRow.lt h.rb g hgb).2 (fun e => own_tyX h.rb h.rs (by decide) hgb e))
  have qre : w6.ownsRow 0 33 1 ev Es.length Es := C.own_blk2 h.re (fun g hgb => grown_blkX hg (World.ownsRow.lt h.re g hgb).2 (fun e => own_tyX h.re h.rs (by decide) hgb e))
  have st : ∀ g, g ≠ pr → (w6.setCell ⟨pr, 1, none⟩ v').heap[g]? = w6.heap[g]? := fun g hgp => heap_setCell_other _ _ _ _ (by simpa using hgp)
  have hnew : ∀ g, v'.ownBlock = some g → w.heap.size ≤ g := fun g hgb => by
    rcases hat with e | ⟨g', e, h2⟩
    · exact h.ns g (e ▸ hgb)
    · rw [e] at hgb; cases hgb; exact Nat.le_trans h.size h2
  have hrow : (w6.setCell ⟨pr, 1, none⟩ v').ownsRow 0 35 1 v' (Ss ++ [x]).length (Ss ++ [x]) := by
    rw [List.length_append]
    exact C.own_blk2 ho (fun g hgb => st g (fun e => hb' (e ▸ hgb)))
  exact ⟨heap_setCell_same _ _ _ _ _ _ b6, C.own_blk2 qrb (fun g hgb => st g (fun e => own_hpX qrb b6 (by decide) (e ▸ hgb))), hrow, C.own_blk2 qre (fun g hgb => st g (fun e => own_hpX qre b6 (by decide) (e ▸ hgb))), hg.os.trans h.os, hg.tape.trans h.tape, hg.output.trans h.output, by simpa using Nat.le_trans h.size hg.size, fun g hgl hgp => (st g hgp).trans ((grown_blkX hg (Nat.lt_of_lt_of_le hgl h.size) (fun e => by have := h.ns g e; omega)).trans (h.block g hgl hgp)), h.nb, hnew, h.ne⟩
theorem TkX.stepE {w wr w6 : World} {pr : Nat} {bv sv ev v' x y : Value} {Bs Ss Es : List Value} (h : TkX w wr pr Bs Ss Es bv sv ev) (ho : w6.ownsRow 0 33 1 v' (Es.length + 2) (Es ++ [x, y])) (hg : wr.grownBy w6 ev.ownBlock) (hat : v'.ownBlock = ev.ownBlock ∨ ∃ g, v'.ownBlock = some g ∧ wr.heap.size ≤ g) (hpr : pr < w.heap.size) : TkX w (w6.setCell ⟨pr, 2, none⟩ v') pr Bs Ss (Es ++ [x, y]) bv sv v' := by
  have hp := (Array.getElem?_eq_some_iff.1 h.box).1
  have b6 : w6.heap[pr]? = some (.cells #[bv, sv, ev] 55 (0, 0)) := (grown_blkX hg hp (own_hpX h.re h.box (by decide))).trans h.box
  have hb' : v'.ownBlock ≠ some pr := own_hpX ho b6 (by decide)
  have qrb : w6.ownsRow 0 34 1 bv Bs.length Bs := C.own_blk2 h.rb (fun g hgb => grown_blkX hg (World.ownsRow.lt h.rb g hgb).2 (fun e => own_tyX h.rb h.re (by decide) hgb e))
  have qrs : w6.ownsRow 0 35 1 sv Ss.length Ss := C.own_blk2 h.rs (fun g hgb => grown_blkX hg (World.ownsRow.lt h.rs g hgb).2 (fun e => own_tyX h.rs h.re (by decide) hgb e))
  have st : ∀ g, g ≠ pr → (w6.setCell ⟨pr, 2, none⟩ v').heap[g]? = w6.heap[g]? := fun g hgp => heap_setCell_other _ _ _ _ (by simpa using hgp)
  have hnew : ∀ g, v'.ownBlock = some g → w.heap.size ≤ g := fun g hgb => by
    rcases hat with e | ⟨g', e, h2⟩
    · exact h.ne g (e ▸ hgb)
    · rw [e] at hgb; cases hgb; exact Nat.le_trans h.size h2
  have hrow : (w6.setCell ⟨pr, 2, none⟩ v').ownsRow 0 33 1 v' (Es ++ [x, y]).length (Es ++ [x, y]) := by
    rw [List.length_append]
    exact C.own_blk2 ho (fun g hgb => st g (fun e => hb' (e ▸ hgb)))
  exact ⟨heap_setCell_same _ _ _ _ _ _ b6, C.own_blk2 qrb (fun g hgb => st g (fun e => own_hpX qrb b6 (by decide) (e ▸ hgb))), C.own_blk2 qrs (fun g hgb => st g (fun e => own_hpX qrs b6 (by decide) (e ▸ hgb))), hrow, hg.os.trans h.os, hg.tape.trans h.tape, hg.output.trans h.output, by simpa using Nat.le_trans h.size hg.size, fun g hgl hgp => (st g hgp).trans ((grown_blkX hg (Nat.lt_of_lt_of_le hgl h.size) (fun e => by have := h.ne g e; omega)).trans (h.block g hgl hgp)), h.nb, h.ns, hnew⟩

theorem tkX_rowsB : (Tryd.prog.info? 34).map (fun i => (i.zero, i.size, i.bytes)) = some (some (.slice none 0 0), 1, 24) := by kernel_rfl
theorem tkX_rowsS : (Tryd.prog.info? 35).map (fun i => (i.zero, i.size, i.bytes)) = some (some (.slice none 0 0), 1, 24) := by kernel_rfl
theorem tkX_rowsE : (Tryd.prog.info? 33).map (fun i => (i.zero, i.size, i.bytes)) = some (some (.slice none 0 0), 1, 24) := by kernel_rfl
theorem TkX.cells {w wr : World} {pr : Nat} {bv sv ev : Value} {Bs Ss Es : List Value} (h : TkX w wr pr Bs Ss Es bv sv ev) : (wr.cell? ⟨pr, 0, none⟩ = some bv ∧ wr.cell? ⟨pr, 1, none⟩ = some sv ∧ wr.cell? ⟨pr, 2, none⟩ = some ev) ∧ wr.frozen? ⟨pr, 0, none⟩ = false ∧ wr.frozen? ⟨pr, 1, none⟩ = false ∧ wr.frozen? ⟨pr, 2, none⟩ = false :=
  ⟨⟨(cell_of_row _ _ _ _ _ _ h.box).trans rfl, (cell_of_row _ _ _ _ _ _ h.box).trans rfl, (cell_of_row _ _ _ _ _ _ h.box).trans rfl⟩, frozen_of_row _ _ _ _ _ h.box, frozen_of_row _ _ _ _ _ h.box, frozen_of_row _ _ _ _ _ h.box⟩
theorem one_atX (w : World) (a : Value) (t : TypeId) (d : Nat) : ∀ j u, [a][j]? = some u → ((w.drewN d).alloc (.cells #[a] t)).cell? ((⟨w.heap.size, 0, none⟩ : Addr).add j) = some u := C.one_new5 (w.drewN d) a t
theorem two_atX (w : World) (a b : Value) (t : TypeId) (d : Nat) : ∀ j u, [a, b][j]? = some u → ((w.drewN d).alloc (.cells #[a, b] t)).cell? ((⟨w.heap.size, 0, none⟩ : Addr).add j) = some u := cell_two_new (w.drewN d) a b t
theorem own_drX {w : World} {b e z n : Nat} {v : Value} {xs : List Value} (h : w.ownsRow b e z v n xs) (d : Nat) : (w.drewN d).ownsRow b e z v n xs := h
theorem grown_drX {w w6 : World} {row : Option Nat} {o : Obj} {d : Nat} (h : ((w.drewN d).alloc o).grownBy w6 row) : w.grownBy w6 row :=
  ⟨h.os, h.tape, h.output, Nat.le_trans (by simp) h.size, fun k hk hn => (h.block k (Nat.lt_of_lt_of_le hk (by simp)) hn).trans (Below.heap_alloc _ _ k hk)⟩

/-- A segment's lists, as values. -/
structure SvX where
  hv : Value
  tv : Value
  dv : Value
  cv : Value
  hx : List Xr
  tx : List Xr
/-- A list of extensions lies there. -/
def XCell (w : World) (pr : Nat) (v : Value) (xs : List Xr) : Prop := xs.length ≤ 15 ∧ ∃ a c, v = .slice a xs.length c ∧ (xs = [] ∨ ∃ g, a = some ⟨g, 0, none⟩ ∧ g ≠ pr ∧ ∀ (j : Nat) (x : Xr), xs[j]? = some x → w.cell? ⟨g, j * 2 + 1, none⟩ = some x.val)
def SvOk (w : World) (pr gl k : Nat) (q : SvX) : Prop :=
  w.cell? ⟨gl, k * 14 + 3, none⟩ = some q.hv ∧ w.cell? ⟨gl, k * 14 + 4, none⟩ = some q.tv ∧ w.cell? ⟨gl, k * 14 + 7, none⟩ = some q.dv ∧ w.cell? ⟨gl, k * 14 + 12, none⟩ = some q.cv ∧ (∃ a n c, q.dv = .slice a n c) ∧ (∃ a n c, q.cv = .slice a n c) ∧ XCell w pr q.hv q.hx ∧ XCell w pr q.tv q.tx
def tB (q : SvX) : List Value := (q.dv :: q.hx.map Xr.val) ++ q.tx.map Xr.val
def tE (q : SvX) : List Value := [q.hv, q.tv]
theorem XCell.keep {w w' : World} {pr : Nat} {v : Value} {xs : List Xr} (h : XCell w pr v xs) (hb : ∀ g, g < w.heap.size → g ≠ pr → w'.heap[g]? = w.heap[g]?) : XCell w' pr v xs := by
  obtain ⟨h0, a, c, h1, h2⟩ := h
  refine ⟨h0, a, c, h1, h2.imp id ?_⟩
  rintro ⟨g, e, hg, hc⟩
  refine ⟨g, e, hg, fun j x hx => ?_⟩
  have h3 := hc j x hx
  exact (World.cell?_of_block (a := ⟨g, j * 2 + 1, none⟩) (hb g (World.block_lt_of_cell? w _ h3) hg)).trans h3
theorem SvOk.keep {w w' : World} {pr gl k : Nat} {q : SvX} (h : SvOk w pr gl k q) (hgl : gl ≠ pr) (hb : ∀ g, g < w.heap.size → g ≠ pr → w'.heap[g]? = w.heap[g]?) : SvOk w' pr gl k q := by
  obtain ⟨h1, h2, h3, h4, h5, h6, h7, h8⟩ := h
  have e := hb gl (World.block_lt_of_cell? w _ h1) hgl
  exact ⟨(World.cell?_of_block (a := ⟨gl, k * 14 + 3, none⟩) e).trans h1, (World.cell?_of_block (a := ⟨gl, k * 14 + 4, none⟩) e).trans h2, (World.cell?_of_block (a := ⟨gl, k * 14 + 7, none⟩) e).trans h3, (World.cell?_of_block (a := ⟨gl, k * 14 + 12, none⟩) e).trans h4, h5, h6, h7.keep hb, h8.keep hb⟩

set_option maxRecDepth 100000 in
set_option maxHeartbeats 32000000 in
/-- TAKE of any segments. -/
theorem take_any {Nc : Nat} (pr gl : Nat) (qs : List SvX) (N : Nat) (w : World) (hb : w.heap[pr]? = some (.cells #[nlX, nlX, nlX] 55 (0, 0))) (hN : qs.length = N) (hNs : N ≤ 1048576) (hgp : gl ≠ pr) (hc : ∀ (k : Nat) q, qs[k]? = some q → SvOk w pr gl k q) :
    Calls Tryd.prog 21 #[.pointer (some ⟨pr, 0, none⟩), .slice (some ⟨gl, 0, none⟩) N Nc] w fun e w' => e = .returned (.tuple #[]) ∧ ∃ bv sv ev, TkX w w' pr (qs.flatMap tB) (qs.map SvX.cv) (qs.flatMap tE) bv sv ev := by
  obtain ⟨iB, hiB, hB0, hB1, hB2⟩ := info_parts tkX_rowsB
  obtain ⟨iS, hiS, hS0, hS1, hS2⟩ := info_parts tkX_rowsS
  obtain ⟨iE, hiE, hE0, hE1, hE2⟩ := info_parts tkX_rowsE
  have HT0 : Hid (TkX w w pr [] [] [] nlX nlX nlX) := ⟨hb, World.ownsRow_nil _ _ _ _, World.ownsRow_nil _ _ _ _, World.ownsRow_nil _ _ _ _, rfl, rfl, rfl, Nat.le_refl _, fun _ _ _ => rfl, (fun g hg => by cases hg), (fun g hg => by cases hg), (fun g hg => by cases hg)⟩
  have HPr : Hid (pr < w.heap.size) := (Array.getElem?_eq_some_iff.1 hb).1
  have HGl : Hid (∀ V' : World, (∀ g, g < w.heap.size → g ≠ pr → V'.heap[g]? = w.heap[g]?) → ∀ (k : Nat) q, qs[k]? = some q → SvOk V' pr gl k q) := fun V' hV k q hk => (hc k q hk).keep hgp hV
  have HN : Hid (qs.length = N) := hN
  clear hb hc hN hgp
  go_enter Tryd.func21, Tryd.ntmps21
  go_wp2_with fail
  go_loopw [4] (fun i wr => ∃ (k : Nat) (Bs Ss Es : List Value) (bv sv ev : Value), k ≤ N ∧ i = .int .i64 k ∧ Hid (TkX w wr pr Bs Ss Es bv sv ev ∧ Bs = (qs.take k).flatMap tB ∧ Ss = (qs.take k).map SvX.cv ∧ Es = (qs.take k).flatMap tE ∧ Bs.length ≤ 31 * k ∧ Ss.length = k ∧ Es.length = 2 * k)) (fun i _ => N - (intOf i).toNat)
  case atStart => exact ⟨0, [], [], [], nlX, nlX, nlX, by omega, rfl, HT0.out, rfl, rfl, rfl, by simp, rfl, rfl⟩
  case round =>
    obtain ⟨k, Bs, Ss, Es, bv, sv, ev, hk, rfl, HI⟩ := hrel
    clear HT0
    by_cases hlt : k < N
    · have hlt' : (k : Int) < (N : Int) := by omega
      have hwk : IntKind.i64.wrap ((k : Int) + 1) = (k : Int) + 1 := by rw [IntKind.wrap_i64]; omega
      obtain ⟨q, hq⟩ := get_one qs k (by rw [HN.out]; exact hlt)
      have HQ : Hid (qs[k]? = some q) := hq
      have hok := HGl.out w (fun _ _ _ => rfl) k q hq
      obtain ⟨da, dn, dc, hdv⟩ := hok.2.2.2.2.1
      obtain ⟨ca, cn, cc, hcv⟩ := hok.2.2.2.2.2.1
      obtain ⟨hh15, ha, hc9, hhv, hhx⟩ := hok.2.2.2.2.2.2.1
      obtain ⟨ht15, ta, tc9, htv, htx⟩ := hok.2.2.2.2.2.2.2
      obtain ⟨nh, hnh⟩ : ∃ n, q.hx.length = n := ⟨_, rfl⟩
      obtain ⟨nt, hnt⟩ : ∃ n, q.tx.length = n := ⟨_, rfl⟩
      rw [hnh] at hhv hh15
      rw [hnt] at htv ht15
      have HV : Hid (q.dv = .slice da dn dc ∧ q.cv = .slice ca cn cc ∧ q.hv = .slice ha nh hc9 ∧ q.tv = .slice ta nt tc9 ∧ q.hx.length = nh ∧ q.tx.length = nt) := ⟨hdv, hcv, hhv, htv, hnh, hnt⟩
      have HXh : Hid (q.hx = [] ∨ ∃ g, ha = some ⟨g, 0, none⟩ ∧ g ≠ pr ∧ ∀ (j : Nat) (x : Xr), q.hx[j]? = some x → w.cell? ⟨g, j * 2 + 1, none⟩ = some x.val) := hhx
      have HXt : Hid (q.tx = [] ∨ ∃ g, ta = some ⟨g, 0, none⟩ ∧ g ≠ pr ∧ ∀ (j : Nat) (x : Xr), q.tx[j]? = some x → w.cell? ⟨g, j * 2 + 1, none⟩ = some x.val) := htx
      have HCe : Hid (∀ V' : World, (∀ g, g < w.heap.size → g ≠ pr → V'.heap[g]? = w.heap[g]?) → V'.cell? ⟨gl, k * 14 + 3, none⟩ = some (.slice ha nh hc9) ∧ V'.cell? ⟨gl, k * 14 + 4, none⟩ = some (.slice ta nt tc9) ∧ V'.cell? ⟨gl, k * 14 + 7, none⟩ = some (.slice da dn dc) ∧ V'.cell? ⟨gl, k * 14 + 12, none⟩ = some (.slice ca cn cc)) := fun V' hV => by
        obtain ⟨h1, h2, h3, h4, _⟩ := HGl.out V' hV k q hq
        rw [hhv] at h1; rw [htv] at h2; rw [hdv] at h3; rw [hcv] at h4
        exact ⟨h1, h2, h3, h4⟩
      have HT : Hid (TkX w wr pr Bs Ss Es bv sv ev) := HI.out.1
      have HL : Hid (Bs = (qs.take k).flatMap tB ∧ Ss = (qs.take k).map SvX.cv ∧ Es = (qs.take k).flatMap tE ∧ Bs.length ≤ 31 * k ∧ Ss.length = k ∧ Es.length = 2 * k) := HI.out.2
      clear hq hok hdv hcv hhv htv hhx htx hnh hnt HI
      go_upto_region 3 with fail
      go_cut [4] from 7 to 115 (fun i wx => i = .int .i64 k ∧ ∃ (B1 : List Value) (bx : Value), Hid (B1 = Bs ++ [.slice da dn dc] ∧ TkX w wx pr B1 Ss Es bx sv ev))
      case first =>
        obtain ⟨wb, hwb⟩ : ∃ x, x = wr := ⟨_, rfl⟩
        subst hwb
        obtain ⟨n9, hn9⟩ : ∃ n, Bs.length = n := ⟨_, rfl⟩
        have hn8 : n9 ≤ 40000000 := by have h := HL.out; omega
        have HRw : Hid (wb.ownsRow 0 34 1 bv n9 Bs) := by have h := HT.out.rb; rw [hn9] at h; exact h
        obtain ⟨ab, cb, hvv⟩ := own_shape HRw.out
        subst hvv
        have HLn : Hid (Bs.length = n9) := hn9
        clear hn9
        obtain ⟨⟨p0, p1, p2⟩, f0, f1, f2⟩ := HT.out.cells
        obtain ⟨g3, g4, g7, g12⟩ := HCe.out wb HT.out.block
        have pa : ∀ o, (wb.alloc o).cell? ⟨pr, 0, none⟩ = some (.slice ab n9 cb) := fun o => cell_below p0 ((Below.refl _ _).alloc (Nat.le_refl _) o)
        go_region_law (first
          | (refine step_append_at rfl (.tmp 17) (.tmp 23) 51 rfl 0 34 iB (.slice none 0 0) 1 24 Tryd.underlying51 hiB hB0 hB1 hB2 rfl (by decide) (.slice ab n9 cb) n9 Bs (by simp [Act.eval]) (World.ownsRow.alloc (own_drX HRw.out 1) _) ⟨wb.heap.size, 0, none⟩ 1 1 [.slice da dn dc] (by simp [Act.eval]) rfl (one_atX _ _ _ 1) (by simp [Value.oneCell']) (by unfold maxLen; omega) (by omega) (by simp) ?_
             intro v6 w6 hown6 hgrow6 hat6
             obtain ⟨a6, c6, hv6⟩ := own_shape hown6
             subst hv6
             have HX : Hid (∃ (B1 : List Value) (bx : Value), bx = .slice a6 (n9 + 1) c6 ∧ B1 = Bs ++ [.slice da dn dc] ∧ TkX w (w6.setCell ⟨pr, 0, none⟩ (.slice a6 (n9 + 1) c6)) pr B1 Ss Es bx sv ev) := ⟨_, _, rfl, rfl, HT.out.stepB (by rw [HLn.out]; exact hown6) (grown_drX hgrow6) (hat6.imp id (fun e => ⟨_, e, by simp⟩)) HPr.out⟩
             have hbx : w6.heap[pr]? = wb.heap[pr]? := grown_blkX (grown_drX hgrow6) (Array.getElem?_eq_some_iff.1 HT.out.box).1 (own_hpX HRw.out HT.out.box (by decide))
             have p6 : w6.cell? ⟨pr, 0, none⟩ = some (.slice ab n9 cb) := (World.cell?_of_block (a := ⟨pr, 0, none⟩) hbx).trans p0
             have f6 : w6.frozen? ⟨pr, 0, none⟩ = false := (World.frozen?_of_block (a := ⟨pr, 0, none⟩) hbx).trans f0
             clear hown6 hgrow6 hat6 hbx))
        all_goals (
          go_wp2_with fail
          go_meet
          obtain ⟨L9, v9, e9, h9⟩ := HX.out
          exact ⟨rfl, L9, v9, h9⟩)
      case rest =>
      obtain ⟨rfl, B1, bx, HX9⟩ := hcut
      have EB1 : Hid (B1 = Bs ++ [.slice da dn dc]) := HX9.out.1
      have HX1 : Hid (TkX w wc pr B1 Ss Es bx sv ev) := HX9.out.2
      clear HX9 HT
      go_upto_region 4 with fail
      go_cut [4] from 7 to 115 (fun i wx => i = .int .i64 k ∧ ∃ (S1 : List Value) (sx : Value), Hid (S1 = Ss ++ [.slice ca cn cc] ∧ TkX w wx pr B1 S1 Es bx sx ev))
      case first =>
        obtain ⟨wb, hwb⟩ : ∃ x, x = wc := ⟨_, rfl⟩
        subst hwb
        obtain ⟨n9, hn9⟩ : ∃ n, Ss.length = n := ⟨_, rfl⟩
        have hn8 : n9 ≤ 40000000 := by have h := HL.out; omega
        have HRw : Hid (wb.ownsRow 0 35 1 sv n9 Ss) := by have h := HX1.out.rs; rw [hn9] at h; exact h
        obtain ⟨ab, cb, hvv⟩ := own_shape HRw.out
        subst hvv
        have HLn : Hid (Ss.length = n9) := hn9
        clear hn9
        obtain ⟨⟨p0, p1, p2⟩, f0, f1, f2⟩ := HX1.out.cells
        obtain ⟨g3, g4, g7, g12⟩ := HCe.out wb HX1.out.block
        have pa : ∀ o, (wb.alloc o).cell? ⟨pr, 1, none⟩ = some (.slice ab n9 cb) := fun o => cell_below p1 ((Below.refl _ _).alloc (Nat.le_refl _) o)
        go_region_law (first
          | (refine step_append_at rfl (.tmp 31) (.tmp 37) 52 rfl 0 35 iS (.slice none 0 0) 1 24 Tryd.underlying52 hiS hS0 hS1 hS2 rfl (by decide) (.slice ab n9 cb) n9 Ss (by simp [Act.eval]) (World.ownsRow.alloc (own_drX HRw.out 1) _) ⟨wb.heap.size, 0, none⟩ 1 1 [.slice ca cn cc] (by simp [Act.eval]) rfl (one_atX _ _ _ 1) (by simp [Value.oneCell']) (by unfold maxLen; omega) (by omega) (by simp) ?_
             intro v6 w6 hown6 hgrow6 hat6
             obtain ⟨a6, c6, hv6⟩ := own_shape hown6
             subst hv6
             have HX : Hid (∃ (S1 : List Value) (sx : Value), sx = .slice a6 (n9 + 1) c6 ∧ S1 = Ss ++ [.slice ca cn cc] ∧ TkX w (w6.setCell ⟨pr, 1, none⟩ (.slice a6 (n9 + 1) c6)) pr B1 S1 Es bx sx ev) := ⟨_, _, rfl, rfl, HX1.out.stepS (by rw [HLn.out]; exact hown6) (grown_drX hgrow6) (hat6.imp id (fun e => ⟨_, e, by simp⟩)) HPr.out⟩
             have hbx : w6.heap[pr]? = wb.heap[pr]? := grown_blkX (grown_drX hgrow6) (Array.getElem?_eq_some_iff.1 HX1.out.box).1 (own_hpX HRw.out HX1.out.box (by decide))
             have p6 : w6.cell? ⟨pr, 1, none⟩ = some (.slice ab n9 cb) := (World.cell?_of_block (a := ⟨pr, 1, none⟩) hbx).trans p1
             have f6 : w6.frozen? ⟨pr, 1, none⟩ = false := (World.frozen?_of_block (a := ⟨pr, 1, none⟩) hbx).trans f1
             clear hown6 hgrow6 hat6 hbx))
        all_goals (
          go_wp2_with fail
          go_meet
          obtain ⟨L9, v9, e9, h9⟩ := HX.out
          exact ⟨rfl, L9, v9, h9⟩)
      case rest =>
      obtain ⟨rfl, S1, sx, HX9⟩ := hcut
      have ES1 : Hid (S1 = Ss ++ [.slice ca cn cc]) := HX9.out.1
      have HX2 : Hid (TkX w wc pr B1 S1 Es bx sx ev) := HX9.out.2
      clear HX9 HX1
      go_upto_region 5 with fail
      go_cut [4] from 7 to 115 (fun i wx => i = .int .i64 k ∧ ∃ (E1 : List Value) (ex : Value), Hid (E1 = Es ++ [.slice ha nh hc9, .slice ta nt tc9] ∧ TkX w wx pr B1 S1 E1 bx sx ex))
      case first =>
        obtain ⟨wb, hwb⟩ : ∃ x, x = wc := ⟨_, rfl⟩
        subst hwb
        obtain ⟨n9, hn9⟩ : ∃ n, Es.length = n := ⟨_, rfl⟩
        have hn8 : n9 ≤ 40000000 := by have h := HL.out; omega
        have HRw : Hid (wb.ownsRow 0 33 1 ev n9 Es) := by have h := HX2.out.re; rw [hn9] at h; exact h
        obtain ⟨ab, cb, hvv⟩ := own_shape HRw.out
        subst hvv
        have HLn : Hid (Es.length = n9) := hn9
        clear hn9
        obtain ⟨⟨p0, p1, p2⟩, f0, f1, f2⟩ := HX2.out.cells
        obtain ⟨g3, g4, g7, g12⟩ := HCe.out wb HX2.out.block
        have pa : ∀ o, (wb.alloc o).cell? ⟨pr, 2, none⟩ = some (.slice ab n9 cb) := fun o => cell_below p2 ((Below.refl _ _).alloc (Nat.le_refl _) o)
        go_region_law (first
          | (refine step_append_at rfl (.tmp 45) (.tmp 56) 53 rfl 0 33 iE (.slice none 0 0) 1 24 Tryd.underlying53 hiE hE0 hE1 hE2 rfl (by decide) (.slice ab n9 cb) n9 Es (by simp [Act.eval]) (World.ownsRow.alloc (own_drX HRw.out 1) _) ⟨wb.heap.size, 0, none⟩ 2 2 [.slice ha nh hc9, .slice ta nt tc9] (by simp [Act.eval]) rfl (two_atX _ _ _ _ 1) (by simp [Value.oneCell']) (by unfold maxLen; omega) (by omega) (by simp) ?_
             intro v6 w6 hown6 hgrow6 hat6
             obtain ⟨a6, c6, hv6⟩ := own_shape hown6
             subst hv6
             have HX : Hid (∃ (E1 : List Value) (ex : Value), ex = .slice a6 (n9 + 2) c6 ∧ E1 = Es ++ [.slice ha nh hc9, .slice ta nt tc9] ∧ TkX w (w6.setCell ⟨pr, 2, none⟩ (.slice a6 (n9 + 2) c6)) pr B1 S1 E1 bx sx ex) := ⟨_, _, rfl, rfl, HX2.out.stepE (by rw [HLn.out]; exact hown6) (grown_drX hgrow6) (hat6.imp id (fun e => ⟨_, e, by simp⟩)) HPr.out⟩
             have hbx : w6.heap[pr]? = wb.heap[pr]? := grown_blkX (grown_drX hgrow6) (Array.getElem?_eq_some_iff.1 HX2.out.box).1 (own_hpX HRw.out HX2.out.box (by decide))
             have p6 : w6.cell? ⟨pr, 2, none⟩ = some (.slice ab n9 cb) := (World.cell?_of_block (a := ⟨pr, 2, none⟩) hbx).trans p2
             have f6 : w6.frozen? ⟨pr, 2, none⟩ = false := (World.frozen?_of_block (a := ⟨pr, 2, none⟩) hbx).trans f2
             clear hown6 hgrow6 hat6 hbx))
        all_goals (
          go_wp2_with fail
          go_meet
          obtain ⟨L9, v9, e9, h9⟩ := HX.out
          exact ⟨rfl, L9, v9, h9⟩)
      case rest =>
      obtain ⟨rfl, E1, ex, HX9⟩ := hcut
      have EE1 : Hid (E1 = Es ++ [.slice ha nh hc9, .slice ta nt tc9]) := HX9.out.1
      have HX3 : Hid (TkX w wc pr B1 S1 E1 bx sx ex) := HX9.out.2
      clear HX9 HX2
      have HB1 : Hid (B1.length ≤ 31 * k + 1) := by show _ ≤ _; rw [EB1.out, List.length_append]; have := HL.out; simp; omega
      obtain ⟨we, hwe⟩ : ∃ x, x = wc := ⟨_, rfl⟩
      subst hwe
      obtain ⟨g3, g4, g7, g12⟩ := HCe.out we HX3.out.block
      go_wp2_with fail
      go_loopw [5] (fun v5 wr' => ∃ (j : Nat) (B : List Value) (by2 : Value), j ≤ nh ∧ v5 = .int .i64 j ∧ Hid (B = B1 ++ (q.hx.map Xr.val).take j ∧ TkX w wr' pr B S1 E1 by2 sx ex)) (fun v5 _ => nh - (intOf v5).toNat)
      case atStart => exact ⟨0, B1, bx, by omega, rfl, by simp, HX3.out⟩
      case round =>
        obtain ⟨j, B, by2, hj, rfl, HJ⟩ := hrel
        have HJT : Hid (TkX w wr pr B S1 E1 by2 sx ex) := HJ.out.2
        have HJB : Hid (B = B1 ++ (q.hx.map Xr.val).take j) := HJ.out.1
        have HBl : Hid (B.length ≤ 31 * k + 1 + j) := by show _ ≤ _; rw [HJB.out, List.length_append]; have := HB1.out; have h2 := List.length_take_le j (q.hx.map Xr.val); omega
        clear HJ g3 g4 g7 g12
        by_cases hjn : j < nh
        · have hjn' : (j : Int) < (nh : Int) := by omega
          have hwj : IntKind.i64.wrap ((j : Int) + 1) = (j : Int) + 1 := by rw [IntKind.wrap_i64]; omega
          obtain ⟨x, hx⟩ := get_one q.hx j (by rw [HV.out.2.2.2.2.1]; exact hjn)
          obtain ⟨gh, hgh, hghp, hcell⟩ : ∃ g, ha = some ⟨g, 0, none⟩ ∧ g ≠ pr ∧ w.cell? ⟨g, j * 2 + 1, none⟩ = some x.val := by
            rcases HXh.out with h | ⟨g, e, hg, h⟩
            · rw [h] at hx; simp at hx
            · exact ⟨g, e, hg, h j x hx⟩
          have hxv : x.val = .slice x.adr x.data.length x.cap := rfl
          rw [hxv] at hcell
          have HXv : Hid ((q.hx.map Xr.val)[j]? = some (.slice x.adr x.data.length x.cap)) := by show _ = _; rw [List.getElem?_map, hx]; rfl
          have HCx : Hid (∀ V' : World, (∀ g, g < w.heap.size → g ≠ pr → V'.heap[g]? = w.heap[g]?) → V'.cell? ⟨gh, j * 2 + 1, none⟩ = some (.slice x.adr x.data.length x.cap)) := fun V' hV => (World.cell?_of_block (a := ⟨gh, j * 2 + 1, none⟩) (hV gh (World.block_lt_of_cell? w _ hcell) hghp)).trans hcell
          clear hx hcell hxv hghp
          generalize x.adr = xa at *
          generalize x.data.length = xn at *
          generalize x.cap = xc at *
          have HCe2 : Hid (∀ V' : World, (∀ g, g < w.heap.size → g ≠ pr → V'.heap[g]? = w.heap[g]?) → V'.cell? ⟨gl, k * 14 + 3, none⟩ = some (.slice (some ⟨gh, 0, none⟩) nh hc9)) := fun V' hV => by rw [← hgh]; exact (HCe.out V' hV).1
          clear hgh
          obtain ⟨g3, hg3⟩ : ∃ u : Unit, wr.cell? ⟨gl, k * 14 + 3, none⟩ = some (.slice (some ⟨gh, 0, none⟩) nh hc9) := ⟨(), HCe2.out wr HJT.out.block⟩
          clear g3
          go_upto_region 9 with fail
          obtain ⟨wb, hwb⟩ : ∃ x, x = wr := ⟨_, rfl⟩
          subst hwb
          obtain ⟨n9, hn9⟩ : ∃ n, B.length = n := ⟨_, rfl⟩
          have hn8 : n9 ≤ 40000000 := by have h := HL.out; have h9 := HBl.out; omega
          have HRw : Hid (wb.ownsRow 0 34 1 by2 n9 B) := by have h := HJT.out.rb; rw [hn9] at h; exact h
          obtain ⟨ab, cb, hvv⟩ := own_shape HRw.out
          subst hvv
          have HLn : Hid (B.length = n9) := hn9
          clear hn9
          obtain ⟨⟨p0, p1, p2⟩, f0, f1, f2⟩ := HJT.out.cells
          have g3 := HCe2.out wb HJT.out.block
          have gx := HCx.out wb HJT.out.block
          have pa : ∀ o, (wb.alloc o).cell? ⟨pr, 0, none⟩ = some (.slice ab n9 cb) := fun o => cell_below p0 ((Below.refl _ _).alloc (Nat.le_refl _) o)
          go_region_law (first
            | (refine step_append_at rfl (.tmp 74) (.tmp 84) 51 rfl 0 34 iB (.slice none 0 0) 1 24 Tryd.underlying51 hiB hB0 hB1 hB2 rfl (by decide) (.slice ab n9 cb) n9 B (by simp [Act.eval]) (World.ownsRow.alloc (own_drX HRw.out 1) _) ⟨wb.heap.size, 0, none⟩ 1 1 [.slice xa xn xc] (by simp [Act.eval]) rfl (one_atX _ _ _ 1) (by simp [Value.oneCell']) (by unfold maxLen; omega) (by omega) (by simp) ?_
               intro v6 w6 hown6 hgrow6 hat6
               obtain ⟨a6, c6, hv6⟩ := own_shape hown6
               subst hv6
               have HX : Hid (TkX w (w6.setCell ⟨pr, 0, none⟩ (.slice a6 (n9 + 1) c6)) pr (B ++ [.slice xa xn xc]) S1 E1 (.slice a6 (n9 + 1) c6) sx ex) := HJT.out.stepB (by rw [HLn.out]; exact hown6) (grown_drX hgrow6) (hat6.imp id (fun e => ⟨_, e, by simp⟩)) HPr.out
               have hbx : w6.heap[pr]? = wb.heap[pr]? := grown_blkX (grown_drX hgrow6) (Array.getElem?_eq_some_iff.1 HJT.out.box).1 (own_hpX HRw.out HJT.out.box (by decide))
               have p6 : w6.cell? ⟨pr, 0, none⟩ = some (.slice ab n9 cb) := (World.cell?_of_block (a := ⟨pr, 0, none⟩) hbx).trans p0
               have f6 : w6.frozen? ⟨pr, 0, none⟩ = false := (World.frozen?_of_block (a := ⟨pr, 0, none⟩) hbx).trans f0
               clear hown6 hgrow6 hat6 hbx))
          all_goals (
            have HRel : Hid (B ++ [.slice xa xn xc] = B1 ++ (q.hx.map Xr.val).take (j + 1) ∧ TkX w (w6.setCell ⟨pr, 0, none⟩ (.slice a6 (n9 + 1) c6)) pr (B ++ [.slice xa xn xc]) S1 E1 (.slice a6 (n9 + 1) c6) sx ex) := ⟨by rw [HJB.out, List.take_add_one, HXv.out, ← List.append_assoc]; rfl, HX.out⟩
            go_wp2
            go_roundw
            case rel =>
              first
                | exact ⟨j + 1, B ++ [.slice xa xn xc], .slice a6 (n9 + 1) c6, by omega, by go_num, HRel⟩
                | exact ⟨j + 1, B ++ [.slice xa xn xc], .slice a6 (n9 + 1) c6, by omega, by omega, HRel⟩
            case measure => simp [intOf]; omega)
        · have hjn' : ¬ (j : Int) < (nh : Int) := by omega
          have EB2 : Hid (B = B1 ++ q.hx.map Xr.val) := by show _ = _; rw [HJB.out, List.take_of_length_le (by rw [List.length_map, HV.out.2.2.2.2.1]; omega)]
          obtain ⟨wf, hwf⟩ : ∃ x, x = wr := ⟨_, rfl⟩
          subst hwf
          obtain ⟨g3, g4, g7, g12⟩ := HCe.out wf HJT.out.block
          go_wp2_with fail
          go_loopw [6] (fun v6 wr' => ∃ (i : Nat) (D : List Value) (dz : Value), i ≤ nt ∧ v6 = .int .i64 i ∧ Hid (D = B ++ (q.tx.map Xr.val).take i ∧ TkX w wr' pr D S1 E1 dz sx ex)) (fun v6 _ => nt - (intOf v6).toNat)
          case atStart => exact ⟨0, B, by2, by omega, rfl, by simp, HJT.out⟩
          case round =>
            obtain ⟨i, D, dz, hi, rfl, HJ2⟩ := hrel
            have HDT : Hid (TkX w wr pr D S1 E1 dz sx ex) := HJ2.out.2
            have HDB : Hid (D = B ++ (q.tx.map Xr.val).take i) := HJ2.out.1
            have HDl : Hid (D.length ≤ 31 * k + 1 + 15 + i) := by show _ ≤ _; rw [HDB.out, List.length_append]; have := HBl.out; have h2 := List.length_take_le i (q.tx.map Xr.val); omega
            clear HJ2 g3 g4 g7 g12
            by_cases hin : i < nt
            · have hin' : (i : Int) < (nt : Int) := by omega
              have hwi : IntKind.i64.wrap ((i : Int) + 1) = (i : Int) + 1 := by rw [IntKind.wrap_i64]; omega
              obtain ⟨x, hx⟩ := get_one q.tx i (by rw [HV.out.2.2.2.2.2]; exact hin)
              obtain ⟨gh, hgh, hghp, hcell⟩ : ∃ g, ta = some ⟨g, 0, none⟩ ∧ g ≠ pr ∧ w.cell? ⟨g, i * 2 + 1, none⟩ = some x.val := by
                rcases HXt.out with h | ⟨g, e, hg, h⟩
                · rw [h] at hx; simp at hx
                · exact ⟨g, e, hg, h i x hx⟩
              have hxv : x.val = .slice x.adr x.data.length x.cap := rfl
              rw [hxv] at hcell
              have HXv : Hid ((q.tx.map Xr.val)[i]? = some (.slice x.adr x.data.length x.cap)) := by show _ = _; rw [List.getElem?_map, hx]; rfl
              have HCx : Hid (∀ V' : World, (∀ g, g < w.heap.size → g ≠ pr → V'.heap[g]? = w.heap[g]?) → V'.cell? ⟨gh, i * 2 + 1, none⟩ = some (.slice x.adr x.data.length x.cap)) := fun V' hV => (World.cell?_of_block (a := ⟨gh, i * 2 + 1, none⟩) (hV gh (World.block_lt_of_cell? w _ hcell) hghp)).trans hcell
              clear hx hcell hxv hghp
              generalize x.adr = xa at *
              generalize x.data.length = xn at *
              generalize x.cap = xc at *
              have HCe2 : Hid (∀ V' : World, (∀ g, g < w.heap.size → g ≠ pr → V'.heap[g]? = w.heap[g]?) → V'.cell? ⟨gl, k * 14 + 4, none⟩ = some (.slice (some ⟨gh, 0, none⟩) nt tc9)) := fun V' hV => by rw [← hgh]; exact (HCe.out V' hV).2.1
              clear hgh
              obtain ⟨g4, hg4⟩ : ∃ u : Unit, wr.cell? ⟨gl, k * 14 + 4, none⟩ = some (.slice (some ⟨gh, 0, none⟩) nt tc9) := ⟨(), HCe2.out wr HDT.out.block⟩
              clear g4
              go_upto_region 13 with fail
              obtain ⟨wb, hwb⟩ : ∃ x, x = wr := ⟨_, rfl⟩
              subst hwb
              obtain ⟨n9, hn9⟩ : ∃ n, D.length = n := ⟨_, rfl⟩
              have hn8 : n9 ≤ 40000000 := by have h := HL.out; have h9 := HDl.out; omega
              have HRw : Hid (wb.ownsRow 0 34 1 dz n9 D) := by have h := HDT.out.rb; rw [hn9] at h; exact h
              obtain ⟨ab, cb, hvv⟩ := own_shape HRw.out
              subst hvv
              have HLn : Hid (D.length = n9) := hn9
              clear hn9
              obtain ⟨⟨p0, p1, p2⟩, f0, f1, f2⟩ := HDT.out.cells
              have g4 := HCe2.out wb HDT.out.block
              have gx := HCx.out wb HDT.out.block
              have pa : ∀ o, (wb.alloc o).cell? ⟨pr, 0, none⟩ = some (.slice ab n9 cb) := fun o => cell_below p0 ((Below.refl _ _).alloc (Nat.le_refl _) o)
              go_region_law (first
                | (refine step_append_at rfl (.tmp 102) (.tmp 112) 51 rfl 0 34 iB (.slice none 0 0) 1 24 Tryd.underlying51 hiB hB0 hB1 hB2 rfl (by decide) (.slice ab n9 cb) n9 D (by simp [Act.eval]) (World.ownsRow.alloc (own_drX HRw.out 1) _) ⟨wb.heap.size, 0, none⟩ 1 1 [.slice xa xn xc] (by simp [Act.eval]) rfl (one_atX _ _ _ 1) (by simp [Value.oneCell']) (by unfold maxLen; omega) (by omega) (by simp) ?_
                   intro v6 w6 hown6 hgrow6 hat6
                   obtain ⟨a6, c6, hv6⟩ := own_shape hown6
                   subst hv6
                   have HX : Hid (TkX w (w6.setCell ⟨pr, 0, none⟩ (.slice a6 (n9 + 1) c6)) pr (D ++ [.slice xa xn xc]) S1 E1 (.slice a6 (n9 + 1) c6) sx ex) := HDT.out.stepB (by rw [HLn.out]; exact hown6) (grown_drX hgrow6) (hat6.imp id (fun e => ⟨_, e, by simp⟩)) HPr.out
                   have hbx : w6.heap[pr]? = wb.heap[pr]? := grown_blkX (grown_drX hgrow6) (Array.getElem?_eq_some_iff.1 HDT.out.box).1 (own_hpX HRw.out HDT.out.box (by decide))
                   have p6 : w6.cell? ⟨pr, 0, none⟩ = some (.slice ab n9 cb) := (World.cell?_of_block (a := ⟨pr, 0, none⟩) hbx).trans p0
                   have f6 : w6.frozen? ⟨pr, 0, none⟩ = false := (World.frozen?_of_block (a := ⟨pr, 0, none⟩) hbx).trans f0
                   clear hown6 hgrow6 hat6 hbx))
              all_goals (
                have HRel : Hid (D ++ [.slice xa xn xc] = B ++ (q.tx.map Xr.val).take (i + 1) ∧ TkX w (w6.setCell ⟨pr, 0, none⟩ (.slice a6 (n9 + 1) c6)) pr (D ++ [.slice xa xn xc]) S1 E1 (.slice a6 (n9 + 1) c6) sx ex) := ⟨by rw [HDB.out, List.take_add_one, HXv.out, ← List.append_assoc]; rfl, HX.out⟩
                go_wp2
                go_roundw
                case rel =>
                  first
                    | exact ⟨i + 1, D ++ [.slice xa xn xc], .slice a6 (n9 + 1) c6, by omega, by go_num, HRel⟩
                    | exact ⟨i + 1, D ++ [.slice xa xn xc], .slice a6 (n9 + 1) c6, by omega, by omega, HRel⟩
                case measure => simp [intOf]; omega)
            · have hin' : ¬ (i : Int) < (nt : Int) := by omega
              obtain ⟨g3, g4, g7, g12⟩ := HCe.out wr HDT.out.block
              have EDf : Hid (D = B ++ q.tx.map Xr.val) := by show _ = _; rw [HDB.out, List.take_of_length_le (by rw [List.length_map, HV.out.2.2.2.2.2]; omega)]
              have HRel : Hid (TkX w wr pr D S1 E1 dz sx ex ∧ D = (qs.take (k + 1)).flatMap tB ∧ S1 = (qs.take (k + 1)).map SvX.cv ∧ E1 = (qs.take (k + 1)).flatMap tE ∧ D.length ≤ 31 * (k + 1) ∧ S1.length = k + 1 ∧ E1.length = 2 * (k + 1)) := by
                obtain ⟨v1, v2, v3, v4, _, _⟩ := HV.out
                obtain ⟨l1, l2, l3, l4, l5, l6⟩ := HL.out
                have et : qs.take (k + 1) = qs.take k ++ [q] := by rw [List.take_add_one, HQ.out]; rfl
                refine ⟨HDT.out, ?_, ?_, ?_, by have := HDl.out; omega, ?_, ?_⟩
                · rw [EDf.out, EB2.out, EB1.out, et, List.flatMap_append, l1, ← v1]
                  simp [tB, List.append_assoc]
                · rw [ES1.out, et, List.map_append, l2, ← v2]; rfl
                · rw [EE1.out, et, List.flatMap_append, l3, ← v3, ← v4]
                  simp [tE]
                · rw [ES1.out, List.length_append, l5]; rfl
                · rw [EE1.out, List.length_append, l6]; simp; omega
              go_wp2
              go_roundw
              case rel =>
                first
                  | exact ⟨k + 1, D, S1, E1, dz, sx, ex, by omega, by go_num, HRel⟩
                  | exact ⟨k + 1, D, S1, E1, dz, sx, ex, by omega, by omega, HRel⟩
              case measure => simp [intOf]; omega
    · have hlt' : ¬ (k : Int) < (N : Int) := by omega
      have hkn : k = N := by omega
      have HE : Hid (∃ bv sv ev, TkX w wr pr (qs.flatMap tB) (qs.map SvX.cv) (qs.flatMap tE) bv sv ev) := ⟨bv, sv, ev, by
        obtain ⟨h, e1, e2, e3, _⟩ := HI.out
        have e : qs.take k = qs := List.take_of_length_le (by rw [HN.out]; omega)
        rw [e] at e1 e2 e3
        rw [← e1, ← e2, ← e3]
        exact h⟩
      clear hkn HI
      go_wp2
      go_end0
      exact ⟨rfl, HE.out⟩

end Go.Proofs.YtdfdaambfihjaaaDoor
