import Derived.Test.YtdfdaambfihjaaaDoorLnQ
import Derived.Lib.SliceRun
namespace Go.Proofs.YtdfdaambfihjaaaDoor.L
open Go.RowKit
set_option linter.unusedVariables false
set_option linter.unusedSimpArgs false

theorem seg_info : (Tryd.prog.info? 37).map (fun i => (i.zero, i.size, i.bytes)) = some (some (.agg #[.int .i64 0, .int .i64 0, .int .i64 0, .slice none 0 0, .slice none 0 0, .int .i64 0, .int .i64 0, .slice none 0 0, .int .i64 0, .int .i64 0, .int .i64 0, .int .i64 0, .slice none 0 0, .int .i64 0]), 14, 176) := by kernel_rfl
theorem own_hp {w : World} {b1 n1 z1 g : Nat} {e1 t : TypeId} {v1 : Value} {x1 : List Value} {cs : Array Value} {fr : Nat × Nat} (h1 : w.ownsRow b1 e1 z1 v1 n1 x1) (hh : w.heap[g]? = some (.cells cs t fr)) (he : e1 ≠ t) : v1.ownBlock ≠ some g := by
  obtain ⟨_, ⟨rfl, _⟩ | ⟨g', cap, cur, rfl, _, h3, _⟩⟩ := h1
  · intro e; cases e
  · intro e
    simp only [Value.ownBlock, Option.some.injEq] at e
    subst e
    rw [h3] at hh
    simp only [Option.some.injEq, Obj.cells.injEq] at hh
    exact he hh.2.1
theorem grown_blk {w w' : World} {row : Option Nat} (h : w.grownBy w' row) {g : Nat} (hg : g < w.heap.size) (hn : row ≠ some g) : w'.heap[g]? = w.heap[g]? := h.block g hg (fun e => hn e.symm)
theorem own_blk {w w' : World} {base n size : Nat} {e : TypeId} {v : Value} {xs : List Value} (h : w.ownsRow base e size v n xs) (hb : ∀ g, v.ownBlock = some g → w'.heap[g]? = w.heap[g]?) : w'.ownsRow base e size v n xs := by
  obtain ⟨h1, h2 | ⟨g, cap, cur, e1, e2, e3, e4⟩⟩ := h
  · exact ⟨h1, .inl h2⟩
  · subst e1
    exact ⟨h1, .inr ⟨g, cap, cur, rfl, e2, (hb g rfl).trans e3, e4⟩⟩
theorem own_dr {w : World} {b e z n : Nat} {v : Value} {xs : List Value} (h : w.ownsRow b e z v n xs) (d : Nat) : (w.drewN d).ownsRow b e z v n xs := h
theorem grown_dr {w w6 : World} {row : Option Nat} {o : Obj} {d : Nat} (h : ((w.drewN d).alloc o).grownBy w6 row) : w.grownBy w6 row :=
  ⟨h.os, h.tape, h.output, Nat.le_trans (by simp) h.size, fun k hk hn => (h.block k (Nat.lt_of_lt_of_le hk (by simp)) hn).trans (Below.heap_alloc _ _ k hk)⟩
theorem grown_al {w w6 : World} {row : Option Nat} {o : Obj} (h : (w.alloc o).grownBy w6 row) : w.grownBy w6 row :=
  ⟨h.os, h.tape, h.output, Nat.le_trans (by simp) h.size, fun k hk hn => (h.block k (Nat.lt_of_lt_of_le hk (by simp)) hn).trans (Below.heap_alloc _ _ k hk)⟩
theorem row_new (w : World) (l : List Value) (t : TypeId) (d : Nat) : ∀ j u, l[j]? = some u → ((w.drewN d).alloc (.cells l.toArray t)).cell? ((⟨w.heap.size, 0, none⟩ : Addr).add j) = some u := fun j u h => by
  rw [addr_add, Nat.zero_add]
  show ((w.drewN d).alloc (.cells l.toArray t)).cell? ⟨(w.drewN d).heap.size, j, none⟩ = some u
  rw [cell_of_row _ _ _ l.toArray t (0, 0) (heap_alloc_new' (w.drewN d) _)]
  simpa using h
theorem own_sl {w : World} {base size n : Nat} {e : TypeId} {v : Value} {xs : List Value} (h : w.ownsRow base e size v n xs) : ∃ a c, v = .slice a n c := by
  obtain ⟨_, ⟨rfl, rfl⟩ | ⟨g', cap, cur, rfl, _⟩⟩ := h
  · exact ⟨_, _, rfl⟩
  · exact ⟨_, _, rfl⟩

/-- What a call does to a queue's row at its cell. -/
structure QP (w w' : World) (x o n : Nat) (v v' : Value) (cs : Array Value) (t : TypeId) (xs : List Value) : Prop where
  box : w'.heap[x]? = some (.cells (cs.setIfInBounds o v') t (0, 0))
  row : w'.ownsRow 0 37 14 v' n xs
  at' : ∀ g, v'.ownBlock = some g → v.ownBlock = some g ∨ w.heap.size ≤ g
  kl : Kl (fun g => g = x ∨ v.ownBlock = some g) w w'

set_option maxRecDepth 100000 in
set_option maxHeartbeats 4000000 in
theorem qput_any (w : World) (x o n : Nat) (v : Value) (xs : List Value) (y : Sv) (cs : Array Value) (t : TypeId) (hb : w.heap[x]? = some (.cells cs t (0, 0))) (ht : 37 ≠ t) (hv : cs[o]? = some v) (hr : w.ownsRow 0 37 14 v n xs) (hy : y.One) (hn : n ≤ 549755813888) :
    Calls Tryd.prog 42 #[.pointer (some ⟨x, o, none⟩), .agg (svC y.s y.hv y.tv y.dv y.cv)] w fun e w' => (∃ u, e = .returned u) ∧ ∃ v', QP w w' x o (n + 1) v v' cs t (xs ++ y.L) := by
  obtain ⟨i0, hi, hz0, hz1, hz2⟩ := info_parts seg_info
  obtain ⟨a, c, rfl⟩ := own_sl hr
  have hxl := (Array.getElem?_eq_some_iff.1 hb).1
  obtain ⟨W, hW⟩ : ∃ W, w.alloc (.cells (svC y.s y.hv y.tv y.dv y.cv) 37) = W := ⟨_, rfl⟩
  have gW : w.grownBy W none := by rw [← hW]; exact World.grownBy_alloc w _ none
  have hsz : W.heap.size = w.heap.size + 1 := by rw [← hW]; simp
  have hbW : W.heap[x]? = some (.cells cs t (0, 0)) := (grown_blk gW hxl (by simp)).trans hb
  have c0 : W.cell? ⟨x, o, none⟩ = some (.slice a n c) := (cell_of_row _ _ _ _ _ _ hbW).trans hv
  have f0 : W.frozen? ⟨x, o, none⟩ = false := frozen_of_row _ _ _ _ _ hbW
  have hnw : W.heap[w.heap.size]? = some (.cells (svC y.s y.hv y.tv y.dv y.cv) 37 (0, 0)) := by rw [← hW]; exact heap_alloc_new' _ _
  have HR : Hid (W.ownsRow 0 37 14 (.slice a n c) n xs) := own_blk hr (fun g hg => grown_blk gW (hr.lt g hg).2 (by simp))
  have HB : Hid (W.heap[x]? = some (.cells cs t (0, 0)) ∧ x < w.heap.size ∧ w.grownBy W none ∧ W.heap.size = w.heap.size + 1 ∧ (Value.slice a n c).ownBlock ≠ some x) := ⟨hbW, hxl, gW, hsz, own_hp hr hb ht⟩
  have HY : Hid (y.One) := hy
  have HWe : Hid (w.alloc (.cells (svC y.s y.hv y.tv y.dv y.cv) 37) = W) := hW
  have k0 : ∀ j u, y.L[j]? = some u → W.cell? ⟨w.heap.size, j, none⟩ = some u := fun j u h => by rw [cell_of_row _ _ _ _ _ _ hnw]; simpa [Sv.L] using h
  have y0 := k0 0 _ rfl
  have y1 := k0 1 _ rfl
  have y2 := k0 2 _ rfl
  have y3 := k0 3 _ rfl
  have y4 := k0 4 _ rfl
  have y5 := k0 5 _ rfl
  have y6 := k0 6 _ rfl
  have y7 := k0 7 _ rfl
  have y8 := k0 8 _ rfl
  have y9 := k0 9 _ rfl
  have y10 := k0 10 _ rfl
  have y11 := k0 11 _ rfl
  have y12 := k0 12 _ rfl
  have y13 := k0 13 _ rfl
  have pa : ∀ q, (W.alloc q).cell? ⟨x, o, none⟩ = some (.slice a n c) := fun q => cell_below c0 ((Below.refl _ _).alloc (Nat.le_refl _) q)
  clear k0 hb hv hr hy hW gW hbW hnw hsz hxl
  go_enter Tryd.func42, Tryd.ntmps42
  go_wp2_with fail
  rw [HWe.out]
  go_region_law (first
    | (refine step_append_at rfl (.tmp 8) (.tmp 10) 30 rfl 0 37 i0 _ 14 176 Tryd.underlying30 hi hz0 hz1 hz2 rfl (by decide) (.slice a n c) n xs (by simp [Act.eval]) (World.ownsRow.alloc (own_dr HR.out 1) _) ⟨W.heap.size, 0, none⟩ 1 1 y.L (by simp [Act.eval]) rfl (row_new W y.L 37 1) HY.out (by unfold maxLen; omega) (by omega) (by simp) ?_
       intro v6 w6 hown6 hgrow6 hat6
       have hg6 := grown_dr hgrow6
       obtain ⟨a6, c6, hv6⟩ := own_sl hown6
       subst hv6
       have hbx : w6.heap[x]? = W.heap[x]? := grown_blk hg6 (by have := HB.out.2.1; have := HB.out.2.2.2.1; omega) HB.out.2.2.2.2
       have p06 : w6.cell? ⟨x, o, none⟩ = some (.slice a n c) := (World.cell?_of_block (a := ⟨x, o, none⟩) hbx).trans c0
       have f06 : w6.frozen? ⟨x, o, none⟩ = false := (World.frozen?_of_block (a := ⟨x, o, none⟩) hbx).trans f0
       have HX : Hid (QP w (w6.setCell ⟨x, o, none⟩ (.slice a6 (n + 1) c6)) x o (n + 1) (.slice a n c) (.slice a6 (n + 1) c6) cs t (xs ++ y.L)) := by
         have hb6 := hbx.trans HB.out.1
         refine ⟨heap_setCell_same _ _ _ _ _ _ hb6, own_blk hown6 (fun g hg => heap_setCell_other _ _ _ _ (fun e => own_hp hown6 hb6 ht (by rw [hg, e]))), fun g hg => ?_, ?_⟩
         · rcases hat6 with e | e
           · exact .inl (e ▸ hg)
           · rw [hg] at e; simp at e; have := HB.out.2.2.2.1; omega
         · refine ((Kl.refl _ w).grown HB.out.2.2.1 (fun k hk => by cases hk)).grown hg6 (fun k hk => .inl (.inr hk)) |>.grown (grown_set _ _ _ _) (fun k hk => ?_)
           simp at hk
           exact .inl (.inl hk.symm)
       clear hown6 hgrow6 hat6 hg6 hbx))
  all_goals (
    go_wp2
    refine bodyPost_end (v := .tuple #[]) (by simp [results, Tryd.results42, go_sem]) rfl ?_
    exact ⟨⟨_, rfl⟩, _, HX.out⟩)

end Go.Proofs.YtdfdaambfihjaaaDoor.L

namespace Go.Proofs.YtdfdaambfihjaaaDoor.L
open Go.RowKit
set_option linter.unusedVariables false
set_option linter.unusedSimpArgs false

/-- An append of nothing, as one step of a region that draws. -/
theorem step_append_nil {P : Program} {ops : Array Oper} {o : Oper} {a : Act} {w : World} {K : Act → World → Prop} {Q : Exit → Act → World → Prop} {E : Prop}
    (hg : o.guard = none) (s x : Operand) (t : TypeId) (hop : o.op = Op.call { callee := Callee.builtin Builtin.append, args := #[s, x], argTypes := #[t, t] })
    (base : Nat) (e : TypeId) (i : TypeInfo) (size : Nat) (ht : P.underlying t = some (.slice e)) (hi : P.info? e = some i)
    (v : Value) (n : Nat) (xs : List Value) (hs : a.eval s = v) (hown : w.ownsRow base e size v n xs) (hx : a.eval x = .slice none 0 0)
    (hK : K (a.put o.dst v) w) : if Region.wanted o (yielded ops a.tmps) = true then Oper.wp P o a w K Q else E := by
  have hw : Region.wanted o (yielded ops a.tmps) = true := by simp [Region.wanted, hg]
  rw [if_pos hw]
  have hrun := run_append_owned_none (P := P) (w := w) base t o.type e i size ht hi v n xs hown
  unfold Oper.wp
  simp [execOp, hop, resolve, invoke, builtin, hs, hx, hrun, Result.andThen]
  exact hK

/-- What a call does to both cells of a queue. -/
structure QR (w w' : World) (x o n f : Nat) (v v' : Value) (cs : Array Value) (t : TypeId) (xs : List Value) : Prop where
  box : w'.heap[x]? = some (.cells ((cs.setIfInBounds o v').setIfInBounds (o + 1) (.int .i64 f)) t (0, 0))
  row : w'.ownsRow 0 37 14 v' n xs
  at' : ∀ g, v'.ownBlock = some g → v.ownBlock = some g ∨ w.heap.size ≤ g
  kl : Kl (fun g => g = x ∨ v.ownBlock = some g) w w'

set_option maxRecDepth 100000 in
set_option maxHeartbeats 4000000 in
theorem qpack_any (w : World) (x o f m : Nat) (v : Value) (Z ys : List Value) (cs : Array Value) (t : TypeId) (hb : w.heap[x]? = some (.cells cs t (0, 0))) (ht : 37 ≠ t) (hv : cs[o]? = some v) (hf : cs[o + 1]? = some (.int .i64 f)) (hZ : Z.length = f * 14) (hr : w.ownsRow 0 37 14 v (f + m) (Z ++ ys)) (hy : ∀ u ∈ ys, u.oneCell' = true) (hn : f + m ≤ 549755813888) :
    Calls Tryd.prog 55 #[.pointer (some ⟨x, o, none⟩)] w fun e w' => (∃ u, e = .returned u) ∧ ∃ v', QR w w' x o m 0 v v' cs t ys := by
  obtain ⟨i0, hi, hz0, hz1, hz2⟩ := info_parts seg_info
  have hxl := (Array.getElem?_eq_some_iff.1 hb).1
  have c0 : w.cell? ⟨x, o, none⟩ = some v := (cell_of_row _ _ _ _ _ _ hb).trans hv
  have c1 : w.cell? ⟨x, o + 1, none⟩ = some (.int .i64 f) := (cell_of_row _ _ _ _ _ _ hb).trans hf
  have f0 : w.frozen? ⟨x, o, none⟩ = false := frozen_of_row _ _ _ _ _ hb
  have f1 : w.frozen? ⟨x, o + 1, none⟩ = false := frozen_of_row _ _ _ _ _ hb
  have HB : Hid (w.heap[x]? = some (.cells cs t (0, 0)) ∧ x < w.heap.size) := ⟨hb, hxl⟩
  have hyl : ys.length = m * 14 := by have := hr.1; rw [List.length_append, hZ] at this; omega
  have HS : ∀ (v6 : Value) (w6 : World), w6.ownsRow 0 37 14 v6 (0 + m) ([] ++ ys) → w.grownBy w6 none → (v6.ownBlock = none ∨ v6.ownBlock = some w.heap.size) → Hid (w6.heap[x]? = w.heap[x]? ∧ ∀ V : World, V.heap = ((w6.setCell ⟨x, o, none⟩ v6).setCell ⟨x, o + 1, none⟩ (.int .i64 0)).heap → V.os = w.os → V.tape = w.tape → V.output = w.output → QR w V x o m 0 v v6 cs t ys) := fun v6 w6 h1 h2 h3 => by
    have hbx : w6.heap[x]? = w.heap[x]? := grown_blk h2 HB.out.2 (by simp)
    refine ⟨hbx, fun V hV o1 o2 o3 => ?_⟩
    have hb6 := hbx.trans HB.out.1
    rw [Nat.zero_add, List.nil_append] at h1
    have e1 := heap_setCell_same w6 x o _ _ v6 hb6
    have e2 := heap_setCell_same _ x (o + 1) _ _ (.int .i64 0) e1
    have ho : ∀ g, g ≠ x → V.heap[g]? = w6.heap[g]? := fun g hg => by rw [hV]; exact (heap_setCell_other _ _ _ _ hg).trans (heap_setCell_other _ _ _ _ hg)
    refine ⟨by rw [hV]; exact e2, own_blk h1 (fun g hg => ho g (fun e => own_hp h1 hb6 ht (by rw [hg, e]))), fun g hg => ?_, ⟨o1, o2, o3, by rw [hV]; simpa [World.setCell] using h2.size, fun g hg hn => (ho g (fun e => hn (.inl e))).trans (grown_blk h2 hg (by simp))⟩⟩
    rcases h3 with e | e
    · rw [hg] at e; cases e
    · rw [hg] at e; simp at e; exact .inr (by omega)
  have HSS : Hid (∀ (v6 : Value) (w6 : World), w6.ownsRow 0 37 14 v6 (0 + m) ([] ++ ys) → w.grownBy w6 none → (v6.ownBlock = none ∨ v6.ownBlock = some w.heap.size) → Hid (w6.heap[x]? = w.heap[x]? ∧ ∀ V : World, V.heap = ((w6.setCell ⟨x, o, none⟩ v6).setCell ⟨x, o + 1, none⟩ (.int .i64 0)).heap → V.os = w.os → V.tape = w.tape → V.output = w.output → QR w V x o m 0 v v6 cs t ys)) := HS
  have HY : Hid (∀ u ∈ ys, u.oneCell' = true) := hy
  have HYl : Hid (ys.length = m * 14) := hyl
  have hr0 := hr
  obtain ⟨_, ⟨rfl, h0⟩ | ⟨g, cap, cur, rfl, _, hg, hnc, hcm, hcz, hcur⟩⟩ := hr0
  · obtain rfl : f = 0 := by omega
    obtain rfl : m = 0 := by omega
    obtain rfl : ys = [] := List.eq_nil_of_length_eq_zero (by omega)
    clear HS hb hr hv hf hy hZ hyl
    go_enter Tryd.func55, Tryd.ntmps55
    go_region_law (first
      | (refine step_append_nil rfl (.const (.slice none 0 0)) (.tmp 11) 30 rfl 0 37 i0 14 Tryd.underlying30 hi (.slice none 0 0) 0 [] (by simp [Act.eval]) (World.ownsRow_nil _ _ _ _) (by first | rfl | simp [Act.eval, Act.put]) ?_
         have HX := HSS.out (.slice none 0 0) w (World.ownsRow_nil _ _ _ _) ⟨rfl, rfl, rfl, Nat.le_refl _, fun _ _ _ => rfl⟩ (.inl rfl)))
    all_goals (
      go_wp2
      refine bodyPost_end (v := .tuple #[]) (by simp [results, Tryd.results55, go_sem]) rfl ?_
      exact ⟨⟨_, rfl⟩, _, HX.out.2 _ rfl rfl rfl rfl⟩)
  · have hw1 : (f : Int) ≤ (f + m : Nat) := by omega
    have hf0 : 0 ≤ (f : Int) := by omega
    have hfc : (f : Int) ≤ (cap : Int) := by omega
    have e1 : f + m - f = m := by omega
    obtain ⟨ad, had⟩ : ∃ ad, (if cap = f then some (⟨g, 0, none⟩ : Addr) else some ⟨g, f * 14, none⟩) = some ad := by split <;> exact ⟨_, rfl⟩
    have HC : Hid (∀ (d j : Nat) u, ys[j]? = some u → (w.drewN d).cell? (ad.add j) = some u) := fun d j u h => by
      have hj := (List.getElem?_eq_some_iff.mp h).1
      rw [if_neg (by omega)] at had
      cases had
      rw [addr_add]
      show w.cell? ⟨g, f * 14 + j, none⟩ = some u
      have := hr.cells (g := g) rfl (f * 14 + j) u (by rw [List.getElem?_append_right (by omega), hZ, Nat.add_sub_cancel_left]; exact h)
      rwa [addr_add, Nat.zero_add] at this
    obtain ⟨N, hN⟩ : ∃ N, f + m = N := ⟨_, rfl⟩
    have HN : Hid (f + m = N) := hN
    rw [hN] at c0 hw1 e1 hnc hn
    have hmN : m ≤ N := by omega
    rw [hN] at HSS ⊢
    clear HS hb hr hv hf hy hZ hyl hg hcz hcur hN
    go_enter Tryd.func55, Tryd.ntmps55
    go_region_law (first
      | (refine step_append_at rfl (.const (.slice none 0 0)) (.tmp 11) 30 rfl 0 37 i0 _ 14 176 Tryd.underlying30 hi hz0 hz1 hz2 rfl (by decide) (.slice none 0 0) 0 [] (by simp [Act.eval]) (World.ownsRow_nil _ _ _ _) ad m (cap - f) ys (by first | rfl | (simp [Act.eval, Act.put, had]; done) | simp [Act.eval, Act.put, ← had]) HYl.out (HC.out 1) HY.out (by unfold maxLen; omega) (by omega) (by simp) ?_
         intro v6 w6 hown6 hgrow6 hat6
         have HX := HSS.out v6 w6 hown6 ⟨hgrow6.os, hgrow6.tape, hgrow6.output, hgrow6.size, fun k hk hn => hgrow6.block k hk (fun e => hn (by rw [e]; rfl))⟩ hat6
         have p06 : w6.cell? ⟨x, o, none⟩ = some (.slice (some ⟨g, 0, none⟩) N cap) := (World.cell?_of_block (a := ⟨x, o, none⟩) HX.out.1).trans c0
         have f06 : w6.frozen? ⟨x, o, none⟩ = false := (World.frozen?_of_block (a := ⟨x, o, none⟩) HX.out.1).trans f0
         have p16 : w6.cell? ⟨x, o + 1, none⟩ = some (.int .i64 f) := (World.cell?_of_block (a := ⟨x, o + 1, none⟩) HX.out.1).trans c1
         have f16 : w6.frozen? ⟨x, o + 1, none⟩ = false := (World.frozen?_of_block (a := ⟨x, o + 1, none⟩) HX.out.1).trans f1
         have HG : Hid (w6.os = w.os ∧ w6.tape = w.tape ∧ w6.output = w.output) := ⟨hgrow6.os, hgrow6.tape, hgrow6.output⟩
         obtain ⟨a6, c6, hv6⟩ := own_sl hown6
         rw [Nat.zero_add] at hv6
         subst hv6
         clear hown6 hgrow6 hat6))
    all_goals (
      go_wp2
      refine bodyPost_end (v := .tuple #[]) (by simp [results, Tryd.results55, go_sem]) rfl ?_
      exact ⟨⟨_, rfl⟩, _, HX.out.2 _ rfl HG.out.1 HG.out.2.1 HG.out.2.2⟩)

end Go.Proofs.YtdfdaambfihjaaaDoor.L

namespace Go.Proofs.YtdfdaambfihjaaaDoor.L
open Go.RowKit
set_option linter.unusedVariables false
set_option linter.unusedSimpArgs false

/-! ## clear of segments -/
def zseg : Array Value := #[.int .i64 0, .int .i64 0, .int .i64 0, .slice none 0 0, .slice none 0 0, .int .i64 0, .int .i64 0, .slice none 0 0, .int .i64 0, .int .i64 0, .int .i64 0, .int .i64 0, .slice none 0 0, .int .i64 0]
def zrow (n : Nat) : List Value := (Builtin.zeroCells zseg n).toList
theorem zrow_len (n : Nat) : (zrow n).length = n * 14 := by unfold zrow Builtin.zeroCells; simp [zseg]
theorem zrow_one (n : Nat) : ∀ v ∈ zrow n, v.oneCell' = true := by
  intro v hv
  unfold zrow Builtin.zeroCells at hv
  rw [Array.toList_map, List.mem_map] at hv
  obtain ⟨i, hi, rfl⟩ := hv
  have hlt : i % zseg.size < 14 := Nat.mod_lt _ (by decide)
  generalize i % zseg.size = k at hlt
  have : ∀ k : Fin 14, (zseg[k.val]!).oneCell' = true := by decide
  exact this ⟨k, hlt⟩
theorem clear_run (w : World) (b o n c : Nat) (hn : 0 < n) (hc : ∀ j, j < n * 14 → (w.cell? ⟨b, o + j, none⟩).isSome = true) (hf : ∀ j, j < n * 14 → w.frozen? ⟨b, o + j, none⟩ = false) (ty : TypeId) :
    (Builtin.clear_ #[30] ty #[.slice (some ⟨b, o, none⟩) n c]).run Tryd.prog w = .ok (.tuple #[]) (w.setCells b o (zrow n)) := by
  have hv : (zeroValue 37).run Tryd.prog w = .ok (.agg zseg) w := by
    obtain ⟨i0, hi, hz0, hz1, hz2⟩ := info_parts seg_info
    first | exact Tryd.zeroValue37 w | exact Tryd.zeroValue37 | simp [zeroValue, typeInfo, hi, hz0, zseg] | simp [zeroValue, typeInfo, zseg, Tryd.t37]
  have hzc : (Builtin.zeroCells (Value.agg zseg).cells n).toList = zrow n := rfl
  have hst := run_storeCells_cells (P := Tryd.prog) b o (zrow n) 0 w (by rw [zrow_len]; simpa using hc) (by rw [zrow_len]; simpa using hf) (zrow_one n)
  simp only [Nat.add_zero] at hst
  obtain ⟨m, rfl⟩ : ∃ m, n = m + 1 := ⟨n - 1, by omega⟩
  simp [Builtin.clear_, run_underlying Tryd.underlying30, hv, hzc, hst]
/-- Numbers laid over a list, from a place on. -/
def lay : List Value → Nat → List Value → List Value
  | xs, _, [] => xs
  | xs, o, z :: r => lay (xs.set o z) (o + 1) r
theorem lay_app : ∀ (zs A Z B : List Value), A.length = zs.length → lay (Z ++ (A ++ B)) Z.length zs = Z ++ (zs ++ B)
  | [], A, Z, B, h => by
    obtain rfl : A = [] := List.eq_nil_of_length_eq_zero h
    rfl
  | z :: r, a :: A, Z, B, h => by
    have h2 := lay_app r A (Z ++ [z]) B (by simpa using h)
    unfold lay
    have e : (Z ++ (a :: A ++ B)).set Z.length z = (Z ++ [z]) ++ (A ++ B) := by simp
    rw [e, show Z.length + 1 = (Z ++ [z]).length by simp, h2]
    simp
theorem own_lay {base g N cap sz : Nat} {e : TypeId} : ∀ (zs xs : List Value) (o : Nat) (w : World), w.ownsRow base e sz (.slice (some ⟨g, 0, none⟩) N cap) N xs → (w.setCells g o zs).ownsRow base e sz (.slice (some ⟨g, 0, none⟩) N cap) N (lay xs o zs)
  | [], xs, o, w, h => h
  | z :: r, xs, o, w, h => own_lay r (xs.set o z) (o + 1) _ (World.ownsRow.stored h o z).1
theorem setCells_other (g : Nat) : ∀ (zs : List Value) (o : Nat) (w : World), (∀ k, k ≠ g → (w.setCells g o zs).heap[k]? = w.heap[k]?) ∧ (w.setCells g o zs).os = w.os ∧ (w.setCells g o zs).tape = w.tape ∧ (w.setCells g o zs).output = w.output ∧ (w.setCells g o zs).heap.size = w.heap.size
  | [], o, w => ⟨fun _ _ => rfl, rfl, rfl, rfl, rfl⟩
  | z :: r, o, w => by
    obtain ⟨h1, h2, h3, h4, h5⟩ := setCells_other g r (o + 1) (w.setCell ⟨g, o, none⟩ z)
    exact ⟨fun k hk => (h1 k hk).trans (heap_setCell_other _ _ _ _ hk), h2, h3, h4, h5.trans (by simp [World.setCell])⟩
theorem grown_cells (g o : Nat) (zs : List Value) (w : World) : w.grownBy (w.setCells g o zs) (some g) := by
  obtain ⟨h1, h2, h3, h4, h5⟩ := setCells_other g zs o w
  exact ⟨h2, h3, h4, by omega, fun k _ hk => h1 k (fun e => hk (by rw [e]))⟩
/-- Segments that were cleared within a row. -/
theorem own_clear {base g N cap n f : Nat} {w : World} {Z A B : List Value} (h : w.ownsRow base 37 14 (.slice (some ⟨g, 0, none⟩) N cap) N (Z ++ (A ++ B))) (hZ : Z.length = f * 14) (hA : A.length = n * 14) :
    (w.setCells g (f * 14) (zrow n)).ownsRow base 37 14 (.slice (some ⟨g, 0, none⟩) N cap) N (Z ++ (zrow n ++ B)) := by
  have := own_lay (zrow n) _ (f * 14) w h
  rwa [← hZ, lay_app _ _ _ _ (by rw [hA, zrow_len]), hZ] at this
theorem own_in {base g N cap j : Nat} {w : World} {e : TypeId} {sz : Nat} {xs : List Value} (h : w.ownsRow base e sz (.slice (some ⟨g, 0, none⟩) N cap) N xs) (hj : j < xs.length) : (w.cell? ⟨g, j, none⟩).isSome = true ∧ w.frozen? ⟨g, j, none⟩ = false := by
  refine ⟨?_, ?_⟩
  · have := h.cells (g := g) rfl j xs[j] (List.getElem?_eq_getElem hj)
    rw [addr_add, Nat.zero_add] at this
    rw [this]; rfl
  · obtain ⟨_, ⟨e1, _⟩ | ⟨g', cap', cur, e1, _, q1, _⟩⟩ := h
    · cases e1
    · simp only [Value.slice.injEq, Option.some.injEq, Addr.mk.injEq] at e1
      obtain ⟨⟨rfl, _⟩, _⟩ := e1
      exact frozen_of_row _ _ _ _ _ q1

end Go.Proofs.YtdfdaambfihjaaaDoor.L

namespace Go.Proofs.YtdfdaambfihjaaaDoor.L
open Go.RowKit
set_option linter.unusedVariables false
set_option linter.unusedSimpArgs false

theorem clear_any (w : World) (g f n cap N c : Nat) (ad : Addr) (Z A B : List Value) (h : w.ownsRow 0 37 14 (.slice (some ⟨g, 0, none⟩) N cap) N (Z ++ (A ++ B))) (hZ : Z.length = f * 14) (hA : A.length = n * 14) (had : 0 < n → ad = ⟨g, f * 14, none⟩) :
    ∃ w2 Z2, (∀ ty, (Builtin.clear_ #[30] ty #[.slice (some ad) n c]).run Tryd.prog w = .ok (.tuple #[]) w2) ∧ w2.ownsRow 0 37 14 (.slice (some ⟨g, 0, none⟩) N cap) N (Z2 ++ B) ∧ Z2.length = (f + n) * 14 ∧ w.grownBy w2 (some g) := by
  rcases Nat.eq_zero_or_pos n with rfl | hn
  · refine ⟨w, Z, fun ty => ?_, ?_, by rw [hZ]; omega, ⟨rfl, rfl, rfl, Nat.le_refl _, fun _ _ _ => rfl⟩⟩
    · simp [Builtin.clear_, run_underlying Tryd.underlying30]
    · obtain rfl : A = [] := List.eq_nil_of_length_eq_zero (by omega)
      exact h
  · rw [had hn]
    have hx : ∀ j, j < n * 14 → f * 14 + j < (Z ++ (A ++ B)).length := fun j hj => by rw [List.length_append, List.length_append, hZ, hA]; omega
    refine ⟨w.setCells g (f * 14) (zrow n), Z ++ zrow n, fun ty => clear_run w g (f * 14) n c hn (fun j hj => (own_in h (hx j hj)).1) (fun j hj => (own_in h (hx j hj)).2) ty, ?_, by rw [List.length_append, zrow_len, hZ]; omega, grown_cells _ _ _ _⟩
    rw [List.append_assoc]
    exact own_clear h hZ hA

theorem set_self {cs : Array Value} {o : Nat} {v : Value} (h : cs[o]? = some v) : cs.setIfInBounds o v = cs := by
  apply Array.ext_getElem?
  intro i
  rw [Array.getElem?_setIfInBounds]
  split
  · next e => subst e; rw [h]; have := (Array.getElem?_eq_some_iff.1 h).1; simp [this]
  · rfl
theorem set_swap (cs : Array Value) (o : Nat) (a b c : Value) : ((cs.setIfInBounds (o + 1) a).setIfInBounds o b).setIfInBounds (o + 1) c = (cs.setIfInBounds o b).setIfInBounds (o + 1) c := by
  apply Array.ext_getElem?
  intro i
  simp only [Array.getElem?_setIfInBounds, Array.size_setIfInBounds]
  by_cases h : o + 1 = i
  · subst h; simp
  · simp [h]
/-- What take does. -/
structure QT (w w' : World) (x o n r N : Nat) (v ov v' ov' : Value) (cs : Array Value) (t : TypeId) (A B os : List Value) (f' : Nat) (Z' : List Value) : Prop where
  len : Z'.length = f' * 14
  box : w'.heap[x]? = some (.cells ((cs.setIfInBounds o v').setIfInBounds (o + 1) (.int .i64 f')) t (0, 0))
  row : w'.ownsRow 0 37 14 v' (f' + r) (Z' ++ B)
  out : w'.ownsRow 0 37 14 ov' (N + n) (os ++ A)
  atv : ∀ g, v'.ownBlock = some g → v.ownBlock = some g ∨ w.heap.size ≤ g
  ato : ∀ g, ov'.ownBlock = some g → ov.ownBlock = some g ∨ w.heap.size ≤ g
  apart : ∀ g, v'.ownBlock = some g → ov'.ownBlock ≠ some g
  kl : Kl (fun g => g = x ∨ v.ownBlock = some g ∨ ov.ownBlock = some g) w w'

set_option maxRecDepth 100000 in
set_option maxHeartbeats 8000000 in
theorem qtake_any (w : World) (x o f n r N M : Nat) (v ov : Value) (Z A B os : List Value) (cs : Array Value) (t : TypeId) (hb : w.heap[x]? = some (.cells cs t (0, 0))) (ht : 37 ≠ t) (hv : cs[o]? = some v) (hf : cs[o + 1]? = some (.int .i64 f)) (hZ : Z.length = f * 14) (hA : A.length = n * 14) (hr : w.ownsRow 0 37 14 v (f + (n + r)) (Z ++ (A ++ B)))
    (ho : w.ownsRow 0 37 14 ov N os) (hap : ∀ g, v.ownBlock = some g → ov.ownBlock ≠ some g) (hA1 : ∀ u ∈ A, u.oneCell' = true) (hB1 : ∀ u ∈ B, u.oneCell' = true) (hn : f + (n + r) ≤ 68719476736) (hN : N ≤ 68719476736) (hM : min M (n + r) = n) (hM2 : M ≤ 1152921504606846976) :
    Calls Tryd.prog 27 #[.pointer (some ⟨x, o, none⟩), ov, .int .i64 M] w fun e w' => ∃ v' ov' f' Z', e = .returned ov' ∧ f' ≤ f + n ∧ QT w w' x o n r N v ov v' ov' cs t A B os f' Z' := by
  obtain ⟨i0, hi, hz0, hz1, hz2⟩ := info_parts seg_info
  obtain ⟨oa, oc, rfl⟩ := own_sl ho
  have hxl := (Array.getElem?_eq_some_iff.1 hb).1
  have c0 : w.cell? ⟨x, o, none⟩ = some v := (cell_of_row _ _ _ _ _ _ hb).trans hv
  have c1 : w.cell? ⟨x, o + 1, none⟩ = some (.int .i64 f) := (cell_of_row _ _ _ _ _ _ hb).trans hf
  have ho1 : o + 1 < cs.size := (Array.getElem?_eq_some_iff.1 hf).1
  have hnx : v.ownBlock ≠ some x := own_hp hr hb ht
  have hox : (Value.slice oa N oc).ownBlock ≠ some x := own_hp ho hb ht
  have m1 : max 0 (min (M : Int) ((n + r : Nat) : Int)) = (n : Int) := by omega
  have hBl : B.length = r * 14 := by have := hr.1; simp only [List.length_append, hZ, hA] at this; omega
  have hr0 := hr
  obtain ⟨_, ⟨rfl, h0⟩ | ⟨g, cap, cur, rfl, _, hg, hnc, hcm, hcz, hcur⟩⟩ := hr0
  · obtain rfl : f = 0 := by omega
    obtain rfl : n = 0 := by omega
    obtain rfl : r = 0 := by omega
    obtain rfl : A = [] := List.eq_nil_of_length_eq_zero (by omega)
    obtain rfl : B = [] := List.eq_nil_of_length_eq_zero (by omega)
    obtain rfl : Z = [] := List.eq_nil_of_length_eq_zero (by omega)
    have hco := count_any w x o 0 0 0 none c0 c1 (by omega) (by omega)
    have HB : Hid (w.heap[x]? = some (.cells cs t (0, 0)) ∧ x < w.heap.size ∧ cs[o]? = some (.slice none 0 0)) := ⟨hb, hxl, hv⟩
    have HO : Hid (w.ownsRow 0 37 14 (.slice oa N oc) N os) := ho
    have HNx : Hid ((Value.slice oa N oc).ownBlock ≠ some x) := hox
    have mm : max (0 : Int) (min (M : Int) 0) = 0 := by omega
    clear m1 hb hv hf hr ho hap hnx hox hZ hA hA1 hB1 hBl hxl
    go_enter Tryd.func27, Tryd.ntmps27
    go_wp2_with fail
    refine hco.mono ?_
    rintro e w1 ⟨rfl, hb1⟩
    have c01 := cell_below c0 hb1
    have c11 := cell_below c1 hb1
    have hx1 : w1.heap[x]? = some (.cells cs t (0, 0)) := (hb1.block x HB.out.2.1).trans HB.out.1
    have f11 : w1.frozen? ⟨x, o + 1, none⟩ = false := frozen_of_row _ _ _ _ _ hx1
    have HO1 : Hid (w1.ownsRow 0 37 14 (.slice oa N oc) N os) := own_blk HO.out (fun k hk => hb1.block k (HO.out.lt k hk).2)
    have HB1 : Hid (Below w.heap.size w w1 ∧ w1.heap[x]? = some (.cells cs t (0, 0))) := ⟨hb1, hx1⟩
    clear c0 c1 hb1 hco hx1
    go_wp2_with fail
    go_quiet (fail)
    have hcl : ∀ (ty : TypeId) (W : World), (Builtin.clear_ #[30] ty #[.slice none 0 0]).run Tryd.prog W = .ok (.tuple #[]) W := fun ty W => by simp [Builtin.clear_, run_underlying Tryd.underlying30]
    obtain ⟨W4, hW4⟩ : ∃ W, (w1.drewN nq).setCell ⟨x, o + 1, none⟩ (.int .i64 0) = W := ⟨_, rfl⟩
    have HW4 : Hid ((w1.drewN nq).setCell ⟨x, o + 1, none⟩ (.int .i64 0) = W4) := hW4
    have hb4 : W4.heap[x]? = some (.cells (cs.setIfInBounds (o + 1) (.int .i64 0)) t (0, 0)) := by rw [← hW4]; exact heap_setCell_same _ _ _ _ _ _ HB1.out.2
    have g4 : w1.grownBy W4 (some x) := by rw [← hW4]; have h := grown_set (w1.drewN nq) x (o + 1) (.int .i64 0); exact ⟨h.os, h.tape, h.output, h.size, h.block⟩
    have c04 : W4.cell? ⟨x, o, none⟩ = some (.slice none 0 0) := by rw [cell_of_row _ _ _ _ _ _ hb4, Array.getElem?_setIfInBounds_ne (by omega)]; exact HB.out.2.2
    have c14 : W4.cell? ⟨x, o + 1, none⟩ = some (.int .i64 0) := by rw [cell_of_row _ _ _ _ _ _ hb4]; simp [ho1]
    have HC4 : Hid (W4.cell? ⟨x, o + 1, none⟩ = some (.int .i64 0)) := c14
    have hc4 := count_any W4.drew x o 0 0 0 none c04 c14 (by omega) (by omega)
    have HE : Hid (∀ U : World, Below W4.heap.size W4 U → QT w U x o 0 0 N (.slice none 0 0) (.slice oa N oc) (.slice none 0 0) (.slice oa N oc) cs t [] [] os 0 []) := fun U hU => by
      have hx4 := (Array.getElem?_eq_some_iff.1 hb4).1
      have o4 : W4.ownsRow 0 37 14 (.slice oa N oc) N os := own_blk HO1.out (fun k hk => grown_blk g4 (HO1.out.lt k hk).2 (fun e => HNx.out (by rw [hk]; exact e.symm)))
      refine ⟨rfl, ?_, World.ownsRow_nil _ _ _ _, ?_, fun k hk => (by cases hk), fun k hk => .inl hk, fun k hk => (by cases hk), ?_⟩
      · rw [set_self (v := .slice none 0 0) HB.out.2.2]; exact (hU.block x hx4).trans hb4
      · rw [List.append_nil]; exact own_blk o4 (fun k hk => hU.block k (o4.lt k hk).2)
      · exact Kl.below ((Kl.of_below HB1.out.1).grown g4 (fun k hk => .inl (.inl (by simpa using hk.symm)))) hU
    clear hW4 hb4 g4 c04 c14
    go_wp2_with (at_builtin; refine wpList_append_own_none rfl _ _ 30 rfl 0 37 i0 14 Tryd.underlying30 hi (.slice oa N oc) N os rfl HO1.out rfl ?_)
    rw [HW4.out]
    go_region_held3 (fun V => V.cell? ⟨x, o + 1, none⟩ = some (.int .i64 0))
      (first | exact HC4.out | exact HU.out)
      (first
        | (go_at_call 34
           refine hc4.mono ?_
           rintro e U ⟨rfl, hbU⟩
           have HU : Hid (U.cell? ⟨x, o + 1, none⟩ = some (.int .i64 0)) := cell_below (w := W4.drew) HC4.out hbU
           have HBU : Hid (Below W4.heap.size W4 U) := ⟨hbU.os, hbU.tape, hbU.output, hbU.size, hbU.block⟩
           clear hbU))
    all_goals (
      go_wp2
      go_ret
      exact ⟨_, _, 0, [], rfl, by omega, HE.out _ HBU.out⟩)
  · obtain ⟨Q, hQ⟩ : ∃ Q, f + (n + r) = Q := ⟨_, rfl⟩
    obtain ⟨q, hq⟩ : ∃ q, n + r = q := ⟨_, rfl⟩
    have hqf : Q - f = q := by omega
    rw [hQ] at c0 hr hnc hn
    rw [hq] at m1
    have hco := count_any w x o Q cap f (some ⟨g, 0, none⟩) c0 c1 (by omega) (by omega)
    rw [hqf] at hco
    have HB : Hid (w.heap[x]? = some (.cells cs t (0, 0)) ∧ x < w.heap.size ∧ g ≠ x ∧ (Value.slice oa N oc).ownBlock ≠ some x ∧ g < w.heap.size ∧ (Value.slice oa N oc).ownBlock ≠ some g) := ⟨hb, hxl, fun e => hnx (by rw [← e]; rfl), hox, (hr.lt g rfl).2, hap g rfl⟩
    have HR : Hid (w.ownsRow 0 37 14 (.slice (some ⟨g, 0, none⟩) Q cap) Q (Z ++ (A ++ B))) := hr
    have HO : Hid (w.ownsRow 0 37 14 (.slice oa N oc) N os) := ho
    have HL : Hid (Z.length = f * 14 ∧ A.length = n * 14 ∧ B.length = r * 14 ∧ f + (n + r) = Q ∧ n + r = q ∧ (∀ u ∈ A, u.oneCell' = true) ∧ (∀ u ∈ B, u.oneCell' = true)) := ⟨hZ, hA, hBl, hQ, hq, hA1, hB1⟩
    obtain ⟨ad, had⟩ : ∃ ad, (if cap = f then some (⟨g, 0, none⟩ : Addr) else some ⟨g, f * 14, none⟩) = some ad := by split <;> exact ⟨_, rfl⟩
    have HAd : Hid (0 < n → ad = ⟨g, f * 14, none⟩) := fun h => by rw [if_neg (by omega)] at had; cases had; rfl
    obtain ⟨F, hF⟩ : ∃ F, f + n = F := ⟨_, rfl⟩
    have HF : Hid (f + n = F) := hF
    have hw1 : (f : Int) + (n : Int) = (F : Int) := by omega
    have hw2 : IntKind.i64.wrap (F : Int) = (F : Int) := by rw [IntKind.wrap_i64]; omega
    have l1 : (f : Int) ≤ (F : Int) := by omega
    have l2 : (F : Int) ≤ (cap : Int) := by omega
    have l3 : 0 ≤ (f : Int) := by omega
    have l4 : F - f = n := by omega
    have l5 : n ≤ 68719476736 := by omega
    have l6 : F + r = Q := by omega
    clear hF hb hv hf hr ho hap hnx hox hg hcz hcur hZ hA hA1 hB1 hBl hQ hq hxl hqf hM
    go_enter Tryd.func27, Tryd.ntmps27
    go_wp2_with fail
    refine hco.mono ?_
    rintro e w1 ⟨rfl, hb1⟩
    have c01 := cell_below c0 hb1
    have c11 := cell_below c1 hb1
    have HB1 : Hid (Below w.heap.size w w1) := hb1
    clear c0 c1 hb1 hco
    go_wp2_with fail
    go_quiet (fail)
    try rw [l4]
    have HR1 : Hid (w1.ownsRow 0 37 14 (.slice (some ⟨g, 0, none⟩) Q cap) Q (Z ++ (A ++ B))) := own_blk HR.out (fun k hk => HB1.out.block k (HR.out.lt k hk).2)
    have HO1 : Hid (w1.ownsRow 0 37 14 (.slice oa N oc) N os) := own_blk HO.out (fun k hk => HB1.out.block k (HO.out.lt k hk).2)
    have HC : Hid (∀ j u, A[j]? = some u → w1.cell? (ad.add j) = some u) := fun j u h => by
      have hj := (List.getElem?_eq_some_iff.mp h).1
      have hl := HL.out
      rw [HAd.out (by omega), addr_add]
      have := HR1.out.cells (g := g) rfl (f * 14 + j) u (by rw [List.getElem?_append_right (by omega), hl.1, Nat.add_sub_cancel_left, List.getElem?_append_left hj]; exact h)
      rwa [addr_add, Nat.zero_add] at this
    go_wp2_with (at_builtin; (refine wpList_append_own_at _ rfl _ _ 30 rfl 0 37 i0 _ 14 176 Tryd.underlying30 hi hz0 hz1 hz2 rfl (by decide) (.slice oa N oc) N os rfl HO1.out ad n (cap - f) A (by first | rfl | (simp [Act.eval]; done) | (simp [Act.eval]; omega)) HL.out.2.1 HC.out HL.out.2.2.2.2.2.1 (by unfold maxLen; omega) (by omega) (by simp) ?_))
    intro v' w2 hown2 hgrow2 hx2 hat2
    have ga : w1.grownBy w2 (Value.slice oa N oc).ownBlock := ⟨hgrow2.os, hgrow2.tape, hgrow2.output, hgrow2.size, hgrow2.block⟩
    have HR2 : w2.ownsRow 0 37 14 (.slice (some ⟨g, 0, none⟩) Q cap) Q (Z ++ (A ++ B)) := own_blk HR1.out (fun k hk => grown_blk ga (HR1.out.lt k hk).2 (fun e => HB.out.2.2.2.2.2 (by simp only [Value.ownBlock, Option.some.injEq] at hk; rw [hk]; exact e)))
    obtain ⟨w3, Z3, hcl, ho3, hz3, hg3⟩ := clear_any w2 g f n cap Q (cap - f) ad Z A B HR2 HL.out.1 HL.out.2.1 HAd.out
    have hbw : w1.heap[x]? = some (.cells cs t (0, 0)) := (HB1.out.block x HB.out.2.1).trans HB.out.1
    have hb3 : w3.heap[x]? = some (.cells cs t (0, 0)) := (grown_blk hg3 (Nat.lt_of_lt_of_le (Array.getElem?_eq_some_iff.1 hbw).1 ga.size) (fun e => HB.out.2.2.1 (by simpa using e))).trans ((grown_blk ga (Array.getElem?_eq_some_iff.1 hbw).1 HB.out.2.2.2.1).trans hbw)
    have c13 : w3.cell? ⟨x, o + 1, none⟩ = some (.int .i64 f) := (World.cell?_of_block (a := ⟨x, o + 1, none⟩) (hb3.trans hbw.symm)).trans c11
    have f13 : w3.frozen? ⟨x, o + 1, none⟩ = false := frozen_of_row _ _ _ _ _ hb3
    obtain ⟨W4, hW4⟩ : ∃ W, w3.setCell ⟨x, o + 1, none⟩ (.int .i64 (F : Int)) = W := ⟨_, rfl⟩
    have HW4 : Hid (w3.setCell ⟨x, o + 1, none⟩ (.int .i64 (F : Int)) = W4) := hW4
    have hb4 : W4.heap[x]? = some (.cells (cs.setIfInBounds (o + 1) (.int .i64 F)) t (0, 0)) := by rw [← hW4]; exact heap_setCell_same _ _ _ _ _ _ hb3
    have g4 : w3.grownBy W4 (some x) := by rw [← hW4]; exact grown_set _ _ _ _
    have c04 : W4.cell? ⟨x, o, none⟩ = some (.slice (some ⟨g, 0, none⟩) Q cap) := by
      rw [cell_of_row _ _ _ _ _ _ hb4, Array.getElem?_setIfInBounds_ne (by omega), ← cell_of_row _ _ o _ _ _ hbw]; exact c01
    have c14 : W4.cell? ⟨x, o + 1, none⟩ = some (.int .i64 F) := by rw [cell_of_row _ _ _ _ _ _ hb4]; simp [ho1]
    have HE : Hid (∀ U : World, Below W4.heap.size W4 U → U.heap[x]? = some (.cells (cs.setIfInBounds (o + 1) (.int .i64 F)) t (0, 0)) ∧ U.ownsRow 0 37 14 (.slice (some ⟨g, 0, none⟩) Q cap) Q (Z3 ++ B) ∧ U.ownsRow 0 37 14 v' (N + n) (os ++ A) ∧ Kl (fun k => k = x ∨ (Value.slice (some ⟨g, 0, none⟩) Q cap).ownBlock = some k ∨ (Value.slice oa N oc).ownBlock = some k) w U ∧ (∀ k, v'.ownBlock = some k → (Value.slice oa N oc).ownBlock = some k ∨ w.heap.size ≤ k) ∧ (∀ k, v'.ownBlock = some k → k < U.heap.size ∧ k ≠ g)) := fun U hU => by
      have hx4 := (Array.getElem?_eq_some_iff.1 hb4).1
      have hgo : ∀ k, v'.ownBlock = some k → k ≠ g := fun k hk e => by
        subst e
        rcases hat2 with e | e
        · exact HB.out.2.2.2.2.2 (by rw [← e]; exact hk)
        · rw [hk] at e
          simp at e
          have := HB1.out.size
          have := HB.out.2.2.2.2.1
          omega
      have o2 : w3.ownsRow 0 37 14 v' (N + n) (os ++ A) := own_blk hown2 (fun k hk => grown_blk hg3 (hown2.lt k hk).2 (fun e => hgo k hk (by simpa using e.symm)))
      have o4 : W4.ownsRow 0 37 14 v' (N + n) (os ++ A) := own_blk o2 (fun k hk => grown_blk g4 (o2.lt k hk).2 (fun e => own_hp o2 hb3 ht (by rw [hk, ← e])))
      have r4 : W4.ownsRow 0 37 14 (.slice (some ⟨g, 0, none⟩) Q cap) Q (Z3 ++ B) := own_blk ho3 (fun k hk => grown_blk g4 (ho3.lt k hk).2 (fun e => own_hp ho3 hb3 ht (by rw [hk, ← e])))
      refine ⟨(hU.block x hx4).trans hb4, own_blk r4 (fun k hk => hU.block k (r4.lt k hk).2), own_blk o4 (fun k hk => hU.block k (o4.lt k hk).2), ?_, fun k hk => ?_, fun k hk => ⟨Nat.lt_of_lt_of_le (o4.lt k hk).2 hU.size, hgo k hk⟩⟩
      · refine Kl.below ((((Kl.of_below HB1.out).grown ga (fun k hk => .inl (.inr (.inr hk)))).grown hg3 (fun k hk => .inl (.inr (.inl hk)))).grown g4 (fun k hk => .inl (.inl (by simpa using hk.symm)))) hU
      · rcases hat2 with e | e
        · exact .inl (e ▸ hk)
        · rw [hk] at e
          simp at e
          have := HB1.out.size
          exact .inr (by omega)
    obtain ⟨va, vc, hv'⟩ := own_sl hown2
    subst hv'
    have hz3' : Hid (Z3.length = F * 14 ∧ (cs[o]? = some (.slice (some ⟨g, 0, none⟩) Q cap))) := ⟨by rw [← HF.out]; exact hz3, by rw [← cell_of_row _ _ o _ _ _ hbw]; exact c01⟩
    have hc4 := count_any W4.drew x o Q cap F (some ⟨g, 0, none⟩) c04 c14 (by omega) (by omega)
    rw [show Q - F = r by omega] at hc4
    have HC4 : Hid (W4.cell? ⟨x, o + 1, none⟩ = some (.int .i64 F)) := c14
    clear hown2 hgrow2 hx2 hat2 ga HR2 ho3 hg3 hb3 hbw hW4 hb4 g4 c01 c11 HC HO1 HR1 hz3
    by_cases hgt : r < F
    · have hgt' : (r : Int) < (F : Int) := by omega
      go_wp2_with fail
      rw [HW4.out]
      go_region_held3 (fun V => V.cell? ⟨x, o + 1, none⟩ = some (.int .i64 F))
        (first | exact HC4.out | exact HU.out)
        (first
          | (go_at_call 34
             refine hc4.mono ?_
             rintro e U ⟨rfl, hbU⟩
             have HU : Hid (U.cell? ⟨x, o + 1, none⟩ = some (.int .i64 F)) := cell_below (w := W4.drew) HC4.out hbU
             have HBU : Hid (Below W4.heap.size W4 U) := ⟨hbU.os, hbU.tape, hbU.output, hbU.size, hbU.block⟩
             clear hbU))
      all_goals (
        go_wp2_with fail
        obtain ⟨e1, e2, e3, e4, e5, e6⟩ := HE.out _ HBU.out
        have hp := qpack_any U x o F r (.slice (some ⟨g, 0, none⟩) Q cap) Z3 B _ t e1 ht (by rw [Array.getElem?_setIfInBounds_ne (by omega)]; exact hz3'.out.2) (by simp [ho1]) hz3'.out.1 (by rw [l6]; exact e2) HL.out.2.2.2.2.2.2 (by omega)
        refine hp.mono ?_
        rintro e U2 ⟨⟨u, rfl⟩, v2, h2⟩
        have HF2 : Hid (QT w U2 x o n r N (.slice (some ⟨g, 0, none⟩) (f + (n + r)) cap) (.slice oa N oc) v2 (.slice va (N + n) vc) cs t A B os 0 []) := by
          refine ⟨rfl, ?_, by rw [Nat.zero_add]; exact h2.row, own_blk e3 (fun k hk => h2.kl.block k (e3.lt k hk).2 (fun e => ?_)), fun k hk => ?_, e5, fun k hk e => ?_, ?_⟩
          · rw [← set_swap]; exact h2.box
          · rcases e with e | e
            · exact own_hp e3 e1 ht (by rw [hk, e])
            · exact (e6 k hk).2 (by simpa [Value.ownBlock] using e.symm)
          · rcases h2.at' k hk with e | e
            · rw [HL.out.2.2.2.1]; exact .inl e
            · exact .inr (Nat.le_trans e4.size e)
          · rcases h2.at' k hk with e' | e'
            · exact (e6 k e).2 (by simpa [Value.ownBlock] using e'.symm)
            · have := (e6 k e).1; omega
          · rw [HL.out.2.2.2.1]
            exact e4.then h2.kl (fun k hk e => e.elim .inl (fun e => .inr (.inl e)))
        clear h2 e1 e2 e3 e4 e5 e6 hp
        go_wp2
        go_ret
        exact ⟨_, _, 0, [], rfl, by omega, HF2.out⟩)
    · have hgt' : ¬ (r : Int) < (F : Int) := by omega
      go_wp2_with fail
      rw [HW4.out]
      go_region_held3 (fun V => V.cell? ⟨x, o + 1, none⟩ = some (.int .i64 F))
        (first | exact HC4.out | exact HU.out)
        (first
          | (go_at_call 34
             refine hc4.mono ?_
             rintro e U ⟨rfl, hbU⟩
             have HU : Hid (U.cell? ⟨x, o + 1, none⟩ = some (.int .i64 F)) := cell_below (w := W4.drew) HC4.out hbU
             have HBU : Hid (Below W4.heap.size W4 U) := ⟨hbU.os, hbU.tape, hbU.output, hbU.size, hbU.block⟩
             clear hbU))
      all_goals (
        go_wp2
        go_ret
        obtain ⟨e1, e2, e3, e4, e5, e6⟩ := HE.out _ HBU.out
        refine ⟨_, _, F, Z3, rfl, by have := HF.out; omega, hz3'.out.1, ?_, ?_, e3, fun k hk => .inl (by rw [HL.out.2.2.2.1]; exact hk), e5, fun k hk e => (e6 k e).2 (by simpa [Value.ownBlock] using hk.symm), ?_⟩
        · rw [set_self (v := .slice (some ⟨g, 0, none⟩) Q cap) hz3'.out.2]; exact e1
        · rw [l6]; exact e2
        · rw [HL.out.2.2.2.1]; exact e4)

end Go.Proofs.YtdfdaambfihjaaaDoor.L
