import Derived.Test.YtkkmoplijicmpabDoorPq3
import Derived.Test.YtkkmoplijicmpabDoorParse
namespace Go.Proofs.YtkkmoplijicmpabDoor
open Go.RowKit
set_option linter.unusedVariables false
set_option linter.unusedSimpArgs false

theorem size_sgq : (Tryd.prog.info? 28).map (·.size) = some 14 := by kernel_rfl
/-- What a whole struct's store wants. -/
def StorQ (P : Program) (ty : TypeId) (w : World) (vx vy : Value) : Prop := ∃ (g : Nat) (cells old : Array Value) (t : TypeId), vx = .pointer (some ⟨g, 0, none⟩) ∧ vy = .agg cells ∧ w.heap[g]? = some (.cells old t (0, 0)) ∧ old.size = cells.size ∧ (P.info? ty).map (·.size) = some cells.size ∧ cells.all (·.oneCell') = true
def pBlkQ : Value → Nat
  | .pointer (some a) => a.block
  | _ => 0
def pAggQ : Value → Array Value
  | .agg c => c
  | _ => #[]
theorem pBlkQ_ptr (a : Addr) : pBlkQ (.pointer (some a)) = a.block := rfl
theorem pAggQ_agg (c : Array Value) : pAggQ (.agg c) = c := rfl
/-- A store of a whole struct into a block of its own: one step. -/
theorem wp_storeQ {P : Program} {ty tp : TypeId} {x y : Operand} {d : Option Tmp} {ps : String} {af : Array Edge} {a : Act} {w : World} {K : Act → World → Prop} {Q : Exit → Act → World → Prop}
    (hs : StorQ P ty w (a.eval x) (a.eval y)) :
    Oper.wp P { dst := d, op := .store ty x y, type := tp, pos := ps, after := af, guard := none } a w K Q = K (a.put d undef) (w.setRow (pBlkQ (a.eval x)) (pAggQ (a.eval y))) := by
  obtain ⟨g, cells, old, t, hx, hy, hg, ho, hi, h1⟩ := hs
  have hr := run_storeVar_row (P := P) w g t ty old cells hg hi ho h1
  unfold Oper.wp execOp
  simp only [hx, hy, pBlkQ_ptr, pAggQ_agg, Instr.storeAt, Instr.sureAddr, Sem.run_bind, Sem.run_pure, Result.andThen_ok, hr]
  rfl
attribute [local go_sem ↓] wp_storeQ
attribute [local go_sem] pBlkQ_ptr pAggQ_agg

abbrev sC (s : Sg) (hv tv dv cv : Value) : Array Value := #[.int .i64 s.typ, .int .i64 s.org, .int .i64 s.num, hv, tv, .int .i64 s.srv, .int .i64 s.off, dv, .int .i64 s.chk, .int .i64 s.rep, .int .i64 s.upp, .int .i64 s.low, cv, .int .i64 s.rsn]
abbrev zC : Array Value := #[.int .i64 0, .int .i64 0, .int .i64 0, .slice none 0 0, .slice none 0 0, .int .i64 0, .int .i64 0, .slice none 0 0, .int .i64 0, .int .i64 0, .int .i64 0, .int .i64 0, .slice none 0 0, .int .i64 0]
abbrev nlQ : Value := .slice none 0 0

theorem q14_cells {W : World} {g : Nat} {v0 v1 v2 v3 v4 v5 v6 v7 v8 v9 v10 v11 v12 v13 : Value} {t : TypeId} (h : W.heap[g]? = some (.cells #[v0, v1, v2, v3, v4, v5, v6, v7, v8, v9, v10, v11, v12, v13] t (0, 0))) :
    W.cell? ⟨g, 0, none⟩ = some v0 ∧ W.cell? ⟨g, 1, none⟩ = some v1 ∧ W.cell? ⟨g, 2, none⟩ = some v2 ∧ W.cell? ⟨g, 3, none⟩ = some v3 ∧ W.cell? ⟨g, 4, none⟩ = some v4 ∧ W.cell? ⟨g, 5, none⟩ = some v5 ∧ W.cell? ⟨g, 6, none⟩ = some v6 ∧ W.cell? ⟨g, 7, none⟩ = some v7 ∧ W.cell? ⟨g, 8, none⟩ = some v8 ∧ W.cell? ⟨g, 9, none⟩ = some v9 ∧ W.cell? ⟨g, 10, none⟩ = some v10 ∧ W.cell? ⟨g, 11, none⟩ = some v11 ∧ W.cell? ⟨g, 12, none⟩ = some v12 ∧ W.cell? ⟨g, 13, none⟩ = some v13 :=
  ⟨(cell_of_row _ _ _ _ _ _ h).trans rfl, (cell_of_row _ _ _ _ _ _ h).trans rfl, (cell_of_row _ _ _ _ _ _ h).trans rfl, (cell_of_row _ _ _ _ _ _ h).trans rfl, (cell_of_row _ _ _ _ _ _ h).trans rfl, (cell_of_row _ _ _ _ _ _ h).trans rfl, (cell_of_row _ _ _ _ _ _ h).trans rfl, (cell_of_row _ _ _ _ _ _ h).trans rfl, (cell_of_row _ _ _ _ _ _ h).trans rfl, (cell_of_row _ _ _ _ _ _ h).trans rfl, (cell_of_row _ _ _ _ _ _ h).trans rfl, (cell_of_row _ _ _ _ _ _ h).trans rfl, (cell_of_row _ _ _ _ _ _ h).trans rfl, (cell_of_row _ _ _ _ _ _ h).trans rfl⟩

/-- Within a reader's call that has a segment: the reader, the segment's block, the answer's. -/
structure Dq (w W : World) (b : Nat) (a : Option Addr) (len cap : Nat) (zs : List Int) (st : St) (S : Array Value) : Prop where
  aq : Aq W b a len cap zs st
  seg : W.heap[w.heap.size]? = some (.cells S 28 (0, 0))
  res : W.heap[w.heap.size + 1]? = some (.cells zC 28 (0, 0))
  grown : w.grownBy W (some b)
  low : b < w.heap.size
  size : w.heap.size + 2 ≤ W.heap.size

theorem Dq.start {w : World} {b len cap : Nat} {a : Option Addr} {zs : List Int} {st : St} (S : Array Value) (h : Aq w b a len cap zs st) : Dq w ((w.alloc (.cells S 28)).alloc (.cells zC 28)) b a len cap zs st S := by
  have hb : Below w.heap.size w ((w.alloc (.cells S 28)).alloc (.cells zC 28)) := ((Below.refl _ _).alloc (Nat.le_refl _) _).alloc (by simp) _
  refine ⟨h.other hb, ?_, ?_, below_grown hb, h.lt, by simp⟩
  · exact (((Below.refl (w.heap.size + 1) (w.alloc (.cells S 28))).alloc (by simp) _).block _ (by omega)).trans (heap_alloc_new' _ _)
  · have := heap_alloc_new' (w.alloc (.cells S 28)) (.cells zC 28)
    rwa [World.size_alloc] at this
theorem Dq.step {w W W' : World} {b len cap : Nat} {a : Option Addr} {zs : List Int} {st st' : St} {S : Array Value} (h : Dq w W b a len cap zs st S) (ha : Aq W' b a len cap zs st') (hg : W.grownBy W' (some b)) : Dq w W' b a len cap zs st' S :=
  ⟨ha, (hg.block _ (by have := h.size; omega) (by have := h.low; simp; omega)).trans h.seg, (hg.block _ (by have := h.size; omega) (by have := h.low; simp; omega)).trans h.res, grown_trans h.grown hg, h.low, Nat.le_trans h.size hg.size⟩
theorem Dq.put {w W : World} {b len cap : Nat} {a : Option Addr} {zs : List Int} {st : St} {S : Array Value} (h : Dq w W b a len cap zs st S) (i : Nat) (u : Value) (S' : Array Value) (hS : S' = S.setIfInBounds i u) : Dq w (W.setCell ⟨w.heap.size, i, none⟩ u) b a len cap zs st S' := by
  subst hS
  refine ⟨h.aq.still (grown_set _ _ _ _) h.low, ?_, ?_, grown_step h.grown (grown_set _ _ _ _) (by simp), h.low, by simpa [World.setCell] using h.size⟩
  · simp [World.setCell, Array.getElem?_modify, h.seg]
  · exact (heap_setCell_other _ _ _ _ (by show w.heap.size + 1 ≠ w.heap.size; omega)).trans h.res
theorem Dq.other {w W W' : World} {b len cap : Nat} {a : Option Addr} {zs : List Int} {st : St} {S : Array Value} {row : Option Nat} (h : Dq w W b a len cap zs st S) (hg : W.grownBy W' row) (hr : ∀ k, row = some k → w.heap.size + 2 ≤ k) : Dq w W' b a len cap zs st S := by
  have hb : Below (w.heap.size + 2) W W' := ⟨hg.os, hg.tape, hg.output, hg.size, fun k hk => hg.block k (by have := h.size; omega) (fun e => by have := hr k e.symm; omega)⟩
  exact ⟨h.aq.keep (hb.mono (by have := h.low; omega)), (hb.block _ (by omega)).trans h.seg, (hb.block _ (by omega)).trans h.res, grown_step h.grown hg (fun k hk => by have := hr k hk; omega), h.low, Nat.le_trans h.size hg.size⟩
theorem Dq.fz {w W : World} {b len cap : Nat} {a : Option Addr} {zs : List Int} {st : St} {S : Array Value} (h : Dq w W b a len cap zs st S) (i : Nat) : W.frozen? ⟨w.heap.size, i, none⟩ = false := frozen_of_row _ _ i _ _ h.seg
/-- The answer is laid. -/
theorem Dq.done {w W : World} {b len cap : Nat} {a : Option Addr} {zs : List Int} {st : St} {S T : Array Value} (h : Dq w W b a len cap zs st S) :
    Aq (W.setRow (w.heap.size + 1) T) b a len cap zs st ∧ w.grownBy (W.setRow (w.heap.size + 1) T) (some b) ∧ (W.setRow (w.heap.size + 1) T).heap[w.heap.size + 1]? = some (.cells T 28 (0, 0)) :=
  ⟨h.aq.still (grown_setRow _ _ _) (by have := h.low; omega), grown_step h.grown (grown_setRow _ _ _) (by simp), setRow_heap _ _ _ _ _ _ h.res⟩

theorem dec3 (t : Int) : decide (1 ≤ t ∧ t ≤ 3) = (decide (1 ≤ t) && decide (t ≤ 3)) := by simp
set_option maxHeartbeats 400000 in
theorem chkq_any (t : Int) (w : World) : Calls Tryd.prog 50 #[.int .i64 t] w fun e w' => e = .returned (.bool (decide (1 ≤ t ∧ t ≤ 3))) ∧ w = w' := by
  by_cases h1 : 1 ≤ t <;> by_cases h2 : t ≤ 3
  all_goals
    have HB : Hid (decide (1 ≤ t ∧ t ≤ 3) = (decide (1 ≤ t) && decide (t ≤ 3))) := dec3 t
    generalize decide (1 ≤ t ∧ t ≤ 3) = q at *
    go_enter Tryd.func50, Tryd.ntmps50
    go_wp2
    go_ret
    refine ⟨?_, rfl⟩
    rw [HB.out]
    simp [h1, h2]
def isD (t : Int) : Bool := (decide (0 ≤ t) && decide (t ≤ 4)) || (t == 7)
set_option maxHeartbeats 400000 in
theorem datk_any (t : Int) (w : World) : Calls Tryd.prog 49 #[.int .i64 t] w fun e w' => e = .returned (.bool (isD t)) ∧ w = w' := by
  by_cases h1 : 0 ≤ t <;> by_cases h2 : t ≤ 4 <;> by_cases h3 : t = 7
  all_goals
    have h3' : (t == 7) = decide (t = 7) := rfl
    have HB : Hid (isD t = ((decide (0 ≤ t) && decide (t ≤ 4)) || (t == 7))) := rfl
    generalize isD t = q at *
    go_enter Tryd.func49, Tryd.ntmps49
    go_wp2
    go_ret
    refine ⟨?_, rfl⟩
    rw [HB.out]
    simp [h1, h2, h3]
def isK (t : Int) : Bool := ((decide (0 ≤ t) && decide (t ≤ 4)) || (decide (7 ≤ t) && decide (t ≤ 9))) || (decide (12 ≤ t) && decide (t ≤ 15))
set_option maxHeartbeats 1000000 in
theorem knwq_any (t : Int) (w : World) : Calls Tryd.prog 22 #[.int .i64 t] w fun e w' => e = .returned (.bool (isK t)) ∧ w = w' := by
  by_cases h1 : 0 ≤ t <;> by_cases h2 : t ≤ 4 <;> by_cases h3 : 7 ≤ t <;> by_cases h4 : t ≤ 9 <;> by_cases h5 : 12 ≤ t <;> by_cases h6 : t ≤ 15
  all_goals try (exfalso; omega)
  all_goals
    have HB : Hid (isK t = (((decide (0 ≤ t) && decide (t ≤ 4)) || (decide (7 ≤ t) && decide (t ≤ 9))) || (decide (12 ≤ t) && decide (t ≤ 15)))) := rfl
    generalize isK t = q at *
    go_enter Tryd.func22, Tryd.ntmps22
    go_wp2
    go_ret
    refine ⟨?_, rfl⟩
    rw [HB.out]
    simp [h1, h2, h3, h4, h5, h6]

/-- What a segment's fields come to. -/
def ContQ (b : Nat) (a : Option Addr) (len cap : Nat) (zs : List Int) (st : St) (p : Pr Sg) (s : Sg) (hv tv : Value) (w : World) (e : Ending) (w' : World) : Prop :=
  ∃ s' ad cd ac cc st', e = .returned (.agg (sC s' hv tv (.slice ad s'.data.length cd) (.slice ac s'.clm.length cc))) ∧ Aq w' b a len cap zs st' ∧ Mid w' w.heap.size s' (.slice ad s'.data.length cd) (.slice ac s'.clm.length cc) ∧ w.grownBy w' (some b) ∧ Step zs p st s' st' ∧ s'.head = s.head ∧ (st'.1 = 0 → st.1 = 0)

end Go.Proofs.YtkkmoplijicmpabDoor
