import Derived.Test.YtillgoegiplmkaaGreatDoorTbDb
import Derived.Deep.CutBlock
import Derived.BigRegion
import Derived.Laws.Rows
namespace Go.Proofs.YtillgoegiplmkaaGreatDoor.B
open C
open Go.RowKit Go.Maps
set_option linter.unusedVariables false
set_option linter.unusedSimpArgs false

/-- A record's cells, its lists where they lie. -/
def rcc (x : Rc × Value × Value) : List Value := [.int .i64 x.1.kind, .int .i64 x.1.org, .int .i64 x.1.num, .int .i64 x.1.peer, .int .i64 x.1.srv, .int .i64 x.1.off, .int .i64 x.1.red, .int .i64 x.1.size, .int .i64 x.1.how, x.2.1, x.2.2]
abbrev RrR (W : World) (lo : Nat) (v : Value) (R : List (Rc × Value × Value)) : Prop := W.ownsRow lo 35 11 v R.length (R.flatMap rcc)
abbrev nilV : Value := .slice none 0 0
theorem rr_new (w : World) (R : List (Rc × Value × Value)) (n : Nat) (hn : R.length = n) (h0 : 0 < n) (hm : n ≤ 1048576) {lo : Nat} (hlo : lo ≤ w.heap.size) : RrR (w.alloc (.cells (R.flatMap rcc).toArray 35)) lo (.slice (some ⟨w.heap.size, 0, none⟩) n n) R := by
  have hl : ∀ L : List (Rc × Value × Value), (L.flatMap rcc).length = L.length * 11 := fun L => by
    induction L with
    | nil => rfl
    | cons x r ih => simp only [List.flatMap_cons, List.length_append, List.length_cons, ih]; show 11 + r.length * 11 = _; omega
  subst hn
  exact ⟨hl R, .inr ⟨w.heap.size, R.length, _, rfl, hlo, heap_alloc_new' w _, Nat.le_refl _, by unfold maxLen; omega, by simp only [List.size_toArray]; exact hl R, by rw [← hl R]; exact List.take_length⟩⟩
set_option maxRecDepth 8000 in
set_option maxHeartbeats 4000000 in
theorem of8_any (k s1 s2 : Int) (w : World) : Calls Tryz.prog 88 #[.int .i64 k, .agg #[.int .i64 s1, .int .i64 s2]] w fun e w' => e = .returned (.agg #[.int .i64 k, .int .i64 s1, .int .i64 s2, .int .i64 0, .int .i64 0, .int .i64 0, .int .i64 0, .int .i64 0, .int .i64 0, .slice none 0 0, .slice none 0 0]) ∧ Below w.heap.size w w' := by
  have HB : Hid (Below w.heap.size w ((w.alloc (.cells #[.int .i64 s1, .int .i64 s2] 31)).alloc (.cells #[.int .i64 k, .int .i64 s1, .int .i64 s2, .int .i64 0, .int .i64 0, .int .i64 0, .int .i64 0, .int .i64 0, .int .i64 0, .slice none 0 0, .slice none 0 0] 35))) := ((Below.refl _ _).alloc (Nat.le_refl _) _).alloc (by simp) _
  have HR : Hid (((w.alloc (.cells #[.int .i64 s1, .int .i64 s2] 31)).alloc (.cells #[.int .i64 k, .int .i64 s1, .int .i64 s2, .int .i64 0, .int .i64 0, .int .i64 0, .int .i64 0, .int .i64 0, .int .i64 0, .slice none 0 0, .slice none 0 0] 35)).heap[w.heap.size + 1]? = some (.cells #[.int .i64 k, .int .i64 s1, .int .i64 s2, .int .i64 0, .int .i64 0, .int .i64 0, .int .i64 0, .int .i64 0, .int .i64 0, .slice none 0 0, .slice none 0 0] 35 (0, 0))) := by have := heap_alloc_new' (w.alloc (.cells #[.int .i64 s1, .int .i64 s2] 31)) (.cells #[.int .i64 k, .int .i64 s1, .int .i64 s2, .int .i64 0, .int .i64 0, .int .i64 0, .int .i64 0, .int .i64 0, .int .i64 0, .slice none 0 0, .slice none 0 0] 35); rwa [World.size_alloc] at this
  go_enter Tryz.func88, Tryz.ntmps88
  go_wp2
  refine bodyPost_ret (results_cell_row (fn := Tryz.f88) (p := 4) (ty := 35) rfl _ _ (w.heap.size + 1) _ _ _ _ rfl HR.out Tryz.underlying35 rfl (by kernel_rfl)) rfl ?_
  exact ⟨rfl, HB.out⟩
set_option maxRecDepth 8000 in
set_option maxHeartbeats 4000000 in
theorem bootOf_any (id boots next : Int) (a1 a2 a3 : Option Addr) (n1 n2 n3 c1 c2 c3 : Nat) (w : World) : Calls Tryz.prog 51 #[.agg #[.int .i64 id, .int .i64 boots, .int .i64 next, .slice a1 n1 c1, .slice a2 n2 c2, .slice a3 n3 c3]] w fun e w' => ∃ a n c, e = .returned (.slice a n c) ∧ RrR w' w.heap.size (.slice a n c) (if id = 0 then [] else [({ rc0 1 (id, 0) with size := boots }, nilV, nilV)]) ∧ Below w.heap.size w w' := by
  by_cases h0 : id = 0
  · subst h0
    have HB : Hid (Below w.heap.size w (w.alloc (.cells #[.int .i64 0, .int .i64 boots, .int .i64 next, .slice a1 n1 c1, .slice a2 n2 c2, .slice a3 n3 c3] 58))) := (Below.refl _ _).alloc (Nat.le_refl _) _
    go_enter Tryz.func51, Tryz.ntmps51
    go_wp2
    go_ret
    exact ⟨_, _, _, rfl, World.ownsRow_nil _ _ _ _, HB.out⟩
  · have h0' : (id == 0) = false := by simp [h0]
    have hd : decide (id = 0) = false := by simp [h0]
    obtain ⟨V, hV⟩ : ∃ V, w.alloc (.cells #[.int .i64 id, .int .i64 boots, .int .i64 next, .slice a1 n1 c1, .slice a2 n2 c2, .slice a3 n3 c3] 58) = V := ⟨_, rfl⟩
    have HV : Hid (w.alloc (.cells #[.int .i64 id, .int .i64 boots, .int .i64 next, .slice a1 n1 c1, .slice a2 n2 c2, .slice a3 n3 c3] 58) = V) := hV
    have hb : Below w.heap.size w V := by rw [← hV]; exact (Below.refl _ _).alloc (Nat.le_refl _) _
    have hh : V.heap[w.heap.size]? = some (.cells #[.int .i64 id, .int .i64 boots, .int .i64 next, .slice a1 n1 c1, .slice a2 n2 c2, .slice a3 n3 c3] 58 (0, 0)) := by rw [← hV]; exact heap_alloc_new' w _
    have k0 : V.cell? ⟨w.heap.size, 0, none⟩ = some (.int .i64 id) := (cell_of_row _ _ _ _ _ _ hh).trans rfl
    have k1 : V.cell? ⟨w.heap.size, 1, none⟩ = some (.int .i64 boots) := (cell_of_row _ _ _ _ _ _ hh).trans rfl
    have HE : Hid (RrR (V.alloc (.cells #[.int .i64 1, .int .i64 id, .int .i64 0, .int .i64 0, .int .i64 0, .int .i64 0, .int .i64 0, .int .i64 boots, .int .i64 0, .slice none 0 0, .slice none 0 0] 35)) w.heap.size (.slice (some ⟨V.heap.size, 0, none⟩) 1 1) [({ rc0 1 (id, 0) with size := boots }, nilV, nilV)] ∧ Below w.heap.size w (V.alloc (.cells #[.int .i64 1, .int .i64 id, .int .i64 0, .int .i64 0, .int .i64 0, .int .i64 0, .int .i64 0, .int .i64 boots, .int .i64 0, .slice none 0 0, .slice none 0 0] 35))) := ⟨rr_new V _ 1 rfl (by omega) (by omega) hb.size, hb.alloc hb.size _⟩
    have H0 : Hid (¬ id = 0) := h0
    clear h0 hV hb hh
    go_enter Tryz.func51, Tryz.ntmps51
    go_upto_region 1 with fail
    rw [HV.out]
    go_wp2
    go_ret
    exact ⟨_, _, _, rfl, by first | exact HE.out.1 | (rw [if_neg H0.out]; exact HE.out.1), HE.out.2⟩
/-- An export's records, with the list of its bytes. -/
def exV (p : Og × Value) : List (Rc × Value × Value) := ({ rc0 3 p.1.s with peer := p.1.peer, srv := p.1.srv, red := p.1.red, size := p.1.size, data := p.1.data }, nilV, p.2) :: (if p.1.ended = true then [({ rc0 4 p.1.s with how := p.1.how }, nilV, nilV)] else [])
set_option maxRecDepth 8000 in
set_option maxHeartbeats 4000000 in
theorem exportOf_any (o : Og) (av : Option Addr) (nv cv : Nat) (w : World) : Calls Tryz.prog 87 #[oV o (.slice av nv cv)] w fun e w' => ∃ a n c, e = .returned (.slice a n c) ∧ RrR w' w.heap.size (.slice a n c) (exV (o, .slice av nv cv)) ∧ Below w.heap.size w w' := by
  obtain ⟨V, hV⟩ : ∃ V, w.alloc (.cells #[.int .i64 o.org, .int .i64 o.num, .int .i64 o.peer, .int .i64 o.srv, .int .i64 o.red, .int .i64 o.size, .slice av nv cv, .bool o.ended, .int .i64 o.how] 110) = V := ⟨_, rfl⟩
  have HV : Hid (w.alloc (.cells #[.int .i64 o.org, .int .i64 o.num, .int .i64 o.peer, .int .i64 o.srv, .int .i64 o.red, .int .i64 o.size, .slice av nv cv, .bool o.ended, .int .i64 o.how] 110) = V) := hV
  have hbV : Below w.heap.size w V := by rw [← hV]; exact (Below.refl _ _).alloc (Nat.le_refl _) _
  have hhV : V.heap[w.heap.size]? = some (.cells #[.int .i64 o.org, .int .i64 o.num, .int .i64 o.peer, .int .i64 o.srv, .int .i64 o.red, .int .i64 o.size, .slice av nv cv, .bool o.ended, .int .i64 o.how] 110) := by rw [← hV]; exact heap_alloc_new' w _
  have HOf : Hid (∀ (k : Int) (U : World), Calls Tryz.prog 88 #[.int .i64 k, .agg #[.int .i64 o.org, .int .i64 o.num]] U fun e w' => e = .returned (.agg #[.int .i64 k, .int .i64 o.org, .int .i64 o.num, .int .i64 0, .int .i64 0, .int .i64 0, .int .i64 0, .int .i64 0, .int .i64 0, .slice none 0 0, .slice none 0 0]) ∧ Below U.heap.size U w') := fun k U => of8_any k o.org o.num U
  have HC : Hid (∀ U : World, U.heap[w.heap.size]? = some (.cells #[.int .i64 o.org, .int .i64 o.num, .int .i64 o.peer, .int .i64 o.srv, .int .i64 o.red, .int .i64 o.size, .slice av nv cv, .bool o.ended, .int .i64 o.how] 110) → U.cell? ⟨w.heap.size, 0, none⟩ = some (.int .i64 o.org) ∧ U.cell? ⟨w.heap.size, 1, none⟩ = some (.int .i64 o.num) ∧ U.cell? ⟨w.heap.size, 2, none⟩ = some (.int .i64 o.peer) ∧ U.cell? ⟨w.heap.size, 3, none⟩ = some (.int .i64 o.srv) ∧ U.cell? ⟨w.heap.size, 4, none⟩ = some (.int .i64 o.red) ∧ U.cell? ⟨w.heap.size, 5, none⟩ = some (.int .i64 o.size) ∧ U.cell? ⟨w.heap.size, 6, none⟩ = some (.slice av nv cv) ∧ U.cell? ⟨w.heap.size, 7, none⟩ = some (.bool o.ended) ∧ U.cell? ⟨w.heap.size, 8, none⟩ = some (.int .i64 o.how)) := fun U q => by
    refine ⟨?_, ?_, ?_, ?_, ?_, ?_, ?_, ?_, ?_⟩ <;> exact (cell_of_row _ _ _ _ _ _ q).trans rfl
  obtain ⟨c0, c1, c2, c3, c4, c5, c6, c7, c8⟩ := HC.out V hhV
  have HHV : Hid (V.heap[w.heap.size]? = some (.cells #[.int .i64 o.org, .int .i64 o.num, .int .i64 o.peer, .int .i64 o.srv, .int .i64 o.red, .int .i64 o.size, .slice av nv cv, .bool o.ended, .int .i64 o.how] 110) ∧ Below w.heap.size w V) := ⟨hhV, hbV⟩
  clear hV hbV hhV
  go_enter Tryz.func87, Tryz.ntmps87
  go_upto_region 1 with fail
  rw [HV.out]
  go_upto_region 2 with (go_at_call 88; refine (HOf.out 3 _).mono ?_; rintro e w1 ⟨rfl, hb⟩)
  obtain ⟨g, hg⟩ : ∃ g, w1.heap.size = g := ⟨_, rfl⟩
  obtain ⟨W1, hW1⟩ : ∃ W1, w1.alloc (.cells #[.int .i64 3, .int .i64 o.org, .int .i64 o.num, .int .i64 0, .int .i64 0, .int .i64 0, .int .i64 0, .int .i64 0, .int .i64 0, .slice none 0 0, .slice none 0 0] 35) = W1 := ⟨_, rfl⟩
  have hwg : w.heap.size ≤ g := by have := HHV.out.2.size; have := hb.size; omega
  have hgw : ¬ w.heap.size = g := by have := (Array.getElem?_eq_some_iff.1 HHV.out.1).1; have := hb.size; omega
  have hq1 : W1.heap[g]? = some (.cells #[.int .i64 3, .int .i64 o.org, .int .i64 o.num, .int .i64 0, .int .i64 0, .int .i64 0, .int .i64 0, .int .i64 0, .int .i64 0, .slice none 0 0, .slice none 0 0] 35) := by rw [← hW1, ← hg]; exact heap_alloc_new' w1 _
  have hp1 : W1.heap[w.heap.size]? = some (.cells #[.int .i64 o.org, .int .i64 o.num, .int .i64 o.peer, .int .i64 o.srv, .int .i64 o.red, .int .i64 o.size, .slice av nv cv, .bool o.ended, .int .i64 o.how] 110) := by rw [← hW1]; exact (Below.heap_alloc _ _ _ (by omega)).trans ((hb.block _ (Array.getElem?_eq_some_iff.1 HHV.out.1).1).trans HHV.out.1)
  have hb1 : Below w.heap.size w W1 := by
    rw [← hW1]
    have h1 : Below w.heap.size w w1 := HHV.out.2.trans (hb.mono HHV.out.2.size)
    exact h1.alloc h1.size _
  rw [hW1, hg]
  have hgw2 : ¬ g = w.heap.size := fun e => hgw e.symm
  have f1 : ∀ j, W1.frozen? ⟨g, j, none⟩ = false := fun j => by simp [World.frozen?, hq1]
  have q3 : (W1.setCell ⟨g, 3, none⟩ (.int .i64 o.peer)).heap[g]? = some (.cells #[.int .i64 3, .int .i64 o.org, .int .i64 o.num, .int .i64 o.peer, .int .i64 0, .int .i64 0, .int .i64 0, .int .i64 0, .int .i64 0, .slice none 0 0, .slice none 0 0] 35) := (heap_setCell_same W1 g 3 _ _ (.int .i64 o.peer) hq1).trans rfl
  have e3 : (W1.setCell ⟨g, 3, none⟩ (.int .i64 o.peer)).heap[w.heap.size]? = some (.cells #[.int .i64 o.org, .int .i64 o.num, .int .i64 o.peer, .int .i64 o.srv, .int .i64 o.red, .int .i64 o.size, .slice av nv cv, .bool o.ended, .int .i64 o.how] 110) := (heap_setCell_other W1 ⟨g, 3, none⟩ w.heap.size (.int .i64 o.peer) hgw).trans hp1
  have b3 : Below w.heap.size w (W1.setCell ⟨g, 3, none⟩ (.int .i64 o.peer)) := Below.setCell (p := ⟨g, 3, none⟩) hb1 hwg _
  have q4 : ((W1.setCell ⟨g, 3, none⟩ (.int .i64 o.peer)).setCell ⟨g, 4, none⟩ (.int .i64 o.srv)).heap[g]? = some (.cells #[.int .i64 3, .int .i64 o.org, .int .i64 o.num, .int .i64 o.peer, .int .i64 o.srv, .int .i64 0, .int .i64 0, .int .i64 0, .int .i64 0, .slice none 0 0, .slice none 0 0] 35) := (heap_setCell_same (W1.setCell ⟨g, 3, none⟩ (.int .i64 o.peer)) g 4 _ _ (.int .i64 o.srv) q3).trans rfl
  have e4 : ((W1.setCell ⟨g, 3, none⟩ (.int .i64 o.peer)).setCell ⟨g, 4, none⟩ (.int .i64 o.srv)).heap[w.heap.size]? = some (.cells #[.int .i64 o.org, .int .i64 o.num, .int .i64 o.peer, .int .i64 o.srv, .int .i64 o.red, .int .i64 o.size, .slice av nv cv, .bool o.ended, .int .i64 o.how] 110) := (heap_setCell_other (W1.setCell ⟨g, 3, none⟩ (.int .i64 o.peer)) ⟨g, 4, none⟩ w.heap.size (.int .i64 o.srv) hgw).trans e3
  have b4 : Below w.heap.size w ((W1.setCell ⟨g, 3, none⟩ (.int .i64 o.peer)).setCell ⟨g, 4, none⟩ (.int .i64 o.srv)) := Below.setCell (p := ⟨g, 4, none⟩) b3 hwg _
  have q6 : (((W1.setCell ⟨g, 3, none⟩ (.int .i64 o.peer)).setCell ⟨g, 4, none⟩ (.int .i64 o.srv)).setCell ⟨g, 6, none⟩ (.int .i64 o.red)).heap[g]? = some (.cells #[.int .i64 3, .int .i64 o.org, .int .i64 o.num, .int .i64 o.peer, .int .i64 o.srv, .int .i64 0, .int .i64 o.red, .int .i64 0, .int .i64 0, .slice none 0 0, .slice none 0 0] 35) := (heap_setCell_same ((W1.setCell ⟨g, 3, none⟩ (.int .i64 o.peer)).setCell ⟨g, 4, none⟩ (.int .i64 o.srv)) g 6 _ _ (.int .i64 o.red) q4).trans rfl
  have e6 : (((W1.setCell ⟨g, 3, none⟩ (.int .i64 o.peer)).setCell ⟨g, 4, none⟩ (.int .i64 o.srv)).setCell ⟨g, 6, none⟩ (.int .i64 o.red)).heap[w.heap.size]? = some (.cells #[.int .i64 o.org, .int .i64 o.num, .int .i64 o.peer, .int .i64 o.srv, .int .i64 o.red, .int .i64 o.size, .slice av nv cv, .bool o.ended, .int .i64 o.how] 110) := (heap_setCell_other ((W1.setCell ⟨g, 3, none⟩ (.int .i64 o.peer)).setCell ⟨g, 4, none⟩ (.int .i64 o.srv)) ⟨g, 6, none⟩ w.heap.size (.int .i64 o.red) hgw).trans e4
  have b6 : Below w.heap.size w (((W1.setCell ⟨g, 3, none⟩ (.int .i64 o.peer)).setCell ⟨g, 4, none⟩ (.int .i64 o.srv)).setCell ⟨g, 6, none⟩ (.int .i64 o.red)) := Below.setCell (p := ⟨g, 6, none⟩) b4 hwg _
  have q7 : ((((W1.setCell ⟨g, 3, none⟩ (.int .i64 o.peer)).setCell ⟨g, 4, none⟩ (.int .i64 o.srv)).setCell ⟨g, 6, none⟩ (.int .i64 o.red)).setCell ⟨g, 7, none⟩ (.int .i64 o.size)).heap[g]? = some (.cells #[.int .i64 3, .int .i64 o.org, .int .i64 o.num, .int .i64 o.peer, .int .i64 o.srv, .int .i64 0, .int .i64 o.red, .int .i64 o.size, .int .i64 0, .slice none 0 0, .slice none 0 0] 35) := (heap_setCell_same (((W1.setCell ⟨g, 3, none⟩ (.int .i64 o.peer)).setCell ⟨g, 4, none⟩ (.int .i64 o.srv)).setCell ⟨g, 6, none⟩ (.int .i64 o.red)) g 7 _ _ (.int .i64 o.size) q6).trans rfl
  have e7 : ((((W1.setCell ⟨g, 3, none⟩ (.int .i64 o.peer)).setCell ⟨g, 4, none⟩ (.int .i64 o.srv)).setCell ⟨g, 6, none⟩ (.int .i64 o.red)).setCell ⟨g, 7, none⟩ (.int .i64 o.size)).heap[w.heap.size]? = some (.cells #[.int .i64 o.org, .int .i64 o.num, .int .i64 o.peer, .int .i64 o.srv, .int .i64 o.red, .int .i64 o.size, .slice av nv cv, .bool o.ended, .int .i64 o.how] 110) := (heap_setCell_other (((W1.setCell ⟨g, 3, none⟩ (.int .i64 o.peer)).setCell ⟨g, 4, none⟩ (.int .i64 o.srv)).setCell ⟨g, 6, none⟩ (.int .i64 o.red)) ⟨g, 7, none⟩ w.heap.size (.int .i64 o.size) hgw).trans e6
  have b7 : Below w.heap.size w ((((W1.setCell ⟨g, 3, none⟩ (.int .i64 o.peer)).setCell ⟨g, 4, none⟩ (.int .i64 o.srv)).setCell ⟨g, 6, none⟩ (.int .i64 o.red)).setCell ⟨g, 7, none⟩ (.int .i64 o.size)) := Below.setCell (p := ⟨g, 7, none⟩) b6 hwg _
  have q10 : (((((W1.setCell ⟨g, 3, none⟩ (.int .i64 o.peer)).setCell ⟨g, 4, none⟩ (.int .i64 o.srv)).setCell ⟨g, 6, none⟩ (.int .i64 o.red)).setCell ⟨g, 7, none⟩ (.int .i64 o.size)).setCell ⟨g, 10, none⟩ (.slice av nv cv)).heap[g]? = some (.cells #[.int .i64 3, .int .i64 o.org, .int .i64 o.num, .int .i64 o.peer, .int .i64 o.srv, .int .i64 0, .int .i64 o.red, .int .i64 o.size, .int .i64 0, .slice none 0 0, .slice av nv cv] 35) := (heap_setCell_same ((((W1.setCell ⟨g, 3, none⟩ (.int .i64 o.peer)).setCell ⟨g, 4, none⟩ (.int .i64 o.srv)).setCell ⟨g, 6, none⟩ (.int .i64 o.red)).setCell ⟨g, 7, none⟩ (.int .i64 o.size)) g 10 _ _ (.slice av nv cv) q7).trans rfl
  have e10 : (((((W1.setCell ⟨g, 3, none⟩ (.int .i64 o.peer)).setCell ⟨g, 4, none⟩ (.int .i64 o.srv)).setCell ⟨g, 6, none⟩ (.int .i64 o.red)).setCell ⟨g, 7, none⟩ (.int .i64 o.size)).setCell ⟨g, 10, none⟩ (.slice av nv cv)).heap[w.heap.size]? = some (.cells #[.int .i64 o.org, .int .i64 o.num, .int .i64 o.peer, .int .i64 o.srv, .int .i64 o.red, .int .i64 o.size, .slice av nv cv, .bool o.ended, .int .i64 o.how] 110) := (heap_setCell_other ((((W1.setCell ⟨g, 3, none⟩ (.int .i64 o.peer)).setCell ⟨g, 4, none⟩ (.int .i64 o.srv)).setCell ⟨g, 6, none⟩ (.int .i64 o.red)).setCell ⟨g, 7, none⟩ (.int .i64 o.size)) ⟨g, 10, none⟩ w.heap.size (.slice av nv cv) hgw).trans e7
  have b10 : Below w.heap.size w (((((W1.setCell ⟨g, 3, none⟩ (.int .i64 o.peer)).setCell ⟨g, 4, none⟩ (.int .i64 o.srv)).setCell ⟨g, 6, none⟩ (.int .i64 o.red)).setCell ⟨g, 7, none⟩ (.int .i64 o.size)).setCell ⟨g, 10, none⟩ (.slice av nv cv)) := Below.setCell (p := ⟨g, 10, none⟩) b7 hwg _
  obtain ⟨W2, hW2⟩ : ∃ W2, (((((W1.setCell ⟨g, 3, none⟩ (.int .i64 o.peer)).setCell ⟨g, 4, none⟩ (.int .i64 o.srv)).setCell ⟨g, 6, none⟩ (.int .i64 o.red)).setCell ⟨g, 7, none⟩ (.int .i64 o.size)).setCell ⟨g, 10, none⟩ (.slice av nv cv)).drew = W2 := ⟨_, rfl⟩
  have HW2 : Hid ((((((W1.setCell ⟨g, 3, none⟩ (.int .i64 o.peer)).setCell ⟨g, 4, none⟩ (.int .i64 o.srv)).setCell ⟨g, 6, none⟩ (.int .i64 o.red)).setCell ⟨g, 7, none⟩ (.int .i64 o.size)).setCell ⟨g, 10, none⟩ (.slice av nv cv)).drew = W2) := hW2
  have HQ : Hid (W2.heap[g]? = some (.cells #[.int .i64 3, .int .i64 o.org, .int .i64 o.num, .int .i64 o.peer, .int .i64 o.srv, .int .i64 0, .int .i64 o.red, .int .i64 o.size, .int .i64 0, .slice none 0 0, .slice av nv cv] 35) ∧ W2.heap[w.heap.size]? = some (.cells #[.int .i64 o.org, .int .i64 o.num, .int .i64 o.peer, .int .i64 o.srv, .int .i64 o.red, .int .i64 o.size, .slice av nv cv, .bool o.ended, .int .i64 o.how] 110) ∧ Below w.heap.size w W2 ∧ w.heap.size ≤ g ∧ ¬ w.heap.size = g) := by
    rw [← hW2]
    exact ⟨q10, e10, b10.drew, hwg, hgw⟩
  obtain ⟨d0, d1, d2, d3, d4, d5, d6, d7, d8⟩ := HC.out W1 hp1
  have z3 : W1.cell? ⟨g, 3, none⟩ = some (.int .i64 0) := (cell_of_row _ _ _ _ _ _ hq1).trans rfl
  have z4 : W1.cell? ⟨g, 4, none⟩ = some (.int .i64 0) := (cell_of_row _ _ _ _ _ _ hq1).trans rfl
  have z6 : W1.cell? ⟨g, 6, none⟩ = some (.int .i64 0) := (cell_of_row _ _ _ _ _ _ hq1).trans rfl
  have z7 : W1.cell? ⟨g, 7, none⟩ = some (.int .i64 0) := (cell_of_row _ _ _ _ _ _ hq1).trans rfl
  have z10 : W1.cell? ⟨g, 10, none⟩ = some (.slice none 0 0) := (cell_of_row _ _ _ _ _ _ hq1).trans rfl
  clear c0 c1 c2 c3 c4 c5 c6 c7 c8 hb hg hW1 hq1 hp1 hb1 hwg hW2 q3 e3 b3 q4 e4 b4 q6 e6 b6 q7 e7 b7 q10 e10 b10
  go_region
  all_goals rw [HW2.out]
  all_goals (
    obtain ⟨r1, r2, r3, r4, r5⟩ := HQ.out
    obtain ⟨m0, m1, m2, m3, m4, m5, m6, m7, m8⟩ := HC.out W2 r2
    have y0 : W2.cell? ⟨g, 0, none⟩ = some (.int .i64 3) := (cell_of_row _ _ _ _ _ _ r1).trans rfl
    have y1 : W2.cell? ⟨g, 1, none⟩ = some (.int .i64 o.org) := (cell_of_row _ _ _ _ _ _ r1).trans rfl
    have y2 : W2.cell? ⟨g, 2, none⟩ = some (.int .i64 o.num) := (cell_of_row _ _ _ _ _ _ r1).trans rfl
    have y3 : W2.cell? ⟨g, 3, none⟩ = some (.int .i64 o.peer) := (cell_of_row _ _ _ _ _ _ r1).trans rfl
    have y4 : W2.cell? ⟨g, 4, none⟩ = some (.int .i64 o.srv) := (cell_of_row _ _ _ _ _ _ r1).trans rfl
    have y5 : W2.cell? ⟨g, 5, none⟩ = some (.int .i64 0) := (cell_of_row _ _ _ _ _ _ r1).trans rfl
    have y6 : W2.cell? ⟨g, 6, none⟩ = some (.int .i64 o.red) := (cell_of_row _ _ _ _ _ _ r1).trans rfl
    have y7 : W2.cell? ⟨g, 7, none⟩ = some (.int .i64 o.size) := (cell_of_row _ _ _ _ _ _ r1).trans rfl
    have y8 : W2.cell? ⟨g, 8, none⟩ = some (.int .i64 0) := (cell_of_row _ _ _ _ _ _ r1).trans rfl
    have y9 : W2.cell? ⟨g, 9, none⟩ = some (.slice none 0 0) := (cell_of_row _ _ _ _ _ _ r1).trans rfl
    have y10 : W2.cell? ⟨g, 10, none⟩ = some (.slice av nv cv) := (cell_of_row _ _ _ _ _ _ r1).trans rfl
    clear z3 z4 z6 z7 z10 d0 d1 d2 d3 d4 d5 d6 d7 d8 HW2 f1
    cases he : o.ended with
    | false =>
      have hn : (!o.ended) = true := by rw [he]; rfl
      have HE : Hid (RrR (W2.alloc (.cells #[.int .i64 3, .int .i64 o.org, .int .i64 o.num, .int .i64 o.peer, .int .i64 o.srv, .int .i64 0, .int .i64 o.red, .int .i64 o.size, .int .i64 0, .slice none 0 0, .slice av nv cv] 35)) w.heap.size (.slice (some ⟨W2.heap.size, 0, none⟩) 1 1) (exV (o, .slice av nv cv)) ∧ Below w.heap.size w (W2.alloc (.cells #[.int .i64 3, .int .i64 o.org, .int .i64 o.num, .int .i64 o.peer, .int .i64 o.srv, .int .i64 0, .int .i64 o.red, .int .i64 o.size, .int .i64 0, .slice none 0 0, .slice av nv cv] 35))) := by
        have e : exV (o, .slice av nv cv) = [({ rc0 3 o.s with peer := o.peer, srv := o.srv, red := o.red, size := o.size, data := o.data }, nilV, .slice av nv cv)] := by unfold exV; simp [he]
        rw [e]
        exact ⟨rr_new W2 _ 1 rfl (by omega) (by omega) r3.size, r3.alloc r3.size _⟩
      clear r1 r2 r3 r4 hn
      rw [he] at m7
      go_wp2
      go_ret
      exact ⟨_, _, _, rfl, HE.out⟩
    | true =>
      rw [he] at m7
      clear m0 m1 m2 m3 m4 m5 m6 m8
      obtain ⟨m0, m1, _, _, _, _, _, _, m8⟩ := HC.out W2 r2
      go_upto_region 6 with (go_at_call 88; refine (HOf.out 4 _).mono ?_; rintro e w3 ⟨rfl, hb3⟩)
      obtain ⟨g2, hg2⟩ : ∃ g2, w3.heap.size = g2 := ⟨_, rfl⟩
      obtain ⟨W3, hW3⟩ : ∃ W3, w3.alloc (.cells #[.int .i64 4, .int .i64 o.org, .int .i64 o.num, .int .i64 0, .int .i64 0, .int .i64 0, .int .i64 0, .int .i64 0, .int .i64 0, .slice none 0 0, .slice none 0 0] 35) = W3 := ⟨_, rfl⟩
      have hgl := (Array.getElem?_eq_some_iff.1 r1).1
      have hwl := (Array.getElem?_eq_some_iff.1 r2).1
      have hs3 := hb3.size
      have k1 : W3.heap[g2]? = some (.cells #[.int .i64 4, .int .i64 o.org, .int .i64 o.num, .int .i64 0, .int .i64 0, .int .i64 0, .int .i64 0, .int .i64 0, .int .i64 0, .slice none 0 0, .slice none 0 0] 35) := by rw [← hW3, ← hg2]; exact heap_alloc_new' w3 _
      have k2 : W3.heap[g]? = some (.cells #[.int .i64 3, .int .i64 o.org, .int .i64 o.num, .int .i64 o.peer, .int .i64 o.srv, .int .i64 0, .int .i64 o.red, .int .i64 o.size, .int .i64 0, .slice none 0 0, .slice av nv cv] 35) := by rw [← hW3]; exact (Below.heap_alloc _ _ _ (by omega)).trans ((hb3.block _ hgl).trans r1)
      have k3 : W3.heap[w.heap.size]? = some (.cells #[.int .i64 o.org, .int .i64 o.num, .int .i64 o.peer, .int .i64 o.srv, .int .i64 o.red, .int .i64 o.size, .slice av nv cv, .bool o.ended, .int .i64 o.how] 110) := by rw [← hW3]; exact (Below.heap_alloc _ _ _ (by omega)).trans ((hb3.block _ hwl).trans r2)
      have k4 : Below w.heap.size w W3 := by
        rw [← hW3]
        have h1 : Below w.heap.size w w3 := r3.trans (hb3.mono r3.size)
        exact h1.alloc h1.size _
      rw [hW3, hg2]
      have hgg : ¬ g = g2 := by omega
      have hgg2 : ¬ g2 = g := by omega
      have hwg2 : ¬ w.heap.size = g2 := by omega
      have hwg3 : ¬ g2 = w.heap.size := by omega
      have j8 : W3.cell? ⟨w.heap.size, 8, none⟩ = some (.int .i64 o.how) := (HC.out W3 k3).2.2.2.2.2.2.2.2
      have j7 : W3.cell? ⟨g2, 8, none⟩ = some (.int .i64 0) := (cell_of_row _ _ _ _ _ _ k1).trans rfl
      have jf : W3.frozen? ⟨g2, 8, none⟩ = false := by simp [World.frozen?, k1]
      have l1 : (W3.setCell ⟨g2, 8, none⟩ (.int .i64 o.how)).heap[g2]? = some (.cells #[.int .i64 4, .int .i64 o.org, .int .i64 o.num, .int .i64 0, .int .i64 0, .int .i64 0, .int .i64 0, .int .i64 0, .int .i64 o.how, .slice none 0 0, .slice none 0 0] 35) := (heap_setCell_same W3 g2 8 _ _ (.int .i64 o.how) k1).trans rfl
      have l2 : (W3.setCell ⟨g2, 8, none⟩ (.int .i64 o.how)).heap[g]? = some (.cells #[.int .i64 3, .int .i64 o.org, .int .i64 o.num, .int .i64 o.peer, .int .i64 o.srv, .int .i64 0, .int .i64 o.red, .int .i64 o.size, .int .i64 0, .slice none 0 0, .slice av nv cv] 35) := (heap_setCell_other W3 ⟨g2, 8, none⟩ g (.int .i64 o.how) hgg).trans k2
      have l3 : Below w.heap.size w (W3.setCell ⟨g2, 8, none⟩ (.int .i64 o.how)) := Below.setCell (p := ⟨g2, 8, none⟩) k4 (by simp only; omega) _
      obtain ⟨W4, hW4⟩ : ∃ W4, W3.setCell ⟨g2, 8, none⟩ (.int .i64 o.how) = W4 := ⟨_, rfl⟩
      have HW4 : Hid (W3.setCell ⟨g2, 8, none⟩ (.int .i64 o.how) = W4) := hW4
      rw [hW4] at l1 l2 l3
      have v0 : W4.cell? ⟨g, 0, none⟩ = some (.int .i64 3) := (cell_of_row _ _ _ _ _ _ l2).trans rfl
      have v1 : W4.cell? ⟨g, 1, none⟩ = some (.int .i64 o.org) := (cell_of_row _ _ _ _ _ _ l2).trans rfl
      have v2 : W4.cell? ⟨g, 2, none⟩ = some (.int .i64 o.num) := (cell_of_row _ _ _ _ _ _ l2).trans rfl
      have v3 : W4.cell? ⟨g, 3, none⟩ = some (.int .i64 o.peer) := (cell_of_row _ _ _ _ _ _ l2).trans rfl
      have v4 : W4.cell? ⟨g, 4, none⟩ = some (.int .i64 o.srv) := (cell_of_row _ _ _ _ _ _ l2).trans rfl
      have v5 : W4.cell? ⟨g, 5, none⟩ = some (.int .i64 0) := (cell_of_row _ _ _ _ _ _ l2).trans rfl
      have v6 : W4.cell? ⟨g, 6, none⟩ = some (.int .i64 o.red) := (cell_of_row _ _ _ _ _ _ l2).trans rfl
      have v7 : W4.cell? ⟨g, 7, none⟩ = some (.int .i64 o.size) := (cell_of_row _ _ _ _ _ _ l2).trans rfl
      have v8 : W4.cell? ⟨g, 8, none⟩ = some (.int .i64 0) := (cell_of_row _ _ _ _ _ _ l2).trans rfl
      have v9 : W4.cell? ⟨g, 9, none⟩ = some (.slice none 0 0) := (cell_of_row _ _ _ _ _ _ l2).trans rfl
      have v10 : W4.cell? ⟨g, 10, none⟩ = some (.slice av nv cv) := (cell_of_row _ _ _ _ _ _ l2).trans rfl
      have x0 : W4.cell? ⟨g2, 0, none⟩ = some (.int .i64 4) := (cell_of_row _ _ _ _ _ _ l1).trans rfl
      have x1 : W4.cell? ⟨g2, 1, none⟩ = some (.int .i64 o.org) := (cell_of_row _ _ _ _ _ _ l1).trans rfl
      have x2 : W4.cell? ⟨g2, 2, none⟩ = some (.int .i64 o.num) := (cell_of_row _ _ _ _ _ _ l1).trans rfl
      have x3 : W4.cell? ⟨g2, 3, none⟩ = some (.int .i64 0) := (cell_of_row _ _ _ _ _ _ l1).trans rfl
      have x4 : W4.cell? ⟨g2, 4, none⟩ = some (.int .i64 0) := (cell_of_row _ _ _ _ _ _ l1).trans rfl
      have x5 : W4.cell? ⟨g2, 5, none⟩ = some (.int .i64 0) := (cell_of_row _ _ _ _ _ _ l1).trans rfl
      have x6 : W4.cell? ⟨g2, 6, none⟩ = some (.int .i64 0) := (cell_of_row _ _ _ _ _ _ l1).trans rfl
      have x7 : W4.cell? ⟨g2, 7, none⟩ = some (.int .i64 0) := (cell_of_row _ _ _ _ _ _ l1).trans rfl
      have x8 : W4.cell? ⟨g2, 8, none⟩ = some (.int .i64 o.how) := (cell_of_row _ _ _ _ _ _ l1).trans rfl
      have x9 : W4.cell? ⟨g2, 9, none⟩ = some (.slice none 0 0) := (cell_of_row _ _ _ _ _ _ l1).trans rfl
      have x10 : W4.cell? ⟨g2, 10, none⟩ = some (.slice none 0 0) := (cell_of_row _ _ _ _ _ _ l1).trans rfl
      have HE : Hid (RrR (W4.alloc (.cells #[.int .i64 3, .int .i64 o.org, .int .i64 o.num, .int .i64 o.peer, .int .i64 o.srv, .int .i64 0, .int .i64 o.red, .int .i64 o.size, .int .i64 0, .slice none 0 0, .slice av nv cv, .int .i64 4, .int .i64 o.org, .int .i64 o.num, .int .i64 0, .int .i64 0, .int .i64 0, .int .i64 0, .int .i64 0, .int .i64 o.how, .slice none 0 0, .slice none 0 0] 35)) w.heap.size (.slice (some ⟨W4.heap.size, 0, none⟩) 2 2) (exV (o, .slice av nv cv)) ∧ Below w.heap.size w (W4.alloc (.cells #[.int .i64 3, .int .i64 o.org, .int .i64 o.num, .int .i64 o.peer, .int .i64 o.srv, .int .i64 0, .int .i64 o.red, .int .i64 o.size, .int .i64 0, .slice none 0 0, .slice av nv cv, .int .i64 4, .int .i64 o.org, .int .i64 o.num, .int .i64 0, .int .i64 0, .int .i64 0, .int .i64 0, .int .i64 0, .int .i64 o.how, .slice none 0 0, .slice none 0 0] 35))) := by
        have e : exV (o, .slice av nv cv) = [({ rc0 3 o.s with peer := o.peer, srv := o.srv, red := o.red, size := o.size, data := o.data }, nilV, .slice av nv cv), ({ rc0 4 o.s with how := o.how }, nilV, nilV)] := by unfold exV; simp [he]
        rw [e]
        exact ⟨rr_new W4 _ 2 rfl (by omega) (by omega) l3.size, l3.alloc l3.size _⟩
      clear r1 r2 r3 r4 r5 hg2 hW3 hgl hwl hs3 k1 k2 k3 k4 l1 l2 l3 hW4 hb3 hwg2 m0 m1 m7 m8 y0 y1 y2 y3 y4 y5 y6 y7 y8 y9 y10
      go_upto_region 7 with fail
      rw [HW4.out]
      go_wp2
      go_ret
      exact ⟨_, _, _, rfl, HE.out⟩)
end Go.Proofs.YtillgoegiplmkaaGreatDoor.B

namespace Go.Proofs.YtillgoegiplmkaaGreatDoor.B
open C
open Go.RowKit Go.Maps
set_option linter.unusedVariables false
set_option linter.unusedSimpArgs false

abbrev Rv := Rc × Value × Value
/-- The blocks of the lists of a row of records. -/
def rbl (R : List Rv) : List Nat := (R.flatMap (fun x => [x.2.1, x.2.2])).filterMap Value.ownBlock
theorem rbl_app (R S : List Rv) : rbl (R ++ S) = rbl R ++ rbl S := by unfold rbl; rw [List.flatMap_append, List.filterMap_append]
/-- The lists of records, each owned. -/
def Els (lo : Nat) (R : List Rv) (W : World) : Prop := ∀ x ∈ R, SOwn W lo x.2.1 x.1.spans ∧ ByO W lo x.2.2 x.1.data
/-- A row of records that is made. -/
structure RJ (w : World) (R : List Rv) (v : Value) (W : World) : Prop where
  low : Below w.heap.size w W
  row : RrR W w.heap.size v R
  el : Els w.heap.size R W
  nd : (rbl R).Nodup
theorem Els.mono {lo : Nat} {R : List Rv} {W W' : World} (h : Els lo R W) (hk : ∀ g, g < W.heap.size → (∀ cs, W.heap[g]? ≠ some (.cells cs 35 (0, 0))) → W'.heap[g]? = W.heap[g]?) : Els lo R W' := fun x hx => by
  have k : ∀ {b m s : Nat} {e : TypeId} {u : Value} {xs : List Value}, W.ownsRow b e s u m xs → e ≠ 35 → W'.ownsRow b e s u m xs := fun hq h1 => own_at hq (fun g hg => by
    obtain ⟨c, hc⟩ := own_obj hq hg
    refine hk g (World.ownsRow.lt hq g hg).2 (fun cs e => ?_)
    rw [hc] at e
    simp only [Option.some.injEq, Obj.cells.injEq] at e
    exact h1 e.2.1)
  exact ⟨k (h x hx).1 (by decide), k (h x hx).2 (by decide)⟩
theorem Els.below {lo : Nat} {R : List Rv} {W W' : World} (h : Els lo R W) (hb : Below W.heap.size W W') : Els lo R W' := h.mono (fun g hg _ => hb.block g hg)
theorem Els.base {lo lo' : Nat} {R : List Rv} {W : World} (h : Els lo R W) (hl : lo' ≤ lo) : Els lo' R W := fun x hx => ⟨(h x hx).1.base hl, ⟨(h x hx).2.1, (h x hx).2.2.imp id (fun ⟨g, cap, cur, e1, e2, e3⟩ => ⟨g, cap, cur, e1, by omega, e3⟩)⟩⟩
theorem rbl_lt {lo : Nat} {R : List Rv} {W : World} (h : Els lo R W) : ∀ g ∈ rbl R, lo ≤ g ∧ g < W.heap.size := fun g hg => by
  unfold rbl at hg
  obtain ⟨v, hv, e⟩ := List.mem_filterMap.mp hg
  obtain ⟨x, hx, hv⟩ := List.mem_flatMap.mp hv
  simp only [List.mem_cons, List.not_mem_nil, or_false] at hv
  rcases hv with rfl | rfl
  · exact World.ownsRow.lt (h x hx).1 g e
  · exact World.ownsRow.lt (h x hx).2 g e
theorem RJ.below {w W W' : World} {R : List Rv} {v : Value} (h : RJ w R v W) (hb : Below W.heap.size W W') : RJ w R v W' :=
  ⟨h.low.trans (hb.mono h.low.size), own_at h.row (fun g hg => hb.block g (World.ownsRow.lt h.row g hg).2), h.el.below hb, h.nd⟩
theorem nodup_two {l m : List Nat} {b : Nat} (hl : l.Nodup) (hm : m.Nodup) (h1 : ∀ g ∈ l, g < b) (h2 : ∀ g ∈ m, b ≤ g) : (l ++ m).Nodup := List.nodup_append.mpr ⟨hl, hm, fun x hx y hy e => by have := h1 x hx; have := h2 y hy; omega⟩
/-- Records more. -/
theorem RJ.push {w W w6 : World} {R S : List Rv} {v v6 : Value} (h : RJ w R v W) {tmp : Obj} (hg : (W.alloc tmp).grownBy w6 v.ownBlock) (hown : w6.ownsRow w.heap.size 35 11 v6 (R.length + S.length) (R.flatMap rcc ++ S.flatMap rcc)) (hS : Els w.heap.size S W) (hn : (rbl (R ++ S)).Nodup) : RJ w (R ++ S) v6 w6 := by
  have hv := fun g (e : v.ownBlock = some g) => World.ownsRow.lt h.row g e
  have kb : ∀ g, g < W.heap.size → v.ownBlock ≠ some g → w6.heap[g]? = W.heap[g]? := fun g hgl hne => (hg.block g (by simp; omega) (fun e => hne e.symm)).trans (Below.heap_alloc _ _ _ hgl)
  have hk : ∀ g, g < W.heap.size → (∀ cs, W.heap[g]? ≠ some (.cells cs 35 (0, 0))) → w6.heap[g]? = W.heap[g]? := fun g hgl hne => kb g hgl (fun e => by
    obtain ⟨c, hc⟩ := own_obj h.row e
    exact hne c hc)
  refine ⟨h.low.trans ⟨hg.os, hg.tape, hg.output, by have := hg.size; simp at this; omega, fun g hgl => ?_⟩, ?_, ?_, hn⟩
  · have hs := h.low.size
    exact kb g (by omega) (fun e => by have := (hv g e).1; omega)
  · unfold RrR
    rw [List.length_append, List.flatMap_append]
    exact hown
  · intro x hx
    rcases List.mem_append.mp hx with hx | hx
    · exact h.el.mono hk x hx
    · exact hS.mono hk x hx
theorem rcc_len : ∀ L : List Rv, (L.flatMap rcc).length = L.length * 11
  | [] => rfl
  | x :: r => by
    simp only [List.flatMap_cons, List.length_append, List.length_cons, rcc_len r]
    show 11 + r.length * 11 = (r.length + 1) * 11
    omega
theorem rcc_one {R : List Rv} (h : ∀ x ∈ R, x.2.1.oneCell' = true ∧ x.2.2.oneCell' = true) : ∀ u ∈ R.flatMap rcc, u.oneCell' = true := fun u hu => by
  obtain ⟨x, hx, hu⟩ := List.mem_flatMap.mp hu
  simp only [rcc, List.mem_cons, List.not_mem_nil, or_false] at hu
  rcases hu with rfl | rfl | rfl | rfl | rfl | rfl | rfl | rfl | rfl | rfl | rfl
  all_goals first | rfl | exact (h x hx).1 | exact (h x hx).2
theorem els_one {lo : Nat} {R : List Rv} {W : World} (h : Els lo R W) : ∀ x ∈ R, x.2.1.oneCell' = true ∧ x.2.2.oneCell' = true := fun x hx => by
  obtain ⟨a, n, c, e⟩ := own_sl8 (h x hx).1
  obtain ⟨a', n', c', e'⟩ := own_sl8 (h x hx).2
  rw [e, e']
  exact ⟨rfl, rfl⟩
theorem Tryz.info_rec : (Tryz.prog.info? 35).map (fun i => (i.zero, i.size, i.bytes)) = some (some (.agg #[.int .i64 0, .int .i64 0, .int .i64 0, .int .i64 0, .int .i64 0, .int .i64 0, .int .i64 0, .int .i64 0, .int .i64 0, .slice none 0 0, .slice none 0 0]), 11, 120) := by kernel_rfl
end Go.Proofs.YtillgoegiplmkaaGreatDoor.B
