import Derived.Test.YtillgoegiplmkaaGreatDoorTbGr
import Derived.Deep.CutBlock
namespace Go.Proofs.YtillgoegiplmkaaGreatDoor.B
open C
open Go.RowKit Go.Maps
set_option linter.unusedVariables false
set_option linter.unusedSimpArgs false

/-- What importOf leaves. -/
def ImP (i : Ic) (w : World) (e : Ending) (w' : World) : Prop := ∃ a n c R, e = .returned (.slice a n c) ∧ R.map Prod.fst = imR i ∧ RJ w R (.slice a n c) w'
theorem rj_one {w U : World} {x : Rc} (hb : Below w.heap.size w U) (hs : x.spans = []) (hd : x.data = []) : RJ w [(x, nilV, nilV)] (.slice (some ⟨U.heap.size, 0, none⟩) 1 1) (U.alloc (.cells ([(x, nilV, nilV)].flatMap rcc).toArray 35)) := by
  refine ⟨hb.alloc hb.size _, rr_new U _ 1 rfl (by omega) (by omega) hb.size, fun y hy => ?_, List.nodup_nil⟩
  simp only [List.mem_singleton] at hy
  subst hy
  simp only
  rw [hs, hd]
  exact ⟨SOwn.nil _ _, World.ownsRow_nil _ _ _ _⟩
set_option maxRecDepth 8000 in
set_option maxHeartbeats 4000000 in
theorem importOf_gone (i : Ic) (au av : Option Addr) (nu nv cu cv : Nat) (w : World) (hg : i.gone = true) :
    Calls Tryz.prog 53 #[iV i (.slice au nu cu) (.slice av nv cv)] w (ImP i w) := by
  obtain ⟨V, hV⟩ : ∃ V, w.alloc (.cells #[.int .i64 i.org, .int .i64 i.num, .int .i64 i.srv, .int .i64 i.red, .int .i64 i.size, .slice au nu cu, .slice av nv cv, .bool i.done, .bool i.gone, .bool i.heard, .bool i.shut, .int .i64 i.how] 63) = V := ⟨_, rfl⟩
  have HV : Hid (w.alloc (.cells #[.int .i64 i.org, .int .i64 i.num, .int .i64 i.srv, .int .i64 i.red, .int .i64 i.size, .slice au nu cu, .slice av nv cv, .bool i.done, .bool i.gone, .bool i.heard, .bool i.shut, .int .i64 i.how] 63) = V) := hV
  have hbV : Below w.heap.size w V := by rw [← hV]; exact (Below.refl _ _).alloc (Nat.le_refl _) _
  have hhV : V.heap[w.heap.size]? = some (.cells #[.int .i64 i.org, .int .i64 i.num, .int .i64 i.srv, .int .i64 i.red, .int .i64 i.size, .slice au nu cu, .slice av nv cv, .bool i.done, .bool i.gone, .bool i.heard, .bool i.shut, .int .i64 i.how] 63) := by rw [← hV]; exact heap_alloc_new' w _
  have HOf : Hid (∀ (k : Int) (U : World), Calls Tryz.prog 88 #[.int .i64 k, .agg #[.int .i64 i.org, .int .i64 i.num]] U fun e w' => e = .returned (.agg #[.int .i64 k, .int .i64 i.org, .int .i64 i.num, .int .i64 0, .int .i64 0, .int .i64 0, .int .i64 0, .int .i64 0, .int .i64 0, .slice none 0 0, .slice none 0 0]) ∧ Below U.heap.size U w') := fun k U => of8_any k i.org i.num U
  have HC : Hid (∀ U : World, U.heap[w.heap.size]? = some (.cells #[.int .i64 i.org, .int .i64 i.num, .int .i64 i.srv, .int .i64 i.red, .int .i64 i.size, .slice au nu cu, .slice av nv cv, .bool i.done, .bool i.gone, .bool i.heard, .bool i.shut, .int .i64 i.how] 63) → U.cell? ⟨w.heap.size, 0, none⟩ = some (.int .i64 i.org) ∧ U.cell? ⟨w.heap.size, 1, none⟩ = some (.int .i64 i.num) ∧ U.cell? ⟨w.heap.size, 2, none⟩ = some (.int .i64 i.srv) ∧ U.cell? ⟨w.heap.size, 3, none⟩ = some (.int .i64 i.red) ∧ U.cell? ⟨w.heap.size, 4, none⟩ = some (.int .i64 i.size) ∧ U.cell? ⟨w.heap.size, 5, none⟩ = some (.slice au nu cu) ∧ U.cell? ⟨w.heap.size, 6, none⟩ = some (.slice av nv cv) ∧ U.cell? ⟨w.heap.size, 7, none⟩ = some (.bool i.done) ∧ U.cell? ⟨w.heap.size, 8, none⟩ = some (.bool i.gone) ∧ U.cell? ⟨w.heap.size, 9, none⟩ = some (.bool i.heard) ∧ U.cell? ⟨w.heap.size, 10, none⟩ = some (.bool i.shut) ∧ U.cell? ⟨w.heap.size, 11, none⟩ = some (.int .i64 i.how)) := fun U q => by
    refine ⟨?_, ?_, ?_, ?_, ?_, ?_, ?_, ?_, ?_, ?_, ?_, ?_⟩ <;> exact (cell_of_row _ _ _ _ _ _ q).trans rfl
  obtain ⟨c0, c1, c2, c3, c4, c5, c6, c7, c8, c9, c10, c11⟩ := HC.out V hhV
  have HHV : Hid (V.heap[w.heap.size]? = some (.cells #[.int .i64 i.org, .int .i64 i.num, .int .i64 i.srv, .int .i64 i.red, .int .i64 i.size, .slice au nu cu, .slice av nv cv, .bool i.done, .bool i.gone, .bool i.heard, .bool i.shut, .int .i64 i.how] 63) ∧ Below w.heap.size w V) := ⟨hhV, hbV⟩
  clear hV hbV hhV
  rw [hg] at c8
  have HG : Hid (i.gone = true) := hg
  clear hg
  go_enter Tryz.func53, Tryz.ntmps53
  go_upto_region 1 with fail
  rw [HV.out]
  go_upto_region 3 with (go_at_call 88; refine (HOf.out 8 _).mono ?_; rintro e w1 ⟨rfl, hb⟩)
  obtain ⟨g, hgq⟩ : ∃ g, w1.heap.size = g := ⟨_, rfl⟩
  obtain ⟨W1, hW1⟩ : ∃ W1, w1.alloc (.cells #[.int .i64 8, .int .i64 i.org, .int .i64 i.num, .int .i64 0, .int .i64 0, .int .i64 0, .int .i64 0, .int .i64 0, .int .i64 0, .slice none 0 0, .slice none 0 0] 35) = W1 := ⟨_, rfl⟩
  have hsz := hb.size
  have hwl := (Array.getElem?_eq_some_iff.1 HHV.out.1).1
  have hq1 : W1.heap[g]? = some (.cells #[.int .i64 8, .int .i64 i.org, .int .i64 i.num, .int .i64 0, .int .i64 0, .int .i64 0, .int .i64 0, .int .i64 0, .int .i64 0, .slice none 0 0, .slice none 0 0] 35) := by rw [← hW1, ← hgq]; exact heap_alloc_new' w1 _
  have hp1 : W1.heap[w.heap.size]? = some (.cells #[.int .i64 i.org, .int .i64 i.num, .int .i64 i.srv, .int .i64 i.red, .int .i64 i.size, .slice au nu cu, .slice av nv cv, .bool i.done, .bool i.gone, .bool i.heard, .bool i.shut, .int .i64 i.how] 63) := by rw [← hW1]; exact (Below.heap_alloc _ _ _ (by omega)).trans ((hb.block _ hwl).trans HHV.out.1)
  have hb1 : Below w.heap.size w W1 := by
    rw [← hW1]
    have h1 : Below w.heap.size w w1 := HHV.out.2.trans (hb.mono HHV.out.2.size)
    exact h1.alloc h1.size _
  rw [hW1, hgq]
  have d11 : W1.cell? ⟨w.heap.size, 11, none⟩ = some (.int .i64 i.how) := (HC.out W1 hp1).2.2.2.2.2.2.2.2.2.2.2
  have z8 : W1.cell? ⟨g, 8, none⟩ = some (.int .i64 0) := (cell_of_row _ _ _ _ _ _ hq1).trans rfl
  have f8 : W1.frozen? ⟨g, 8, none⟩ = false := by simp [World.frozen?, hq1]
  have l1 : (W1.setCell ⟨g, 8, none⟩ (.int .i64 i.how)).heap[g]? = some (.cells #[.int .i64 8, .int .i64 i.org, .int .i64 i.num, .int .i64 0, .int .i64 0, .int .i64 0, .int .i64 0, .int .i64 0, .int .i64 i.how, .slice none 0 0, .slice none 0 0] 35) := (heap_setCell_same W1 g 8 _ _ (.int .i64 i.how) hq1).trans rfl
  have l3 : Below w.heap.size w (W1.setCell ⟨g, 8, none⟩ (.int .i64 i.how)) := Below.setCell (p := ⟨g, 8, none⟩) hb1 (by simp only; omega) _
  obtain ⟨W2, hW2⟩ : ∃ W2, W1.setCell ⟨g, 8, none⟩ (.int .i64 i.how) = W2 := ⟨_, rfl⟩
  have HW2 : Hid (W1.setCell ⟨g, 8, none⟩ (.int .i64 i.how) = W2) := hW2
  rw [hW2] at l1 l3
  have x0 : W2.cell? ⟨g, 0, none⟩ = some (.int .i64 8) := (cell_of_row _ _ _ _ _ _ l1).trans rfl
  have x1 : W2.cell? ⟨g, 1, none⟩ = some (.int .i64 i.org) := (cell_of_row _ _ _ _ _ _ l1).trans rfl
  have x2 : W2.cell? ⟨g, 2, none⟩ = some (.int .i64 i.num) := (cell_of_row _ _ _ _ _ _ l1).trans rfl
  have x3 : W2.cell? ⟨g, 3, none⟩ = some (.int .i64 0) := (cell_of_row _ _ _ _ _ _ l1).trans rfl
  have x4 : W2.cell? ⟨g, 4, none⟩ = some (.int .i64 0) := (cell_of_row _ _ _ _ _ _ l1).trans rfl
  have x5 : W2.cell? ⟨g, 5, none⟩ = some (.int .i64 0) := (cell_of_row _ _ _ _ _ _ l1).trans rfl
  have x6 : W2.cell? ⟨g, 6, none⟩ = some (.int .i64 0) := (cell_of_row _ _ _ _ _ _ l1).trans rfl
  have x7 : W2.cell? ⟨g, 7, none⟩ = some (.int .i64 0) := (cell_of_row _ _ _ _ _ _ l1).trans rfl
  have x8 : W2.cell? ⟨g, 8, none⟩ = some (.int .i64 i.how) := (cell_of_row _ _ _ _ _ _ l1).trans rfl
  have x9 : W2.cell? ⟨g, 9, none⟩ = some (.slice none 0 0) := (cell_of_row _ _ _ _ _ _ l1).trans rfl
  have x10 : W2.cell? ⟨g, 10, none⟩ = some (.slice none 0 0) := (cell_of_row _ _ _ _ _ _ l1).trans rfl
  have HE : Hid (RJ w [({ rc0 8 i.s with how := i.how }, nilV, nilV)] (.slice (some ⟨W2.heap.size, 0, none⟩) 1 1) (W2.alloc (.cells #[.int .i64 8, .int .i64 i.org, .int .i64 i.num, .int .i64 0, .int .i64 0, .int .i64 0, .int .i64 0, .int .i64 0, .int .i64 i.how, .slice none 0 0, .slice none 0 0] 35))) := rj_one (x := { rc0 8 i.s with how := i.how }) l3 rfl rfl
  clear c0 c1 c2 c3 c4 c5 c6 c7 c8 c9 c10 c11 hb hgq hW1 hsz hwl hq1 hp1 hb1 l1 l3 hW2
  go_upto_region 4 with fail
  rw [HW2.out]
  go_wp2
  go_ret
  exact ⟨_, _, _, _, rfl, by unfold imR; rw [if_pos HG.out]; rfl, HE.out⟩
set_option maxRecDepth 8000 in
set_option maxHeartbeats 4000000 in
theorem importOf_heard (i : Ic) (au av : Option Addr) (nu nv cu cv : Nat) (w : World) (hg : i.gone = false) (hh : i.heard = true) :
    Calls Tryz.prog 53 #[iV i (.slice au nu cu) (.slice av nv cv)] w (ImP i w) := by
  obtain ⟨V, hV⟩ : ∃ V, w.alloc (.cells #[.int .i64 i.org, .int .i64 i.num, .int .i64 i.srv, .int .i64 i.red, .int .i64 i.size, .slice au nu cu, .slice av nv cv, .bool i.done, .bool i.gone, .bool i.heard, .bool i.shut, .int .i64 i.how] 63) = V := ⟨_, rfl⟩
  have HV : Hid (w.alloc (.cells #[.int .i64 i.org, .int .i64 i.num, .int .i64 i.srv, .int .i64 i.red, .int .i64 i.size, .slice au nu cu, .slice av nv cv, .bool i.done, .bool i.gone, .bool i.heard, .bool i.shut, .int .i64 i.how] 63) = V) := hV
  have hbV : Below w.heap.size w V := by rw [← hV]; exact (Below.refl _ _).alloc (Nat.le_refl _) _
  have hhV : V.heap[w.heap.size]? = some (.cells #[.int .i64 i.org, .int .i64 i.num, .int .i64 i.srv, .int .i64 i.red, .int .i64 i.size, .slice au nu cu, .slice av nv cv, .bool i.done, .bool i.gone, .bool i.heard, .bool i.shut, .int .i64 i.how] 63) := by rw [← hV]; exact heap_alloc_new' w _
  have HOf : Hid (∀ (k : Int) (U : World), Calls Tryz.prog 88 #[.int .i64 k, .agg #[.int .i64 i.org, .int .i64 i.num]] U fun e w' => e = .returned (.agg #[.int .i64 k, .int .i64 i.org, .int .i64 i.num, .int .i64 0, .int .i64 0, .int .i64 0, .int .i64 0, .int .i64 0, .int .i64 0, .slice none 0 0, .slice none 0 0]) ∧ Below U.heap.size U w') := fun k U => of8_any k i.org i.num U
  have HC : Hid (∀ U : World, U.heap[w.heap.size]? = some (.cells #[.int .i64 i.org, .int .i64 i.num, .int .i64 i.srv, .int .i64 i.red, .int .i64 i.size, .slice au nu cu, .slice av nv cv, .bool i.done, .bool i.gone, .bool i.heard, .bool i.shut, .int .i64 i.how] 63) → U.cell? ⟨w.heap.size, 0, none⟩ = some (.int .i64 i.org) ∧ U.cell? ⟨w.heap.size, 1, none⟩ = some (.int .i64 i.num) ∧ U.cell? ⟨w.heap.size, 2, none⟩ = some (.int .i64 i.srv) ∧ U.cell? ⟨w.heap.size, 3, none⟩ = some (.int .i64 i.red) ∧ U.cell? ⟨w.heap.size, 4, none⟩ = some (.int .i64 i.size) ∧ U.cell? ⟨w.heap.size, 5, none⟩ = some (.slice au nu cu) ∧ U.cell? ⟨w.heap.size, 6, none⟩ = some (.slice av nv cv) ∧ U.cell? ⟨w.heap.size, 7, none⟩ = some (.bool i.done) ∧ U.cell? ⟨w.heap.size, 8, none⟩ = some (.bool i.gone) ∧ U.cell? ⟨w.heap.size, 9, none⟩ = some (.bool i.heard) ∧ U.cell? ⟨w.heap.size, 10, none⟩ = some (.bool i.shut) ∧ U.cell? ⟨w.heap.size, 11, none⟩ = some (.int .i64 i.how)) := fun U q => by
    refine ⟨?_, ?_, ?_, ?_, ?_, ?_, ?_, ?_, ?_, ?_, ?_, ?_⟩ <;> exact (cell_of_row _ _ _ _ _ _ q).trans rfl
  obtain ⟨c0, c1, c2, c3, c4, c5, c6, c7, c8, c9, c10, c11⟩ := HC.out V hhV
  have HHV : Hid (V.heap[w.heap.size]? = some (.cells #[.int .i64 i.org, .int .i64 i.num, .int .i64 i.srv, .int .i64 i.red, .int .i64 i.size, .slice au nu cu, .slice av nv cv, .bool i.done, .bool i.gone, .bool i.heard, .bool i.shut, .int .i64 i.how] 63) ∧ Below w.heap.size w V) := ⟨hhV, hbV⟩
  clear hV hbV hhV
  rw [hg] at c8
  rw [hh] at c9
  have HG : Hid (i.gone = false ∧ i.heard = true) := ⟨hg, hh⟩
  clear hg hh
  go_enter Tryz.func53, Tryz.ntmps53
  go_upto_region 1 with fail
  rw [HV.out]
  go_upto_region 7 with (go_at_call 88; refine (HOf.out 12 _).mono ?_; rintro e w1 ⟨rfl, hb⟩)
  obtain ⟨g, hgq⟩ : ∃ g, w1.heap.size = g := ⟨_, rfl⟩
  obtain ⟨W1, hW1⟩ : ∃ W1, w1.alloc (.cells #[.int .i64 12, .int .i64 i.org, .int .i64 i.num, .int .i64 0, .int .i64 0, .int .i64 0, .int .i64 0, .int .i64 0, .int .i64 0, .slice none 0 0, .slice none 0 0] 35) = W1 := ⟨_, rfl⟩
  have hsz := hb.size
  have hwl := (Array.getElem?_eq_some_iff.1 HHV.out.1).1
  have hwg : w.heap.size ≤ g := by omega
  have hgw : ¬ w.heap.size = g := by omega
  have hgw2 : ¬ g = w.heap.size := by omega
  have hq1 : W1.heap[g]? = some (.cells #[.int .i64 12, .int .i64 i.org, .int .i64 i.num, .int .i64 0, .int .i64 0, .int .i64 0, .int .i64 0, .int .i64 0, .int .i64 0, .slice none 0 0, .slice none 0 0] 35) := by rw [← hW1, ← hgq]; exact heap_alloc_new' w1 _
  have hp1 : W1.heap[w.heap.size]? = some (.cells #[.int .i64 i.org, .int .i64 i.num, .int .i64 i.srv, .int .i64 i.red, .int .i64 i.size, .slice au nu cu, .slice av nv cv, .bool i.done, .bool i.gone, .bool i.heard, .bool i.shut, .int .i64 i.how] 63) := by rw [← hW1]; exact (Below.heap_alloc _ _ _ (by omega)).trans ((hb.block _ hwl).trans HHV.out.1)
  have hb1 : Below w.heap.size w W1 := by
    rw [← hW1]
    have h1 : Below w.heap.size w w1 := HHV.out.2.trans (hb.mono HHV.out.2.size)
    exact h1.alloc h1.size _
  rw [hW1, hgq]
  obtain ⟨d0, d1, d2, d3, d4, d5, d6, d7, d8, d9, d10, d11⟩ := HC.out W1 hp1
  have f1 : ∀ j, W1.frozen? ⟨g, j, none⟩ = false := fun j => by simp [World.frozen?, hq1]
  have z4 : W1.cell? ⟨g, 4, none⟩ = some (.int .i64 0) := (cell_of_row _ _ _ _ _ _ hq1).trans rfl
  have z6 : W1.cell? ⟨g, 6, none⟩ = some (.int .i64 0) := (cell_of_row _ _ _ _ _ _ hq1).trans rfl
  have z7 : W1.cell? ⟨g, 7, none⟩ = some (.int .i64 0) := (cell_of_row _ _ _ _ _ _ hq1).trans rfl
  have q4 : (W1.setCell ⟨g, 4, none⟩ (.int .i64 i.srv)).heap[g]? = some (.cells #[.int .i64 12, .int .i64 i.org, .int .i64 i.num, .int .i64 0, .int .i64 i.srv, .int .i64 0, .int .i64 0, .int .i64 0, .int .i64 0, .slice none 0 0, .slice none 0 0] 35) := (heap_setCell_same W1 g 4 _ _ (.int .i64 i.srv) hq1).trans rfl
  have b4 : Below w.heap.size w (W1.setCell ⟨g, 4, none⟩ (.int .i64 i.srv)) := Below.setCell (p := ⟨g, 4, none⟩) hb1 hwg _
  have q6 : ((W1.setCell ⟨g, 4, none⟩ (.int .i64 i.srv)).setCell ⟨g, 6, none⟩ (.int .i64 i.red)).heap[g]? = some (.cells #[.int .i64 12, .int .i64 i.org, .int .i64 i.num, .int .i64 0, .int .i64 i.srv, .int .i64 0, .int .i64 i.red, .int .i64 0, .int .i64 0, .slice none 0 0, .slice none 0 0] 35) := (heap_setCell_same (W1.setCell ⟨g, 4, none⟩ (.int .i64 i.srv)) g 6 _ _ (.int .i64 i.red) q4).trans rfl
  have b6 : Below w.heap.size w ((W1.setCell ⟨g, 4, none⟩ (.int .i64 i.srv)).setCell ⟨g, 6, none⟩ (.int .i64 i.red)) := Below.setCell (p := ⟨g, 6, none⟩) b4 hwg _
  have q7 : (((W1.setCell ⟨g, 4, none⟩ (.int .i64 i.srv)).setCell ⟨g, 6, none⟩ (.int .i64 i.red)).setCell ⟨g, 7, none⟩ (.int .i64 i.size)).heap[g]? = some (.cells #[.int .i64 12, .int .i64 i.org, .int .i64 i.num, .int .i64 0, .int .i64 i.srv, .int .i64 0, .int .i64 i.red, .int .i64 i.size, .int .i64 0, .slice none 0 0, .slice none 0 0] 35) := (heap_setCell_same ((W1.setCell ⟨g, 4, none⟩ (.int .i64 i.srv)).setCell ⟨g, 6, none⟩ (.int .i64 i.red)) g 7 _ _ (.int .i64 i.size) q6).trans rfl
  have b7 : Below w.heap.size w (((W1.setCell ⟨g, 4, none⟩ (.int .i64 i.srv)).setCell ⟨g, 6, none⟩ (.int .i64 i.red)).setCell ⟨g, 7, none⟩ (.int .i64 i.size)) := Below.setCell (p := ⟨g, 7, none⟩) b6 hwg _
  obtain ⟨W2, hW2⟩ : ∃ W2, (((W1.setCell ⟨g, 4, none⟩ (.int .i64 i.srv)).setCell ⟨g, 6, none⟩ (.int .i64 i.red)).setCell ⟨g, 7, none⟩ (.int .i64 i.size)).drew = W2 := ⟨_, rfl⟩
  have HW2 : Hid ((((W1.setCell ⟨g, 4, none⟩ (.int .i64 i.srv)).setCell ⟨g, 6, none⟩ (.int .i64 i.red)).setCell ⟨g, 7, none⟩ (.int .i64 i.size)).drew = W2) := hW2
  have HQ : Hid (W2.heap[g]? = some (.cells #[.int .i64 12, .int .i64 i.org, .int .i64 i.num, .int .i64 0, .int .i64 i.srv, .int .i64 0, .int .i64 i.red, .int .i64 i.size, .int .i64 0, .slice none 0 0, .slice none 0 0] 35) ∧ Below w.heap.size w W2) := by
    rw [← hW2]
    exact ⟨q7, b7.drew⟩
  clear c0 c1 c2 c3 c4 c5 c6 c7 c8 c9 c10 c11 hb hgq hW1 hsz hwl hwg hq1 hp1 hb1 hW2 q4 b4 q6 b6 q7 b7
  go_region
  all_goals rw [HW2.out]
  all_goals (
    obtain ⟨l1, l3⟩ := HQ.out
    have x0 : W2.cell? ⟨g, 0, none⟩ = some (.int .i64 12) := (cell_of_row _ _ _ _ _ _ l1).trans rfl
    have x1 : W2.cell? ⟨g, 1, none⟩ = some (.int .i64 i.org) := (cell_of_row _ _ _ _ _ _ l1).trans rfl
    have x2 : W2.cell? ⟨g, 2, none⟩ = some (.int .i64 i.num) := (cell_of_row _ _ _ _ _ _ l1).trans rfl
    have x3 : W2.cell? ⟨g, 3, none⟩ = some (.int .i64 0) := (cell_of_row _ _ _ _ _ _ l1).trans rfl
    have x4 : W2.cell? ⟨g, 4, none⟩ = some (.int .i64 i.srv) := (cell_of_row _ _ _ _ _ _ l1).trans rfl
    have x5 : W2.cell? ⟨g, 5, none⟩ = some (.int .i64 0) := (cell_of_row _ _ _ _ _ _ l1).trans rfl
    have x6 : W2.cell? ⟨g, 6, none⟩ = some (.int .i64 i.red) := (cell_of_row _ _ _ _ _ _ l1).trans rfl
    have x7 : W2.cell? ⟨g, 7, none⟩ = some (.int .i64 i.size) := (cell_of_row _ _ _ _ _ _ l1).trans rfl
    have x8 : W2.cell? ⟨g, 8, none⟩ = some (.int .i64 0) := (cell_of_row _ _ _ _ _ _ l1).trans rfl
    have x9 : W2.cell? ⟨g, 9, none⟩ = some (.slice none 0 0) := (cell_of_row _ _ _ _ _ _ l1).trans rfl
    have x10 : W2.cell? ⟨g, 10, none⟩ = some (.slice none 0 0) := (cell_of_row _ _ _ _ _ _ l1).trans rfl
    have HE : Hid (RJ w [({ rc0 12 i.s with srv := i.srv, red := i.red, size := i.size }, nilV, nilV)] (.slice (some ⟨W2.heap.size, 0, none⟩) 1 1) (W2.alloc (.cells #[.int .i64 12, .int .i64 i.org, .int .i64 i.num, .int .i64 0, .int .i64 i.srv, .int .i64 0, .int .i64 i.red, .int .i64 i.size, .int .i64 0, .slice none 0 0, .slice none 0 0] 35))) := rj_one (x := { rc0 12 i.s with srv := i.srv, red := i.red, size := i.size }) l3 rfl rfl
    clear l1 l3 d0 d1 d2 d3 d4 d5 d6 d7 d8 d9 d10 d11 z4 z6 z7 f1 HW2
    go_wp2
    go_ret
    exact ⟨_, _, _, _, rfl, by unfold imR; rw [if_neg (by rw [HG.out.1]; simp), if_pos HG.out.2]; rfl, HE.out⟩)
theorem RJ.base {w V W : World} {R : List Rv} {v : Value} (h : RJ V R v W) (hb : Below w.heap.size w V) : RJ w R v W := ⟨hb.trans (h.low.mono hb.size), ⟨h.row.1, h.row.2.imp id (fun ⟨g, cap, cur, e1, e2, e3⟩ => ⟨g, cap, cur, e1, Nat.le_trans hb.size e2, e3⟩)⟩, h.el.base hb.size, h.nd⟩
theorem rbl_nils {R : List Rv} (x : Rc) : rbl (R ++ [(x, nilV, nilV)]) = rbl R := by rw [rbl_app, show rbl [(x, nilV, nilV)] = [] from rfl, List.append_nil]
theorem els_nils {lo : Nat} {x : Rc} (hs : x.spans = []) (hd : x.data = []) (W : World) : Els lo [(x, nilV, nilV)] W := fun y hy => by
  simp only [List.mem_singleton] at hy
  subst hy
  simp only
  rw [hs, hd]
  exact ⟨SOwn.nil _ _, World.ownsRow_nil _ _ _ _⟩
/-- A record without lists more. -/
theorem RJ.push1 {w W w6 : World} {R : List Rv} {v v6 : Value} {x : Rc} (h : RJ w R v W) (hs : x.spans = []) (hd : x.data = []) {tmp : Obj} (hg : (W.alloc tmp).grownBy w6 v.ownBlock) (hown : w6.ownsRow w.heap.size 35 11 v6 (R.length + 1) (R.flatMap rcc ++ rcc (x, nilV, nilV))) : RJ w (R ++ [(x, nilV, nilV)]) v6 w6 :=
  h.push hg (by rw [show [(x, nilV, nilV)].flatMap rcc = rcc (x, nilV, nilV) from by simp]; exact hown) (els_nils hs hd _) (by rw [rbl_nils]; exact h.nd)
/-- importOf under way. -/
def ImJ (i : Ic) (au av : Option Addr) (nu nv cu cv : Nat) (w : World) (L : List Rc) (m : Nat) (R : List Rv) (v : Value) (W : World) : Prop := R.map Prod.fst = L ∧ R.length ≤ m ∧ RJ w R v W ∧ W.heap[w.heap.size]? = some (.cells #[.int .i64 i.org, .int .i64 i.num, .int .i64 i.srv, .int .i64 i.red, .int .i64 i.size, .slice au nu cu, .slice av nv cv, .bool i.done, .bool i.gone, .bool i.heard, .bool i.shut, .int .i64 i.how] 63)
theorem ImJ.push {i : Ic} {au av : Option Addr} {nu nv cu cv : Nat} {w : World} {L : List Rc} {m : Nat} {R : List Rv} {v v6 : Value} {W W2 w6 : World} {x : Rc} (h : ImJ i au av nu nv cu cv w L m R v W) (hb : Below W.heap.size W W2) (hs : x.spans = []) (hd : x.data = []) {tmp : Obj} (hg : (W2.alloc tmp).grownBy w6 v.ownBlock) (hown : w6.ownsRow w.heap.size 35 11 v6 (R.length + 1) (R.flatMap rcc ++ rcc (x, nilV, nilV))) : ImJ i au av nu nv cu cv w (L ++ [x]) (m + 1) (R ++ [(x, nilV, nilV)]) v6 w6 := by
  have h2 := h.2.2.1.below hb
  have hl := (Array.getElem?_eq_some_iff.1 h.2.2.2).1
  have hbx : W2.heap[w.heap.size]? = some (.cells #[.int .i64 i.org, .int .i64 i.num, .int .i64 i.srv, .int .i64 i.red, .int .i64 i.size, .slice au nu cu, .slice av nv cv, .bool i.done, .bool i.gone, .bool i.heard, .bool i.shut, .int .i64 i.how] 63) := (hb.block _ hl).trans h.2.2.2
  refine ⟨by rw [List.map_append, h.1]; rfl, by simp; exact h.2.1, h2.push1 hs hd hg hown, ?_⟩
  exact (hg.block _ (by have := hb.size; simp; omega) (fun e => own_nb h2.row hbx (by decide) e.symm)).trans ((Below.heap_alloc _ _ _ (by have := hb.size; omega)).trans hbx)
set_option maxRecDepth 8000 in
set_option maxHeartbeats 8000000 in
theorem importOf_ds (i : Ic) (au av : Option Addr) (nu nv cu cv : Nat) (w : World) (hu : i.hv.length = nu) (hS : Spa w au i.hv) (hv : i.data.length = nv) (hL : Lies .u8 w av i.data) (hc : nv ≤ cv) (hcm : cv ≤ 9223372036854775807) (hnm : nv ≤ 1048576) (hnu : nu ≤ 2000) (hin : ∀ h ∈ i.hv, 0 ≤ h.1 ∧ h.1 < h.2 ∧ h.2 ≤ (nv : Int)) (hg : i.gone = false) (hh : i.heard = false) (hd : i.done = true) (hs : i.shut = true) :
    Calls Tryz.prog 53 #[iV i (.slice au nu cu) (.slice av nv cv)] w (ImP i w) := by
  obtain ⟨i0, hi, hz0, hz1, hz2⟩ := info_parts Tryz.info_rec
  obtain ⟨V, hV⟩ : ∃ V, w.alloc (.cells #[.int .i64 i.org, .int .i64 i.num, .int .i64 i.srv, .int .i64 i.red, .int .i64 i.size, .slice au nu cu, .slice av nv cv, .bool i.done, .bool i.gone, .bool i.heard, .bool i.shut, .int .i64 i.how] 63) = V := ⟨_, rfl⟩
  have HV : Hid (w.alloc (.cells #[.int .i64 i.org, .int .i64 i.num, .int .i64 i.srv, .int .i64 i.red, .int .i64 i.size, .slice au nu cu, .slice av nv cv, .bool i.done, .bool i.gone, .bool i.heard, .bool i.shut, .int .i64 i.how] 63) = V) := hV
  have hbV : Below w.heap.size w V := by rw [← hV]; exact (Below.refl _ _).alloc (Nat.le_refl _) _
  have hhV : V.heap[w.heap.size]? = some (.cells #[.int .i64 i.org, .int .i64 i.num, .int .i64 i.srv, .int .i64 i.red, .int .i64 i.size, .slice au nu cu, .slice av nv cv, .bool i.done, .bool i.gone, .bool i.heard, .bool i.shut, .int .i64 i.how] 63) := by rw [← hV]; exact heap_alloc_new' w _
  have HOf : Hid (∀ (k : Int) (U : World), Calls Tryz.prog 88 #[.int .i64 k, .agg #[.int .i64 i.org, .int .i64 i.num]] U fun e w' => e = .returned (.agg #[.int .i64 k, .int .i64 i.org, .int .i64 i.num, .int .i64 0, .int .i64 0, .int .i64 0, .int .i64 0, .int .i64 0, .int .i64 0, .slice none 0 0, .slice none 0 0]) ∧ Below U.heap.size U w') := fun k U => of8_any k i.org i.num U
  have HC : Hid (∀ U : World, U.heap[w.heap.size]? = some (.cells #[.int .i64 i.org, .int .i64 i.num, .int .i64 i.srv, .int .i64 i.red, .int .i64 i.size, .slice au nu cu, .slice av nv cv, .bool i.done, .bool i.gone, .bool i.heard, .bool i.shut, .int .i64 i.how] 63) → U.cell? ⟨w.heap.size, 0, none⟩ = some (.int .i64 i.org) ∧ U.cell? ⟨w.heap.size, 1, none⟩ = some (.int .i64 i.num) ∧ U.cell? ⟨w.heap.size, 2, none⟩ = some (.int .i64 i.srv) ∧ U.cell? ⟨w.heap.size, 3, none⟩ = some (.int .i64 i.red) ∧ U.cell? ⟨w.heap.size, 4, none⟩ = some (.int .i64 i.size) ∧ U.cell? ⟨w.heap.size, 5, none⟩ = some (.slice au nu cu) ∧ U.cell? ⟨w.heap.size, 6, none⟩ = some (.slice av nv cv) ∧ U.cell? ⟨w.heap.size, 7, none⟩ = some (.bool i.done) ∧ U.cell? ⟨w.heap.size, 8, none⟩ = some (.bool i.gone) ∧ U.cell? ⟨w.heap.size, 9, none⟩ = some (.bool i.heard) ∧ U.cell? ⟨w.heap.size, 10, none⟩ = some (.bool i.shut) ∧ U.cell? ⟨w.heap.size, 11, none⟩ = some (.int .i64 i.how)) := fun U q => by
    refine ⟨?_, ?_, ?_, ?_, ?_, ?_, ?_, ?_, ?_, ?_, ?_, ?_⟩ <;> exact (cell_of_row _ _ _ _ _ _ q).trans rfl
  have HRed : Hid (Calls Tryz.prog 89 #[.agg #[.int .i64 i.org, .int .i64 i.num, .int .i64 i.srv, .int .i64 i.red, .int .i64 i.size, .slice au nu cu, .slice av nv cv, .bool true, .bool false, .bool false, .bool true, .int .i64 i.how]] V (RdP i V)) := by
    have h := redsOf_any i au av nu nv cu cv V hu (hS.below (hbV.mono (Nat.le_refl _))) hv (hL.below (hbV.mono (Nat.le_refl _))) hc hcm hnm hnu hin
    unfold iV at h
    rw [hg, hh, hd, hs] at h
    exact h
  have HN : Hid (i.hv.length = nu ∧ nu ≤ 2000 ∧ i.gone = false ∧ i.heard = false ∧ i.done = true ∧ i.shut = true) := ⟨hu, hnu, hg, hh, hd, hs⟩
  obtain ⟨c0, c1, c2, c3, c4, c5, c6, c7, c8, c9, c10, c11⟩ := HC.out V hhV
  have HHV : Hid (V.heap[w.heap.size]? = some (.cells #[.int .i64 i.org, .int .i64 i.num, .int .i64 i.srv, .int .i64 i.red, .int .i64 i.size, .slice au nu cu, .slice av nv cv, .bool i.done, .bool i.gone, .bool i.heard, .bool i.shut, .int .i64 i.how] 63) ∧ Below w.heap.size w V) := ⟨hhV, hbV⟩
  clear hV hbV hhV
  rw [hg] at c8
  rw [hh] at c9
  rw [hd] at c7
  rw [hs] at c10
  clear hu hS hv hL hc hcm hnm hnu hin hg hh hd hs
  go_enter Tryz.func53, Tryz.ntmps53
  go_upto_region 1 with fail
  rw [HV.out]
  go_upto_region 10 with (go_at_call 89; refine HRed.out.mono ?_; rintro e w1 ⟨a1, n1, k1, R1, rfl, hm1, hn1, hj1⟩)
  have H1 : Hid (ImJ i au av nu nv cu cv w (i.hv.map (rdR8 i)) 2000 R1 (.slice a1 n1 k1) w1) := by
    have hl := (Array.getElem?_eq_some_iff.1 HHV.out.1).1
    exact ⟨hm1, by have h1 := congrArg List.length hm1; have h2 := HN.out.1; have h3 := HN.out.2.1; simp at h1; omega, hj1.base HHV.out.2, (hj1.low.block _ hl).trans HHV.out.1⟩
  clear c0 c1 c2 c3 c4 c5 c6 c7 c8 c9 c10 c11 hm1 hn1 hj1 HRed
  obtain ⟨d0, d1, _, _, _, _, _, d7, _, _, d10, _⟩ := HC.out w1 H1.out.2.2.2
  rw [HN.out.2.2.2.2.1] at d7
  rw [HN.out.2.2.2.2.2] at d10
  obtain ⟨W1, hW1⟩ : ∃ W1, W1 = w1 := ⟨_, rfl⟩
  go_wp2_with (first
    | (go_at_call 88
       refine (HOf.out 7 _).mono ?_
       rintro e u1 ⟨rfl, hb1⟩
       have hj1 := H1.out.2.2.1.below hb1
       have hrow1 := World.ownsRow.alloc hj1.row (.cells #[.int .i64 7, .int .i64 i.org, .int .i64 i.num, .int .i64 0, .int .i64 0, .int .i64 0, .int .i64 0, .int .i64 0, .int .i64 0, .slice none 0 0, .slice none 0 0] 35)
       have hwl1 : w.heap.size ≤ (u1.alloc (.cells #[.int .i64 7, .int .i64 i.org, .int .i64 i.num, .int .i64 0, .int .i64 0, .int .i64 0, .int .i64 0, .int .i64 0, .int .i64 0, .slice none 0 0, .slice none 0 0] 35)).heap.size := by have := hj1.low.size; simp; omega
       have hnb1 : R1.length + 1 ≤ maxLen := by have := H1.out.2.1; unfold maxLen; omega
       have hnc1 : (R1.length + 1) * 120 ≤ 140737488355328 := by have := H1.out.2.1; omega)
    | (at_builtin; refine wpList_append_own_at _ rfl _ _ 43 rfl w.heap.size 35 i0 _ 11 120 Tryz.underlying43 hi hz0 hz1 hz2 rfl (by decide) _ _ _ rfl hrow1 ⟨u1.heap.size, 0, none⟩ 1 1 (rcc (rc0 7 i.s, nilV, nilV)) rfl rfl ?c1 ?c2 hnb1 hnc1 hwl1 ?_))
  case c1 => exact cells_new u1 (rcc (rc0 7 i.s, nilV, nilV)) 35
  case c2 => exact fun u hu => rcc_one (R := [(rc0 7 i.s, nilV, nilV)]) (fun x hx => by simp only [List.mem_singleton] at hx; subst hx; exact ⟨rfl, rfl⟩) u (by simpa using hu)
  intro v2 w2 hown2 hgrow2 _ hat2
  have h2 := H1.out.push (x := rc0 7 i.s) hb1 rfl rfl hgrow2 hown2
  obtain ⟨a2, n2, c2, rfl⟩ := own_sl8 hown2
  clear d0 d1 d7 d10
  obtain ⟨R2, hR2⟩ : ∃ R2, R1 ++ [(rc0 7 i.s, nilV, nilV)] = R2 := ⟨_, rfl⟩
  rw [hR2] at h2
  have H2 : Hid (ImJ i au av nu nv cu cv w _ _ R2 (.slice a2 n2 c2) w2) := h2
  clear hat2 hgrow2 hown2 hwl1 hnb1 hnc1 hrow1 hj1 hb1 h2 hR2
  obtain ⟨d0, d1, _, _, _, _, _, d7, _, _, d10, _⟩ := HC.out w2 H2.out.2.2.2
  rw [HN.out.2.2.2.2.1] at d7
  rw [HN.out.2.2.2.2.2] at d10
  obtain ⟨W2, hW2⟩ : ∃ W2, W2 = w2 := ⟨_, rfl⟩
  go_wp2_with (first
    | (go_at_call 88
       refine (HOf.out 10 _).mono ?_
       rintro e u2 ⟨rfl, hb2⟩
       have hj2 := H2.out.2.2.1.below hb2
       have hrow2 := World.ownsRow.alloc hj2.row (.cells #[.int .i64 10, .int .i64 i.org, .int .i64 i.num, .int .i64 0, .int .i64 0, .int .i64 0, .int .i64 0, .int .i64 0, .int .i64 0, .slice none 0 0, .slice none 0 0] 35)
       have hwl2 : w.heap.size ≤ (u2.alloc (.cells #[.int .i64 10, .int .i64 i.org, .int .i64 i.num, .int .i64 0, .int .i64 0, .int .i64 0, .int .i64 0, .int .i64 0, .int .i64 0, .slice none 0 0, .slice none 0 0] 35)).heap.size := by have := hj2.low.size; simp; omega
       have hnb2 : R2.length + 1 ≤ maxLen := by have := H2.out.2.1; unfold maxLen; omega
       have hnc2 : (R2.length + 1) * 120 ≤ 140737488355328 := by have := H2.out.2.1; omega)
    | (at_builtin; refine wpList_append_own_at _ rfl _ _ 43 rfl w.heap.size 35 i0 _ 11 120 Tryz.underlying43 hi hz0 hz1 hz2 rfl (by decide) _ _ _ rfl hrow2 ⟨u2.heap.size, 0, none⟩ 1 1 (rcc (rc0 10 i.s, nilV, nilV)) rfl rfl ?c1 ?c2 hnb2 hnc2 hwl2 ?_))
  case c1 => exact cells_new u2 (rcc (rc0 10 i.s, nilV, nilV)) 35
  case c2 => exact fun u hu => rcc_one (R := [(rc0 10 i.s, nilV, nilV)]) (fun x hx => by simp only [List.mem_singleton] at hx; subst hx; exact ⟨rfl, rfl⟩) u (by simpa using hu)
  intro v3 w3 hown3 hgrow3 _ hat3
  have h3 := H2.out.push (x := rc0 10 i.s) hb2 rfl rfl hgrow3 hown3
  obtain ⟨a3, n3, c3, rfl⟩ := own_sl8 hown3
  clear d0 d1 d7 d10
  obtain ⟨R3, hR3⟩ : ∃ R3, R2 ++ [(rc0 10 i.s, nilV, nilV)] = R3 := ⟨_, rfl⟩
  rw [hR3] at h3
  have H3 : Hid (ImJ i au av nu nv cu cv w _ _ R3 (.slice a3 n3 c3) w3) := h3
  clear hat3 hgrow3 hown3 hwl2 hnb2 hnc2 hrow2 hj2 hb2 h3 hR3
  obtain ⟨d0, d1, _, _, _, _, _, d7, _, _, d10, _⟩ := HC.out w3 H3.out.2.2.2
  rw [HN.out.2.2.2.2.1] at d7
  rw [HN.out.2.2.2.2.2] at d10
  go_wp2
  go_ret
  refine ⟨_, _, _, R3, rfl, ?_, H3.out.2.2.1⟩
  rw [H3.out.1]
  unfold imR
  rw [if_neg (by rw [HN.out.2.2.1]; simp), if_neg (by rw [HN.out.2.2.2.1]; simp), if_pos HN.out.2.2.2.2.1, if_pos HN.out.2.2.2.2.2]
  simp
set_option maxRecDepth 8000 in
set_option maxHeartbeats 8000000 in
theorem importOf_do (i : Ic) (au av : Option Addr) (nu nv cu cv : Nat) (w : World) (hu : i.hv.length = nu) (hS : Spa w au i.hv) (hv : i.data.length = nv) (hL : Lies .u8 w av i.data) (hc : nv ≤ cv) (hcm : cv ≤ 9223372036854775807) (hnm : nv ≤ 1048576) (hnu : nu ≤ 2000) (hin : ∀ h ∈ i.hv, 0 ≤ h.1 ∧ h.1 < h.2 ∧ h.2 ≤ (nv : Int)) (hg : i.gone = false) (hh : i.heard = false) (hd : i.done = true) (hs : i.shut = false) :
    Calls Tryz.prog 53 #[iV i (.slice au nu cu) (.slice av nv cv)] w (ImP i w) := by
  obtain ⟨i0, hi, hz0, hz1, hz2⟩ := info_parts Tryz.info_rec
  obtain ⟨V, hV⟩ : ∃ V, w.alloc (.cells #[.int .i64 i.org, .int .i64 i.num, .int .i64 i.srv, .int .i64 i.red, .int .i64 i.size, .slice au nu cu, .slice av nv cv, .bool i.done, .bool i.gone, .bool i.heard, .bool i.shut, .int .i64 i.how] 63) = V := ⟨_, rfl⟩
  have HV : Hid (w.alloc (.cells #[.int .i64 i.org, .int .i64 i.num, .int .i64 i.srv, .int .i64 i.red, .int .i64 i.size, .slice au nu cu, .slice av nv cv, .bool i.done, .bool i.gone, .bool i.heard, .bool i.shut, .int .i64 i.how] 63) = V) := hV
  have hbV : Below w.heap.size w V := by rw [← hV]; exact (Below.refl _ _).alloc (Nat.le_refl _) _
  have hhV : V.heap[w.heap.size]? = some (.cells #[.int .i64 i.org, .int .i64 i.num, .int .i64 i.srv, .int .i64 i.red, .int .i64 i.size, .slice au nu cu, .slice av nv cv, .bool i.done, .bool i.gone, .bool i.heard, .bool i.shut, .int .i64 i.how] 63) := by rw [← hV]; exact heap_alloc_new' w _
  have HOf : Hid (∀ (k : Int) (U : World), Calls Tryz.prog 88 #[.int .i64 k, .agg #[.int .i64 i.org, .int .i64 i.num]] U fun e w' => e = .returned (.agg #[.int .i64 k, .int .i64 i.org, .int .i64 i.num, .int .i64 0, .int .i64 0, .int .i64 0, .int .i64 0, .int .i64 0, .int .i64 0, .slice none 0 0, .slice none 0 0]) ∧ Below U.heap.size U w') := fun k U => of8_any k i.org i.num U
  have HC : Hid (∀ U : World, U.heap[w.heap.size]? = some (.cells #[.int .i64 i.org, .int .i64 i.num, .int .i64 i.srv, .int .i64 i.red, .int .i64 i.size, .slice au nu cu, .slice av nv cv, .bool i.done, .bool i.gone, .bool i.heard, .bool i.shut, .int .i64 i.how] 63) → U.cell? ⟨w.heap.size, 0, none⟩ = some (.int .i64 i.org) ∧ U.cell? ⟨w.heap.size, 1, none⟩ = some (.int .i64 i.num) ∧ U.cell? ⟨w.heap.size, 2, none⟩ = some (.int .i64 i.srv) ∧ U.cell? ⟨w.heap.size, 3, none⟩ = some (.int .i64 i.red) ∧ U.cell? ⟨w.heap.size, 4, none⟩ = some (.int .i64 i.size) ∧ U.cell? ⟨w.heap.size, 5, none⟩ = some (.slice au nu cu) ∧ U.cell? ⟨w.heap.size, 6, none⟩ = some (.slice av nv cv) ∧ U.cell? ⟨w.heap.size, 7, none⟩ = some (.bool i.done) ∧ U.cell? ⟨w.heap.size, 8, none⟩ = some (.bool i.gone) ∧ U.cell? ⟨w.heap.size, 9, none⟩ = some (.bool i.heard) ∧ U.cell? ⟨w.heap.size, 10, none⟩ = some (.bool i.shut) ∧ U.cell? ⟨w.heap.size, 11, none⟩ = some (.int .i64 i.how)) := fun U q => by
    refine ⟨?_, ?_, ?_, ?_, ?_, ?_, ?_, ?_, ?_, ?_, ?_, ?_⟩ <;> exact (cell_of_row _ _ _ _ _ _ q).trans rfl
  have HRed : Hid (Calls Tryz.prog 89 #[.agg #[.int .i64 i.org, .int .i64 i.num, .int .i64 i.srv, .int .i64 i.red, .int .i64 i.size, .slice au nu cu, .slice av nv cv, .bool true, .bool false, .bool false, .bool false, .int .i64 i.how]] V (RdP i V)) := by
    have h := redsOf_any i au av nu nv cu cv V hu (hS.below (hbV.mono (Nat.le_refl _))) hv (hL.below (hbV.mono (Nat.le_refl _))) hc hcm hnm hnu hin
    unfold iV at h
    rw [hg, hh, hd, hs] at h
    exact h
  have HN : Hid (i.hv.length = nu ∧ nu ≤ 2000 ∧ i.gone = false ∧ i.heard = false ∧ i.done = true ∧ i.shut = false) := ⟨hu, hnu, hg, hh, hd, hs⟩
  obtain ⟨c0, c1, c2, c3, c4, c5, c6, c7, c8, c9, c10, c11⟩ := HC.out V hhV
  have HHV : Hid (V.heap[w.heap.size]? = some (.cells #[.int .i64 i.org, .int .i64 i.num, .int .i64 i.srv, .int .i64 i.red, .int .i64 i.size, .slice au nu cu, .slice av nv cv, .bool i.done, .bool i.gone, .bool i.heard, .bool i.shut, .int .i64 i.how] 63) ∧ Below w.heap.size w V) := ⟨hhV, hbV⟩
  clear hV hbV hhV
  rw [hg] at c8
  rw [hh] at c9
  rw [hd] at c7
  rw [hs] at c10
  clear hu hS hv hL hc hcm hnm hnu hin hg hh hd hs
  go_enter Tryz.func53, Tryz.ntmps53
  go_upto_region 1 with fail
  rw [HV.out]
  go_upto_region 10 with (go_at_call 89; refine HRed.out.mono ?_; rintro e w1 ⟨a1, n1, k1, R1, rfl, hm1, hn1, hj1⟩)
  have H1 : Hid (ImJ i au av nu nv cu cv w (i.hv.map (rdR8 i)) 2000 R1 (.slice a1 n1 k1) w1) := by
    have hl := (Array.getElem?_eq_some_iff.1 HHV.out.1).1
    exact ⟨hm1, by have h1 := congrArg List.length hm1; have h2 := HN.out.1; have h3 := HN.out.2.1; simp at h1; omega, hj1.base HHV.out.2, (hj1.low.block _ hl).trans HHV.out.1⟩
  clear c0 c1 c2 c3 c4 c5 c6 c7 c8 c9 c10 c11 hm1 hn1 hj1 HRed
  obtain ⟨d0, d1, _, _, _, _, _, d7, _, _, d10, _⟩ := HC.out w1 H1.out.2.2.2
  rw [HN.out.2.2.2.2.1] at d7
  rw [HN.out.2.2.2.2.2] at d10
  obtain ⟨W1, hW1⟩ : ∃ W1, W1 = w1 := ⟨_, rfl⟩
  go_wp2_with (first
    | (go_at_call 88
       refine (HOf.out 7 _).mono ?_
       rintro e u1 ⟨rfl, hb1⟩
       have hj1 := H1.out.2.2.1.below hb1
       have hrow1 := World.ownsRow.alloc hj1.row (.cells #[.int .i64 7, .int .i64 i.org, .int .i64 i.num, .int .i64 0, .int .i64 0, .int .i64 0, .int .i64 0, .int .i64 0, .int .i64 0, .slice none 0 0, .slice none 0 0] 35)
       have hwl1 : w.heap.size ≤ (u1.alloc (.cells #[.int .i64 7, .int .i64 i.org, .int .i64 i.num, .int .i64 0, .int .i64 0, .int .i64 0, .int .i64 0, .int .i64 0, .int .i64 0, .slice none 0 0, .slice none 0 0] 35)).heap.size := by have := hj1.low.size; simp; omega
       have hnb1 : R1.length + 1 ≤ maxLen := by have := H1.out.2.1; unfold maxLen; omega
       have hnc1 : (R1.length + 1) * 120 ≤ 140737488355328 := by have := H1.out.2.1; omega)
    | (at_builtin; refine wpList_append_own_at _ rfl _ _ 43 rfl w.heap.size 35 i0 _ 11 120 Tryz.underlying43 hi hz0 hz1 hz2 rfl (by decide) _ _ _ rfl hrow1 ⟨u1.heap.size, 0, none⟩ 1 1 (rcc (rc0 7 i.s, nilV, nilV)) rfl rfl ?c1 ?c2 hnb1 hnc1 hwl1 ?_))
  case c1 => exact cells_new u1 (rcc (rc0 7 i.s, nilV, nilV)) 35
  case c2 => exact fun u hu => rcc_one (R := [(rc0 7 i.s, nilV, nilV)]) (fun x hx => by simp only [List.mem_singleton] at hx; subst hx; exact ⟨rfl, rfl⟩) u (by simpa using hu)
  intro v2 w2 hown2 hgrow2 _ hat2
  have h2 := H1.out.push (x := rc0 7 i.s) hb1 rfl rfl hgrow2 hown2
  obtain ⟨a2, n2, c2, rfl⟩ := own_sl8 hown2
  clear d0 d1 d7 d10
  obtain ⟨R2, hR2⟩ : ∃ R2, R1 ++ [(rc0 7 i.s, nilV, nilV)] = R2 := ⟨_, rfl⟩
  rw [hR2] at h2
  have H2 : Hid (ImJ i au av nu nv cu cv w _ _ R2 (.slice a2 n2 c2) w2) := h2
  clear hat2 hgrow2 hown2 hwl1 hnb1 hnc1 hrow1 hj1 hb1 h2 hR2
  obtain ⟨d0, d1, _, _, _, _, _, d7, _, _, d10, _⟩ := HC.out w2 H2.out.2.2.2
  rw [HN.out.2.2.2.2.1] at d7
  rw [HN.out.2.2.2.2.2] at d10
  go_wp2
  go_ret
  refine ⟨_, _, _, R2, rfl, ?_, H2.out.2.2.1⟩
  rw [H2.out.1]
  unfold imR
  rw [if_neg (by rw [HN.out.2.2.1]; simp), if_neg (by rw [HN.out.2.2.2.1]; simp), if_pos HN.out.2.2.2.2.1, if_neg (by rw [HN.out.2.2.2.2.2]; simp)]
  simp
set_option maxRecDepth 8000 in
set_option maxHeartbeats 8000000 in
theorem importOf_os (i : Ic) (au av : Option Addr) (nu nv cu cv : Nat) (w : World) (hu : i.hv.length = nu) (hS : Spa w au i.hv) (hv : i.data.length = nv) (hL : Lies .u8 w av i.data) (hc : nv ≤ cv) (hcm : cv ≤ 9223372036854775807) (hnm : nv ≤ 1048576) (hnu : nu ≤ 2000) (hin : ∀ h ∈ i.hv, 0 ≤ h.1 ∧ h.1 < h.2 ∧ h.2 ≤ (nv : Int)) (hg : i.gone = false) (hh : i.heard = false) (hd : i.done = false) (hs : i.shut = true) :
    Calls Tryz.prog 53 #[iV i (.slice au nu cu) (.slice av nv cv)] w (ImP i w) := by
  obtain ⟨i0, hi, hz0, hz1, hz2⟩ := info_parts Tryz.info_rec
  obtain ⟨V, hV⟩ : ∃ V, w.alloc (.cells #[.int .i64 i.org, .int .i64 i.num, .int .i64 i.srv, .int .i64 i.red, .int .i64 i.size, .slice au nu cu, .slice av nv cv, .bool i.done, .bool i.gone, .bool i.heard, .bool i.shut, .int .i64 i.how] 63) = V := ⟨_, rfl⟩
  have HV : Hid (w.alloc (.cells #[.int .i64 i.org, .int .i64 i.num, .int .i64 i.srv, .int .i64 i.red, .int .i64 i.size, .slice au nu cu, .slice av nv cv, .bool i.done, .bool i.gone, .bool i.heard, .bool i.shut, .int .i64 i.how] 63) = V) := hV
  have hbV : Below w.heap.size w V := by rw [← hV]; exact (Below.refl _ _).alloc (Nat.le_refl _) _
  have hhV : V.heap[w.heap.size]? = some (.cells #[.int .i64 i.org, .int .i64 i.num, .int .i64 i.srv, .int .i64 i.red, .int .i64 i.size, .slice au nu cu, .slice av nv cv, .bool i.done, .bool i.gone, .bool i.heard, .bool i.shut, .int .i64 i.how] 63) := by rw [← hV]; exact heap_alloc_new' w _
  have HOf : Hid (∀ (k : Int) (U : World), Calls Tryz.prog 88 #[.int .i64 k, .agg #[.int .i64 i.org, .int .i64 i.num]] U fun e w' => e = .returned (.agg #[.int .i64 k, .int .i64 i.org, .int .i64 i.num, .int .i64 0, .int .i64 0, .int .i64 0, .int .i64 0, .int .i64 0, .int .i64 0, .slice none 0 0, .slice none 0 0]) ∧ Below U.heap.size U w') := fun k U => of8_any k i.org i.num U
  have HC : Hid (∀ U : World, U.heap[w.heap.size]? = some (.cells #[.int .i64 i.org, .int .i64 i.num, .int .i64 i.srv, .int .i64 i.red, .int .i64 i.size, .slice au nu cu, .slice av nv cv, .bool i.done, .bool i.gone, .bool i.heard, .bool i.shut, .int .i64 i.how] 63) → U.cell? ⟨w.heap.size, 0, none⟩ = some (.int .i64 i.org) ∧ U.cell? ⟨w.heap.size, 1, none⟩ = some (.int .i64 i.num) ∧ U.cell? ⟨w.heap.size, 2, none⟩ = some (.int .i64 i.srv) ∧ U.cell? ⟨w.heap.size, 3, none⟩ = some (.int .i64 i.red) ∧ U.cell? ⟨w.heap.size, 4, none⟩ = some (.int .i64 i.size) ∧ U.cell? ⟨w.heap.size, 5, none⟩ = some (.slice au nu cu) ∧ U.cell? ⟨w.heap.size, 6, none⟩ = some (.slice av nv cv) ∧ U.cell? ⟨w.heap.size, 7, none⟩ = some (.bool i.done) ∧ U.cell? ⟨w.heap.size, 8, none⟩ = some (.bool i.gone) ∧ U.cell? ⟨w.heap.size, 9, none⟩ = some (.bool i.heard) ∧ U.cell? ⟨w.heap.size, 10, none⟩ = some (.bool i.shut) ∧ U.cell? ⟨w.heap.size, 11, none⟩ = some (.int .i64 i.how)) := fun U q => by
    refine ⟨?_, ?_, ?_, ?_, ?_, ?_, ?_, ?_, ?_, ?_, ?_, ?_⟩ <;> exact (cell_of_row _ _ _ _ _ _ q).trans rfl
  have HRed : Hid (Calls Tryz.prog 89 #[.agg #[.int .i64 i.org, .int .i64 i.num, .int .i64 i.srv, .int .i64 i.red, .int .i64 i.size, .slice au nu cu, .slice av nv cv, .bool false, .bool false, .bool false, .bool true, .int .i64 i.how]] V (RdP i V)) := by
    have h := redsOf_any i au av nu nv cu cv V hu (hS.below (hbV.mono (Nat.le_refl _))) hv (hL.below (hbV.mono (Nat.le_refl _))) hc hcm hnm hnu hin
    unfold iV at h
    rw [hg, hh, hd, hs] at h
    exact h
  have HN : Hid (i.hv.length = nu ∧ nu ≤ 2000 ∧ i.gone = false ∧ i.heard = false ∧ i.done = false ∧ i.shut = true) := ⟨hu, hnu, hg, hh, hd, hs⟩
  obtain ⟨c0, c1, c2, c3, c4, c5, c6, c7, c8, c9, c10, c11⟩ := HC.out V hhV
  have HHV : Hid (V.heap[w.heap.size]? = some (.cells #[.int .i64 i.org, .int .i64 i.num, .int .i64 i.srv, .int .i64 i.red, .int .i64 i.size, .slice au nu cu, .slice av nv cv, .bool i.done, .bool i.gone, .bool i.heard, .bool i.shut, .int .i64 i.how] 63) ∧ Below w.heap.size w V) := ⟨hhV, hbV⟩
  clear hV hbV hhV
  rw [hg] at c8
  rw [hh] at c9
  rw [hd] at c7
  rw [hs] at c10
  clear hu hS hv hL hc hcm hnm hnu hin hg hh hd hs
  go_enter Tryz.func53, Tryz.ntmps53
  go_upto_region 1 with fail
  rw [HV.out]
  go_upto_region 10 with (go_at_call 89; refine HRed.out.mono ?_; rintro e w1 ⟨a1, n1, k1, R1, rfl, hm1, hn1, hj1⟩)
  have H1 : Hid (ImJ i au av nu nv cu cv w (i.hv.map (rdR8 i)) 2000 R1 (.slice a1 n1 k1) w1) := by
    have hl := (Array.getElem?_eq_some_iff.1 HHV.out.1).1
    exact ⟨hm1, by have h1 := congrArg List.length hm1; have h2 := HN.out.1; have h3 := HN.out.2.1; simp at h1; omega, hj1.base HHV.out.2, (hj1.low.block _ hl).trans HHV.out.1⟩
  clear c0 c1 c2 c3 c4 c5 c6 c7 c8 c9 c10 c11 hm1 hn1 hj1 HRed
  obtain ⟨d0, d1, _, _, _, _, _, d7, _, _, d10, _⟩ := HC.out w1 H1.out.2.2.2
  rw [HN.out.2.2.2.2.1] at d7
  rw [HN.out.2.2.2.2.2] at d10
  obtain ⟨W1, hW1⟩ : ∃ W1, W1 = w1 := ⟨_, rfl⟩
  go_wp2_with (first
    | (go_at_call 88
       refine (HOf.out 10 _).mono ?_
       rintro e u1 ⟨rfl, hb1⟩
       have hj1 := H1.out.2.2.1.below hb1
       have hrow1 := World.ownsRow.alloc hj1.row (.cells #[.int .i64 10, .int .i64 i.org, .int .i64 i.num, .int .i64 0, .int .i64 0, .int .i64 0, .int .i64 0, .int .i64 0, .int .i64 0, .slice none 0 0, .slice none 0 0] 35)
       have hwl1 : w.heap.size ≤ (u1.alloc (.cells #[.int .i64 10, .int .i64 i.org, .int .i64 i.num, .int .i64 0, .int .i64 0, .int .i64 0, .int .i64 0, .int .i64 0, .int .i64 0, .slice none 0 0, .slice none 0 0] 35)).heap.size := by have := hj1.low.size; simp; omega
       have hnb1 : R1.length + 1 ≤ maxLen := by have := H1.out.2.1; unfold maxLen; omega
       have hnc1 : (R1.length + 1) * 120 ≤ 140737488355328 := by have := H1.out.2.1; omega)
    | (at_builtin; refine wpList_append_own_at _ rfl _ _ 43 rfl w.heap.size 35 i0 _ 11 120 Tryz.underlying43 hi hz0 hz1 hz2 rfl (by decide) _ _ _ rfl hrow1 ⟨u1.heap.size, 0, none⟩ 1 1 (rcc (rc0 10 i.s, nilV, nilV)) rfl rfl ?c1 ?c2 hnb1 hnc1 hwl1 ?_))
  case c1 => exact cells_new u1 (rcc (rc0 10 i.s, nilV, nilV)) 35
  case c2 => exact fun u hu => rcc_one (R := [(rc0 10 i.s, nilV, nilV)]) (fun x hx => by simp only [List.mem_singleton] at hx; subst hx; exact ⟨rfl, rfl⟩) u (by simpa using hu)
  intro v2 w2 hown2 hgrow2 _ hat2
  have h2 := H1.out.push (x := rc0 10 i.s) hb1 rfl rfl hgrow2 hown2
  obtain ⟨a2, n2, c2, rfl⟩ := own_sl8 hown2
  clear d0 d1 d7 d10
  obtain ⟨R2, hR2⟩ : ∃ R2, R1 ++ [(rc0 10 i.s, nilV, nilV)] = R2 := ⟨_, rfl⟩
  rw [hR2] at h2
  have H2 : Hid (ImJ i au av nu nv cu cv w _ _ R2 (.slice a2 n2 c2) w2) := h2
  clear hat2 hgrow2 hown2 hwl1 hnb1 hnc1 hrow1 hj1 hb1 h2 hR2
  obtain ⟨d0, d1, _, _, _, _, _, d7, _, _, d10, _⟩ := HC.out w2 H2.out.2.2.2
  rw [HN.out.2.2.2.2.1] at d7
  rw [HN.out.2.2.2.2.2] at d10
  go_wp2
  go_ret
  refine ⟨_, _, _, R2, rfl, ?_, H2.out.2.2.1⟩
  rw [H2.out.1]
  unfold imR
  rw [if_neg (by rw [HN.out.2.2.1]; simp), if_neg (by rw [HN.out.2.2.2.1]; simp), if_neg (by rw [HN.out.2.2.2.2.1]; simp), if_pos HN.out.2.2.2.2.2]
  simp
set_option maxRecDepth 8000 in
set_option maxHeartbeats 8000000 in
theorem importOf_oo (i : Ic) (au av : Option Addr) (nu nv cu cv : Nat) (w : World) (hu : i.hv.length = nu) (hS : Spa w au i.hv) (hv : i.data.length = nv) (hL : Lies .u8 w av i.data) (hc : nv ≤ cv) (hcm : cv ≤ 9223372036854775807) (hnm : nv ≤ 1048576) (hnu : nu ≤ 2000) (hin : ∀ h ∈ i.hv, 0 ≤ h.1 ∧ h.1 < h.2 ∧ h.2 ≤ (nv : Int)) (hg : i.gone = false) (hh : i.heard = false) (hd : i.done = false) (hs : i.shut = false) :
    Calls Tryz.prog 53 #[iV i (.slice au nu cu) (.slice av nv cv)] w (ImP i w) := by
  obtain ⟨i0, hi, hz0, hz1, hz2⟩ := info_parts Tryz.info_rec
  obtain ⟨V, hV⟩ : ∃ V, w.alloc (.cells #[.int .i64 i.org, .int .i64 i.num, .int .i64 i.srv, .int .i64 i.red, .int .i64 i.size, .slice au nu cu, .slice av nv cv, .bool i.done, .bool i.gone, .bool i.heard, .bool i.shut, .int .i64 i.how] 63) = V := ⟨_, rfl⟩
  have HV : Hid (w.alloc (.cells #[.int .i64 i.org, .int .i64 i.num, .int .i64 i.srv, .int .i64 i.red, .int .i64 i.size, .slice au nu cu, .slice av nv cv, .bool i.done, .bool i.gone, .bool i.heard, .bool i.shut, .int .i64 i.how] 63) = V) := hV
  have hbV : Below w.heap.size w V := by rw [← hV]; exact (Below.refl _ _).alloc (Nat.le_refl _) _
  have hhV : V.heap[w.heap.size]? = some (.cells #[.int .i64 i.org, .int .i64 i.num, .int .i64 i.srv, .int .i64 i.red, .int .i64 i.size, .slice au nu cu, .slice av nv cv, .bool i.done, .bool i.gone, .bool i.heard, .bool i.shut, .int .i64 i.how] 63) := by rw [← hV]; exact heap_alloc_new' w _
  have HOf : Hid (∀ (k : Int) (U : World), Calls Tryz.prog 88 #[.int .i64 k, .agg #[.int .i64 i.org, .int .i64 i.num]] U fun e w' => e = .returned (.agg #[.int .i64 k, .int .i64 i.org, .int .i64 i.num, .int .i64 0, .int .i64 0, .int .i64 0, .int .i64 0, .int .i64 0, .int .i64 0, .slice none 0 0, .slice none 0 0]) ∧ Below U.heap.size U w') := fun k U => of8_any k i.org i.num U
  have HC : Hid (∀ U : World, U.heap[w.heap.size]? = some (.cells #[.int .i64 i.org, .int .i64 i.num, .int .i64 i.srv, .int .i64 i.red, .int .i64 i.size, .slice au nu cu, .slice av nv cv, .bool i.done, .bool i.gone, .bool i.heard, .bool i.shut, .int .i64 i.how] 63) → U.cell? ⟨w.heap.size, 0, none⟩ = some (.int .i64 i.org) ∧ U.cell? ⟨w.heap.size, 1, none⟩ = some (.int .i64 i.num) ∧ U.cell? ⟨w.heap.size, 2, none⟩ = some (.int .i64 i.srv) ∧ U.cell? ⟨w.heap.size, 3, none⟩ = some (.int .i64 i.red) ∧ U.cell? ⟨w.heap.size, 4, none⟩ = some (.int .i64 i.size) ∧ U.cell? ⟨w.heap.size, 5, none⟩ = some (.slice au nu cu) ∧ U.cell? ⟨w.heap.size, 6, none⟩ = some (.slice av nv cv) ∧ U.cell? ⟨w.heap.size, 7, none⟩ = some (.bool i.done) ∧ U.cell? ⟨w.heap.size, 8, none⟩ = some (.bool i.gone) ∧ U.cell? ⟨w.heap.size, 9, none⟩ = some (.bool i.heard) ∧ U.cell? ⟨w.heap.size, 10, none⟩ = some (.bool i.shut) ∧ U.cell? ⟨w.heap.size, 11, none⟩ = some (.int .i64 i.how)) := fun U q => by
    refine ⟨?_, ?_, ?_, ?_, ?_, ?_, ?_, ?_, ?_, ?_, ?_, ?_⟩ <;> exact (cell_of_row _ _ _ _ _ _ q).trans rfl
  have HRed : Hid (Calls Tryz.prog 89 #[.agg #[.int .i64 i.org, .int .i64 i.num, .int .i64 i.srv, .int .i64 i.red, .int .i64 i.size, .slice au nu cu, .slice av nv cv, .bool false, .bool false, .bool false, .bool false, .int .i64 i.how]] V (RdP i V)) := by
    have h := redsOf_any i au av nu nv cu cv V hu (hS.below (hbV.mono (Nat.le_refl _))) hv (hL.below (hbV.mono (Nat.le_refl _))) hc hcm hnm hnu hin
    unfold iV at h
    rw [hg, hh, hd, hs] at h
    exact h
  have HN : Hid (i.hv.length = nu ∧ nu ≤ 2000 ∧ i.gone = false ∧ i.heard = false ∧ i.done = false ∧ i.shut = false) := ⟨hu, hnu, hg, hh, hd, hs⟩
  obtain ⟨c0, c1, c2, c3, c4, c5, c6, c7, c8, c9, c10, c11⟩ := HC.out V hhV
  have HHV : Hid (V.heap[w.heap.size]? = some (.cells #[.int .i64 i.org, .int .i64 i.num, .int .i64 i.srv, .int .i64 i.red, .int .i64 i.size, .slice au nu cu, .slice av nv cv, .bool i.done, .bool i.gone, .bool i.heard, .bool i.shut, .int .i64 i.how] 63) ∧ Below w.heap.size w V) := ⟨hhV, hbV⟩
  clear hV hbV hhV
  rw [hg] at c8
  rw [hh] at c9
  rw [hd] at c7
  rw [hs] at c10
  clear hu hS hv hL hc hcm hnm hnu hin hg hh hd hs
  go_enter Tryz.func53, Tryz.ntmps53
  go_upto_region 1 with fail
  rw [HV.out]
  go_upto_region 10 with (go_at_call 89; refine HRed.out.mono ?_; rintro e w1 ⟨a1, n1, k1, R1, rfl, hm1, hn1, hj1⟩)
  have H1 : Hid (ImJ i au av nu nv cu cv w (i.hv.map (rdR8 i)) 2000 R1 (.slice a1 n1 k1) w1) := by
    have hl := (Array.getElem?_eq_some_iff.1 HHV.out.1).1
    exact ⟨hm1, by have h1 := congrArg List.length hm1; have h2 := HN.out.1; have h3 := HN.out.2.1; simp at h1; omega, hj1.base HHV.out.2, (hj1.low.block _ hl).trans HHV.out.1⟩
  clear c0 c1 c2 c3 c4 c5 c6 c7 c8 c9 c10 c11 hm1 hn1 hj1 HRed
  obtain ⟨d0, d1, _, _, _, _, _, d7, _, _, d10, _⟩ := HC.out w1 H1.out.2.2.2
  rw [HN.out.2.2.2.2.1] at d7
  rw [HN.out.2.2.2.2.2] at d10
  go_wp2
  go_ret
  refine ⟨_, _, _, R1, rfl, ?_, H1.out.2.2.1⟩
  rw [H1.out.1]
  unfold imR
  rw [if_neg (by rw [HN.out.2.2.1]; simp), if_neg (by rw [HN.out.2.2.2.1]; simp), if_neg (by rw [HN.out.2.2.2.2.1]; simp), if_neg (by rw [HN.out.2.2.2.2.2]; simp)]
  simp
/-- The records of an import. -/
theorem importOf_any (i : Ic) (au av : Option Addr) (nu nv cu cv : Nat) (w : World) (hu : i.hv.length = nu) (hS : Spa w au i.hv) (hv : i.data.length = nv) (hL : Lies .u8 w av i.data) (hc : nv ≤ cv) (hcm : cv ≤ 9223372036854775807) (hnm : nv ≤ 1048576) (hnu : nu ≤ 2000) (hin : ∀ h ∈ i.hv, 0 ≤ h.1 ∧ h.1 < h.2 ∧ h.2 ≤ (nv : Int)) :
    Calls Tryz.prog 53 #[iV i (.slice au nu cu) (.slice av nv cv)] w (ImP i w) := by
  cases hg : i.gone with
  | true => exact importOf_gone i au av nu nv cu cv w hg
  | false =>
    cases hh : i.heard with
    | true => exact importOf_heard i au av nu nv cu cv w hg hh
    | false =>
      cases hd : i.done <;> cases hs : i.shut
      · exact importOf_oo i au av nu nv cu cv w hu hS hv hL hc hcm hnm hnu hin hg hh hd hs
      · exact importOf_os i au av nu nv cu cv w hu hS hv hL hc hcm hnm hnu hin hg hh hd hs
      · exact importOf_do i au av nu nv cu cv w hu hS hv hL hc hcm hnm hnu hin hg hh hd hs
      · exact importOf_ds i au av nu nv cu cv w hu hS hv hL hc hcm hnm hnu hin hg hh hd hs
end Go.Proofs.YtillgoegiplmkaaGreatDoor.B
