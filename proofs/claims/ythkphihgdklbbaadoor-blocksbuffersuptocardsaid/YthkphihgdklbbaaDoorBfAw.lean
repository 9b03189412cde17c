import Derived.Test.YthkphihgdklbbaaDoorBkGrn
import Derived.ProofKit
import Derived.Test.YthkphihgdklbbaaDoorBfRd
namespace Go.Proofs.YthkphihgdklbbaaDoor
open Go.RowKit

/-- The home of the examples. -/
def homK4 : Pk := ⟨1, 5, 7, 72, 72, 80, 0⟩
theorem cut_home4 : cut homK4 200 = ([⟨0, 0, 71, 0, 0⟩, ⟨3, 71, 72, 201, 0⟩], 0) := by kernel_rfl

set_option maxHeartbeats 1000000 in
theorem home4_any (w : World) : Calls Tryd.prog 18 #[] w fun e w' => e = .returned (.tuple #[.agg #[.int .i64 1, .int .i64 5], .agg #[.int .i64 7, .int .i64 72, .int .i64 72, .int .i64 80, .int .i64 0]]) ∧ Below w.heap.size w w' := by
  go_enter Tryd.func18, Tryd.ntmps18
  go_wp2
  refine bodyPost_ret (v := .tuple #[.agg #[.int .i64 1, .int .i64 5], .agg #[.int .i64 7, .int .i64 72, .int .i64 72, .int .i64 80, .int .i64 0]]) (by simp [results, Tryd.results18, go_sem]) rfl ?_
  exact ⟨rfl, ((Below.refl _ _).alloc (Nat.le_refl _) _).alloc (by simp) _⟩

end Go.Proofs.YthkphihgdklbbaaDoor

namespace Go.Proofs.YthkphihgdklbbaaDoor
open Go.RowKit

theorem two_cells4 {w : World} {b : Nat} {v : Value} {x y : Pc} (h : POwn w b v [x, y]) : ∃ g cap, v = .slice (some ⟨g, 0, none⟩) 2 cap ∧ b ≤ g ∧ g < w.heap.size ∧ (∀ j u, (pcL x ++ pcL y)[j]? = some u → w.cell? ⟨g, j, none⟩ = some u) := by
  obtain ⟨g, cap, rfl⟩ := own_pos h (by simp)
  have hl := World.ownsRow.lt h g rfl
  refine ⟨g, cap, rfl, hl.1, hl.2, fun j u hj => ?_⟩
  have hjl := (List.getElem?_eq_some_iff.mp hj).1
  have := World.ownsRow.cellAt h j (by simp [pcL] at hjl ⊢; omega)
  rw [this]
  simpa using hj

theorem put_home4 : C.PutR C.bf0 3 [1, 2, 3] 3 0 0 (C.putB C.bf0 3 [1, 2, 3] [(3, 6)]) := by
  refine .inr (.inr ⟨⟨by decide, by decide, by decide, by decide⟩, [(3, 6)], ⟨by simp [C.Rt], fun x => ?_, by simp [C.bf0]⟩, .inl ⟨by decide, rfl, rfl, rfl, rfl⟩⟩)
  simp [C.bf0, C.has]
set_option maxRecDepth 100000 in
set_option maxHeartbeats 4000000 in
theorem awk4_any (w : World) (hT : Tab w) : Calls Tryd.prog 5 #[] w fun e w' => e = .returned (.bool true) ∧ Below w.heap.size w w' := by
  have HT : Hid (Tab w) := hT
  have hh := home4_any w
  clear hT
  go_enter Tryd.func5, Tryd.ntmps5
  go_wp2_with fail
  refine hh.mono ?_
  rintro e w1 ⟨rfl, hb1⟩
  have HB1 : Hid (Below w.heap.size w w1) := hb1
  clear hh hb1
  have hcu : ∀ W, Below w.heap.size w W → Calls Tryd.prog 10 #[.agg #[.int .i64 1, .int .i64 5], .agg #[.int .i64 7, .int .i64 72, .int .i64 72, .int .i64 80, .int .i64 0], .int .i64 200] W (CutPost ([⟨0, 0, 71, 0, 0⟩, ⟨3, 71, 72, 201, 0⟩], 0) W) := fun W hb => by
    have := cut_any homK4 200 W (HT.out.below hb (tab_pos HT.out))
    rw [cut_home4] at this; exact this
  go_wp2_with fail
  refine (hcu _ ((HB1.out.alloc HB1.out.size _).alloc (by have := HB1.out.size; simp; omega) _)).mono ?_
  rintro e w2 ⟨v, rfl, hown, hb2⟩
  have HB2 : Hid (Below w.heap.size w w2) := ((HB1.out.alloc HB1.out.size _).alloc (by have := HB1.out.size; simp; omega) _).trans (hb2.mono (by have := HB1.out.size; simp; omega))
  obtain ⟨g, cap, rfl, hg1, hg2, hcell⟩ := two_cells4 hown
  have HC : Hid (∀ j u, (pcL ⟨0, 0, 71, 0, 0⟩ ++ pcL ⟨3, 71, 72, 201, 0⟩)[j]? = some u → w2.cell? ⟨g, j, none⟩ = some u) := hcell
  clear hcu hown hb2 hcell
  have hne := C.new4_any w2
  go_wp2_with fail
  refine hne.mono ?_
  rintro e w3 ⟨rfl, hB3, hb3⟩
  have hs3 : w2.heap.size < w3.heap.size := hB3.lt
  have hBu : C.Bu (w3.alloc (.cells #[.int .u8 1, .int .u8 2, .int .u8 3] 5)) w2.heap.size (fun k => w2.heap.size ≤ k ∧ k < w3.heap.size) C.bf0 := hB3.cut.below ((Below.refl _ _).alloc (Nat.le_refl _) _)
  have hpt := C.put_any w2.heap.size C.bf0 (fun k => w2.heap.size ≤ k ∧ k < w3.heap.size) 3 (some ⟨w3.heap.size, 0, none⟩) 3 3 [1, 2, 3] _ hBu (by intro z hz; simp at hz; omega) rfl (by omega) (by omega) (by omega) (.inr ⟨w3.heap.size, 0, rfl, fun i hi => by
    have hn := heap_alloc_new' w3 (.cells #[.int .u8 1, .int .u8 2, .int .u8 3] 5)
    match i, hi with
    | 0, _ => exact cell_of_row _ _ 0 _ _ _ hn
    | 1, _ => exact cell_of_row _ _ 1 _ _ _ hn
    | 2, _ => exact cell_of_row _ _ 2 _ _ _ hn⟩) (fun g hg h => by cases hg; have h2 : w3.heap.size < w3.heap.size := h.2; omega)
  have HB3 : Hid (Below w2.heap.size w2 w3) := hb3
  clear hne hB3 hb3 hBu
  go_wp2_with fail
  refine hpt.mono ?_
  rintro e w4 ⟨fr, cl, er, b', rfl, hR, _, hK⟩
  obtain ⟨rfl, rfl, rfl, _⟩ := hR.uniq put_home4
  have hb4 : Below w2.heap.size w3 w4 := ((Below.refl _ w3).alloc (Nat.le_of_lt hs3) _).trans (hK.bel (by simp; omega) (fun k h => h.1))
  clear hpt hR hK
  have hbb : Below w2.heap.size w2 w4 := HB3.out.trans hb4
  have HP : Hid (∀ j u, (pcL ⟨0, 0, 71, 0, 0⟩ ++ pcL ⟨3, 71, 72, 201, 0⟩)[j]? = some u → w4.cell? ⟨g, j, none⟩ = some u) := fun j u hj => cellB (HC.out j u hj) hbb hg2
  have HB4 : Hid (Below w.heap.size w w4) := HB2.out.trans (hbb.mono HB2.out.size)
  have p0 : w4.cell? ⟨g, 0, none⟩ = some (.int .i64 0) := HP.out 0 _ rfl
  have p1 : w4.cell? ⟨g, 1, none⟩ = some (.int .i64 0) := HP.out 1 _ rfl
  have p2 : w4.cell? ⟨g, 2, none⟩ = some (.int .i64 71) := HP.out 2 _ rfl
  have p3 : w4.cell? ⟨g, 3, none⟩ = some (.int .i64 0) := HP.out 3 _ rfl
  have p4 : w4.cell? ⟨g, 4, none⟩ = some (.int .i64 0) := HP.out 4 _ rfl
  have p5 : w4.cell? ⟨g, 5, none⟩ = some (.int .i64 3) := HP.out 5 _ rfl
  have p6 : w4.cell? ⟨g, 6, none⟩ = some (.int .i64 71) := HP.out 6 _ rfl
  have p7 : w4.cell? ⟨g, 7, none⟩ = some (.int .i64 72) := HP.out 7 _ rfl
  have p8 : w4.cell? ⟨g, 8, none⟩ = some (.int .i64 201) := HP.out 8 _ rfl
  have p9 : w4.cell? ⟨g, 9, none⟩ = some (.int .i64 0) := HP.out 9 _ rfl
  clear hb4 hbb HC HB1 HB2 hg1
  go_wp2
  go_ret
  exact ⟨rfl, HB4.out⟩

end Go.Proofs.YthkphihgdklbbaaDoor
