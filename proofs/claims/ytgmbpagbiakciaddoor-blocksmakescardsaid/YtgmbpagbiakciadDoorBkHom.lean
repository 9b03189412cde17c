import Derived.Test.YtgmbpagbiakciadDoorBkCut
import Derived.ProofKit
import Derived.Test.YtgmbpagbiakciadDoorBkPut
namespace Go.Proofs.YtgmbpagbiakciadDoor
open Go.RowKit

/-- The home of the examples. -/
def homK : Pk := ⟨1, 5, 7, 72, 72, 80, 0⟩
theorem cut_home : cut homK 200 = ([⟨0, 0, 71, 0, 0⟩, ⟨3, 71, 72, 201, 0⟩], 0) := by kernel_rfl

set_option maxHeartbeats 1000000 in
theorem home_any (w : World) : Calls Tryd.prog 30 #[] w fun e w' => e = .returned (.tuple #[.agg #[.int .i64 1, .int .i64 5], .agg #[.int .i64 7, .int .i64 72, .int .i64 72, .int .i64 80, .int .i64 0]]) ∧ Below w.heap.size w w' := by
  go_enter Tryd.func30, Tryd.ntmps30
  go_wp2
  refine bodyPost_ret (v := .tuple #[.agg #[.int .i64 1, .int .i64 5], .agg #[.int .i64 7, .int .i64 72, .int .i64 72, .int .i64 80, .int .i64 0]]) (by simp [results, Tryd.results30, go_sem]) rfl ?_
  exact ⟨rfl, ((Below.refl _ _).alloc (Nat.le_refl _) _).alloc (by simp) _⟩

set_option maxHeartbeats 1000000 in
theorem new_any (w : World) : Calls Tryd.prog 31 #[] w fun e w' => e = .returned (.pointer (some ⟨w.heap.size, 0, none⟩)) ∧ w' = w.alloc (.cells #[.slice none 0 0, .slice none 0 0, .bool false] 110) := by
  go_enter Tryd.func31, Tryd.ntmps31
  go_wp2
  go_ret
  exact ⟨rfl, rfl⟩

end Go.Proofs.YtgmbpagbiakciadDoor

namespace Go.Proofs.YtgmbpagbiakciadDoor
open Go.RowKit

theorem two_cells {w : World} {b : Nat} {v : Value} {x y : Pc} (h : POwn w b v [x, y]) : ∃ g cap, v = .slice (some ⟨g, 0, none⟩) 2 cap ∧ b ≤ g ∧ g < w.heap.size ∧ (∀ j u, (pcL x ++ pcL y)[j]? = some u → w.cell? ⟨g, j, none⟩ = some u) := by
  obtain ⟨g, cap, rfl⟩ := own_pos h (by simp)
  have hl := World.ownsRow.lt h g rfl
  refine ⟨g, cap, rfl, hl.1, hl.2, fun j u hj => ?_⟩
  have hjl := (List.getElem?_eq_some_iff.mp hj).1
  have := World.ownsRow.cellAt h j (by simp [pcL] at hjl ⊢; omega)
  rw [this]
  simpa using hj

set_option maxRecDepth 100000 in
set_option maxHeartbeats 4000000 in
theorem awake4_any (w : World) (hT : Tab w) : Calls Tryd.prog 9 #[] w fun e w' => e = .returned (.bool true) ∧ Below w.heap.size w w' := by
  have HT : Hid (Tab w) := hT
  have hh := home_any w
  clear hT
  go_enter Tryd.func9, Tryd.ntmps9
  go_wp2_with fail
  refine hh.mono ?_
  rintro e w1 ⟨rfl, hb1⟩
  have HB1 : Hid (Below w.heap.size w w1) := hb1
  clear hh hb1
  have hcu : ∀ W, Below w.heap.size w W → Calls Tryd.prog 11 #[.agg #[.int .i64 1, .int .i64 5], .agg #[.int .i64 7, .int .i64 72, .int .i64 72, .int .i64 80, .int .i64 0], .int .i64 200] W (CutPost ([⟨0, 0, 71, 0, 0⟩, ⟨3, 71, 72, 201, 0⟩], 0) W) := fun W hb => by
    have := cut_any homK 200 W (HT.out.below hb (tab_pos HT.out))
    rw [cut_home] at this; exact this
  go_wp2_with fail
  refine (hcu _ ((HB1.out.alloc HB1.out.size _).alloc (by have := HB1.out.size; simp; omega) _)).mono ?_
  rintro e w2 ⟨v, rfl, hown, hb2⟩
  have HB2 : Hid (Below w.heap.size w w2) := ((HB1.out.alloc HB1.out.size _).alloc (by have := HB1.out.size; simp; omega) _).trans (hb2.mono (by have := HB1.out.size; simp; omega))
  obtain ⟨g, cap, rfl, hg1, hg2, hcell⟩ := two_cells hown
  have HC : Hid (∀ j u, (pcL ⟨0, 0, 71, 0, 0⟩ ++ pcL ⟨3, 71, 72, 201, 0⟩)[j]? = some u → w2.cell? ⟨g, j, none⟩ = some u) := hcell
  clear hcu hown hb2 hcell
  have hne := new_any
  go_wp2_with fail
  refine (hne _).mono ?_
  rintro e w3 ⟨rfl, rfl⟩
  clear hne
  go_wp2_with fail
  refine (C.put_new w2.heap.size (w2.heap.size + 1) _ ?bb ?dd (by omega)).mono ?_
  case bb => exact heapA (heap_alloc_new' _ _) _
  case dd =>
    have := heap_alloc_new' (w2.alloc (.cells #[.slice none 0 0, .slice none 0 0, .bool false] 110)) (.cells #[.int .u8 1, .int .u8 2, .int .u8 3] 5)
    rw [World.size_alloc] at this; exact this
  rintro e w4 ⟨rfl, hb4⟩
  have hbb : Below w2.heap.size w2 w4 := (((Below.refl _ w2).alloc (Nat.le_refl _) _).alloc (by simp) _).trans hb4
  have HP : Hid (∀ j u, (pcL ⟨0, 0, 71, 0, 0⟩ ++ pcL ⟨3, 71, 72, 201, 0⟩)[j]? = some u → w4.cell? ⟨g, j, none⟩ = some u) := fun j u hj => cellB (HC.out j u hj) hbb hg2
  have HB4 : Hid (Below w.heap.size w w4) := HB2.out.trans (hbb.mono HB2.out.size)
  have p0 : w4.cell? ⟨g, 0, none⟩ = some (.int .i64 0) := HP.out 0 _ rfl
  have p1 : w4.cell? ⟨g, 1, none⟩ = some (.int .i64 0) := HP.out 1 _ rfl
  have p2 : w4.cell? ⟨g, 2, none⟩ = some (.int .i64 71) := HP.out 2 _ rfl
  have p3 : w4.cell? ⟨g, 3, none⟩ = some (.int .i64 0) := HP.out 3 _ rfl
  have p4 : w4.cell? ⟨g, 4, none⟩ = some (.int .i64 0) := HP.out 4 _ rfl
  have p5 : w4.cell? ⟨g, 5, none⟩ = some (.int .i64 3) := HP.out 5 _ rfl
  have p6 : w4.cell? ⟨g, 6, none⟩ = some (.int .i64 71) := HP.out 6 _ rfl
  have p7 : w4.cell? ⟨g, 7, none⟩ = some (.int .i64 72) := HP.out 7 _ rfl
  have p8 : w4.cell? ⟨g, 8, none⟩ = some (.int .i64 201) := HP.out 8 _ rfl
  have p9 : w4.cell? ⟨g, 9, none⟩ = some (.int .i64 0) := HP.out 9 _ rfl
  clear hb4 hbb HC HB1 HB2 hg1
  go_wp2
  go_ret
  exact ⟨rfl, HB4.out⟩

end Go.Proofs.YtgmbpagbiakciadDoor
