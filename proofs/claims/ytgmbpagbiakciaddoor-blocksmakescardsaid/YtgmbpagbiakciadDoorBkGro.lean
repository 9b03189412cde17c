import Derived.Test.YtgmbpagbiakciadDoorBkWlk
import Derived.Test.YtgmbpagbiakciadDoorBkCut
namespace Go.Proofs.YtgmbpagbiakciadDoor.C
open Go.RowKit Go.Shelf

theorem put_ar : AR [] (3, 6) [(3, 6)] 3 0 := by
  refine ⟨.inr ⟨⟨by simp, by simp [Rt]⟩, ⟨by simp, by simp [Rt]⟩, [(3, 6)], ⟨by simp [Rt], fun x => ?_, by simp⟩, .inl ⟨by simp, rfl, rfl⟩⟩, .inl ⟨rfl, by simp [siz]⟩⟩
  apply Bool.eq_iff_iff.mpr
  simp [has, inn]

set_option maxRecDepth 100000 in
set_option maxHeartbeats 4000000 in
theorem grown_none (Bb gd : Nat) (w : World) (hB : w.heap[Bb]? = some (.cells #[.slice none 0 0, .slice none 0 0, .bool false] 110 (0, 0))) :
    Calls Tryd.prog 64 #[.pointer (some ⟨Bb, 0, none⟩), .int .i64 3, .slice (some ⟨gd, 0, none⟩) 3 3] w fun e w' => (∃ a n c, e = .returned (.tuple #[.slice a n c, .int .i64 3, .int .i64 0])) ∧ Below w.heap.size w w' := by
  have q0 := cell_of_row _ _ 0 _ _ _ hB
  simp only [List.getElem?_toArray, List.getElem?_cons_zero] at q0
  go_enter Tryd.func64, Tryd.ntmps64
  have hpl : ∀ W, Calls Tryd.prog 85 #[.int .i64 3, .slice (some ⟨gd, 0, none⟩) 3 3] W fun e w' => e = .returned (.agg #[.int .i64 3, .int .i64 6]) ∧ Below W.heap.size W w' := fun W => places_any 3 (some ⟨gd, 0, none⟩) 3 3 W ⟨by decide, by decide⟩ (by decide)
  have HAd : Hid (∀ W, Calls Tryd.prog 84 #[.slice none 0 0, .agg #[.int .i64 3, .int .i64 6]] W (AddPost [] (3, 6) W)) := fun W => add_any 3 6 ⟨⟨none, 0, rfl, .inl rfl, by simp, by simp⟩, by simp⟩
  go_wp2_with fail
  refine (btwn_v 3 0 65533 true (by decide) _).mono ?_
  rintro e w' ⟨rfl, rfl⟩
  go_wp2_with fail
  go_region_with (first
    | (go_at_call 85
       refine (hpl _).mono ?_
       rintro e w1 ⟨rfl, hb1⟩
       have d0 : w1.cell? ⟨Bb, 0, none⟩ = some (.slice none 0 0) := (hb1.cell (p := ⟨Bb, 0, none⟩) (World.block_lt_of_cell? w ⟨Bb, 0, none⟩ q0)).trans q0
       have HB1 : Hid (Below w.heap.size w w1) := (Below.drew (Below.refl _ w)).trans hb1
       clear hb1)
    | (go_at_call 84
       refine (HAd.out _).mono ?_
       rintro e w2 ⟨v, u, n2, er, rfl, hown, har, hb2⟩
       obtain ⟨_, rfl, rfl⟩ := har.uniq put_ar
       obtain ⟨a, c, rfl⟩ := hown.shape
       have HB2 : Hid (Below w.heap.size w w2) := HB1.out.trans (hb2.mono HB1.out.size)
       clear hown har hb2))
  all_goals (
    go_wp2
    go_ret3
    exact ⟨⟨a, _, c, rfl⟩, HB2.out⟩)

end Go.Proofs.YtgmbpagbiakciadDoor.C
