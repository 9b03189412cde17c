import Derived.Test.YtgmbpagbiakciadDoorBkGro
import Derived.Test.YtgmbpagbiakciadDoorBkCla
import Derived.Test.YtgmbpagbiakciadDoorBkTak
namespace Go.Proofs.YtgmbpagbiakciadDoor.C
open Go.RowKit Go.Shelf

set_option maxRecDepth 100000 in
set_option maxHeartbeats 4000000 in
theorem put_new (Bb gd : Nat) (w : World) (hB : w.heap[Bb]? = some (.cells #[.slice none 0 0, .slice none 0 0, .bool false] 110 (0, 0))) (hd : w.heap[gd]? = some (.cells #[.int .u8 1, .int .u8 2, .int .u8 3] 5 (0, 0))) (hne : gd ≠ Bb) :
    Calls Tryd.prog 32 #[.pointer (some ⟨Bb, 0, none⟩), .int .i64 3, .slice (some ⟨gd, 0, none⟩) 3 3] w fun e w' => e = .returned (.tuple #[.int .i64 3, .int .i64 0, .int .i64 0]) ∧ Below Bb w w' := by
  have HBb : Hid (Bb < w.heap.size) := (Array.getElem?_eq_some_iff.1 hB).1
  have HGd : Hid (gd < w.heap.size) := (Array.getElem?_eq_some_iff.1 hd).1
  have HB : Hid (w.heap[Bb]? = some (.cells #[.slice none 0 0, .slice none 0 0, .bool false] 110 (0, 0))) := hB
  have HD : Hid (w.heap[gd]? = some (.cells #[.int .u8 1, .int .u8 2, .int .u8 3] 5 (0, 0))) := hd
  have hgr := grown_none Bb gd w hB
  have hnil : ∀ W, Ls W (.slice none 0 0) [] := fun W => ⟨⟨none, 0, rfl, .inl rfl, by simp, by simp⟩, by simp⟩
  have HCl : Hid (∀ W, W.heap[Bb]? = some (.cells #[.slice none 0 0, .slice none 0 0, .bool false] 110 (0, 0)) → Calls Tryd.prog 65 #[.pointer (some ⟨Bb, 0, none⟩), .int .i64 3, .slice (some ⟨gd, 0, none⟩) 3 3] W fun e w' => e = .returned (.int .i64 0) ∧ Below W.heap.size W w') := fun W h => callsIn_wide.1 (clash_none Bb _ _ 3 (some ⟨gd, 0, none⟩) 3 3 W ⟨by decide, by decide⟩ (by decide) (by decide) h (hnil W) 9 (by decide))
  have HTk : Hid (∀ W, W.heap[Bb]? = some (.cells #[.slice none 0 0, .slice none 0 0, .bool false] 110 (0, 0)) → W.heap[gd]? = some (.cells #[.int .u8 1, .int .u8 2, .int .u8 3] 5 (0, 0)) → Calls Tryd.prog 66 #[.pointer (some ⟨Bb, 0, none⟩), .int .i64 3, .slice (some ⟨gd, 0, none⟩) 3 3] W fun e w' => (∃ v, e = .returned v) ∧ Below Bb W w' ∧ ∃ bv, w'.heap[Bb]? = some (.cells #[.slice none 0 0, bv, .bool false] 110 (0, 0))) := fun W h1 h2 => callsIn_wide.1 (take_none Bb gd _ W h1 h2 hne (hnil W) 9 (by decide))
  clear hB hd hnil
  go_enter Tryd.func32, Tryd.ntmps32
  go_wp2_with fail
  refine hgr.mono ?_
  rintro e w1 ⟨⟨a1, n1, c1, rfl⟩, hb1⟩
  have HB1 : Hid (w1.heap[Bb]? = some (.cells #[.slice none 0 0, .slice none 0 0, .bool false] 110 (0, 0)) ∧ w1.heap[gd]? = some (.cells #[.int .u8 1, .int .u8 2, .int .u8 3] 5 (0, 0)) ∧ Below w.heap.size w w1) := ⟨(hb1.block _ HBb.out).trans HB.out, (hb1.block _ HGd.out).trans HD.out, hb1⟩
  clear hgr hb1
  go_wp2_with fail
  refine (HCl.out _ HB1.out.1).mono ?_
  rintro e w2 ⟨rfl, hb2⟩
  have HB2 : Hid (w2.heap[Bb]? = some (.cells #[.slice none 0 0, .slice none 0 0, .bool false] 110 (0, 0)) ∧ w2.heap[gd]? = some (.cells #[.int .u8 1, .int .u8 2, .int .u8 3] 5 (0, 0)) ∧ Below w.heap.size w w2) := ⟨(hb2.block _ (Array.getElem?_eq_some_iff.1 HB1.out.1).1).trans HB1.out.1, (hb2.block _ (Array.getElem?_eq_some_iff.1 HB1.out.2.1).1).trans HB1.out.2.1, HB1.out.2.2.trans (hb2.mono HB1.out.2.2.size)⟩
  clear HCl hb2 HB1
  go_wp2_with fail
  refine (HTk.out _ HB2.out.1 HB2.out.2.1).mono ?_
  rintro e w3 ⟨⟨v3, rfl⟩, hb3, bv, hbb⟩
  have HB3 : Hid (Below Bb w w3) := (HB2.out.2.2.mono (Nat.le_of_lt HBb.out)).trans hb3
  have e0 : w3.cell? ⟨Bb, 0, none⟩ = some (.slice none 0 0) := cell_of_row _ _ 0 _ _ _ hbb
  have e1 : w3.frozen? ⟨Bb, 0, none⟩ = false := frozen_of_row _ _ 0 _ _ hbb
  clear HTk hb3 HB2 hbb
  go_wp2
  go_ret3
  exact ⟨rfl, HB3.out.setCell (Nat.le_refl _) _⟩

end Go.Proofs.YtgmbpagbiakciadDoor.C
