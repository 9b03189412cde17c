import Derived.Test.YtllhbhogfffedaaGreatDoorJnApd
import Derived.Test.YtllhbhogfffedaaGreatDoorJkSs
import Derived.Test.YtllhbhogfffedaaGreatDoorRcSc2
namespace Go.Proofs.YtllhbhogfffedaaGreatDoor
open Go.RowKit
set_option linter.unusedVariables false
set_option linter.unusedSimpArgs false

set_option maxRecDepth 20000 in
theorem open_none2 (w : World) (d x : Nat) (aN : Addr) (hT : Tab6 w) (hds : d < w.heap.size) (hxs : x < w.heap.size) (h1s : 2 < w.heap.size) (hd : w.cell? ⟨d, 0, none⟩ = some (.pointer (some ⟨x, 0, none⟩))) (hf : w.cell? ⟨x, 0, none⟩ = some (.slice none 0 0)) (hw : w.cell? ⟨x, 5, none⟩ = some (.bool false)) (hN : w.cell? ⟨2, 0, none⟩ = some (.iface 218 (.pointer (some aN)))) :
    Calls Tryz.prog 12 #[.pointer (some ⟨d, 0, none⟩)] w fun e w' => ∃ j a c, e = .returned (.tuple #[.pointer (some ⟨j, 0, none⟩), .slice a 0 c, .nilIface]) ∧ w.heap.size ≤ j ∧ j < w'.heap.size ∧ w'.heap[j]? = some (.cells #[.pointer (some ⟨d, 0, none⟩), .int .i64 0, .int .i64 0, .bool false] 100) ∧ Below w.heap.size w w' := by
  have HR := removeRest_none w d x aN hds hxs h1s hd hf hw hN
  have HD : Hid (∀ W, Below w.heap.size w W → Calls Tryz.prog 40 #[.pointer (some ⟨d, 0, none⟩)] W fun e w' => e = .returned (.tuple #[.slice none 0 0, .nilIface]) ∧ Below W.heap.size W w') := fun W hb => jread_none W d x aN (Nat.lt_of_lt_of_le h1s hb.size) ((hb.cell (p := ⟨d, 0, none⟩) hds).trans hd) ((hb.cell (p := ⟨x, 0, none⟩) hxs).trans hf) ((hb.cell (p := ⟨x, 5, none⟩) hxs).trans hw) ((hb.cell (p := ⟨2, 0, none⟩) h1s).trans hN)
  have HS : Hid (∀ W, Below w.heap.size w W → Calls Tryz.prog 41 #[.slice none 0 0] W fun e w' => ∃ a c, e = .returned (.tuple #[.slice a 0 c, .int .i64 0]) ∧ Below W.heap.size W w') := fun W hb => scan_nil W (hT.below hb (tab6_pos hT))
  clear hd hf hw hN hT
  go_enter Tryz.func12, Tryz.ntmps12
  go_wp2_with (first
    | (go_at_call 39; refine HR.mono ?_; rintro e w2 ⟨rfl, hb2⟩)
    | (go_at_call 40; refine (HD.out _ hb2).mono ?_; rintro e w3 ⟨rfl, hb3⟩; have HB3 : Hid (Below w.heap.size w w3) := hb2.trans (hb3.mono hb2.size))
    | (go_at_call 41; refine (HS.out _ HB3.out).mono ?_; rintro e w4 ⟨a4, c4, rfl, hb4⟩; have HB4 : Hid (Below w.heap.size w w4) := HB3.out.trans (hb4.mono HB3.out.size)))
  refine bodyPost_ret (v := .tuple #[.pointer (some ⟨w4.heap.size, 0, none⟩), .slice a4 0 c4, .nilIface]) (by simp [results, Tryz.results12, go_sem]) rfl ?_
  exact ⟨_, _, _, rfl, HB4.out.size, by simp, heap_new6 w4 (.cells #[.pointer (some ⟨d, 0, none⟩), .int .i64 0, .int .i64 0, .bool false] 100), HB4.out.alloc HB4.out.size _⟩

/-- The record of the examples. -/
def r300 : Rc := ⟨2, 0, 0, 0, 0, 0, 0, 300, 0, [], []⟩
theorem r300_may : mayB6 r300 = true := by decide
theorem r300_len : ([r300].flatMap frB).length = 11 := by decide

set_option maxRecDepth 20000 in
theorem next7_any (w : World) : Calls Tryz.prog 29 #[.int .i64 300] w fun e w' => e = .returned nextV ∧ Below w.heap.size w w' := by
  go_enter Tryz.func29, Tryz.ntmps29
  go_wp2
  refine bodyPost_ret (v := nextV) (by simp [results, Tryz.results29, go_sem]) rfl ?_
  exact ⟨rfl, (Below.refl _ _).alloc (Nat.le_refl _) _⟩

theorem r300_lin (w : World) : RLin (w.alloc nextO) (some ⟨w.heap.size, 0, none⟩) [r300] := by
  refine .inr ⟨w.heap.size, 0, rfl, fun i r hr => ?_⟩
  match i, hr with
  | 0, hr =>
    simp at hr; subst hr
    refine ⟨none, none, 0, 0, fun j u hj => ?_, ⟨rfl, rfl, by decide, C.Ls.nil _, .inl rfl, fun _ => ⟨rfl, rfl⟩⟩⟩
    obtain ⟨c0, c1, c2, c3, c4, c5, c6, c7, c8, c9, c10⟩ := next_cells (heap_new6 w nextO)
    have hj2 : j < 11 := (Array.getElem?_eq_some_iff.mp hj).1
    match j, hj2, hj with
    | 0, _, hj => cases hj; exact c0
    | 1, _, hj => cases hj; exact c1
    | 2, _, hj => cases hj; exact c2
    | 3, _, hj => cases hj; exact c3
    | 4, _, hj => cases hj; exact c4
    | 5, _, hj => cases hj; exact c5
    | 6, _, hj => cases hj; exact c6
    | 7, _, hj => cases hj; exact c7
    | 8, _, hj => cases hj; exact c8
    | 9, _, hj => cases hj; exact c9
    | 10, _, hj => cases hj; exact c10
  | i + 1, hr => simp at hr

theorem jown_block {w w' : World} {base n sz : Nat} {e : TypeId} {v : Value} {xs : List Value} (h : w.ownsRow base e sz v n xs) (hk : ∀ g, v.ownBlock = some g → w'.heap[g]? = w.heap[g]?) : w'.ownsRow base e sz v n xs := by
  obtain ⟨h1, h2⟩ := h
  refine ⟨h1, ?_⟩
  rcases h2 with h2 | ⟨g, cap, cur, rfl, hg, hh, r⟩
  · exact .inl h2
  · exact .inr ⟨g, cap, cur, rfl, hg, (hk g rfl).trans hh, r⟩

set_option maxHeartbeats 8000000 in
set_option maxRecDepth 100000 in
theorem awake7_any (w : World) (aN aD : Addr) (hT : Tab6 w) (h3 : 5 ≤ w.heap.size) (hN : w.cell? ⟨2, 0, none⟩ = some (.iface 218 (.pointer (some aN)))) (hD : w.cell? ⟨0, 0, none⟩ = some (.iface 218 (.pointer (some aD)))) :
    Calls Tryz.prog 6 #[] w fun e w' => e = .returned (.bool true) ∧ Below w.heap.size w w' := by
  have H1 := diskNew_any w
  obtain ⟨w1, hw1⟩ : ∃ W, (w.alloc (.cells (bx0 1000) 85)).alloc (.cells #[.pointer (some ⟨w.heap.size, 0, none⟩)] 87) = W := ⟨_, rfl⟩
  rw [hw1] at H1
  have hs1 : w1.heap.size = w.heap.size + 2 := by rw [← hw1]; simp
  have hx1 : w1.heap[w.heap.size]? = some (.cells (bx0 1000) 85) := by
    rw [← hw1]
    exact (Below.heap_alloc _ _ _ (by simp)).trans (heap_new6 w _)
  have hh1 : w1.cell? ⟨w.heap.size + 1, 0, none⟩ = some (.pointer (some ⟨w.heap.size, 0, none⟩)) := by rw [← hw1]; simp [go_sem]
  have b1 : Below w.heap.size w w1 := by rw [← hw1]; exact ((Below.refl _ _).alloc (Nat.le_refl _) _).alloc (by simp) _
  have H2 := diskOf_any w1 (w.heap.size + 1) w.heap.size hh1
  obtain ⟨w2, hw2⟩ : ∃ W, w1.alloc (.cells #[.pointer (some ⟨w.heap.size, 0, none⟩)] 102) = W := ⟨_, rfl⟩
  rw [hw2] at H2
  have hs2 : w2.heap.size = w.heap.size + 3 := by rw [← hw2]; simp [hs1]
  have hx2 : w2.heap[w.heap.size]? = some (.cells (bx0 1000) 85) := by rw [← hw2]; exact (Below.heap_alloc _ _ _ (by omega)).trans hx1
  have hd2 : w2.cell? ⟨w1.heap.size, 0, none⟩ = some (.pointer (some ⟨w.heap.size, 0, none⟩)) := by rw [← hw2]; simp [go_sem]
  have b2 : Below w.heap.size w w2 := by rw [← hw2]; exact b1.alloc (by omega) _
  have hh2 : w2.cell? ⟨w.heap.size + 1, 0, none⟩ = some (.pointer (some ⟨w.heap.size, 0, none⟩)) := by rw [← hw2]; exact jcell_grown hh1 (jgrown_alloc _ _ none) (by simp)
  rw [hs1] at hd2 H2
  have H3 := open_none2 w2 (w.heap.size + 2) w.heap.size aN (hT.below b2 (tab6_pos hT)) (by omega) (by omega) (by omega) hd2 (cell_of_row _ _ 0 _ _ _ hx2) (cell_of_row _ _ 5 _ _ _ hx2) ((b2.cell (p := ⟨2, 0, none⟩) (by simp; omega)).trans hN)
  have HX : Hid (w2.heap[w.heap.size]? = some (.cells (bx0 1000) 85) ∧ w2.cell? ⟨w.heap.size + 2, 0, none⟩ = some (.pointer (some ⟨w.heap.size, 0, none⟩)) ∧ w2.cell? ⟨w.heap.size + 1, 0, none⟩ = some (.pointer (some ⟨w.heap.size, 0, none⟩)) ∧ Below w.heap.size w w2 ∧ Tab6 w ∧ w.cell? ⟨0, 0, none⟩ = some (.iface 218 (.pointer (some aD)))) := ⟨hx2, hd2, hh2, b2, hT, hD⟩
  clear hx1 hh1 hx2 hd2 hh2 b1 b2 hT hN hD hw1 hw2
  go_enter Tryz.func6, Tryz.ntmps6
  go_wp2_with fail
  refine H1.mono ?_
  rintro e w1' ⟨rfl, rfl⟩
  clear H1
  go_wp2_with fail
  refine H2.mono ?_
  rintro e w2' ⟨rfl, rfl⟩
  clear H2
  go_wp2_with fail
  refine H3.mono ?_
  rintro e w3 ⟨j, a3, c3, rfl, hj1, hj2, hjb, hb3⟩
  have H4 := next7_any w3
  have HJ : Hid (w3.heap[j]? = some (.cells #[.pointer (some ⟨w.heap.size + 2, 0, none⟩), .int .i64 0, .int .i64 0, .bool false] 100) ∧ Below w2'.heap.size w2' w3) := ⟨hjb, hb3⟩
  clear H3 hjb hb3
  go_wp2_with fail
  refine H4.mono ?_
  rintro e w4 ⟨rfl, hb4⟩
  clear H4
  have b24 : Below w2'.heap.size w2' (w4.alloc nextO) := (HJ.out.2.trans (hb4.mono HJ.out.2.size)).alloc (Nat.le_trans HJ.out.2.size hb4.size) _
  have b34 : Below w3.heap.size w3 (w4.alloc nextO) := hb4.alloc hb4.size _
  have hx5 : (w4.alloc nextO).heap[w.heap.size]? = some (.cells (bx0 1000) 85) := (b24.block _ (by omega)).trans HX.out.1
  have hj5 : (w4.alloc nextO).heap[j]? = some (.cells #[.pointer (some ⟨w.heap.size + 2, 0, none⟩), .int .i64 0, .int .i64 0, .bool false] 100) := (b34.block _ hj2).trans HJ.out.1
  have hd5 : (w4.alloc nextO).cell? ⟨w.heap.size + 2, 0, none⟩ = some (.pointer (some ⟨w.heap.size, 0, none⟩)) := (b24.cell (p := ⟨w.heap.size + 2, 0, none⟩) (by simp; omega)).trans HX.out.2.1
  have b05 : Below w.heap.size w (w4.alloc nextO) := HX.out.2.2.2.1.trans (b24.mono (by omega))
  have hs5 : w2'.heap.size ≤ (w4.alloc nextO).heap.size := b24.size
  have H5 := write_one (w4.alloc nextO) j (w.heap.size + 2) w.heap.size aD [r300] (some ⟨w4.heap.size, 0, none⟩) 1 1 11 (HX.out.2.2.2.2.1.below b05 (tab6_pos HX.out.2.2.2.2.1)) rfl (by omega) (by omega) (r300_lin w4) (fun r hr => by simp at hr; subst hr; exact fun z hz => by cases hz) (fun r hr => by simp at hr; subst hr; exact r300_may) r300_len (by omega) (by omega)
    ⟨cell_of_row _ _ 0 _ _ _ hj5, cell_of_row _ _ 1 _ _ _ hj5, cell_of_row _ _ 2 _ _ _ hj5, cell_of_row _ _ 3 _ _ _ hj5⟩ ⟨frozen_of_row _ _ 1 _ _ hj5, frozen_of_row _ _ 2 _ _ hj5⟩ (by omega) (by omega) (by omega) (by omega) (by omega)
    hd5 (cell_of_row _ _ 0 _ _ _ hx5) (cell_of_row _ _ 1 _ _ _ hx5) (cell_of_row _ _ 2 _ _ _ hx5) (cell_of_row _ _ 5 _ _ _ hx5) (frozen_of_row _ _ 0 _ _ hx5) ((b05.cell (p := ⟨0, 0, none⟩) (by simp; omega)).trans HX.out.2.2.2.2.2)
  have HW5 : Hid (Below w.heap.size w (w4.alloc nextO) ∧ (w4.alloc nextO).cell? ⟨w.heap.size + 2, 0, none⟩ = some (.pointer (some ⟨w.heap.size, 0, none⟩)) ∧ (w4.alloc nextO).heap[w.heap.size]? = some (.cells (bx0 1000) 85) ∧ (w4.alloc nextO).cell? ⟨w.heap.size + 1, 0, none⟩ = some (.pointer (some ⟨w.heap.size, 0, none⟩))) := ⟨b05, hd5, hx5, (b24.cell (p := ⟨w.heap.size + 1, 0, none⟩) (by simp; omega)).trans HX.out.2.2.1⟩
  have hjl5 : j < (w4.alloc nextO).heap.size := (Array.getElem?_eq_some_iff.mp hj5).1
  have HBs : Hid ((∀ u ∈ ([r300].flatMap frB).map (Value.int .u8), u.oneCell' = true) ∧ ∀ u, (([r300].flatMap frB).map (Value.int .u8))[0]? = some u → ∃ z, u = .int .u8 z) := ⟨fun u hu => by obtain ⟨z, _, rfl⟩ := List.mem_map.mp hu; rfl, fun u hu => by
    rw [List.getElem?_map] at hu
    obtain ⟨z, _, rfl⟩ := Option.map_eq_some_iff.mp hu
    exact ⟨z, rfl⟩⟩
  have HBl : Hid ((([r300].flatMap frB).map (Value.int .u8)).length = 11) := by show _ = _; rw [List.length_map]; exact r300_len
  generalize ([r300].flatMap frB).map (Value.int .u8) = bs at *
  clear hb4 b24 b34 hx5 hj5 hd5 b05 HJ
  go_wp2_with fail
  refine H5.mono ?_
  clear H5
  generalize w4.alloc nextO = w5 at *
  rintro e w6 ⟨rfl, hr6⟩
  obtain ⟨F, cpF, ab, cb, hbx, hF1, hF2, hFz, hrow⟩ := hr6.ex
  have hs6 := hr6.size
  have H6 := jsize_any w6 j (w.heap.size + 2) 11 11 hr6.jn
  have H7 := jloose_any w6 j (w.heap.size + 2) 11 11 hr6.jn
  have b56 : Below w.heap.size w w6 := ⟨hr6.sys.1.trans HW5.out.1.os, hr6.sys.2.1.trans HW5.out.1.tape, hr6.sys.2.2.trans HW5.out.1.output, Nat.le_trans HW5.out.1.size hs6, fun k hk => (hr6.blk k (by have := HW5.out.1.size; omega) (by omega) (by omega)).trans (HW5.out.1.block k hk)⟩
  have hd6 : w6.cell? ⟨w.heap.size + 2, 0, none⟩ = some (.pointer (some ⟨w.heap.size, 0, none⟩)) := (World.cell?_of_block (a := ⟨w.heap.size + 2, 0, none⟩) (hr6.blk (w.heap.size + 2) (by omega) (by omega) (by omega))).trans HW5.out.2.1
  have hh6 : w6.cell? ⟨w.heap.size + 1, 0, none⟩ = some (.pointer (some ⟨w.heap.size, 0, none⟩)) := (World.cell?_of_block (a := ⟨w.heap.size + 1, 0, none⟩) (hr6.blk (w.heap.size + 1) (by omega) (by omega) (by omega))).trans HW5.out.2.2.2
  have H8 := write_syn w6 j (w.heap.size + 2) w.heap.size F cpF 11 aD ab cb (HX.out.2.2.2.2.1.below b56 (tab6_pos HX.out.2.2.2.2.1)) (by omega) (by omega) hr6.jn hr6.jz (by omega) (by omega) (by omega) (by omega) (by omega) (by omega) (by omega) (by omega) (by omega) hF2 hd6 hbx ((hr6.oth 2 (by omega)).trans (cell_of_row _ _ 2 _ _ _ HW5.out.2.2.1)) ((hr6.oth 5 (by omega)).trans (cell_of_row _ _ 5 _ _ _ HW5.out.2.2.1)) hFz ((b56.cell (p := ⟨0, 0, none⟩) (by simp; omega)).trans HX.out.2.2.2.2.2)
  have hgF : ∀ g, (Value.slice ab 11 cb).ownBlock = some g → g ≠ F := fun g hg e => by
    subst e
    obtain ⟨g', c', hv, _, _⟩ := jown_pos hrow (by omega)
    cases hv
    simp only [Value.ownBlock, Option.some.injEq] at hg
    subst hg
    have h0 := World.ownsRow.cellAt hrow 0 (by omega)
    rw [hbx.2.1] at h0
    obtain ⟨z, hz⟩ := HBs.out.2 _ h0.symm
    cases hz
  have HR6 : Hid (w6.ownsRow w5.heap.size 5 1 (.slice ab 11 cb) 11 bs ∧ (∀ g, (Value.slice ab 11 cb).ownBlock = some g → g ≠ F) ∧ Below w.heap.size w w6 ∧ w6.cell? ⟨w.heap.size + 1, 0, none⟩ = some (.pointer (some ⟨w.heap.size, 0, none⟩))) := ⟨hrow, hgF, b56, hh6⟩
  clear hr6 hbx hFz hrow b56 hd6 hh6 hgF HW5
  go_wp2_with fail
  refine H6.mono ?_
  rintro e w6' ⟨rfl, rfl⟩
  go_wp2_with fail
  refine H7.mono ?_
  rintro e w6'' ⟨rfl, rfl⟩
  clear H6 H7
  go_wp2_with fail
  refine H8.mono ?_
  rintro e w7 ⟨rfl, hr7⟩
  have hs7 := hr7.size
  have H9 := jloose_any w7 j (w.heap.size + 2) 11 0 hr7.jn
  have hrow7 : w7.ownsRow w5.heap.size 5 1 (.slice ab 11 cb) 11 bs := jown_block HR6.out.1 (fun g hg => hr7.blk g (World.ownsRow.lt HR6.out.1 g hg).2 (HR6.out.2.1 g hg) (by have := (World.ownsRow.lt HR6.out.1 g hg).1; omega))
  have hh7 : w7.cell? ⟨w.heap.size + 1, 0, none⟩ = some (.pointer (some ⟨w.heap.size, 0, none⟩)) := (World.cell?_of_block (a := ⟨w.heap.size + 1, 0, none⟩) (hr7.blk (w.heap.size + 1) (by omega) (by omega) (by omega))).trans HR6.out.2.2.2
  have H10 := files_one w7 (w.heap.size + 1) w.heap.size F cpF 11 w5.heap.size jnm ab cb 11 bs (by omega) (by omega) hh7 hr7.bx hrow7 HBs.out.1
  have b7 : Below w.heap.size w w7 := ⟨hr7.sys.1.trans HR6.out.2.2.1.os, hr7.sys.2.1.trans HR6.out.2.2.1.tape, hr7.sys.2.2.trans HR6.out.2.2.1.output, Nat.le_trans HR6.out.2.2.1.size hs7, fun k hk => (hr7.blk k (by have := HR6.out.2.2.1.size; omega) (by omega) (by omega)).trans (HR6.out.2.2.1.block k hk)⟩
  have HB7 : Hid (Below w.heap.size w w7) := b7
  clear H8 hr7 hrow7 hh7 b7 HR6
  go_wp2_with fail
  refine H9.mono ?_
  rintro e w7' ⟨rfl, rfl⟩
  clear H9
  go_wp2_with fail
  refine H10.mono ?_
  rintro e w8 ⟨G, cG, rfl, g0, g2, hb8⟩
  have HB8 : Hid (Below w.heap.size w w8) := HB7.out.trans (hb8.mono HB7.out.size)
  clear H10 hb8 HB7
  go_wp2
  go_ret
  exact ⟨by simp, HB8.out⟩
end Go.Proofs.YtllhbhogfffedaaGreatDoor

namespace Go.Proofs.YtllhbhogfffedaaGreatDoor.K
open Go.RowKit
set_option linter.unusedVariables false
set_option linter.unusedSimpArgs false

/-- What lies ahead of the law's own blocks: the sentinels and the table. -/
structure S0 (w : World) (aD aF aN : Addr) : Prop where
  er : Er w aD aF aN
  df : aD ≠ aF
  dn : aD ≠ aN
  fn : aF ≠ aN
  cD : ∃ (ca : Array Value) (ta : TypeId), w.heap[aD.block]? = some (.cells ca ta (0, 0))
  cF : ∃ (ca : Array Value) (ta : TypeId), w.heap[aF.block]? = some (.cells ca ta (0, 0))
  cN : ∃ (ca : Array Value) (ta : TypeId), w.heap[aN.block]? = some (.cells ca ta (0, 0))
  tb : Tab6 w
theorem S0.later {w V : World} {aD aF aN : Addr} (h : S0 w aD aF aN) (hb : Below w.heap.size w V) : S0 V aD aF aN := by
  have k : ∀ {a : Addr}, (∃ (ca : Array Value) (ta : TypeId), w.heap[a.block]? = some (.cells ca ta (0, 0))) → (∃ (ca : Array Value) (ta : TypeId), V.heap[a.block]? = some (.cells ca ta (0, 0))) := fun ⟨ca, ta, hh⟩ => ⟨ca, ta, (hb.block _ (Array.getElem?_eq_some_iff.1 hh).1).trans hh⟩
  exact ⟨h.er.below hb, h.df, h.dn, h.fn, k h.cD, k h.cF, k h.cN, h.tb.below hb (tab6_pos h.tb)⟩
/-- The sentinels and the table, at a world that keeps what lay ahead, and a footprint that lies behind it. -/
theorem S0.snt {W w : World} {F : Nat → Prop} {aD aF aN : Addr} (h : S0 W aD aF aN) (hb : Below W.heap.size W w) (hF : ∀ k, F k → W.heap.size ≤ k) : Snt w F aD aF aN ∧ Tab6 w ∧ ¬ F 4 := by
  have h' := h.later hb
  have n : ∀ {b : Nat} {v : Value}, W.cell? ⟨b, 0, none⟩ = some v → ¬ F b := fun hc q => by have := hF _ q; have := cell_lt hc; omega
  have m : ∀ {a : Addr}, (∃ (ca : Array Value) (ta : TypeId), W.heap[a.block]? = some (.cells ca ta (0, 0))) → ¬ F a.block := fun ⟨ca, ta, hh⟩ q => by have := hF _ q; have := (Array.getElem?_eq_some_iff.1 hh).1; omega
  exact ⟨⟨h'.er, ⟨n h.er.d, n h.er.f, n h.er.n⟩, h.df, h.dn, h.fn, ⟨h'.cD, m h.cD⟩, ⟨h'.cF, m h.cF⟩, ⟨h'.cN, m h.cN⟩⟩, h'.tb, fun q => by have := hF _ q; have := tab6_pos h.tb; omega⟩

/-- The law's world: the disk D in blocks of its own, none of them below W's end, none of X; nothing below W's end has changed. -/
structure Sj (W : World) (X : Nat → Prop) (w : World) (D : Dk) : Prop where
  bel : Below W.heap.size W w
  xs : ∀ k, X k → k < w.heap.size
  hh : X (W.heap.size + 1) ∧ w.cell? ⟨W.heap.size + 1, 0, none⟩ = some (.pointer (some ⟨W.heap.size, 0, none⟩))
  dd : X (W.heap.size + 2) ∧ w.cell? ⟨W.heap.size + 2, 0, none⟩ = some (.pointer (some ⟨W.heap.size, 0, none⟩))
  foot : ∃ F : Nat → Prop, Dm w W.heap.size F D ∧ ∀ k, F k → W.heap.size ≤ k ∧ ¬ X k ∧ k < w.heap.size
section
variable {W w V : World} {X : Nat → Prop} {D D' : Dk}
end
/-! ## The law's calls -/
section
variable {W w : World} {X : Nat → Prop} {D : Dk} {aD aF aN : Addr} {B : Nat}
/-- A call on the disk, and what it answers. -/
def MJ (W : World) (X : Nat → Prop) (R : Dk × Nat) (aD aF aN : Addr) (w : World) (e : Ending) (w' : World) : Prop := e = .returned (evD aD aF aN R.2) ∧ Sj W X w' R.1 ∧ ∀ k, X k → w'.heap[k]? = w.heap[k]?
/-- What Open answers, in the law's world. -/
def OJ (W : World) (X : Nat → Prop) (d : Nat) (O : Opn) (aD aF aN : Addr) (w : World) (e : Ending) (w' : World) : Prop :=
  ∃ pj v, e = .returned (.tuple #[pj, v, evD aD aF aN O.r]) ∧ Sj W X w' O.d ∧ (∀ k, X k → w'.heap[k]? = w.heap[k]?) ∧ w.heap.size ≤ w'.heap.size ∧ (O.r ≠ 0 → pj = .pointer none ∧ v = .slice none 0 0) ∧
    (O.r = 0 → ∃ j os, pj = .pointer (some ⟨j, 0, none⟩) ∧ Jn w' j d (O.n : Nat) (O.k : Nat) ∧ Rl w' w.heap.size v os ∧ os.map Ro.r = O.l)
end
/-- Number of what a call answers: nil and ErrDown. -/
theorem number_down (w : World) (F : Nat → Prop) (aD aF aN : Addr) (h : Snt w F aD aF aN) : Calls Tryz.prog 16 #[.iface 218 (.pointer (some aD))] w fun e w' => e = .returned (.int .i64 6) ∧ Hid (Below w.heap.size w w') := by
  have hb : Below w.heap.size w (w.alloc (.cells #[.int .i64 0] 55)) := (Below.refl _ _).alloc (Nat.le_refl _) _
  have HI : Hid (∀ V, Calls Tryz.prog 43 #[.iface 218 (.pointer (some aD)), .iface 218 (.pointer (some aD))] V fun e w' => e = .returned (.bool true) ∧ w' = V) := fun V => isSame7 aD V
  have e0 : (w.alloc (.cells #[.int .i64 0] 55)).cell? ⟨0, 0, none⟩ = some (.iface 218 (.pointer (some aD))) := (h.er.below hb).d
  clear h
  go_enter Tryz.func16, Tryz.ntmps16
  go_wp2_with (go_at_call 43; refine (HI.out _).mono ?_; rintro e w9 ⟨rfl, hw9⟩; rw [hw9]; clear hw9)
  go_ret
  exact ⟨rfl, hb⟩
end Go.Proofs.YtllhbhogfffedaaGreatDoor.K
