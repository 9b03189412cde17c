import Derived.Test.YtillgoegiplmkaaGreatDoorTbG
import Derived.Test.YtillgoegiplmkaaGreatDoorStp
import Derived.Test.YtillgoegiplmkaaGreatDoorTbDb
import Derived.Deep.CutBlock
import Derived.Deep.RegionHeld3
namespace Go.Proofs.YtillgoegiplmkaaGreatDoor.B
open C
open Go.RowKit Go.Maps Go.Sort
set_option linter.unusedVariables false
set_option linter.unusedSimpArgs false

theorem Tryz.info_out : (Tryz.prog.info? 110).map (fun i => (i.zero, i.size, i.bytes)) = some (some (.agg #[.int .i64 0, .int .i64 0, .int .i64 0, .int .i64 0, .int .i64 0, .int .i64 0, .slice none 0 0, .bool false, .int .i64 0]), 9, 88) := by kernel_rfl
theorem Tryz.info_inc : (Tryz.prog.info? 63).map (fun i => (i.zero, i.size, i.bytes)) = some (some (.agg #[.int .i64 0, .int .i64 0, .int .i64 0, .int .i64 0, .int .i64 0, .slice none 0 0, .slice none 0 0, .bool false, .bool false, .bool false, .bool false, .int .i64 0]), 12, 104) := by kernel_rfl
theorem Tryz.info_tmb : (Tryz.prog.info? 99).map (fun i => (i.zero, i.size, i.bytes)) = some (some (.agg #[.int .i64 0, .slice none 0 0]), 2, 32) := by kernel_rfl
/-- What State leaves. -/
def StP (T : T8) (w : World) (e : Ending) (w' : World) : Prop := ∃ vo vi vt P Q R, e = .returned (.agg #[.int .i64 T.id, .int .i64 T.boots, .int .i64 T.next, vo, vi, vt]) ∧ P.map Prod.fst = T.ex ∧ Q.map Prod.fst = T.im ∧ R.map Prod.fst = T.tb ∧ StR w.heap.size vo vi vt P Q R w' ∧ Below w.heap.size w w'
/-- The result's block is none of the rows'. -/
theorem StR.setRes {lo x j : Nat} {vo vi vt u : Value} {P : List (Og × Value)} {Q : List (Ic × Value × Value)} {R : List (Tm × Value)} {W : World} (h : StR lo vo vi vt P Q R W) (hx : ∃ cs, W.heap[x]? = some (.cells cs 58 (0, 0))) : StR lo vo vi vt P Q R (W.setCell ⟨x, j, none⟩ u) := by
  obtain ⟨cs, hx⟩ := hx
  have k : ∀ {b n s : Nat} {e : TypeId} {v : Value} {xs : List Value}, W.ownsRow b e s v n xs → e ≠ 58 → (W.setCell ⟨x, j, none⟩ u).ownsRow b e s v n xs := fun hr he => own_at hr (fun g hg => heap_setCell_other _ _ _ _ (by simp only; exact fun e2 => own_nb hr hx he (by rw [← e2]; exact hg)))
  exact ⟨k h.ro (by decide), k h.ri (by decide), k h.rt (by decide), fun p hp => k (h.po p hp) (by decide), fun q hq => ⟨k (h.pi q hq).1 (by decide), k (h.pi q hq).2 (by decide)⟩, fun r hr => k (h.pt r hr) (by decide), h.nd⟩
set_option maxRecDepth 8000 in
set_option maxHeartbeats 8000000 in
theorem state_any {w : World} {z : Tz} {T : T8} (h : Tw w z T) (hok : T.Ok) (hne : T.ex.length ≤ 1099511627776) (hni : T.im.length ≤ 1099511627776) (hnt : T.tb.length ≤ 1099511627776) : Calls Tryz.prog 26 #[tP z] w (StP T w) := by
  obtain ⟨io, hio, hio0, hio1, hio2⟩ := info_parts Tryz.info_out
  obtain ⟨ii, hii, hii0, hii1, hii2⟩ := info_parts Tryz.info_inc
  obtain ⟨it, hit, hit0, hit1, hit2⟩ := info_parts Tryz.info_tmb
  have HT : Hid (Tw w z T ∧ T.Ok ∧ T.ex.length ≤ 1099511627776 ∧ T.im.length ≤ 1099511627776 ∧ T.tb.length ≤ 1099511627776) := ⟨h, hok, hne, hni, hnt⟩
  obtain ⟨W0, hW0⟩ : ∃ W0, w.alloc (.cells #[.int .i64 0, .int .i64 0, .int .i64 0, .slice none 0 0, .slice none 0 0, .slice none 0 0] 58) = W0 := ⟨_, rfl⟩
  have HW0 : Hid (w.alloc (.cells #[.int .i64 0, .int .i64 0, .int .i64 0, .slice none 0 0, .slice none 0 0, .slice none 0 0] 58) = W0) := hW0
  have hb0 : Below w.heap.size w W0 := by rw [← hW0]; exact (Below.refl _ _).alloc (Nat.le_refl _) _
  have hs0 : W0.heap.size = w.heap.size + 1 := by rw [← hW0]; simp
  obtain ⟨c0, c1, c2, c3, c4, c5⟩ := (h.below hb0).c
  have hbz : Below w.heap.size w (W0.alloc (.cells #[.int .i64 0, .int .i64 0, .int .i64 0, .slice none 0 0, .slice none 0 0, .slice none 0 0] 58)) := hb0.alloc hb0.size _
  obtain ⟨y0, y1, y2, y3, y4, y5⟩ := (h.below hbz).c
  obtain ⟨W1, hW1⟩ : ∃ W1, (W0.alloc (.cells #[.int .i64 T.id, .int .i64 T.boots, .int .i64 T.next, .slice none 0 0, .slice none 0 0, .slice none 0 0] 58)).drew = W1 := ⟨_, rfl⟩
  have HW1 : Hid ((W0.alloc (.cells #[.int .i64 T.id, .int .i64 T.boots, .int .i64 T.next, .slice none 0 0, .slice none 0 0, .slice none 0 0] 58)).drew = W1) := hW1
  have hb1 : Below w.heap.size w W1 := by rw [← hW1]; exact (hb0.alloc hb0.size _).drew
  have hL0 : SL w z T (.slice none 0 0) (.slice none 0 0) (.slice none 0 0) [] [] [] W1 := by
    refine ⟨⟨hb1, ?_, by omega, ⟨World.ownsRow_nil _ _ _ _, World.ownsRow_nil _ _ _ _, World.ownsRow_nil _ _ _ _, fun p hp => (by cases hp), fun p hp => (by cases hp), fun p hp => (by cases hp), List.nodup_nil⟩⟩, ?_⟩
    · rw [← hW1, ← hs0]; exact heap_alloc_new' W0 _
    · rw [← hW1]
      refine (Below.heap_alloc W0 _ _ (by omega)).trans ?_
      rw [← hW0]
      exact heap_alloc_new' w _
  have HL0 : Hid (SL w z T (.slice none 0 0) (.slice none 0 0) (.slice none 0 0) [] [] [] W1) := hL0
  have HZ : Hid (W0.heap.size = w.heap.size + 1) := hs0
  have d3 : W1.cell? ⟨z.x, 3, none⟩ = some (.map (some z.m1)) := (h.below hb1).c.2.2.2.1
  have HSo : Hid (Calls Tryz.prog 61 #[.map (some z.m1)] W1 (KyS (T.ex.map Og.s) W1)) := sortedX_any (h.below hb1) (by omega)
  clear h hok hne hni hnt hW0 hb0 hs0 hbz hW1 hb1 hL0
  go_enter Tryz.func26, Tryz.ntmps26
  go_upto_region 1 with fail
  rw [HW0.out]
  go_cut [3] from 3 to 25 (fun q wx => q = .pointer (some ⟨w.heap.size + 1, 0, none⟩) ∧ Hid (wx = W1))
  case first =>
    go_wp2_with fail
    go_region
    all_goals rw [HW1.out, HZ.out]
    all_goals go_wp2_with fail
    all_goals go_meet
    all_goals exact ⟨rfl, rfl⟩
  case rest =>
    obtain ⟨rfl, hwc⟩ := hcut
    rw [hwc.out]
    clear hwc
    go_wp2_with (go_at_call 61; refine HSo.out.mono ?_; rintro e w2 ⟨ak, nk, ck, rfl, q1, q2⟩)
    clear c0 c1 c2 c3 c4 c5 y0 y1 y2 y3 y4 y5 d3 HSo HW0 HW1 HZ
    have hnk : nk = T.ex.length := own_len2 q1
    have HNK : Hid (nk = T.ex.length) := hnk
    have HSL : Hid (∃ vo P, P.map Prod.fst = T.ex.take 0 ∧ SL w z T vo (.slice none 0 0) (.slice none 0 0) P [] [] w2 ∧ RoS w2 w.heap.size (.slice ak nk ck) (T.ex.map Og.s)) := ⟨_, [], by simp, HL0.out.below q2, q1.b0 HL0.out.sj.low.size⟩
    clear q1 q2 HL0 hnk
    go_loopw [31] (fun i wr => ∃ k : Nat, i = .int .i64 k ∧ Hid (k ≤ nk ∧ ∃ vo P, P.map Prod.fst = T.ex.take k ∧ SL w z T vo (.slice none 0 0) (.slice none 0 0) P [] [] wr ∧ RoS wr w.heap.size (.slice ak nk ck) (T.ex.map Og.s))) (fun i _ => nk - (intOf i).toNat)
    case atStart => exact ⟨0, rfl, Nat.zero_le _, HSL.out⟩
    case round =>
      obtain ⟨k, rfl, hh⟩ := hrel
      have HK := hh.out
      clear HSL hh
      by_cases hlt : k < nk
      · have hlt' : (k : Int) < (nk : Int) := by omega
        obtain ⟨hk, vo, P, hP, hSL, hKy⟩ := HK
        have hke : k < T.ex.length := by rw [← HNK.out]; exact hlt
        obtain ⟨o, ho⟩ : ∃ o, T.ex[k]? = some o := ⟨T.ex[k], List.getElem?_eq_getElem hke⟩
        have F := st_o (HT.out.1) HT.out.2.1 hSL hKy ho HT.out.2.2.1
        obtain ⟨gk, e, av, nv, cv, rfl, F1, F2, F3, F4, F5⟩ := F
        obtain ⟨V, hV⟩ : ∃ V, wr.alloc (.cells #[.int .i64 o.org, .int .i64 o.num] 31) = V := ⟨_, rfl⟩
        have HV : Hid (wr.alloc (.cells #[.int .i64 o.org, .int .i64 o.num] 31) = V) := hV
        have hbV : Below wr.heap.size wr V := by rw [← hV]; exact (Below.refl _ _).alloc (Nat.le_refl _) _
        have hlw : Below w.heap.size w wr := hSL.sj.low
        have hbwV : Below w.heap.size w V := hlw.trans (hbV.mono hlw.size)
        have hkV : V.heap[wr.heap.size]? = some (.cells #[.int .i64 o.org, .int .i64 o.num] 31) := by rw [← hV]; exact heap_alloc_new' wr _
        have x0 : V.cell? ⟨wr.heap.size, 0, none⟩ = some (.int .i64 o.org) := (cell_of_row _ _ _ _ _ _ hkV).trans rfl
        have x1 : V.cell? ⟨wr.heap.size, 1, none⟩ = some (.int .i64 o.num) := (cell_of_row _ _ _ _ _ _ hkV).trans rfl
        have z3 : V.cell? ⟨z.x, 3, none⟩ = some (.map (some z.m1)) := (HT.out.1.below hbwV).c.2.2.2.1
        have hbVz : Below V.heap.size V (V.alloc (.cells #[.int .i64 0, .int .i64 0, .int .i64 0, .int .i64 0, .int .i64 0, .int .i64 0, .slice none 0 0, .bool false, .int .i64 0] 110)) := (Below.refl _ _).alloc (Nat.le_refl _) _
        have hVs := (Array.getElem?_eq_some_iff.1 hkV).1
        have hkVz : (V.alloc (.cells #[.int .i64 0, .int .i64 0, .int .i64 0, .int .i64 0, .int .i64 0, .int .i64 0, .slice none 0 0, .bool false, .int .i64 0] 110)).heap[wr.heap.size]? = some (.cells #[.int .i64 o.org, .int .i64 o.num] 31) := (hbVz.block _ hVs).trans hkV
        have x2 : (V.alloc (.cells #[.int .i64 0, .int .i64 0, .int .i64 0, .int .i64 0, .int .i64 0, .int .i64 0, .slice none 0 0, .bool false, .int .i64 0] 110)).cell? ⟨wr.heap.size, 0, none⟩ = some (.int .i64 o.org) := (cell_of_row _ _ _ _ _ _ hkVz).trans rfl
        have x3 : (V.alloc (.cells #[.int .i64 0, .int .i64 0, .int .i64 0, .int .i64 0, .int .i64 0, .int .i64 0, .slice none 0 0, .bool false, .int .i64 0] 110)).cell? ⟨wr.heap.size, 1, none⟩ = some (.int .i64 o.num) := (cell_of_row _ _ _ _ _ _ hkVz).trans rfl
        have z3z : (V.alloc (.cells #[.int .i64 0, .int .i64 0, .int .i64 0, .int .i64 0, .int .i64 0, .int .i64 0, .slice none 0 0, .bool false, .int .i64 0] 110)).cell? ⟨z.x, 3, none⟩ = some (.map (some z.m1)) := (HT.out.1.below (hbwV.alloc hbwV.size _)).c.2.2.2.1
        have hl := F3 V.drew hbwV.drew
        have hl2 := F3 (V.alloc (.cells #[.int .i64 0, .int .i64 0, .int .i64 0, .int .i64 0, .int .i64 0, .int .i64 0, .slice none 0 0, .bool false, .int .i64 0] 110)).drew (hbwV.alloc hbwV.size _).drew
        obtain ⟨B, hB⟩ : ∃ B, V.heap.size = B := ⟨_, rfl⟩
        have HB : Hid (V.heap.size = B) := hB
        obtain ⟨W2, hW2⟩ : ∃ W2, (V.alloc (.cells #[.int .i64 o.org, .int .i64 o.num, .int .i64 o.peer, .int .i64 o.srv, .int .i64 o.red, .int .i64 o.size, .slice av nv cv, .bool o.ended, .int .i64 o.how] 110)).drew = W2 := ⟨_, rfl⟩
        have HW2 : Hid ((V.alloc (.cells #[.int .i64 o.org, .int .i64 o.num, .int .i64 o.peer, .int .i64 o.srv, .int .i64 o.red, .int .i64 o.size, .slice av nv cv, .bool o.ended, .int .i64 o.how] 110)).drew = W2) := hW2
        have hb2 : Below wr.heap.size wr W2 := by rw [← hW2]; exact (hbV.alloc hbV.size _).drew
        have hx2 : W2.heap[B]? = some (.cells #[.int .i64 o.org, .int .i64 o.num, .int .i64 o.peer, .int .i64 o.srv, .int .i64 o.red, .int .i64 o.size, .slice av nv cv, .bool o.ended, .int .i64 o.how] 110) := by rw [← hW2, ← hB]; exact heap_alloc_new' V _
        have hwB : wr.heap.size ≤ B := by rw [← hB]; exact hbV.size
        have x6 : W2.cell? ⟨B, 6, none⟩ = some (.slice av nv cv) := (cell_of_row _ _ _ _ _ _ hx2).trans rfl
        have hbw2 : Below w.heap.size w W2 := hlw.trans (hb2.mono hlw.size)
        have HCl : Hid (Calls Tryz.prog 62 #[.slice av nv cv] W2 (ClB o.data W2)) := cloneB_any av cv o.data nv F5.1 W2 (F4 W2 hbw2) F5.2.2 (by omega)
        have HR : Hid (k ≤ nk ∧ P.map Prod.fst = T.ex.take k ∧ SL w z T vo (.slice none 0 0) (.slice none 0 0) P [] [] wr ∧ RoS wr w.heap.size (.slice (some ⟨gk, 0, none⟩) nk ck) (T.ex.map Og.s) ∧ T.ex[k]? = some o ∧ Below wr.heap.size wr W2 ∧ W2.heap[B]? = some (.cells #[.int .i64 o.org, .int .i64 o.num, .int .i64 o.peer, .int .i64 o.srv, .int .i64 o.red, .int .i64 o.size, .slice av nv cv, .bool o.ended, .int .i64 o.how] 110) ∧ wr.heap.size ≤ B) := ⟨hk, hP, hSL, hKy, ho, hb2, hx2, hwB⟩
        obtain ⟨k0, k1⟩ := F1
        clear hk hP hSL hKy ho hke F2 F3 F4 F5 hV hbV hlw hbwV hkV hbVz hVs hkVz hB hW2 hb2 hx2 hwB hbw2
        go_upto_region 5 with fail
        rw [HV.out]
        go_cut [6] from 35 to 41 (fun q wx => q = .pointer (some ⟨B, 0, none⟩) ∧ Hid (wx = W2))
        case first =>
          go_wp2_with fail
          go_region
          all_goals rw [HW2.out, HB.out]
          all_goals go_wp2_with fail
          all_goals go_meet
          all_goals exact ⟨rfl, rfl⟩
        case rest =>
          obtain ⟨rfl, hwc⟩ := hcut
          rw [hwc.out]
          clear hwc x0 x1 x2 x3 z3 z3z hl hl2 k0 k1
          go_upto_region 7 with (go_at_call 62; refine HCl.out.mono ?_; rintro e3 w3 ⟨v3, rfl, r1, r2⟩; obtain ⟨a3, n3, c3, rfl⟩ := own_sl8 r1; have hx3 := (r2.block B (Array.getElem?_eq_some_iff.1 HR.out.2.2.2.2.2.2.1).1).trans HR.out.2.2.2.2.2.2.1; have jf : w3.frozen? ⟨B, 6, none⟩ = false := (by simp [World.frozen?, hx3]); have j6 : w3.cell? ⟨B, 6, none⟩ = some (.slice av nv cv) := ((cell_of_row _ _ _ _ _ _ hx3).trans rfl); have JJ : Hid (_ ∧ _ ∧ _) := And.intro r1 (And.intro r2 hx3); clear r1 r2 hx3)
          obtain ⟨r1, r2, hx3⟩ := JJ.out
          obtain ⟨hk, hP, hSL, hKy, ho, hb2, hx2, hwB⟩ := HR.out
          have hb4 : Below wr.heap.size wr (w3.setCell ⟨B, 6, none⟩ (.slice a3 n3 c3)) := (hb2.trans (r2.mono hb2.size)).setCell (p := ⟨B, 6, none⟩) hwB _
          have hx4 : (w3.setCell ⟨B, 6, none⟩ (.slice a3 n3 c3)).heap[B]? = some (.cells #[.int .i64 o.org, .int .i64 o.num, .int .i64 o.peer, .int .i64 o.srv, .int .i64 o.red, .int .i64 o.size, .slice a3 n3 c3, .bool o.ended, .int .i64 o.how] 110) := (heap_setCell_same _ _ _ _ _ _ hx3).trans rfl
          have hBl2 := (Array.getElem?_eq_some_iff.1 hx2).1
          have hr4 : ByO (w3.setCell ⟨B, 6, none⟩ (.slice a3 n3 c3)) W2.heap.size (.slice a3 n3 c3) o.data := own_at r1 (fun g hg => heap_setCell_other _ _ _ _ (by simp only; have := (World.ownsRow.lt r1 g hg).1; omega))
          obtain ⟨W4, hW4⟩ : ∃ W4, w3.setCell ⟨B, 6, none⟩ (.slice a3 n3 c3) = W4 := ⟨_, rfl⟩
          rw [hW4] at hb4 hx4 hr4 ⊢
          have hS4 := hSL.below hb4
          have hrow := World.ownsRow.alloc hS4.sj.st.ro (.cells #[.int .i64 o.org, .int .i64 o.num, .int .i64 o.peer, .int .i64 o.srv, .int .i64 o.red, .int .i64 o.size, .slice a3 n3 c3, .bool o.ended, .int .i64 o.how] 110)
          have s3 : W4.cell? ⟨w.heap.size + 1, 3, none⟩ = some vo := (cell_of_row _ _ _ _ _ _ hS4.sj.box).trans rfl
          have s20 : W4.cell? ⟨B, 0, none⟩ = some (.int .i64 o.org) := (cell_of_row _ _ _ _ _ _ hx4).trans rfl
          have s21 : W4.cell? ⟨B, 1, none⟩ = some (.int .i64 o.num) := (cell_of_row _ _ _ _ _ _ hx4).trans rfl
          have s22 : W4.cell? ⟨B, 2, none⟩ = some (.int .i64 o.peer) := (cell_of_row _ _ _ _ _ _ hx4).trans rfl
          have s23 : W4.cell? ⟨B, 3, none⟩ = some (.int .i64 o.srv) := (cell_of_row _ _ _ _ _ _ hx4).trans rfl
          have s24 : W4.cell? ⟨B, 4, none⟩ = some (.int .i64 o.red) := (cell_of_row _ _ _ _ _ _ hx4).trans rfl
          have s25 : W4.cell? ⟨B, 5, none⟩ = some (.int .i64 o.size) := (cell_of_row _ _ _ _ _ _ hx4).trans rfl
          have s26 : W4.cell? ⟨B, 6, none⟩ = some (.slice a3 n3 c3) := (cell_of_row _ _ _ _ _ _ hx4).trans rfl
          have s27 : W4.cell? ⟨B, 7, none⟩ = some (.bool o.ended) := (cell_of_row _ _ _ _ _ _ hx4).trans rfl
          have s28 : W4.cell? ⟨B, 8, none⟩ = some (.int .i64 o.how) := (cell_of_row _ _ _ _ _ _ hx4).trans rfl
          have HX : Hid (SL w z T vo (.slice none 0 0) (.slice none 0 0) P [] [] W4 ∧ ByO W4 W2.heap.size (.slice a3 n3 c3) o.data ∧ W4.heap[B]? = some (.cells #[.int .i64 o.org, .int .i64 o.num, .int .i64 o.peer, .int .i64 o.srv, .int .i64 o.red, .int .i64 o.size, .slice a3 n3 c3, .bool o.ended, .int .i64 o.how] 110) ∧ Below wr.heap.size wr W4 ∧ wr.heap.size ≤ W2.heap.size) := ⟨hS4, hr4, hx4, hb4, hb2.size⟩
          have hwl : w.heap.size ≤ (W4.alloc (.cells #[.int .i64 o.org, .int .i64 o.num, .int .i64 o.peer, .int .i64 o.srv, .int .i64 o.red, .int .i64 o.size, .slice a3 n3 c3, .bool o.ended, .int .i64 o.how] 110)).heap.size := by have := hS4.sj.low.size; simp; omega
          have hPl : P.length = k := by have := congrArg List.length hP; simp at this; have := HNK.out; omega
          have hkb : k < 1099511627776 := by have := HT.out.2.2.1; have := HNK.out; omega
          have hnb : P.length + 1 ≤ maxLen := by unfold maxLen; omega
          have hnc : (P.length + 1) * 88 ≤ 140737488355328 := by omega
          clear r1 r2 hx3 hk hP hSL hKy ho hb2 hx2 hwB hb4 hx4 hBl2 hr4 hW4 JJ HCl j6 jf HW2 HB HV x6 hS4 hPl
          go_wp2_with (at_builtin; refine wpList_append_own_at _ rfl _ _ 54 rfl w.heap.size 110 io _ 9 88 Tryz.underlying54 hio hio0 hio1 hio2 rfl (by decide) _ _ _ rfl hrow ⟨W4.heap.size, 0, none⟩ 1 1 (ogc (o, .slice a3 n3 c3)) rfl rfl ?c1 ?c2 hnb hnc hwl ?_)
          case c1 => exact cells_new W4 (ogc (o, .slice a3 n3 c3)) 110
          case c2 => intro u hu; simp [ogc] at hu; rcases hu with rfl | rfl | rfl | rfl | rfl | rfl | rfl | rfl | rfl <;> rfl
          intro v6 w6 hown6 hgrow6 _ hat6
          obtain ⟨hS4, hr4, hx4, hb4, hz4⟩ := HX.out
          obtain ⟨hk, hP, hSL, hKy, ho, hb2, hx2, hwB⟩ := HR.out
          have hno : ∀ g, (Value.slice a3 n3 c3).ownBlock = some g → g ∉ sbl P [] [] := fun g hg e => by
            have q1 := (World.ownsRow.lt hr4 g hg).1
            have q2 := (sbl_lt hSL.sj.st g e).2
            omega
          obtain ⟨u1, u2, u3, u4'⟩ := hS4.addo (v6 := v6) (a := (o, .slice a3 n3 c3)) (by exact hown6) hgrow6 ⟨hr4.1, hr4.2.imp id (fun ⟨g, cap, cur, e1, e2, e3⟩ => ⟨g, cap, cur, e1, by have := hSL.sj.low.size; omega, e3⟩)⟩ (sbl_addo hSL.sj.st.nd hno) (by simpa using hat6)
          have hK6 := Kl.keysaddo hS4 u2 (own_at hKy (fun g hg => hb4.block g (World.ownsRow.lt hKy g hg).2)) (by decide) (by decide)
          have HRel : Hid (∃ vo P, P.map Prod.fst = T.ex.take (k + 1) ∧ SL w z T vo (.slice none 0 0) (.slice none 0 0) P [] [] (w6.setCell ⟨w.heap.size + 1, 3, none⟩ v6) ∧ RoS (w6.setCell ⟨w.heap.size + 1, 3, none⟩ v6) w.heap.size (.slice (some ⟨gk, 0, none⟩) nk ck) (T.ex.map Og.s)) := ⟨v6, P ++ [(o, .slice a3 n3 c3)], by rw [List.map_append, hP, take_one ho]; rfl, u1, hK6⟩
          obtain ⟨a6, n6, c6, rfl⟩ := own_sl8 hown6
          clear hS4 hr4 hx4 hb4 hz4 hk hP hSL hKy ho hb2 hx2 hwB hno u1 u2 hK6 hown6 hgrow6 hat6 HX HR hrow hwl hnb hnc s20 s21 s22 s23 s24 s25 s26 s27 s28
          go_wp2
          go_roundw
          case rel => exact ⟨k + 1, by go_num, by omega, HRel.out⟩
          case measure => simp [intOf]; omega
      · have hkn : k = nk := by omega
        obtain ⟨hk, vo, P, hP, hSL, hKy⟩ := HK
        have HO : Hid (P.map Prod.fst = T.ex ∧ SL w z T vo (.slice none 0 0) (.slice none 0 0) P [] [] wr) := ⟨by rw [hP, hkn, HNK.out, List.take_length], hSL⟩
        obtain ⟨W1', hW1'⟩ : ∃ W1', wr = W1' := ⟨_, rfl⟩
        have hlt' : ¬ (k : Int) < (nk : Int) := by omega
        have d4 : wr.cell? ⟨z.x, 4, none⟩ = some (.map (some z.m2)) := (HT.out.1.below hSL.sj.low).c.2.2.2.2.1
        have HSi : Hid (Calls Tryz.prog 63 #[.map (some z.m2)] wr (KyS (T.im.map Ic.s) wr)) := sortedI_any (HT.out.1.below hSL.sj.low) (by have := HT.out.2.2.2.1; omega)
        clear hk hP hSL hKy hkn hW1' HNK
        go_wp2_with (go_at_call 63; refine HSi.out.mono ?_; rintro e w2 ⟨ak2, nk2, ck2, rfl, q1, q2⟩)
        clear d4 HSi
        have hnk2 : nk2 = T.im.length := own_len2 q1
        have HNK2 : Hid (nk2 = T.im.length) := hnk2
        have HSL2 : Hid (∃ vi Q, Q.map Prod.fst = T.im.take 0 ∧ SL w z T vo vi (.slice none 0 0) P Q [] w2 ∧ RoS w2 w.heap.size (.slice ak2 nk2 ck2) (T.im.map Ic.s)) := ⟨_, [], by simp, HO.out.2.below q2, q1.b0 HO.out.2.sj.low.size⟩
        have HOP : Hid (P.map Prod.fst = T.ex) := HO.out.1
        clear q1 q2 HO hnk2
        go_loopw [58] (fun i wr => ∃ k : Nat, i = .int .i64 k ∧ Hid (k ≤ nk2 ∧ ∃ vi Q, Q.map Prod.fst = T.im.take k ∧ SL w z T vo vi (.slice none 0 0) P Q [] wr ∧ RoS wr w.heap.size (.slice ak2 nk2 ck2) (T.im.map Ic.s))) (fun i _ => nk2 - (intOf i).toNat)
        case atStart => exact ⟨0, rfl, Nat.zero_le _, HSL2.out⟩
        case round =>
          obtain ⟨k, rfl, hh⟩ := hrel
          have HK := hh.out
          clear HSL2 hh hlt'
          by_cases hlt : k < nk2
          · have hlt' : (k : Int) < (nk2 : Int) := by omega
            obtain ⟨hk, vi, Q, hQ, hSL, hKy⟩ := HK
            have hke : k < T.im.length := by rw [← HNK2.out]; exact hlt
            obtain ⟨o, ho⟩ : ∃ o, T.im[k]? = some o := ⟨T.im[k], List.getElem?_eq_getElem hke⟩
            obtain ⟨gk, au, nu, cu, av, nv, cv, rfl, F1, F3, F4, F5, F6, F7⟩ := st_i (HT.out.1) HT.out.2.1 hSL hKy ho
            obtain ⟨V, hV⟩ : ∃ V, wr.alloc (.cells #[.int .i64 o.org, .int .i64 o.num] 31) = V := ⟨_, rfl⟩
            have HV : Hid (wr.alloc (.cells #[.int .i64 o.org, .int .i64 o.num] 31) = V) := hV
            have hbV : Below wr.heap.size wr V := by rw [← hV]; exact (Below.refl _ _).alloc (Nat.le_refl _) _
            have hlw : Below w.heap.size w wr := hSL.sj.low
            have hbwV : Below w.heap.size w V := hlw.trans (hbV.mono hlw.size)
            have hkV : V.heap[wr.heap.size]? = some (.cells #[.int .i64 o.org, .int .i64 o.num] 31) := by rw [← hV]; exact heap_alloc_new' wr _
            have x0 : V.cell? ⟨wr.heap.size, 0, none⟩ = some (.int .i64 o.org) := (cell_of_row _ _ _ _ _ _ hkV).trans rfl
            have x1 : V.cell? ⟨wr.heap.size, 1, none⟩ = some (.int .i64 o.num) := (cell_of_row _ _ _ _ _ _ hkV).trans rfl
            have z3 : V.cell? ⟨z.x, 4, none⟩ = some (.map (some z.m2)) := (HT.out.1.below hbwV).c.2.2.2.2.1
            have hbVz : Below V.heap.size V (V.alloc (.cells #[.int .i64 0, .int .i64 0, .int .i64 0, .int .i64 0, .int .i64 0, .slice none 0 0, .slice none 0 0, .bool false, .bool false, .bool false, .bool false, .int .i64 0] 63)) := (Below.refl _ _).alloc (Nat.le_refl _) _
            have hVs := (Array.getElem?_eq_some_iff.1 hkV).1
            have hkVz : (V.alloc (.cells #[.int .i64 0, .int .i64 0, .int .i64 0, .int .i64 0, .int .i64 0, .slice none 0 0, .slice none 0 0, .bool false, .bool false, .bool false, .bool false, .int .i64 0] 63)).heap[wr.heap.size]? = some (.cells #[.int .i64 o.org, .int .i64 o.num] 31) := (hbVz.block _ hVs).trans hkV
            have x2 : (V.alloc (.cells #[.int .i64 0, .int .i64 0, .int .i64 0, .int .i64 0, .int .i64 0, .slice none 0 0, .slice none 0 0, .bool false, .bool false, .bool false, .bool false, .int .i64 0] 63)).cell? ⟨wr.heap.size, 0, none⟩ = some (.int .i64 o.org) := (cell_of_row _ _ _ _ _ _ hkVz).trans rfl
            have x3 : (V.alloc (.cells #[.int .i64 0, .int .i64 0, .int .i64 0, .int .i64 0, .int .i64 0, .slice none 0 0, .slice none 0 0, .bool false, .bool false, .bool false, .bool false, .int .i64 0] 63)).cell? ⟨wr.heap.size, 1, none⟩ = some (.int .i64 o.num) := (cell_of_row _ _ _ _ _ _ hkVz).trans rfl
            have z3z : (V.alloc (.cells #[.int .i64 0, .int .i64 0, .int .i64 0, .int .i64 0, .int .i64 0, .slice none 0 0, .slice none 0 0, .bool false, .bool false, .bool false, .bool false, .int .i64 0] 63)).cell? ⟨z.x, 4, none⟩ = some (.map (some z.m2)) := (HT.out.1.below (hbwV.alloc hbwV.size _)).c.2.2.2.2.1
            have hl := F3 V.drew hbwV.drew
            have hl2 := F3 (V.alloc (.cells #[.int .i64 0, .int .i64 0, .int .i64 0, .int .i64 0, .int .i64 0, .slice none 0 0, .slice none 0 0, .bool false, .bool false, .bool false, .bool false, .int .i64 0] 63)).drew (hbwV.alloc hbwV.size _).drew
            obtain ⟨B, hB⟩ : ∃ B, V.heap.size = B := ⟨_, rfl⟩
            have HB : Hid (V.heap.size = B) := hB
            obtain ⟨W2, hW2⟩ : ∃ W2, (V.alloc (.cells #[.int .i64 o.org, .int .i64 o.num, .int .i64 o.srv, .int .i64 o.red, .int .i64 o.size, .slice au nu cu, .slice av nv cv, .bool o.done, .bool o.gone, .bool o.heard, .bool o.shut, .int .i64 o.how] 63)).drew = W2 := ⟨_, rfl⟩
            have HW2 : Hid ((V.alloc (.cells #[.int .i64 o.org, .int .i64 o.num, .int .i64 o.srv, .int .i64 o.red, .int .i64 o.size, .slice au nu cu, .slice av nv cv, .bool o.done, .bool o.gone, .bool o.heard, .bool o.shut, .int .i64 o.how] 63)).drew = W2) := hW2
            have hb2 : Below wr.heap.size wr W2 := by rw [← hW2]; exact (hbV.alloc hbV.size _).drew
            have hx2 : W2.heap[B]? = some (.cells #[.int .i64 o.org, .int .i64 o.num, .int .i64 o.srv, .int .i64 o.red, .int .i64 o.size, .slice au nu cu, .slice av nv cv, .bool o.done, .bool o.gone, .bool o.heard, .bool o.shut, .int .i64 o.how] 63) := by rw [← hW2, ← hB]; exact heap_alloc_new' V _
            have hwB : wr.heap.size ≤ B := by rw [← hB]; exact hbV.size
            have hbw2 : Below w.heap.size w W2 := hlw.trans (hb2.mono hlw.size)
            have HCS : Hid (∀ U, Below W2.heap.size W2 U → Calls Tryz.prog 64 #[.slice au nu cu] U (ClS o.hv U)) := fun U hU => cloneS_any au cu o.hv nu F5.1 U (F4 U (hbw2.trans (hU.mono hbw2.size))) F5.2.2 (by omega)
            have HCB : Hid (∀ U, Below W2.heap.size W2 U → Calls Tryz.prog 62 #[.slice av nv cv] U (ClB o.data U)) := fun U hU => cloneB_any av cv o.data nv F7.1 U (F6 U (hbw2.trans (hU.mono hbw2.size))) F7.2.2 (by omega)
            have HX2 : Hid (∀ U, Below W2.heap.size W2 U → U.heap[B]? = some (.cells #[.int .i64 o.org, .int .i64 o.num, .int .i64 o.srv, .int .i64 o.red, .int .i64 o.size, .slice au nu cu, .slice av nv cv, .bool o.done, .bool o.gone, .bool o.heard, .bool o.shut, .int .i64 o.how] 63)) := fun U hU => (hU.block B (Array.getElem?_eq_some_iff.1 hx2).1).trans hx2
            have HR : Hid (k ≤ nk2 ∧ Q.map Prod.fst = T.im.take k ∧ SL w z T vo vi (.slice none 0 0) P Q [] wr ∧ RoS wr w.heap.size (.slice (some ⟨gk, 0, none⟩) nk2 ck2) (T.im.map Ic.s) ∧ T.im[k]? = some o ∧ Below wr.heap.size wr W2 ∧ W2.heap[B]? = some (.cells #[.int .i64 o.org, .int .i64 o.num, .int .i64 o.srv, .int .i64 o.red, .int .i64 o.size, .slice au nu cu, .slice av nv cv, .bool o.done, .bool o.gone, .bool o.heard, .bool o.shut, .int .i64 o.how] 63) ∧ wr.heap.size ≤ B) := ⟨hk, hQ, hSL, hKy, ho, hb2, hx2, hwB⟩
            obtain ⟨k0, k1⟩ := F1
            have b5 : W2.cell? ⟨B, 5, none⟩ = some (.slice au nu cu) := (cell_of_row _ _ _ _ _ _ hx2).trans rfl
            have b6 : W2.cell? ⟨B, 6, none⟩ = some (.slice av nv cv) := (cell_of_row _ _ _ _ _ _ hx2).trans rfl
            clear hk hQ hSL hKy ho hke F3 F4 F5 F6 F7 hV hbV hlw hbwV hkV hbVz hVs hkVz hB hW2 hb2 hx2 hwB hbw2
            go_upto_region 12 with fail
            rw [HV.out]
            go_cut [9] from 62 to 68 (fun q wx => q = .pointer (some ⟨B, 0, none⟩) ∧ Hid (wx = W2))
            case first =>
              go_wp2_with fail
              go_region
              all_goals rw [HW2.out, HB.out]
              all_goals go_wp2_with fail
              all_goals go_meet
              all_goals exact ⟨rfl, rfl⟩
            case rest =>
              obtain ⟨rfl, hwc⟩ := hcut
              rw [hwc.out]
              clear hwc x0 x1 x2 x3 z3 z3z hl hl2 k0 k1 HW2 HB HV
              go_upto_region 13 with fail
              go_cut [70] from 68 to 76 (fun q wx => ∃ a3 n3 c3 a4 n4 c4, Hid (Below wr.heap.size wr wx ∧ wx.heap[B]? = some (.cells #[.int .i64 o.org, .int .i64 o.num, .int .i64 o.srv, .int .i64 o.red, .int .i64 o.size, .slice a3 n3 c3, .slice a4 n4 c4, .bool o.done, .bool o.gone, .bool o.heard, .bool o.shut, .int .i64 o.how] 63) ∧ SOwn wx W2.heap.size (.slice a3 n3 c3) o.hv ∧ ByO wx W2.heap.size (.slice a4 n4 c4) o.data))
              case first =>
                have hb0 : Below W2.heap.size W2 W2.drew := (Below.refl _ _).drew
                have b5d : W2.drew.cell? ⟨B, 5, none⟩ = some (.slice au nu cu) := b5
                have b6d : W2.drew.cell? ⟨B, 6, none⟩ = some (.slice av nv cv) := b6
                go_wp2_with fail
                go_region_with (first
                  | (go_at_call 64; refine (HCS.out _ hb0).mono ?_; rintro e3 w3 ⟨v3, rfl, r1, r2⟩; obtain ⟨a3, n3, c3, rfl⟩ := own_sl8 r1; have hb3 := hb0.trans (r2.mono hb0.size); have h3 := HX2.out _ hb3; have b5e : w3.cell? ⟨B, 5, none⟩ = some (.slice au nu cu) := ((cell_of_row _ _ _ _ _ _ h3).trans rfl); have b6e : w3.cell? ⟨B, 6, none⟩ = some (.slice av nv cv) := ((cell_of_row _ _ _ _ _ _ h3).trans rfl); have J3 : Hid (_ ∧ _) := And.intro r1 hb3; clear r1 r2 h3)
                  | (go_at_call 62; refine (HCB.out _ hb3).mono ?_; rintro e4 w4 ⟨v4, rfl, r3, r4⟩; obtain ⟨a4, n4, c4, rfl⟩ := own_sl8 r3; have hb4 := hb3.trans (r4.mono hb3.size); have h4 := HX2.out _ hb4; have b5f : w4.cell? ⟨B, 5, none⟩ = some (.slice au nu cu) := ((cell_of_row _ _ _ _ _ _ h4).trans rfl); have b6f : w4.cell? ⟨B, 6, none⟩ = some (.slice av nv cv) := ((cell_of_row _ _ _ _ _ _ h4).trans rfl); have f5 : w4.frozen? ⟨B, 5, none⟩ = false := (by simp [World.frozen?, h4]); have f6 : w4.frozen? ⟨B, 6, none⟩ = false := (by simp [World.frozen?, h4]); have J4 : Hid (_ ∧ _ ∧ _ ∧ _) := And.intro r3 (And.intro r4 (And.intro h4 hb4)); clear r3 r4 h4 hb4))
                all_goals (
                  obtain ⟨r3, r4, h4, hb4⟩ := J4.out
                  obtain ⟨r1, _⟩ := J3.out
                  obtain ⟨_, _, _, _, _, hb2, hx2, hwB⟩ := HR.out
                  have hBl := (Array.getElem?_eq_some_iff.1 hx2).1
                  have hs3 := hb3.size
                  have e1 : Below wr.heap.size wr ((w4.setCell ⟨B, 5, none⟩ (.slice a3 n3 c3)).setCell ⟨B, 6, none⟩ (.slice a4 n4 c4)) := Below.setCell (p := ⟨B, 6, none⟩) (Below.setCell (p := ⟨B, 5, none⟩) (hb2.trans (hb4.mono hb2.size)) hwB _) hwB _
                  have e2 : (w4.setCell ⟨B, 5, none⟩ (.slice a3 n3 c3)).heap[B]? = some (.cells #[.int .i64 o.org, .int .i64 o.num, .int .i64 o.srv, .int .i64 o.red, .int .i64 o.size, .slice a3 n3 c3, .slice av nv cv, .bool o.done, .bool o.gone, .bool o.heard, .bool o.shut, .int .i64 o.how] 63) := (heap_setCell_same _ _ _ _ _ _ h4).trans rfl
                  have e3 : ((w4.setCell ⟨B, 5, none⟩ (.slice a3 n3 c3)).setCell ⟨B, 6, none⟩ (.slice a4 n4 c4)).heap[B]? = some (.cells #[.int .i64 o.org, .int .i64 o.num, .int .i64 o.srv, .int .i64 o.red, .int .i64 o.size, .slice a3 n3 c3, .slice a4 n4 c4, .bool o.done, .bool o.gone, .bool o.heard, .bool o.shut, .int .i64 o.how] 63) := (heap_setCell_same _ _ _ _ _ _ e2).trans rfl
                  have e4 : SOwn ((w4.setCell ⟨B, 5, none⟩ (.slice a3 n3 c3)).setCell ⟨B, 6, none⟩ (.slice a4 n4 c4)) W2.heap.size (.slice a3 n3 c3) o.hv := own_at r1 (fun g hg => (heap_setCell_other _ ⟨B, 6, none⟩ _ _ (by have := (World.ownsRow.lt r1 g hg).1; simp at this; simp only; omega)).trans ((heap_setCell_other _ ⟨B, 5, none⟩ _ _ (by have := (World.ownsRow.lt r1 g hg).1; simp at this; simp only; omega)).trans (r4.block g (World.ownsRow.lt r1 g hg).2)))
                  have e5 : ByO ((w4.setCell ⟨B, 5, none⟩ (.slice a3 n3 c3)).setCell ⟨B, 6, none⟩ (.slice a4 n4 c4)) W2.heap.size (.slice a4 n4 c4) o.data := own_at ⟨r3.1, r3.2.imp id (fun ⟨g, cap, cur, q1, q2, q3⟩ => ⟨g, cap, cur, q1, by omega, q3⟩)⟩ (fun g hg => (heap_setCell_other _ ⟨B, 6, none⟩ _ _ (by have := (World.ownsRow.lt r3 g hg).1; simp only; omega)).trans (heap_setCell_other _ ⟨B, 5, none⟩ _ _ (by have := (World.ownsRow.lt r3 g hg).1; simp only; omega)))
                  have HE : Hid (_ ∧ _ ∧ _ ∧ _) := And.intro e1 (And.intro e3 (And.intro e4 e5))
                  clear r1 r3 r4 h4 hb4 hb2 hx2 hwB hBl hs3 e1 e2 e3 e4 e5
                  go_wp2_with fail
                  go_meet
                  exact ⟨a3, n3, c3, a4, n4, c4, HE⟩)
              case rest =>
                obtain ⟨a3, n3, c3, a4, n4, c4, HY⟩ := hcut
                obtain ⟨W4, rfl⟩ : ∃ W4, W4 = wc := ⟨_, rfl⟩
                obtain ⟨hb4, hx4, hr4, hr5⟩ := HY.out
                obtain ⟨hk, hQ, hSL, hKy, ho, hb2, hx2, hwB⟩ := HR.out
                have hS4 := hSL.below hb4
                have hrow := World.ownsRow.alloc hS4.sj.st.ri (.cells #[.int .i64 o.org, .int .i64 o.num, .int .i64 o.srv, .int .i64 o.red, .int .i64 o.size, .slice a3 n3 c3, .slice a4 n4 c4, .bool o.done, .bool o.gone, .bool o.heard, .bool o.shut, .int .i64 o.how] 63)
                have s3 : W4.cell? ⟨w.heap.size + 1, 4, none⟩ = some vi := (cell_of_row _ _ _ _ _ _ hS4.sj.box).trans rfl
                have s20 : W4.cell? ⟨B, 0, none⟩ = some (.int .i64 o.org) := (cell_of_row _ _ _ _ _ _ hx4).trans rfl
                have s21 : W4.cell? ⟨B, 1, none⟩ = some (.int .i64 o.num) := (cell_of_row _ _ _ _ _ _ hx4).trans rfl
                have s22 : W4.cell? ⟨B, 2, none⟩ = some (.int .i64 o.srv) := (cell_of_row _ _ _ _ _ _ hx4).trans rfl
                have s23 : W4.cell? ⟨B, 3, none⟩ = some (.int .i64 o.red) := (cell_of_row _ _ _ _ _ _ hx4).trans rfl
                have s24 : W4.cell? ⟨B, 4, none⟩ = some (.int .i64 o.size) := (cell_of_row _ _ _ _ _ _ hx4).trans rfl
                have s25 : W4.cell? ⟨B, 5, none⟩ = some (.slice a3 n3 c3) := (cell_of_row _ _ _ _ _ _ hx4).trans rfl
                have s26 : W4.cell? ⟨B, 6, none⟩ = some (.slice a4 n4 c4) := (cell_of_row _ _ _ _ _ _ hx4).trans rfl
                have s27 : W4.cell? ⟨B, 7, none⟩ = some (.bool o.done) := (cell_of_row _ _ _ _ _ _ hx4).trans rfl
                have s28 : W4.cell? ⟨B, 8, none⟩ = some (.bool o.gone) := (cell_of_row _ _ _ _ _ _ hx4).trans rfl
                have s29 : W4.cell? ⟨B, 9, none⟩ = some (.bool o.heard) := (cell_of_row _ _ _ _ _ _ hx4).trans rfl
                have s30 : W4.cell? ⟨B, 10, none⟩ = some (.bool o.shut) := (cell_of_row _ _ _ _ _ _ hx4).trans rfl
                have s31 : W4.cell? ⟨B, 11, none⟩ = some (.int .i64 o.how) := (cell_of_row _ _ _ _ _ _ hx4).trans rfl
                have hwl : w.heap.size ≤ (W4.alloc (.cells #[.int .i64 o.org, .int .i64 o.num, .int .i64 o.srv, .int .i64 o.red, .int .i64 o.size, .slice a3 n3 c3, .slice a4 n4 c4, .bool o.done, .bool o.gone, .bool o.heard, .bool o.shut, .int .i64 o.how] 63)).heap.size := by have := hS4.sj.low.size; simp; omega
                have hQl : Q.length = k := by have := congrArg List.length hQ; simp at this; have := HNK2.out; omega
                have hkb : k < 1099511627776 := by have := HT.out.2.2.2.1; have := HNK2.out; omega
                have hnb : Q.length + 1 ≤ maxLen := by unfold maxLen; omega
                have hnc : (Q.length + 1) * 104 ≤ 140737488355328 := by omega
                clear hk hQ hSL hKy ho hb2 hx2 hwB hb4 hx4 hr4 hr5 hS4 hQl HCS HCB HX2 b5 b6
                go_wp2_with (at_builtin; refine wpList_append_own_at _ rfl _ _ 55 rfl w.heap.size 63 ii _ 12 104 Tryz.underlying55 hii hii0 hii1 hii2 rfl (by decide) _ _ _ rfl hrow ⟨W4.heap.size, 0, none⟩ 1 1 (icc (o, .slice a3 n3 c3, .slice a4 n4 c4)) rfl rfl ?c1 ?c2 hnb hnc hwl ?_)
                case c1 => exact cells_new W4 (icc (o, .slice a3 n3 c3, .slice a4 n4 c4)) 63
                case c2 => intro u hu; simp [icc] at hu; rcases hu with rfl | rfl | rfl | rfl | rfl | rfl | rfl | rfl | rfl | rfl | rfl | rfl <;> rfl
                intro v6 w6 hown6 hgrow6 _ hat6
                obtain ⟨hb4, hx4, hr4, hr5⟩ := HY.out
                obtain ⟨hk, hQ, hSL, hKy, ho, hb2, hx2, hwB⟩ := HR.out
                have hS4 := hSL.below hb4
                have hz4 := hb2.size
                have hno : ∀ g, (Value.slice a3 n3 c3).ownBlock = some g → g ∉ sbl P Q [] := fun g hg e => by
                  have q1 := (World.ownsRow.lt hr4 g hg).1
                  have q2 := (sbl_lt hSL.sj.st g e).2
                  omega
                have hno2 : ∀ g, (Value.slice a4 n4 c4).ownBlock = some g → g ∉ sbl P Q [] := fun g hg e => by
                  have q1 := (World.ownsRow.lt hr5 g hg).1
                  have q2 := (sbl_lt hSL.sj.st g e).2
                  omega
                have hno3 : ∀ g, (Value.slice a3 n3 c3).ownBlock = some g → (Value.slice a4 n4 c4).ownBlock ≠ some g := fun g hg => own_ne hr4 hr5 (by decide) hg
                obtain ⟨u1, u2, u3, u4'⟩ := hS4.addi (v6 := v6) (a := (o, .slice a3 n3 c3, .slice a4 n4 c4)) (by exact hown6) hgrow6 ⟨hr4.base (by have := hSL.sj.low.size; omega), ⟨hr5.1, hr5.2.imp id (fun ⟨g, cap, cur, e1, e2, e3⟩ => ⟨g, cap, cur, e1, by have := hSL.sj.low.size; omega, e3⟩)⟩⟩ (sbl_addi hSL.sj.st.nd hno hno2 hno3) (by simpa using hat6)
                have hK6 := Kl.keysaddi hS4 u2 (own_at hKy (fun g hg => hb4.block g (World.ownsRow.lt hKy g hg).2)) (by decide) (by decide)
                have HRel : Hid (∃ vi Q, Q.map Prod.fst = T.im.take (k + 1) ∧ SL w z T vo vi (.slice none 0 0) P Q [] (w6.setCell ⟨w.heap.size + 1, 4, none⟩ v6) ∧ RoS (w6.setCell ⟨w.heap.size + 1, 4, none⟩ v6) w.heap.size (.slice (some ⟨gk, 0, none⟩) nk2 ck2) (T.im.map Ic.s)) := ⟨v6, Q ++ [(o, .slice a3 n3 c3, .slice a4 n4 c4)], by rw [List.map_append, hQ, take_one ho]; rfl, u1, hK6⟩
                obtain ⟨a6, n6, c6, rfl⟩ := own_sl8 hown6
                clear hS4 hr4 hr5 hx4 hb4 hz4 hk hQ hSL hKy ho hb2 hx2 hwB hno hno2 hno3 u1 u2 hK6 hown6 hgrow6 hat6 HY HR hrow hwl hnb hnc s20 s21 s22 s23 s24 s25 s26 s27 s28 s29 s30 s31
                go_wp2
                go_roundw
                case rel => exact ⟨k + 1, by go_num, by omega, HRel.out⟩
                case measure => simp [intOf]; omega
          · have hkn : k = nk2 := by omega
            obtain ⟨hk, vi, Q, hQ, hSL, hKy⟩ := HK
            have HO2 : Hid (Q.map Prod.fst = T.im ∧ SL w z T vo vi (.slice none 0 0) P Q [] wr) := ⟨by rw [hQ, hkn, HNK2.out, List.take_length], hSL⟩
            have hlt' : ¬ (k : Int) < (nk2 : Int) := by omega
            have d5 : wr.cell? ⟨z.x, 5, none⟩ = some (.map (some z.m3)) := (HT.out.1.below hSL.sj.low).c.2.2.2.2.2
            have HMk : Hid (Calls Tryz.prog 66 #[.map (some z.m3)] wr fun e w' => e = .returned (.func (.func 125) #[] #[.pointer (some ⟨wr.heap.size, 0, none⟩)]) ∧ w' = wr.alloc (.cells #[.map (some z.m3)] 70)) := mkeysB_any z.m3 wr
            have hba : Below wr.heap.size wr (wr.alloc (.cells #[.map (some z.m3)] 70)) := (Below.refl _ _).alloc (Nat.le_refl _) _
            have HSt : Hid (Calls Tryz.prog 65 #[.func (.func 125) #[] #[.pointer (some ⟨wr.heap.size, 0, none⟩)]] (wr.alloc (.cells #[.map (some z.m3)] 70)) fun e w' => ∃ a n c, e = .returned (.slice a n c) ∧ RoI w' wr.heap.size (.slice a n c) (T.tb.map (Prod.fst : Tm → Int)) ∧ Below wr.heap.size wr w') := (sortedB_any (w0 := wr) (HT.out.1.below (hSL.sj.low.trans (hba.mono hSL.sj.low.size))) (by have := HT.out.2.2.2.2; omega) hba (heap_alloc_new' wr _)).mono fun e w' ⟨a, n, c, q1, q2, q3⟩ => ⟨a, n, c, q1, q2.b0 hba.size, hba.trans (q3.mono hba.size)⟩
            clear hk hQ hSL hKy hkn HNK2 hba
            go_wp2_with (first | (go_at_call 66; refine HMk.out.mono ?_; rintro e w2 ⟨rfl, rfl⟩) | (go_at_call 65; refine HSt.out.mono ?_; rintro e w2 ⟨ak3, nk3, ck3, rfl, q1, q2⟩))
            clear d5 HMk HSt hlt'
            have hnk3 : nk3 = T.tb.length := own_len3 q1
            have HNK3 : Hid (nk3 = T.tb.length) := hnk3
            have HSL3 : Hid (∃ vt R, R.map Prod.fst = T.tb.take 0 ∧ SL w z T vo vi vt P Q R w2 ∧ RoI w2 w.heap.size (.slice ak3 nk3 ck3) (T.tb.map (Prod.fst : Tm → Int))) := ⟨_, [], by simp, HO2.out.2.below q2, q1.b0 HO2.out.2.sj.low.size⟩
            have HOQ : Hid (Q.map Prod.fst = T.im) := HO2.out.1
            clear q1 q2 HO2 hnk3
            go_loopw [90] (fun i wr => ∃ k : Nat, i = .int .i64 k ∧ Hid (k ≤ nk3 ∧ ∃ vt R, R.map Prod.fst = T.tb.take k ∧ SL w z T vo vi vt P Q R wr ∧ RoI wr w.heap.size (.slice ak3 nk3 ck3) (T.tb.map (Prod.fst : Tm → Int)))) (fun i _ => nk3 - (intOf i).toNat)
            case atStart => exact ⟨0, rfl, Nat.zero_le _, HSL3.out⟩
            case round =>
              obtain ⟨k, rfl, hh⟩ := hrel
              have HK := hh.out
              clear HSL3 hh
              by_cases hlt : k < nk3
              · have hlt' : (k : Int) < (nk3 : Int) := by omega
                obtain ⟨hk, vt, R, hR, hSL, hKy⟩ := HK
                have hke : k < T.tb.length := by rw [← HNK3.out]; exact hlt
                obtain ⟨o, ho⟩ : ∃ o, T.tb[k]? = some o := ⟨T.tb[k], List.getElem?_eq_getElem hke⟩
                obtain ⟨gk, au, nu, cu, rfl, k0, F3, F4, F5⟩ := st_t (HT.out.1) HT.out.2.1 hSL hKy ho
                have hlw : Below w.heap.size w wr := hSL.sj.low
                have hb0 : Below wr.heap.size wr wr.drew := (Below.refl _ _).drew
                have hl := F3 wr.drew hlw.drew
                have z5 : wr.drew.cell? ⟨z.x, 5, none⟩ = some (.map (some z.m3)) := (HT.out.1.below hlw.drew).c.2.2.2.2.2
                have s5 : wr.drew.cell? ⟨w.heap.size + 1, 5, none⟩ = some vt := (cell_of_row _ _ _ _ _ _ (hSL.below hb0).sj.box).trans rfl
                have HCS : Hid (∀ U, Below wr.heap.size wr U → Calls Tryz.prog 64 #[.slice au nu cu] U (ClS o.2 U)) := fun U hU => cloneS_any au cu o.2 nu F5.1 U (F4 U (hlw.trans (hU.mono hlw.size))) F5.2.2 (by omega)
                have HR : Hid (k ≤ nk3 ∧ R.map Prod.fst = T.tb.take k ∧ SL w z T vo vi vt P Q R wr ∧ RoI wr w.heap.size (.slice (some ⟨gk, 0, none⟩) nk3 ck3) (T.tb.map (Prod.fst : Tm → Int)) ∧ T.tb[k]? = some o) := ⟨hk, hR, hSL, hKy, ho⟩
                have hRl : R.length = k := by have := congrArg List.length hR; simp at this; have := HNK3.out; omega
                have hkb : k < 1099511627776 := by have := HT.out.2.2.2.2; have := HNK3.out; omega
                have HNB : Hid (R.length + 1 ≤ maxLen ∧ (R.length + 1) * 32 ≤ 140737488355328) := ⟨by unfold maxLen; omega, by omega⟩
                clear hk hR hSL hKy ho hke F3 F4 F5 hlw hRl
                obtain ⟨o1, o2⟩ := o
                go_upto_region 19 with fail
                go_region_law (first
                  | (go_simp
                     go_at_call 64
                     refine (HCS.out _ hb0).mono ?_
                     rintro e3 w3 ⟨v3, rfl, r1, r2⟩
                     obtain ⟨a3, n3, c3, rfl⟩ := own_sl8 r1
                     have hb3 := hb0.trans (r2.mono hb0.size)
                     have hS3 := HR.out.2.2.1.below hb3
                     have s5b : w3.cell? ⟨w.heap.size + 1, 5, none⟩ = some vt := (cell_of_row _ _ _ _ _ _ hS3.sj.box).trans rfl
                     have s5c : (w3.alloc (.cells #[.int .i64 o1, .slice a3 n3 c3] 99)).cell? ⟨w.heap.size + 1, 5, none⟩ = some vt := (cell_of_row _ _ _ _ _ _ (hS3.below ((Below.refl _ _).alloc (Nat.le_refl _) _)).sj.box).trans rfl
                     have J3 : Hid (SOwn w3 wr.heap.size (.slice a3 n3 c3) o2 ∧ Below wr.heap.size wr w3) := ⟨r1, hb3⟩
                     clear r1 r2 hS3)
                  | (refine step_append_at rfl (.tmp 95) (.tmp 105) 56 rfl w.heap.size 99 it (.agg #[.int .i64 0, .slice none 0 0]) 2 32 Tryz.underlying56 hit hit0 hit1 hit2 rfl (by decide) vt R.length (R.flatMap tmc) (by simp [Act.eval]) (World.ownsRow.alloc (HR.out.2.2.1.below J3.out.2).sj.st.rt _) ⟨w3.heap.size, 0, none⟩ 1 1 (tmc ((o1, o2), .slice a3 n3 c3)) (by simp [Act.eval]) rfl (cells_new w3 (tmc ((o1, o2), .slice a3 n3 c3)) 99) (by intro u hu; simp [tmc] at hu; rcases hu with rfl | rfl <;> rfl) HNB.out.1 HNB.out.2 (by have := HR.out.2.2.1.sj.low.size; have := J3.out.2.size; simp; omega) ?_
                     intro v6 w6 hown6 hgrow6 hat6
                     have hA := (HR.out.2.2.1.below J3.out.2).addt (v6 := v6) (a := ((o1, o2), .slice a3 n3 c3)) (by exact hown6) hgrow6 (J3.out.1.base HR.out.2.2.1.sj.low.size) (sbl_addt HR.out.2.2.1.sj.st.nd (fun g hg e => by have q1 := (World.ownsRow.lt J3.out.1 g hg).1; have q2 := (sbl_lt HR.out.2.2.1.sj.st g e).2; omega)) (by simpa using hat6)
                     have s6 := hA.2.2.1
                     have f6 := hA.2.2.2
                     have hK6 := Kl.keysaddt (HR.out.2.2.1.below J3.out.2) hA.2.1 (own_at HR.out.2.2.2.1 (fun g hg => J3.out.2.block g (World.ownsRow.lt HR.out.2.2.2.1 g hg).2)) (by decide) (by decide)
                     have J6 : Hid (_ ∧ _) := And.intro hA.1 hK6
                     obtain ⟨a6, n6, c6, rfl⟩ := own_sl8 hown6
                     clear hA hK6 hown6 hgrow6 hat6))
                all_goals (
                  have HRel : Hid (∃ vt R, R.map Prod.fst = T.tb.take (k + 1) ∧ SL w z T vo vi vt P Q R (w6.setCell ⟨w.heap.size + 1, 5, none⟩ (.slice a6 n6 c6)) ∧ RoI (w6.setCell ⟨w.heap.size + 1, 5, none⟩ (.slice a6 n6 c6)) w.heap.size (.slice (some ⟨gk, 0, none⟩) nk3 ck3) (T.tb.map (Prod.fst : Tm → Int))) := ⟨_, R ++ [((o1, o2), .slice a3 n3 c3)], by rw [List.map_append, HR.out.2.1, take_one HR.out.2.2.2.2]; rfl, J6.out.1, J6.out.2⟩
                  clear J3 J6 HR HCS HNB hb0 hb3 hl z5 s5 s5b s5c k0 s6
                  go_wp2
                  go_roundw
                  case rel => exact ⟨k + 1, by go_num, by omega, HRel.out⟩
                  case measure => simp [intOf]; omega)
              · have hkn : k = nk3 := by omega
                obtain ⟨hk, vt, R, hR, hSL, hKy⟩ := HK
                have HO3 : Hid (R.map Prod.fst = T.tb ∧ SL w z T vo vi vt P Q R wr) := ⟨by rw [hR, hkn, HNK3.out, List.take_length], hSL⟩
                have hlt' : ¬ (k : Int) < (nk3 : Int) := by omega
                have b0 : wr.cell? ⟨w.heap.size + 1, 0, none⟩ = some (.int .i64 T.id) := (cell_of_row _ _ _ _ _ _ hSL.sj.box).trans rfl
                have b1 : wr.cell? ⟨w.heap.size + 1, 1, none⟩ = some (.int .i64 T.boots) := (cell_of_row _ _ _ _ _ _ hSL.sj.box).trans rfl
                have b2 : wr.cell? ⟨w.heap.size + 1, 2, none⟩ = some (.int .i64 T.next) := (cell_of_row _ _ _ _ _ _ hSL.sj.box).trans rfl
                have b3 : wr.cell? ⟨w.heap.size + 1, 3, none⟩ = some vo := (cell_of_row _ _ _ _ _ _ hSL.sj.box).trans rfl
                have b4 : wr.cell? ⟨w.heap.size + 1, 4, none⟩ = some vi := (cell_of_row _ _ _ _ _ _ hSL.sj.box).trans rfl
                have b5 : wr.cell? ⟨w.heap.size + 1, 5, none⟩ = some vt := (cell_of_row _ _ _ _ _ _ hSL.sj.box).trans rfl
                obtain ⟨vo1, vo2, vo3, rfl⟩ := own_sl8 hSL.sj.st.ro
                obtain ⟨vi1, vi2, vi3, rfl⟩ := own_sl8 hSL.sj.st.ri
                obtain ⟨vt1, vt2, vt3, rfl⟩ := own_sl8 hSL.sj.st.rt
                have f0 : ∀ j, wr.frozen? ⟨w.heap.size, j, none⟩ = false := fun j => by simp [World.frozen?, hSL.res]
                have hb9 : Below w.heap.size w wr := hSL.sj.low
                have r0 : wr.cell? ⟨w.heap.size, 0, none⟩ = some (.int .i64 0) := (cell_of_row _ _ _ _ _ _ hSL.res).trans rfl
                have r1 : wr.cell? ⟨w.heap.size, 1, none⟩ = some (.int .i64 0) := (cell_of_row _ _ _ _ _ _ hSL.res).trans rfl
                have r2 : wr.cell? ⟨w.heap.size, 2, none⟩ = some (.int .i64 0) := (cell_of_row _ _ _ _ _ _ hSL.res).trans rfl
                have r3 : wr.cell? ⟨w.heap.size, 3, none⟩ = some (.slice none 0 0) := (cell_of_row _ _ _ _ _ _ hSL.res).trans rfl
                have r4 : wr.cell? ⟨w.heap.size, 4, none⟩ = some (.slice none 0 0) := (cell_of_row _ _ _ _ _ _ hSL.res).trans rfl
                have r5 : wr.cell? ⟨w.heap.size, 5, none⟩ = some (.slice none 0 0) := (cell_of_row _ _ _ _ _ _ hSL.res).trans rfl
                have qq0 : (wr.setCell ⟨w.heap.size, 0, none⟩ (.int .i64 T.id)).heap[w.heap.size]? = some (.cells #[.int .i64 T.id, .int .i64 0, .int .i64 0, .slice none 0 0, .slice none 0 0, .slice none 0 0] 58 (0, 0)) := (heap_setCell_same wr w.heap.size 0 _ _ (.int .i64 T.id) hSL.res).trans rfl
                have hb10 : Below w.heap.size w (wr.setCell ⟨w.heap.size, 0, none⟩ (.int .i64 T.id)) := Below.setCell (p := ⟨w.heap.size, 0, none⟩) hb9 (Nat.le_refl _) _
                have st0 : StR w.heap.size (.slice vo1 vo2 vo3) (.slice vi1 vi2 vi3) (.slice vt1 vt2 vt3) P Q R (wr.setCell ⟨w.heap.size, 0, none⟩ (.int .i64 T.id)) := StR.setRes hSL.sj.st (by rw [hSL.res]; exact ⟨_, rfl⟩)
                have qq1 : ((wr.setCell ⟨w.heap.size, 0, none⟩ (.int .i64 T.id)).setCell ⟨w.heap.size, 1, none⟩ (.int .i64 T.boots)).heap[w.heap.size]? = some (.cells #[.int .i64 T.id, .int .i64 T.boots, .int .i64 0, .slice none 0 0, .slice none 0 0, .slice none 0 0] 58 (0, 0)) := (heap_setCell_same (wr.setCell ⟨w.heap.size, 0, none⟩ (.int .i64 T.id)) w.heap.size 1 _ _ (.int .i64 T.boots) qq0).trans rfl
                have hb11 : Below w.heap.size w ((wr.setCell ⟨w.heap.size, 0, none⟩ (.int .i64 T.id)).setCell ⟨w.heap.size, 1, none⟩ (.int .i64 T.boots)) := Below.setCell (p := ⟨w.heap.size, 1, none⟩) hb10 (Nat.le_refl _) _
                have st1 : StR w.heap.size (.slice vo1 vo2 vo3) (.slice vi1 vi2 vi3) (.slice vt1 vt2 vt3) P Q R ((wr.setCell ⟨w.heap.size, 0, none⟩ (.int .i64 T.id)).setCell ⟨w.heap.size, 1, none⟩ (.int .i64 T.boots)) := StR.setRes st0 (by rw [qq0]; exact ⟨_, rfl⟩)
                have qq2 : (((wr.setCell ⟨w.heap.size, 0, none⟩ (.int .i64 T.id)).setCell ⟨w.heap.size, 1, none⟩ (.int .i64 T.boots)).setCell ⟨w.heap.size, 2, none⟩ (.int .i64 T.next)).heap[w.heap.size]? = some (.cells #[.int .i64 T.id, .int .i64 T.boots, .int .i64 T.next, .slice none 0 0, .slice none 0 0, .slice none 0 0] 58 (0, 0)) := (heap_setCell_same ((wr.setCell ⟨w.heap.size, 0, none⟩ (.int .i64 T.id)).setCell ⟨w.heap.size, 1, none⟩ (.int .i64 T.boots)) w.heap.size 2 _ _ (.int .i64 T.next) qq1).trans rfl
                have hb12 : Below w.heap.size w (((wr.setCell ⟨w.heap.size, 0, none⟩ (.int .i64 T.id)).setCell ⟨w.heap.size, 1, none⟩ (.int .i64 T.boots)).setCell ⟨w.heap.size, 2, none⟩ (.int .i64 T.next)) := Below.setCell (p := ⟨w.heap.size, 2, none⟩) hb11 (Nat.le_refl _) _
                have st2 : StR w.heap.size (.slice vo1 vo2 vo3) (.slice vi1 vi2 vi3) (.slice vt1 vt2 vt3) P Q R (((wr.setCell ⟨w.heap.size, 0, none⟩ (.int .i64 T.id)).setCell ⟨w.heap.size, 1, none⟩ (.int .i64 T.boots)).setCell ⟨w.heap.size, 2, none⟩ (.int .i64 T.next)) := StR.setRes st1 (by rw [qq1]; exact ⟨_, rfl⟩)
                have qq3 : ((((wr.setCell ⟨w.heap.size, 0, none⟩ (.int .i64 T.id)).setCell ⟨w.heap.size, 1, none⟩ (.int .i64 T.boots)).setCell ⟨w.heap.size, 2, none⟩ (.int .i64 T.next)).setCell ⟨w.heap.size, 3, none⟩ (.slice vo1 vo2 vo3)).heap[w.heap.size]? = some (.cells #[.int .i64 T.id, .int .i64 T.boots, .int .i64 T.next, .slice vo1 vo2 vo3, .slice none 0 0, .slice none 0 0] 58 (0, 0)) := (heap_setCell_same (((wr.setCell ⟨w.heap.size, 0, none⟩ (.int .i64 T.id)).setCell ⟨w.heap.size, 1, none⟩ (.int .i64 T.boots)).setCell ⟨w.heap.size, 2, none⟩ (.int .i64 T.next)) w.heap.size 3 _ _ (.slice vo1 vo2 vo3) qq2).trans rfl
                have hb13 : Below w.heap.size w ((((wr.setCell ⟨w.heap.size, 0, none⟩ (.int .i64 T.id)).setCell ⟨w.heap.size, 1, none⟩ (.int .i64 T.boots)).setCell ⟨w.heap.size, 2, none⟩ (.int .i64 T.next)).setCell ⟨w.heap.size, 3, none⟩ (.slice vo1 vo2 vo3)) := Below.setCell (p := ⟨w.heap.size, 3, none⟩) hb12 (Nat.le_refl _) _
                have st3 : StR w.heap.size (.slice vo1 vo2 vo3) (.slice vi1 vi2 vi3) (.slice vt1 vt2 vt3) P Q R ((((wr.setCell ⟨w.heap.size, 0, none⟩ (.int .i64 T.id)).setCell ⟨w.heap.size, 1, none⟩ (.int .i64 T.boots)).setCell ⟨w.heap.size, 2, none⟩ (.int .i64 T.next)).setCell ⟨w.heap.size, 3, none⟩ (.slice vo1 vo2 vo3)) := StR.setRes st2 (by rw [qq2]; exact ⟨_, rfl⟩)
                have qq4 : (((((wr.setCell ⟨w.heap.size, 0, none⟩ (.int .i64 T.id)).setCell ⟨w.heap.size, 1, none⟩ (.int .i64 T.boots)).setCell ⟨w.heap.size, 2, none⟩ (.int .i64 T.next)).setCell ⟨w.heap.size, 3, none⟩ (.slice vo1 vo2 vo3)).setCell ⟨w.heap.size, 4, none⟩ (.slice vi1 vi2 vi3)).heap[w.heap.size]? = some (.cells #[.int .i64 T.id, .int .i64 T.boots, .int .i64 T.next, .slice vo1 vo2 vo3, .slice vi1 vi2 vi3, .slice none 0 0] 58 (0, 0)) := (heap_setCell_same ((((wr.setCell ⟨w.heap.size, 0, none⟩ (.int .i64 T.id)).setCell ⟨w.heap.size, 1, none⟩ (.int .i64 T.boots)).setCell ⟨w.heap.size, 2, none⟩ (.int .i64 T.next)).setCell ⟨w.heap.size, 3, none⟩ (.slice vo1 vo2 vo3)) w.heap.size 4 _ _ (.slice vi1 vi2 vi3) qq3).trans rfl
                have hb14 : Below w.heap.size w (((((wr.setCell ⟨w.heap.size, 0, none⟩ (.int .i64 T.id)).setCell ⟨w.heap.size, 1, none⟩ (.int .i64 T.boots)).setCell ⟨w.heap.size, 2, none⟩ (.int .i64 T.next)).setCell ⟨w.heap.size, 3, none⟩ (.slice vo1 vo2 vo3)).setCell ⟨w.heap.size, 4, none⟩ (.slice vi1 vi2 vi3)) := Below.setCell (p := ⟨w.heap.size, 4, none⟩) hb13 (Nat.le_refl _) _
                have st4 : StR w.heap.size (.slice vo1 vo2 vo3) (.slice vi1 vi2 vi3) (.slice vt1 vt2 vt3) P Q R (((((wr.setCell ⟨w.heap.size, 0, none⟩ (.int .i64 T.id)).setCell ⟨w.heap.size, 1, none⟩ (.int .i64 T.boots)).setCell ⟨w.heap.size, 2, none⟩ (.int .i64 T.next)).setCell ⟨w.heap.size, 3, none⟩ (.slice vo1 vo2 vo3)).setCell ⟨w.heap.size, 4, none⟩ (.slice vi1 vi2 vi3)) := StR.setRes st3 (by rw [qq3]; exact ⟨_, rfl⟩)
                have qq5 : ((((((wr.setCell ⟨w.heap.size, 0, none⟩ (.int .i64 T.id)).setCell ⟨w.heap.size, 1, none⟩ (.int .i64 T.boots)).setCell ⟨w.heap.size, 2, none⟩ (.int .i64 T.next)).setCell ⟨w.heap.size, 3, none⟩ (.slice vo1 vo2 vo3)).setCell ⟨w.heap.size, 4, none⟩ (.slice vi1 vi2 vi3)).setCell ⟨w.heap.size, 5, none⟩ (.slice vt1 vt2 vt3)).heap[w.heap.size]? = some (.cells #[.int .i64 T.id, .int .i64 T.boots, .int .i64 T.next, .slice vo1 vo2 vo3, .slice vi1 vi2 vi3, .slice vt1 vt2 vt3] 58 (0, 0)) := (heap_setCell_same (((((wr.setCell ⟨w.heap.size, 0, none⟩ (.int .i64 T.id)).setCell ⟨w.heap.size, 1, none⟩ (.int .i64 T.boots)).setCell ⟨w.heap.size, 2, none⟩ (.int .i64 T.next)).setCell ⟨w.heap.size, 3, none⟩ (.slice vo1 vo2 vo3)).setCell ⟨w.heap.size, 4, none⟩ (.slice vi1 vi2 vi3)) w.heap.size 5 _ _ (.slice vt1 vt2 vt3) qq4).trans rfl
                have hb15 : Below w.heap.size w ((((((wr.setCell ⟨w.heap.size, 0, none⟩ (.int .i64 T.id)).setCell ⟨w.heap.size, 1, none⟩ (.int .i64 T.boots)).setCell ⟨w.heap.size, 2, none⟩ (.int .i64 T.next)).setCell ⟨w.heap.size, 3, none⟩ (.slice vo1 vo2 vo3)).setCell ⟨w.heap.size, 4, none⟩ (.slice vi1 vi2 vi3)).setCell ⟨w.heap.size, 5, none⟩ (.slice vt1 vt2 vt3)) := Below.setCell (p := ⟨w.heap.size, 5, none⟩) hb14 (Nat.le_refl _) _
                have st5 : StR w.heap.size (.slice vo1 vo2 vo3) (.slice vi1 vi2 vi3) (.slice vt1 vt2 vt3) P Q R ((((((wr.setCell ⟨w.heap.size, 0, none⟩ (.int .i64 T.id)).setCell ⟨w.heap.size, 1, none⟩ (.int .i64 T.boots)).setCell ⟨w.heap.size, 2, none⟩ (.int .i64 T.next)).setCell ⟨w.heap.size, 3, none⟩ (.slice vo1 vo2 vo3)).setCell ⟨w.heap.size, 4, none⟩ (.slice vi1 vi2 vi3)).setCell ⟨w.heap.size, 5, none⟩ (.slice vt1 vt2 vt3)) := StR.setRes st4 (by rw [qq4]; exact ⟨_, rfl⟩)
                have HF : Hid (StP T w (.returned (.agg #[.int .i64 T.id, .int .i64 T.boots, .int .i64 T.next, .slice vo1 vo2 vo3, .slice vi1 vi2 vi3, .slice vt1 vt2 vt3])) ((((((wr.setCell ⟨w.heap.size, 0, none⟩ (.int .i64 T.id)).setCell ⟨w.heap.size, 1, none⟩ (.int .i64 T.boots)).setCell ⟨w.heap.size, 2, none⟩ (.int .i64 T.next)).setCell ⟨w.heap.size, 3, none⟩ (.slice vo1 vo2 vo3)).setCell ⟨w.heap.size, 4, none⟩ (.slice vi1 vi2 vi3)).setCell ⟨w.heap.size, 5, none⟩ (.slice vt1 vt2 vt3))) := ⟨_, _, _, P, Q, R, rfl, HOP.out, HOQ.out, HO3.out.1, st5, hb15⟩
                have HQ5 : Hid (((((((wr.setCell ⟨w.heap.size, 0, none⟩ (.int .i64 T.id)).setCell ⟨w.heap.size, 1, none⟩ (.int .i64 T.boots)).setCell ⟨w.heap.size, 2, none⟩ (.int .i64 T.next)).setCell ⟨w.heap.size, 3, none⟩ (.slice vo1 vo2 vo3)).setCell ⟨w.heap.size, 4, none⟩ (.slice vi1 vi2 vi3)).setCell ⟨w.heap.size, 5, none⟩ (.slice vt1 vt2 vt3)).heap[w.heap.size]? = some (.cells #[.int .i64 T.id, .int .i64 T.boots, .int .i64 T.next, .slice vo1 vo2 vo3, .slice vi1 vi2 vi3, .slice vt1 vt2 vt3] 58 (0, 0))) := qq5
                clear hk hR hSL hKy hkn HNK3 hb9 qq0 hb10 st0 qq1 hb11 st1 qq2 hb12 st2 qq3 hb13 st3 qq4 hb14 st4 qq5 hb15 st5
                go_wp2
                refine bodyPost_ret (results_cell_row (fn := Tryz.f26) (p := 2) (ty := 58) rfl _ _ w.heap.size _ _ _ _ rfl HQ5.out Tryz.underlying58 rfl (by kernel_rfl)) rfl ?_
                exact HF.out
end Go.Proofs.YtillgoegiplmkaaGreatDoor.B
