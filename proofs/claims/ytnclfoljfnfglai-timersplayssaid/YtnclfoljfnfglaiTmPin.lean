import Derived.Test.YtnclfoljfnfglaiTmPdq
namespace Go.Proofs.Ytnclfoljfnfglai
open Go.RowKit Go.Maps Go.Sort
set_option linter.unusedVariables false
attribute [local go_sem ↓] wp_store_key
attribute [local go_sem] pBlk_ptr pOff_ptr pAgg_agg

set_option maxHeartbeats 8000000 in
set_option maxRecDepth 100000 in
theorem insert_any (g og cap base n a b : Nat) (w0 : World) (d : Array Kx) (w : World) (h : SR g og cap base n w0 d w) (hab : a ≤ b) (hb : b ≤ n) (hn : n < 4611686018427387904) :
    Calls Try.prog 90 #[.slice (some ⟨g, 0, none⟩) n cap, .int .i64 a, .int .i64 b, cmpF og] w fun e w' => e = .returned (.tuple #[]) ∧ SR g og cap base n w0 (insertionSort ltK d a b) w' := by
  have HR : Hid (SR g og cap base n w0 d w) := h
  have hw1 : IntKind.i64.wrap ((a : Int) + 1) = (a : Int) + 1 := by rw [IntKind.wrap_i64]; omega
  clear h
  go_enter Try.func90, Try.ntmps90
  go_wp2
  go_loopw [8] (fun v wr => ∃ (i : Nat) (di : Array Kx), v = .int .i64 i ∧ a < i ∧ i ≤ b + 1 ∧ SR g og cap base n w0 di wr ∧ insOuter ltK a b i di = insOuter ltK a b (a + 1) d)
    (fun v _ => b + 1 - (intOf v).toNat)
  case atStart => exact ⟨a + 1, d, by simp, by omega, by omega, HR.out, rfl⟩
  case round =>
    obtain ⟨i, di, rfl, hai, hib, hsr, hout⟩ := hrel
    have HSR : Hid (SR g og cap base n w0 di wr) := hsr
    have HO : Hid (insOuter ltK a b i di = insOuter ltK a b (a + 1) d) := hout
    clear hsr hout hw1
    by_cases hlt : i < b
    · have hltz : (i : Int) < (b : Int) := by omega
      go_wp2
      go_loopw [9] (fun v wr2 => ∃ (j : Nat) (dj : Array Kx), v = .int .i64 j ∧ a ≤ j ∧ j ≤ i ∧ SR g og cap base n w0 dj wr2 ∧ insInner ltK a j dj = insInner ltK a i di)
        (fun v _ => (intOf v).toNat)
      case atStart => exact ⟨i, di, rfl, by omega, by omega, HSR.out, rfl⟩
      case round =>
        obtain ⟨j, dj, rfl, haj, hji, hsj, hin⟩ := hrel
        have HSJ : Hid (SR g og cap base n w0 dj wr) := hsj
        have HI : Hid (insInner ltK a j dj = insInner ltK a i di) := hin
        have OUT : Hid ((j ≤ a ∨ ltK dj[j]! dj[j - 1]! = false) → insOuter ltK a b (i + 1) dj = insOuter ltK a b (a + 1) d) := fun hs => by
          rw [← HO.out, insOuter_go _ _ _ _ _ hlt, ← HI.out, insInner_stop _ _ _ _ hs]
        clear hsj hin HSR
        by_cases hja : a < j
        · obtain ⟨jp, rfl⟩ : ∃ jp, j = jp + 1 := ⟨j - 1, by omega⟩
          obtain ⟨x, hx⟩ : ∃ x, dj[jp + 1]! = x := ⟨_, rfl⟩
          obtain ⟨y, hy⟩ : ∃ y, dj[jp]! = y := ⟨_, rfl⟩
          have HX : Hid (dj[jp + 1]! = x ∧ dj[jp]! = y) := ⟨hx, hy⟩
          have hc := HSJ.out.drew.cmp x y
          obtain ⟨p0, p1, p2, p3, p4⟩ := HSJ.out.drew.cells (i := jp + 1) (by omega) hx
          obtain ⟨q0, q1, q2, q3, q4⟩ := HSJ.out.drew.cells (i := jp) (by omega) hy
          obtain ⟨c, hcc⟩ : ∃ c, cmpK x y = c := ⟨_, rfl⟩
          have HC : Hid (cmpK x y = c) := hcc
          rw [hcc] at hc
          obtain ⟨x0, x1, x2, x3, x4⟩ := x
          obtain ⟨y0, y1, y2, y3, y4⟩ := y
          simp only at p0 p1 p2 p3 p4 q0 q1 q2 q3 q4
          have hjz : (a : Int) < (jp : Int) + 1 := by omega
          have hwp : IntKind.i64.wrap (jp : Int) = (jp : Int) := by rw [IntKind.wrap_i64]; omega
          have jz : (jp : Int) + 1 < (n : Int) := by omega
          have jz1 : (jp : Int) < (n : Int) := by omega
          have e0 : ((jp : Int) + 1).toNat = jp + 1 := by omega
          have pz : (0 : Int) ≤ (jp : Int) + 1 := by omega
          clear hx hy hcc haj
          go_wp2_with fail
          go_region_held3 (fun V => V.cell? ⟨g, (jp + 1) * 5, none⟩ = some (.int .i64 x0) ∧ V.cell? ⟨g, (jp + 1) * 5 + 1, none⟩ = some (.int .i64 x1) ∧ V.cell? ⟨g, (jp + 1) * 5 + 2, none⟩ = some (.int .i64 x2) ∧ V.cell? ⟨g, (jp + 1) * 5 + 3, none⟩ = some (.int .i64 x3) ∧ V.cell? ⟨g, (jp + 1) * 5 + 4, none⟩ = some (.int .i64 x4) ∧ V.cell? ⟨g, jp * 5, none⟩ = some (.int .i64 y0) ∧ V.cell? ⟨g, jp * 5 + 1, none⟩ = some (.int .i64 y1) ∧ V.cell? ⟨g, jp * 5 + 2, none⟩ = some (.int .i64 y2) ∧ V.cell? ⟨g, jp * 5 + 3, none⟩ = some (.int .i64 y3) ∧ V.cell? ⟨g, jp * 5 + 4, none⟩ = some (.int .i64 y4))
            (first | (exact ⟨p0, p1, p2, p3, p4, q0, q1, q2, q3, q4⟩) | (exact HB1.out))
            (first | (go_at_call 74
                      refine hc.mono ?_
                      rintro e w1 ⟨rfl, hs1⟩
                      have HS1 : Hid (SR g og cap base n w0 dj w1) := hs1
                      have HB1 : Hid (w1.cell? ⟨g, (jp + 1) * 5, none⟩ = some (.int .i64 x0) ∧ w1.cell? ⟨g, (jp + 1) * 5 + 1, none⟩ = some (.int .i64 x1) ∧ w1.cell? ⟨g, (jp + 1) * 5 + 2, none⟩ = some (.int .i64 x2) ∧ w1.cell? ⟨g, (jp + 1) * 5 + 3, none⟩ = some (.int .i64 x3) ∧ w1.cell? ⟨g, (jp + 1) * 5 + 4, none⟩ = some (.int .i64 x4) ∧ w1.cell? ⟨g, jp * 5, none⟩ = some (.int .i64 y0) ∧ w1.cell? ⟨g, jp * 5 + 1, none⟩ = some (.int .i64 y1) ∧ w1.cell? ⟨g, jp * 5 + 2, none⟩ = some (.int .i64 y2) ∧ w1.cell? ⟨g, jp * 5 + 3, none⟩ = some (.int .i64 y3) ∧ w1.cell? ⟨g, jp * 5 + 4, none⟩ = some (.int .i64 y4)) := by
                        obtain ⟨p0, p1, p2, p3, p4⟩ := hs1.cells (i := jp + 1) (by omega) HX.out.1
                        obtain ⟨q0, q1, q2, q3, q4⟩ := hs1.cells (i := jp) (by omega) HX.out.2
                        exact ⟨p0, p1, p2, p3, p4, q0, q1, q2, q3, q4⟩
                      clear hs1))
          clear p0 p1 p2 p3 p4 q0 q1 q2 q3 q4 hc
          have hwi : IntKind.i64.wrap ((i : Int) + 1) = (i : Int) + 1 := by rw [IntKind.wrap_i64]; omega
          by_cases c0 : c < 0
          · obtain ⟨p0, p1, p2, p3, p4⟩ := HS1.out.drew.cells (i := jp + 1) (by omega) HX.out.1
            obtain ⟨q0, q1, q2, q3, q4⟩ := HS1.out.drew.cells (i := jp) (by omega) HX.out.2
            simp only at p0 p1 p2 p3 p4 q0 q1 q2 q3 q4
            have s1 := StOk.mk HS1.out.drew (i := jp + 1) (by omega) (y0, y1, y2, y3, y4)
            have s2 := StOk.mk (HS1.out.drew.set (i := jp + 1) (by omega) (y0, y1, y2, y3, y4)) (i := jp) (by omega) (x0, x1, x2, x3, x4)
            simp only [kV] at s2
            have HW : Hid (SR g og cap base n w0 (swp dj (jp + 1) jp) ((w1.drew.setCells g ((jp + 1) * 5) (kV (y0, y1, y2, y3, y4))).setCells g (jp * 5) (kV (x0, x1, x2, x3, x4)))) := by
              have := HS1.out.drew.swap (i := jp + 1) (j := jp) (by omega) (by omega)
              rw [HX.out.1, HX.out.2] at this
              exact this
            go_wp2
            go_region
            have hgo := insInner_go ltK a (jp + 1) dj (by omega) (by rw [show jp + 1 - 1 = jp from rfl, HX.out.1, HX.out.2]; exact decide_eq_true (by rw [HC.out]; exact c0))
            have HGo : Hid _ := hgo
            clear hgo
            go_wp2
            refine ⟨⟨jp, _, rfl, by omega, by omega, HW.out, HGo.out.symm.trans HI.out⟩, by simp [intOf]⟩
          · have hlf : ltK dj[jp + 1]! dj[jp]! = false := by rw [HX.out.1, HX.out.2]; exact decide_eq_false (by rw [HC.out]; exact c0)
            go_wp2
            refine ⟨⟨i + 1, dj, by simp, by omega, by omega, HS1.out, OUT.out (.inr hlf)⟩, by simp [intOf]; omega⟩
        · have hjz : ¬ (a : Int) < (j : Int) := by omega
          go_wp2_with fail
          go_region
          all_goals (
            have hwi : IntKind.i64.wrap ((i : Int) + 1) = (i : Int) + 1 := by rw [IntKind.wrap_i64]; omega
            go_wp2
            refine ⟨⟨i + 1, dj, by simp, by omega, by omega, HSJ.out.drew, OUT.out (.inl (by omega))⟩, by simp [intOf]; omega⟩)
    · have hltz : ¬ (i : Int) < (b : Int) := by omega
      go_wp2
      go_end0
      refine ⟨rfl, ?_⟩
      have e := HO.out
      rw [insOuter_stop _ _ _ _ _ hlt] at e
      unfold insertionSort
      rw [← e]; exact HSR.out

end Go.Proofs.Ytnclfoljfnfglai
