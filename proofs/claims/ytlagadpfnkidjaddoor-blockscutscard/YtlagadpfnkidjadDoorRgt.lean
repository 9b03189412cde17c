import Derived.Test.YtlagadpfnkidjadDoorSpn
namespace Go.Proofs.YtlagadpfnkidjadDoor.C
open Go.RowKit

set_option maxHeartbeats 1000000 in
theorem right_any (a : Option Addr) (c : Nat) (l : List Sp) (w : World) (h : Spa w a l) (hm : l.length ≤ 9223372036854775807) : Calls Tryd.prog 72 #[.slice a l.length c] w fun e w' => e = .returned (.bool (setB l)) ∧ Below w.heap.size w w' := by
  have HS : Hid (Spa w a l) := h
  clear h
  go_enter Tryd.func72, Tryd.ntmps72
  by_cases h2 : 2000 < l.length
  · have h2' : (2000 : Int) < (l.length : Int) := by omega
    have HV : Hid (setB l = false) := by unfold Hid setB; rw [decide_eq_false (by omega)]; rfl
    generalize setB l = V at *
    go_wp2
    go_ret
    exact ⟨by rw [HV.out]; rfl, Below.refl _ _⟩
  · have h2' : ¬ (2000 : Int) < (l.length : Int) := by omega
    have HE : Hid (rtB 0 l = setB l) := by unfold Hid setB; rw [decide_eq_true (by omega)]; rfl
    generalize setB l = V at *
    go_wp2_with fail
    go_loopw [3, 11] (fun q i wr => ∃ (k : Nat) (least : Int), k ≤ l.length ∧ i = .int .i64 k ∧ q = .int .i64 least ∧ 0 ≤ least ∧ Below w.heap.size w wr ∧ rtB least (l.drop k) = V) (fun _ i _ => l.length - (intOf i).toNat)
    case atStart => exact ⟨0, 0, by omega, rfl, rfl, by omega, Below.refl _ _, HE.out⟩
    case round =>
      obtain ⟨k, least, hk, rfl, rfl, hl0, hbe, hrt⟩ := hrel
      have HBe : Hid (Below w.heap.size w wr) := hbe
      have HR : Hid (rtB least (l.drop k) = V) := hrt
      clear hbe hrt HE
      by_cases hlt : k < l.length
      · have hlt' : (k : Int) < (l.length : Int) := by omega
        obtain ⟨p, hp⟩ := get_some l k hlt
        obtain ⟨g, off, rfl, q1, q2⟩ := (HS.out.below HBe.out).at hp
        rw [drop_get l k p hp] at HR
        obtain ⟨p1, p2⟩ := p
        simp only at q1 q2
        have HR2 : Hid ((mayB (p1, p2) && (decide (least ≤ p1) && rtB (p2 + 1) (l.drop (k + 1)))) = V) := HR.out
        have hA := may_any p1 p2 (wr.alloc (.cells #[.int .i64 p1, .int .i64 p2] 42))
        have HM : Hid (mayB (p1, p2) = true → 0 ≤ p1 ∧ p1 < p2 ∧ p2 ≤ 4611686018427387903) := by
          intro h; simp [mayB, askB] at h; omega
        clear hp HR
        generalize mayB (p1, p2) = m at *
        go_wp2_with fail
        refine hA.mono ?_
        rintro e w2 ⟨rfl, hb2⟩
        clear hA
        have c0 : w2.cell? ⟨wr.heap.size, 0, none⟩ = some (.int .i64 p1) := (hb2.cell (p := ⟨wr.heap.size, 0, none⟩) (by simp)).trans (box0 _ _ _ _)
        have c1 : w2.cell? ⟨wr.heap.size, 1, none⟩ = some (.int .i64 p2) := (hb2.cell (p := ⟨wr.heap.size, 1, none⟩) (by simp)).trans (box1 _ _ _ _)
        have HB2 : Hid (Below w.heap.size w w2) := (HBe.out.alloc HBe.out.size _).trans (hb2.mono (by have := HBe.out.size; simp; omega))
        clear hb2 HBe q1 q2
        cases m with
        | false =>
          have HV : Hid (V = false) := HR2.out.symm
          go_wp2
          go_ret
          exact ⟨by rw [HV.out]; rfl, HB2.out⟩
        | true =>
          obtain ⟨m1, m2, m3⟩ := HM.out rfl
          by_cases e1 : p1 < least
          · have HV : Hid (V = false) := by have := HR2.out; rw [decide_eq_false (by omega)] at this; exact this.symm
            go_wp2
            go_ret
            exact ⟨by rw [HV.out]; rfl, HB2.out⟩
          · have HR3 : Hid (rtB (p2 + 1) (l.drop (k + 1)) = V) := by have := HR2.out; rw [decide_eq_true (by omega)] at this; exact this
            clear HR2 HM
            go_wp2
            go_roundw
            case rel => exact ⟨k + 1, p2 + 1, by omega, by go_num, by go_num, by omega, HB2.out, HR3.out⟩
            case measure => simp [intOf]; omega
      · have hkn : k = l.length := by omega
        have HV : Hid (V = true) := by have := HR.out; rw [hkn, List.drop_length] at this; exact this.symm
        clear HR
        subst hkn
        go_wp2
        go_ret
        exact ⟨by rw [HV.out]; rfl, HBe.out⟩

end Go.Proofs.YtlagadpfnkidjadDoor.C
