import Derived.Test.YthbkabehjeidjaeDoorSpn
import Derived.WalkSmall
namespace Go.Proofs.YthbkabehjeidjaeDoor.C
open Go.RowKit

theorem refasked_any (f t : Int) (w : World) : Calls Tryd.prog 96 #[.agg #[.int .i64 f, .int .i64 t]] w fun e w' => e = .returned (.bool (askB (f, t))) ∧ Below w.heap.size w w' := by
  have hb : Below w.heap.size w (w.alloc (.cells #[.int .i64 f, .int .i64 t] 36)) := (Below.refl _ _).alloc (Nat.le_refl _) _
  have HB : Hid (Below w.heap.size w (w.alloc (.cells #[.int .i64 f, .int .i64 t] 36))) := hb
  clear hb
  go_enter Tryd.func96, Tryd.ntmps96
  by_cases h1 : 0 ≤ f
  · by_cases h2 : f ≤ t
    · by_cases h3 : t ≤ 4611686018427387903
      · go_wp2
        go_ret
        exact ⟨by simp [askB, h1, h2, h3], HB.out⟩
      · go_wp2
        go_ret
        exact ⟨by simp [askB]; omega, HB.out⟩
    · go_wp2
      go_ret
      exact ⟨by simp [askB]; omega, HB.out⟩
  · go_wp2
    go_ret
    exact ⟨by simp [askB]; omega, HB.out⟩

theorem refmay_any (f t : Int) (w : World) : Calls Tryd.prog 118 #[.agg #[.int .i64 f, .int .i64 t]] w fun e w' => e = .returned (.bool (mayB (f, t))) ∧ Below w.heap.size w w' := by
  have hb : Below w.heap.size w (w.alloc (.cells #[.int .i64 f, .int .i64 t] 36)) := (Below.refl _ _).alloc (Nat.le_refl _) _
  have HB : Hid (Below w.heap.size w (w.alloc (.cells #[.int .i64 f, .int .i64 t] 36))) := hb
  clear hb
  go_enter Tryd.func118, Tryd.ntmps118
  by_cases h1 : 0 ≤ f
  · by_cases h2 : f < t
    · have h2' : f ≤ t := by omega
      by_cases h3 : t ≤ 4611686018427387903
      · go_wp2
        go_ret
        exact ⟨by simp [mayB, askB, h1, h2, h2', h3], HB.out⟩
      · go_wp2
        go_ret
        exact ⟨by simp [mayB, askB]; omega, HB.out⟩
    · go_wp2
      go_ret
      exact ⟨by simp [mayB, askB]; omega, HB.out⟩
  · go_wp2
    go_ret
    exact ⟨by simp [mayB, askB]; omega, HB.out⟩

/-- Where the next span may begin. -/
def lst (l : List Sp) (k : Nat) : Int := match k with
  | 0 => 0
  | k + 1 => (l.getD k (0, 0)).2 + 1

set_option maxHeartbeats 1000000 in
theorem refright_any (a : Option Addr) (c : Nat) (l : List Sp) (w : World) (h : Spa w a l) (hm : l.length ≤ 9223372036854775807) : Calls Tryd.prog 70 #[.slice a l.length c] w fun e w' => e = .returned (.bool (setB l)) ∧ Below w.heap.size w w' := by
  have HS : Hid (Spa w a l) := h
  clear h
  go_enter Tryd.func70, Tryd.ntmps70
  by_cases h2 : 2000 < l.length
  · have h2' : (2000 : Int) < (l.length : Int) := by omega
    have HV : Hid (setB l = false) := by unfold Hid setB; rw [decide_eq_false (by omega)]; rfl
    generalize setB l = V at *
    go_wp2
    go_ret
    exact ⟨by rw [HV.out]; rfl, Below.refl _ _⟩
  · have h2' : ¬ (2000 : Int) < (l.length : Int) := by omega
    have HE : Hid (rtB 0 l = setB l) := by unfold Hid setB; rw [decide_eq_true (by omega)]; rfl
    generalize setB l = V at *
    go_wp2_with fail
    go_loopw [3] (fun i wr => ∃ (k : Nat), k ≤ l.length ∧ i = .int .i64 k ∧ Below w.heap.size w wr ∧ rtB (lst l k) (l.drop k) = V) (fun i _ => l.length - (intOf i).toNat)
    case atStart => exact ⟨0, by omega, rfl, Below.refl _ _, HE.out⟩
    case round =>
      obtain ⟨k, hk, rfl, hbe, hrt⟩ := hrel
      have HBe : Hid (Below w.heap.size w wr) := hbe
      have HR : Hid (rtB (lst l k) (l.drop k) = V) := hrt
      clear hbe hrt HE
      by_cases hlt : k < l.length
      · have hlt' : (k : Int) < (l.length : Int) := by omega
        obtain ⟨p, hp⟩ := get_some l k hlt
        obtain ⟨g, off, rfl, q1, q2⟩ := (HS.out.below HBe.out).at hp
        rw [drop_get l k p hp] at HR
        obtain ⟨p1, p2⟩ := p
        simp only at q1 q2
        have HR2 : Hid ((mayB (p1, p2) && (decide (lst l k ≤ p1) && rtB (p2 + 1) (l.drop (k + 1)))) = V) := HR.out
        have hA := refmay_any p1 p2 wr
        have HM : Hid (mayB (p1, p2) = true → 0 ≤ p1 ∧ p1 < p2 ∧ p2 ≤ 4611686018427387903) := by
          intro h; simp [mayB, askB] at h; omega
        have HL : Hid (lst l (k + 1) = p2 + 1) := by unfold Hid lst; simp only; rw [List.getD_eq_getElem?_getD, hp]; rfl
        clear HR
        generalize mayB (p1, p2) = m at *
        go_wp2_with fail
        refine hA.mono ?_
        rintro e w2 ⟨rfl, hb2⟩
        clear hA q1 q2
        have HB2 : Hid (Below w.heap.size w w2) := HBe.out.trans (hb2.mono HBe.out.size)
        clear hb2 HBe
        cases m with
        | false =>
          have HV : Hid (V = false) := HR2.out.symm
          clear HR2 HM HL hp
          go_wp2_with fail
          go_quiet (fail)
          go_wp2
          go_ret
          exact ⟨by rw [HV.out]; rfl, below_drewN HB2.out _⟩
        | true =>
          obtain ⟨m1, m2, m3⟩ := HM.out rfl
          clear HM
          by_cases hk0 : k = 0
          · subst hk0
            have HR3 : Hid (rtB (lst l (0 + 1)) (l.drop (0 + 1)) = V) := by
              have := HR2.out; rw [decide_eq_true (show lst l 0 ≤ p1 from m1)] at this; rw [Hid, HL.out]; exact this
            clear HR2 HL hp
            go_wp2_with fail
            go_quiet (fail)
            go_wp2
            go_roundw
            case rel => exact ⟨0 + 1, by omega, by go_num, below_drewN HB2.out _, HR3.out⟩
            case measure => simp [intOf]; omega
          · obtain ⟨j, rfl⟩ : ∃ j, k = j + 1 := ⟨k - 1, by omega⟩
            obtain ⟨u, hu⟩ := get_some l j (by omega)
            obtain ⟨g', off', he, r1, r2⟩ := (HS.out.below HB2.out).at hu
            obtain ⟨g2, off2, he2, t1, t2⟩ := (HS.out.below HB2.out).at hp
            simp only [Option.some.injEq, Addr.mk.injEq, and_true] at he he2
            obtain ⟨rfl, rfl⟩ := he
            obtain ⟨rfl, rfl⟩ := he2
            obtain ⟨u1, u2⟩ := u
            have HLs : Hid (lst l (j + 1) = u2 + 1) := by unfold Hid lst; simp only; rw [List.getD_eq_getElem?_getD, hu]; rfl
            rw [HLs.out] at HR2
            simp only at r1 r2 t1 t2
            have hj : (0 : Int) < ((j + 1 : Nat) : Int) := by omega
            clear hu hp HLs
            by_cases e1 : p1 ≤ u2
            · have HV : Hid (V = false) := by have := HR2.out; rw [decide_eq_false (by omega)] at this; exact this.symm
              clear HR2 HL
              have hd : decide (p1 ≤ u2) = true := decide_eq_true e1
              go_wp2_with fail
              go_quiet (fail)
              go_wp2
              go_ret
              exact ⟨by rw [HV.out]; rfl, below_drewN HB2.out _⟩
            · have HR3 : Hid (rtB (lst l (j + 1 + 1)) (l.drop (j + 1 + 1)) = V) := by
                have := HR2.out; rw [decide_eq_true (show u2 + 1 ≤ p1 by omega)] at this; rw [Hid, HL.out]; exact this
              clear HR2 HL
              have hd : decide (p1 ≤ u2) = false := decide_eq_false e1
              go_wp2_with fail
              go_quiet (fail)
              go_wp2
              go_roundw
              case rel => exact ⟨j + 1 + 1, by omega, by go_num, below_drewN HB2.out _, HR3.out⟩
              case measure => simp [intOf]; omega
      · have hkn : k = l.length := by omega
        have HV : Hid (V = true) := by have := HR.out; rw [hkn, List.drop_length] at this; exact this.symm
        clear HR
        subst hkn
        go_wp2
        go_ret
        exact ⟨by rw [HV.out]; rfl, HBe.out⟩

end Go.Proofs.YthbkabehjeidjaeDoor.C
