import Derived.Test.YtlagadpfnkidjacRgt
import Derived.WalkSmall
namespace Go.Proofs.Ytlagadpfnkidjac
open Go.RowKit

def eqB (l m : List Sp) : Bool := decide (l = m)

theorem eq_step {l m : List Sp} (k : Nat) {p q : Sp} (hp : l[k]? = some p) (hq : m[k]? = some q) : (l.drop k = m.drop k) ↔ (p = q ∧ l.drop (k + 1) = m.drop (k + 1)) := by
  rw [drop_get l k p hp, drop_get m k q hq]; simp

set_option maxHeartbeats 1000000 in
theorem same_any (a a' : Option Addr) (c c' : Nat) (l m : List Sp) (w : World) (h : Spa w a l) (h' : Spa w a' m) (hm : l.length ≤ 9223372036854775807) : Calls Try.prog 12 #[.slice a l.length c, .slice a' m.length c'] w fun e w' => e = .returned (.bool (eqB l m)) ∧ Below w.heap.size w w' := by
  have HS : Hid (Spa w a l) := h
  have HS' : Hid (Spa w a' m) := h'
  clear h h'
  go_enter Try.func12, Try.ntmps12
  by_cases hl : l.length = m.length
  · have hl' : (l.length : Int) = (m.length : Int) := by omega
    have HE : Hid (decide (l.drop 0 = m.drop 0) = eqB l m) := rfl
    generalize eqB l m = V at *
    have HL : Hid (l.length = m.length) := hl
    rw [← hl] at hl' ⊢
    go_wp2_with fail
    go_loopw [5] (fun i wr => ∃ (k : Nat), k ≤ l.length ∧ i = .int .i64 k ∧ Below w.heap.size w wr ∧ decide (l.drop k = m.drop k) = V) (fun i _ => l.length - (intOf i).toNat)
    case atStart => exact ⟨0, by omega, rfl, Below.refl _ _, HE.out⟩
    case round =>
      obtain ⟨k, hk, rfl, hbe, hrt⟩ := hrel
      have HBe : Hid (Below w.heap.size w wr) := hbe
      have HR : Hid (decide (l.drop k = m.drop k) = V) := hrt
      clear hbe hrt HE
      by_cases hlt : k < l.length
      · have hlt' : (k : Int) < (l.length : Int) := by omega
        obtain ⟨p, hp⟩ := get_some l k hlt
        obtain ⟨q, hq⟩ := get_some m k (by omega)
        obtain ⟨g, off, rfl, q1, q2⟩ := (HS.out.below HBe.out).at hp
        obtain ⟨g', off', rfl, r1, r2⟩ := (HS'.out.below HBe.out).at hq
        have HQ : Hid (decide (p = q ∧ l.drop (k + 1) = m.drop (k + 1)) = V) := by
          have := HR.out; rw [decide_eq_decide.mpr (eq_step k hp hq)] at this; exact this
        clear HR hp hq
        obtain ⟨p1, p2⟩ := p
        obtain ⟨u1, u2⟩ := q
        simp only at q1 q2 r1 r2
        by_cases e : p1 = u1 ∧ p2 = u2
        · obtain ⟨rfl, rfl⟩ := e
          have HR3 : Hid (decide (l.drop (k + 1) = m.drop (k + 1)) = V) := by have := HQ.out; unfold Hid; simpa using this
          clear HQ
          go_wp2_with fail
          go_quiet (fail)
          go_wp2
          go_roundw
          case rel => exact ⟨k + 1, by omega, by go_num, below_drewN HBe.out _, HR3.out⟩
          case measure => simp [intOf]; omega
        · have HV : Hid (V = false) := by
            have := HQ.out; rw [decide_eq_false (fun h => e ⟨congrArg Prod.fst h.1, congrArg Prod.snd h.1⟩)] at this; exact this.symm
          clear HQ
          by_cases e1 : p1 = u1
          · subst e1
            have e2 : ¬ p2 = u2 := fun h => e ⟨rfl, h⟩
            go_wp2_with fail
            go_quiet (fail)
            go_wp2
            go_ret
            exact ⟨by rw [HV.out]; rfl, below_drewN HBe.out _⟩
          · go_wp2_with fail
            go_quiet (fail)
            go_wp2
            go_ret
            exact ⟨by rw [HV.out]; rfl, below_drewN HBe.out _⟩
      · have hkn : k = l.length := by omega
        have HV : Hid (V = true) := by
          have := HR.out
          rw [List.drop_eq_nil_of_le (by omega), List.drop_eq_nil_of_le (by omega)] at this; unfold Hid; simpa using this.symm
        clear HR
        subst hkn
        go_wp2
        go_ret
        exact ⟨by rw [HV.out]; rfl, HBe.out⟩
  · have hl' : ¬ (l.length : Int) = (m.length : Int) := by omega
    have HV : Hid (eqB l m = false) := decide_eq_false (fun h => hl (by rw [h]))
    generalize eqB l m = V at *
    go_wp2
    go_ret
    exact ⟨by rw [HV.out]; rfl, Below.refl _ _⟩

end Go.Proofs.Ytlagadpfnkidjac
