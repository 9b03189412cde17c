import Derived.Test.YtlagadpfnkidjadDoorRgt
import Derived.WalkSmall
namespace Go.Proofs.YtlagadpfnkidjadDoor.C
open Go.RowKit

/-- How many bytes a set has. -/
def szB (l : List Sp) : Int := if setB l then siz l else 0

theorem siz_take {l : List Sp} {k : Nat} {p : Sp} (h : l[k]? = some p) : siz (l.take (k + 1)) = siz (l.take k) + (p.2 - p.1) := by
  rw [List.take_add_one, h, siz_append]; simp [siz]
theorem siz_bound {l : List Sp} (h : IsSet l) (k : Nat) : 0 ≤ siz (l.take k) ∧ siz (l.take k) ≤ 4611686018427387904 := by
  have hr : Rt 0 (l.take k) := Rt.cut (l := l.drop k) (by rw [List.take_append_drop]; exact h.2)
  have := siz_pos hr
  have := siz_most hr (by omega)
  omega

set_option maxHeartbeats 1000000 in
theorem size_any (a : Option Addr) (c : Nat) (l : List Sp) (w : World) (h : Spa w a l) (hm : l.length ≤ 9223372036854775807) : Calls Tryd.prog 78 #[.slice a l.length c] w fun e w' => e = .returned (.int .i64 (szB l)) ∧ Below w.heap.size w w' := by
  have HS : Hid (Spa w a l) := h
  have hR := right_any a c l w h hm
  unfold szB
  have HI : Hid (setB l = true → IsSet l) := setB_iff.mp
  clear h
  generalize setB l = V at *
  go_enter Tryd.func78, Tryd.ntmps78
  go_wp2_with fail
  refine hR.mono ?_
  rintro e w1 ⟨rfl, hb1⟩
  clear hR
  have HB1 : Hid (Below w.heap.size w w1) := hb1
  clear hb1
  cases V with
  | false =>
    go_wp2
    go_ret
    exact ⟨rfl, HB1.out⟩
  | true =>
    have HQ : Hid (IsSet l) := HI.out rfl
    have hl2 : l.length ≤ 2000 := HQ.out.1
    clear HI
    go_wp2_with fail
    go_loopw [3, 11] (fun q i wr => ∃ (k : Nat), k ≤ l.length ∧ i = .int .i64 k ∧ q = .int .i64 (siz (l.take k)) ∧ Below w.heap.size w wr) (fun _ i _ => l.length - (intOf i).toNat)
    case atStart => exact ⟨0, by omega, rfl, rfl, HB1.out⟩
    case round =>
      obtain ⟨k, hk, rfl, rfl, hbe⟩ := hrel
      have HBe : Hid (Below w.heap.size w wr) := hbe
      clear hbe
      by_cases hlt : k < l.length
      · have hlt' : (k : Int) < (l.length : Int) := by omega
        obtain ⟨p, hp⟩ := get_some l k hlt
        obtain ⟨g, off, rfl, q1, q2⟩ := (HS.out.below HBe.out).at hp
        have HT := siz_take hp
        have b1 := siz_bound HQ.out k
        have b2 := siz_bound HQ.out (k + 1)
        have hpm := HQ.out.2.mem p (List.mem_of_getElem? hp)
        obtain ⟨p1, p2⟩ := p
        simp only at q1 q2 HT hpm
        have HT2 : Hid (siz (l.take (k + 1)) = siz (l.take k) + (p2 - p1)) := HT
        rw [HT] at b2
        have HB2 : Hid (Below w.heap.size w (wr.alloc (.cells #[.int .i64 p1, .int .i64 p2] 42))) := HBe.out.alloc HBe.out.size _
        clear HT hp HBe
        generalize siz (l.take k) = n at *
        go_wp2
        go_roundw
        case rel => exact ⟨k + 1, by omega, by go_num, by rw [HT2.out], HB2.out⟩
        case measure => simp [intOf]; omega
      · have hkn : k = l.length := by omega
        subst hkn
        go_wp2
        go_ret
        exact ⟨rfl, HBe.out⟩

theorem bounded_any (v : Option Addr) (n c : Nat) (w : World) (hn : n ≤ 1048576) : Calls Tryd.prog 113 #[.slice v n c] w fun e w' => e = .returned (if n ≤ 2000 then .tuple #[.slice v n c, .int .i64 0] else .tuple #[.slice none 0 0, .int .i64 3]) ∧ w = w' := by
  go_enter Tryd.func113, Tryd.ntmps113
  by_cases h : n ≤ 2000
  · have h' : (n : Int) ≤ 2000 := by omega
    rw [if_pos h]
    go_wp2
    go_ret2
    exact ⟨rfl, rfl⟩
  · have h' : ¬ (n : Int) ≤ 2000 := by omega
    rw [if_neg h]
    go_wp2
    go_ret2
    exact ⟨rfl, rfl⟩

end Go.Proofs.YtlagadpfnkidjadDoor.C
