import Derived.Test.YthbkabehjeidjaeDoorRfp
namespace Go.Proofs.YthbkabehjeidjaeDoor.C
open Go.RowKit

theorem siz_ahead : ∀ {l : List Sp} {lo : Int} {k : Nat} {p : Sp}, Rt lo l → l[k]? = some p → siz (l.take k) ≤ p.1 - lo
  | [], _, _, _, _, h => by simp at h
  | s :: r, lo, 0, p, h, hk => by simp at hk; subst hk; have := h.1; simp [siz]; omega
  | s :: r, lo, k + 1, p, h, hk => by
    simp at hk
    have := siz_ahead h.2.2.2 hk
    have := h.1
    simp only [List.take_succ_cons, siz]; omega

set_option maxHeartbeats 4000000 in
theorem some_any (a : Option Addr) (c : Nat) (ps : List (Sp × Bool)) (base : Nat) (b : Bool) (w : World) (h : POwn w base (.slice a ps.length c) ps) (hm : ps.length ≤ 1048576) :
    Calls Tryd.prog 97 #[.slice a ps.length c, .bool b] w fun e w' => ∃ v, e = .returned v ∧ SOwn w' w.heap.size v (pick b ps) ∧ Below w.heap.size w w' := by
  obtain ⟨i0, hi, hz0, hz1, hz2⟩ := info_parts Tryd.info_span
  have HP : Hid (POwn w base (.slice a ps.length c) ps) := h
  clear h
  go_enter Tryd.func97, Tryd.ntmps97
  go_wp2_with fail
  go_loopw [5, 6] (fun v i wr => ∃ (k : Nat) (ao : Option Addr) (co : Nat), k ≤ ps.length ∧ i = .int .i64 k ∧ v = .slice ao (pick b (ps.take k)).length co ∧ SOwn wr w.heap.size v (pick b (ps.take k)) ∧ Below w.heap.size w wr) (fun _ i _ => ps.length - (intOf i).toNat)
  case atStart => exact ⟨0, none, 0, by omega, rfl, rfl, SOwn.nil _ _, Below.refl _ _⟩
  case round =>
    obtain ⟨k, ao, co, hk, rfl, rfl, hso, hbe⟩ := hrel
    have HSo : Hid (SOwn wr w.heap.size (.slice ao (pick b (ps.take k)).length co) (pick b (ps.take k))) := hso
    have HBe : Hid (Below w.heap.size w wr) := hbe
    have hwr := hbe.size
    have hpk := pick_len b (ps.take k)
    have htk : (ps.take k).length ≤ 1048576 := by simp; omega
    clear hso hbe
    by_cases hlt : k < ps.length
    · have hlt' : (k : Int) < (ps.length : Int) := by omega
      obtain ⟨x, hx⟩ := get_some ps k hlt
      obtain ⟨g, rfl, q1, q2, q3⟩ := (HP.out.below HBe.out).cells hx
      have htake : ps.take (k + 1) = ps.take k ++ [x] := by rw [List.take_add_one, hx]; rfl
      obtain ⟨⟨x1, x2⟩, xb⟩ := x
      simp only at q1 q2 q3
      by_cases hb : xb = b
      · subst hb
        have HT : Hid (pick xb (ps.take (k + 1)) = pick xb (ps.take k) ++ [(x1, x2)]) := by unfold Hid; rw [htake, pick_hit]
        clear htake hx
        generalize pick xb (ps.take k) = P at *
        go_wp2_with (at_builtin; refine wpList_append_own_at _ rfl _ _ 26 rfl w.heap.size 36 i0 (.agg #[.int .i64 0, .int .i64 0]) 2 16 Tryd.underlying26 hi hz0 hz1 hz2 rfl (by decide) _ _ _ rfl (World.ownsRow.alloc HSo.out _) ⟨wr.heap.size, 0, none⟩ 1 1 [.int .i64 x1, .int .i64 x2] rfl rfl ?c1 ?c2 ?c3 ?c4 ?c5 ?_)
        case c1 => exact cell_two_new _ _ _ _
        case c2 => intro u hu; simp at hu; rcases hu with rfl | rfl <;> rfl
        case c3 => unfold maxLen; omega
        case c4 => omega
        case c5 => simp; omega
        intro v' w5 hown5 hgrow5 _ _
        have HS5 : Hid (SOwn w5 w.heap.size v' (P ++ [(x1, x2)])) := by unfold Hid SOwn; rw [List.length_append, List.flatMap_append]; exact hown5
        have HB5 : Hid (Below w.heap.size w w5) := ((HBe.out.alloc hwr _).grown hgrow5 (by simp; omega) (fun j hj => (HSo.out.lt j hj).1))
        obtain ⟨a5, c5, hv5⟩ := HS5.out.shape
        subst hv5
        clear hown5 hgrow5 HSo HBe q1 q2 q3
        go_wp2
        go_roundw
        case rel => exact ⟨k + 1, a5, c5, by omega, by go_num, by rw [HT.out], by rw [HT.out]; exact HS5.out, HB5.out⟩
        case measure => simp [intOf]; omega
      · have HT : Hid (pick b (ps.take (k + 1)) = pick b (ps.take k)) := by unfold Hid; rw [htake, pick_miss _ _ _ _ hb]
        have hbd : (xb == b) = false := beq_false_of_ne hb
        clear htake hx
        generalize pick b (ps.take k) = P at *
        go_wp2
        go_roundw
        case rel => exact ⟨k + 1, ao, co, by omega, by go_num, by rw [HT.out], by rw [HT.out]; exact HSo.out, HBe.out⟩
        case measure => simp [intOf]; omega
    · have hkn : k = ps.length := by omega
      have HE : Hid (SOwn wr w.heap.size (.slice ao (pick b (ps.take k)).length co) (pick b ps)) := by
        have := HSo.out; rw [hkn, List.take_length] at this ⊢; exact this
      subst hkn
      clear HSo
      go_wp2
      go_ret
      exact ⟨_, rfl, HE.out, HBe.out⟩

end Go.Proofs.YthbkabehjeidjaeDoor.C
