import Derived.Test.YtjolflpmeodnaaiPlRi
import Derived.Deep.RegionHeld3
namespace Go.Proofs.Ytjolflpmeodnaai
set_option linter.unusedVariables false
open Go.RowKit

set_option maxHeartbeats 2000000 in
theorem may2_any (c : Ct) (w : World) : Calls Try.prog 16 #[.agg (ctC c)] w fun e w' => e = .returned (.bool (mayC c)) ∧ Below w.heap.size w w' := by
  obtain ⟨p, f, t, r⟩ := c
  have hb : Below w.heap.size w (w.alloc (.cells #[.int .i64 p, .int .i64 f, .int .i64 t, .int .i64 r] 33)) := (Below.refl _ _).alloc (Nat.le_refl _) _
  have HB : Hid (Below w.heap.size w (w.alloc (.cells #[.int .i64 p, .int .i64 f, .int .i64 t, .int .i64 r] 33))) := hb
  clear hb
  have HV : Hid (mayC ⟨p, f, t, r⟩ = (decide (1 ≤ p) && decide (p ≤ 4611686018427387903) && (decide (0 ≤ f) && decide (f < t) && decide (t ≤ 1099511627776)) && (decide (1 ≤ r) && decide (r ≤ 1000)))) := rfl
  generalize mayC ⟨p, f, t, r⟩ = V at *
  go_enter Try.func16, Try.ntmps16
  go_wp2
  all_goals (
    go_ret
    refine ⟨?_, HB.out⟩
    rw [HV.out]
    first
      | (simp [*]; done)
      | (simp [*]; intros; omega)
      | (simp; intros; omega))

set_option maxHeartbeats 2000000 in
theorem rate2_any (a : Option Addr) (cp : Nat) (l : List Ct) (p x : Int) (w : World) (h : Cta w a l) (hm : ∀ c ∈ l, mayC c = true) (hn : l.length ≤ 100) :
    Calls Try.prog 17 #[.slice a l.length cp, .int .i64 p, .int .i64 x] w fun e w' => e = .returned (.int .i64 (rt p x l)) ∧ w' = w := by
  have HS : Hid (Cta w a l ∧ (∀ c ∈ l, mayC c = true)) := ⟨h, hm⟩
  have HR0 : Hid (rt p x (l.drop 0) = rt p x l) := rfl
  generalize rt p x l = V at *
  clear h hm
  go_enter Try.func17, Try.ntmps17
  go_wp2_with fail
  go_loopw [7, 8] (fun q i wr => ∃ (k : Nat) (s : Int), k ≤ l.length ∧ i = .int .i64 k ∧ q = .int .i64 s ∧ 0 ≤ s ∧ s ≤ 1000 * k ∧ wr = w ∧ Hid (s + rt p x (l.drop k) = V)) (fun _ i _ => l.length - (intOf i).toNat)
  case atStart => exact ⟨0, 0, by omega, rfl, rfl, by omega, by omega, rfl, by rw [← HR0.out]; exact Int.zero_add _⟩
  case round =>
    obtain ⟨k, s, hk, rfl, rfl, hs0, hs1, rfl, HR⟩ := hrel
    by_cases hlt : k < l.length
    · have hlt' : (k : Int) < (l.length : Int) := by omega
      obtain ⟨c, hc⟩ := pl_get l k hlt
      obtain ⟨g, off, rfl, q1, q2, q3, q4⟩ := HS.out.1.at hc
      have hmc := mayC_iff.mp (HS.out.2 c (List.mem_of_getElem? hc))
      have HR2 : Hid (s + (one p x c + rt p x (l.drop (k + 1))) = V) := by have := HR.out; rw [rt_drop hc] at this; exact this
      clear HR hc
      obtain ⟨cp', cf, ct, cr⟩ := c
      simp only at q1 q2 q3 q4 hmc
      by_cases h1 : cp' = p ∧ cf ≤ x ∧ x < ct
      · have HR3 : Hid (s + cr + rt p x (l.drop (k + 1)) = V) := by have := HR2.out; rw [one, if_pos h1] at this; rw [← this]; exact Int.add_assoc _ _ _
        obtain ⟨h1, h2, h3⟩ := h1
        subst h1
        clear HR2
        go_wp2
        go_roundw
        case rel => exact ⟨k + 1, s + cr, by omega, by go_num, by go_num, by omega, by omega, by trivial, HR3⟩
        case measure => simp [intOf]; omega
      · have HR3 : Hid (s + rt p x (l.drop (k + 1)) = V) := by have := HR2.out; rw [one, if_neg h1, Int.zero_add] at this; exact this
        clear HR2
        by_cases e1 : cp' = p
        · by_cases e2 : cf ≤ x
          · have e3 : ¬ x < ct := fun h => h1 ⟨e1, e2, h⟩
            subst e1
            clear h1
            go_wp2
            go_roundw
            case rel => exact ⟨k + 1, s, by omega, by go_num, by go_num, by omega, by omega, by trivial, HR3⟩
            case measure => simp [intOf]; omega
          · subst e1
            clear h1
            go_wp2
            go_roundw
            case rel => exact ⟨k + 1, s, by omega, by go_num, by go_num, by omega, by omega, by trivial, HR3⟩
            case measure => simp [intOf]; omega
        · clear h1
          go_wp2
          go_roundw
          case rel => exact ⟨k + 1, s, by omega, by go_num, by go_num, by omega, by omega, by trivial, HR3⟩
          case measure => simp [intOf]; omega
    · have hkn : k = l.length := by omega
      have HV : Hid (s = V) := by have := HR.out; rw [hkn, List.drop_length] at this; rw [rt, Int.add_zero] at this; exact this
      clear HR
      subst hkn
      go_wp2
      go_ret
      exact ⟨by rw [HV.out]; rfl, rfl⟩

set_option maxHeartbeats 2000000 in
theorem right2_any (a : Option Addr) (cp : Nat) (l : List Ct) (w : World) (h : Cta w a l) (hn : l.length ≤ 9223372036854775807) :
    Calls Try.prog 8 #[.slice a l.length cp] w fun e w' => e = .returned (.int .i64 (rightE l)) ∧ Below w.heap.size w w' := by
  have HS : Hid (Cta w a l) := h
  clear h
  go_enter Try.func8, Try.ntmps8
  by_cases h2 : 100 < l.length
  · have h2' : (100 : Int) < (l.length : Int) := by omega
    have HV : Hid (rightE l = 2) := by show rightE l = 2; rw [rightE, if_pos h2]
    generalize rightE l = V at *
    go_wp2
    go_ret
    exact ⟨by rw [HV.out]; rfl, Below.refl _ _⟩
  · have h2' : ¬ (100 : Int) < (l.length : Int) := by omega
    have HE : Hid (rightE l = if (l.drop 0).all mayC then (if l.any (fun c => decide (1000 < rt c.p c.f l)) then 90 else 0) else 90) := by show rightE l = _; rw [rightE, if_neg h2]; rfl
    generalize rightE l = V at *
    go_wp2_with fail
    go_loopw [3] (fun i wr => ∃ (k : Nat), k ≤ l.length ∧ i = .int .i64 k ∧ Below w.heap.size w wr ∧ Hid ((∀ c ∈ l.take k, mayC c = true) ∧ V = if (l.drop k).all mayC then (if l.any (fun c => decide (1000 < rt c.p c.f l)) then 90 else 0) else 90)) (fun i _ => l.length - (intOf i).toNat)
    case atStart => exact ⟨0, by omega, rfl, Below.refl _ _, by simp, HE.out⟩
    case round =>
      obtain ⟨k, hk, rfl, hbe, HR⟩ := hrel
      have HBe : Hid (Below w.heap.size w wr) := hbe
      clear hbe HE
      by_cases hlt : k < l.length
      · have hlt' : (k : Int) < (l.length : Int) := by omega
        obtain ⟨c, hc⟩ := pl_get l k hlt
        obtain ⟨g, off, rfl, q1, q2, q3, q4⟩ := (HS.out.below HBe.out).at hc
        have hA := may2_any c wr
        have HT : Hid (∀ d ∈ l.take (k + 1), d ∈ l.take k ∨ d = c) := fun d hd => by
          rw [List.take_add_one, hc] at hd
          rcases List.mem_append.mp hd with h | h
          · exact .inl h
          · exact .inr (by simpa using h)
        have HR2 : Hid ((∀ c ∈ l.take k, mayC c = true) ∧ V = if (mayC c && (l.drop (k + 1)).all mayC) then (if l.any (fun c => decide (1000 < rt c.p c.f l)) then 90 else 0) else 90) := ⟨HR.out.1, by have := HR.out.2; rw [all_drop hc] at this; exact this⟩
        clear hc HR
        cases hm : mayC c with
        | false =>
          have HV : Hid (V = 90) := by have := HR2.out.2; rw [hm] at this; exact this
          rw [hm] at hA
          clear HR2 HT hm
          obtain ⟨cp', cf, ct, cr⟩ := c
          simp only at q1 q2 q3 q4
          go_wp2_with fail
          refine hA.mono ?_
          rintro e w2 ⟨rfl, hb2⟩
          have HB2 : Hid (Below w.heap.size w w2) := HBe.out.trans (hb2.mono HBe.out.size)
          clear hb2 hA
          go_wp2
          go_ret
          exact ⟨by rw [HV.out]; rfl, HB2.out⟩
        | true =>
          have HR3 : Hid ((∀ c ∈ l.take (k + 1), mayC c = true) ∧ V = if (l.drop (k + 1)).all mayC then (if l.any (fun c => decide (1000 < rt c.p c.f l)) then 90 else 0) else 90) := by
            refine ⟨fun d hd => ?_, ?_⟩
            · rcases HT.out d hd with h | h
              · exact HR2.out.1 d h
              · rw [h]; exact hm
            · have := HR2.out.2; rw [hm, Bool.true_and] at this; exact this
          rw [hm] at hA
          clear HR2 HT hm
          obtain ⟨cp', cf, ct, cr⟩ := c
          simp only at q1 q2 q3 q4
          go_wp2_with fail
          refine hA.mono ?_
          rintro e w2 ⟨rfl, hb2⟩
          have HB2 : Hid (Below w.heap.size w w2) := HBe.out.trans (hb2.mono HBe.out.size)
          clear hb2 hA
          go_wp2
          go_roundw
          case rel => exact ⟨k + 1, by omega, by go_num, HB2.out, HR3⟩
          case measure => simp [intOf]; omega
      · have hkn : k = l.length := by omega
        subst hkn
        have HM : Hid (∀ c ∈ l, mayC c = true) := by have := HR.out.1; rw [List.take_length] at this; exact this
        have HE : Hid (V = if (l.drop 0).any (fun c => decide (1000 < rt c.p c.f l)) then 90 else 0) := by have := HR.out.2; rw [List.drop_length] at this; exact this
        clear HR
        go_wp2_with fail
        go_loopw [5] (fun i wr' => ∃ (k : Nat), k ≤ l.length ∧ i = .int .i64 k ∧ Below w.heap.size w wr' ∧ Hid (V = if (l.drop k).any (fun c => decide (1000 < rt c.p c.f l)) then 90 else 0)) (fun i _ => l.length - (intOf i).toNat)
        case atStart => exact ⟨0, by omega, rfl, HBe.out, HE⟩
        case round =>
          obtain ⟨k, hk, rfl, hbe, HR⟩ := hrel
          have HBf : Hid (Below w.heap.size w wr) := hbe
          clear hbe HE HBe
          by_cases hlt : k < l.length
          · have hlt' : (k : Int) < (l.length : Int) := by omega
            obtain ⟨c, hc⟩ := pl_get l k hlt
            have HC : Hid (Cta wr a l) := HS.out.below HBf.out
            obtain ⟨g, off, rfl, q1, q2, q3, q4⟩ := HC.out.at hc
            have HR2 : Hid (V = if (decide (1000 < rt c.p c.f l) || (l.drop (k + 1)).any (fun c => decide (1000 < rt c.p c.f l))) then 90 else 0) := by have := HR.out; rw [any_drop hc] at this; exact this
            clear hc HR
            obtain ⟨cp', cf, ct, cr⟩ := c
            simp only at q1 q2 q3 q4 HR2
            have hA2 := rate2_any (some ⟨g, off, none⟩) cp l cp' cf wr.drew (HC.out.below (Below.refl _ _).drew) HM.out (by omega)
            by_cases hr : 1000 < rt cp' cf l
            · have HV : Hid (V = 90) := by have := HR2.out; rw [decide_eq_true hr] at this; exact this
              clear HR2
              generalize rt cp' cf l = R at hr hA2
              go_wp2_with fail
              go_region_with (first
                | (go_at_call 17
                   refine hA2.mono ?_
                   rintro e w3 ⟨rfl, rfl⟩))
              all_goals (
                clear hA2
                go_wp2
                go_ret
                exact ⟨by rw [HV.out]; rfl, HBf.out.drew⟩)
            · have HR3 : Hid (V = if (l.drop (k + 1)).any (fun c => decide (1000 < rt c.p c.f l)) then 90 else 0) := by have := HR2.out; rw [decide_eq_false hr, Bool.false_or] at this; exact this
              clear HR2
              generalize rt cp' cf l = R at hr hA2
              go_wp2_with fail
              go_region_with (first
                | (go_at_call 17
                   refine hA2.mono ?_
                   rintro e w3 ⟨rfl, rfl⟩))
              all_goals (
                clear hA2
                go_wp2
                go_roundw
                case rel => exact ⟨k + 1, by omega, by go_num, HBf.out.drew, HR3⟩
                case measure => simp [intOf]; omega)
          · have hkn : k = l.length := by omega
            have HV : Hid (V = 0) := by have := HR.out; rw [hkn, List.drop_length] at this; exact this
            clear HR
            subst hkn
            go_wp2
            go_ret
            exact ⟨by rw [HV.out]; rfl, HBf.out⟩

end Go.Proofs.Ytjolflpmeodnaai
