import Derived.Test.YtjolflpmeodnaaiPlRt
namespace Go.Proofs.Ytjolflpmeodnaai
set_option linter.unusedVariables false
open Go.RowKit

/-- The function that tells the rates. -/
abbrev rtF (Bl Bp : Nat) : Value := .func (.func 20) #[] #[.pointer (some ⟨Bl, 0, none⟩), .pointer (some ⟨Bp, 0, none⟩)]

theorem ratesOf_any (a : Option Addr) (n cp : Nat) (p : Int) (w : World) :
    Calls Try.prog 15 #[.slice a n cp, .int .i64 p] w fun e w' => (∃ Bl Bp, e = .returned (rtF Bl Bp) ∧ w'.cell? ⟨Bl, 0, none⟩ = some (.slice a n cp) ∧ w'.cell? ⟨Bp, 0, none⟩ = some (.int .i64 p)) ∧ Below w.heap.size w w' := by
  go_enter Try.func15, Try.ntmps15
  go_wp2
  go_ret
  refine ⟨⟨w.heap.size, w.heap.size + 1, rfl, ?_, ?_⟩, ((Below.refl _ _).alloc (Nat.le_refl _) _).alloc (by simp) _⟩
  · simp
  · simp

theorem all_drop {l : List Ct} {k : Nat} {c : Ct} (h : l[k]? = some c) : (l.drop k).all mayC = (mayC c && (l.drop (k + 1)).all mayC) := by
  rw [pl_drop l k c h]; rfl
theorem any_drop {l : List Ct} {q : Ct → Bool} {k : Nat} {c : Ct} (h : l[k]? = some c) : (l.drop k).any q = (q c || (l.drop (k + 1)).any q) := by
  rw [pl_drop l k c h]; rfl

set_option maxHeartbeats 2000000 in
theorem right9_any (a : Option Addr) (cp : Nat) (l : List Ct) (w : World) (h : Cta w a l) (hn : l.length ≤ 9223372036854775807) :
    Calls Try.prog 7 #[.slice a l.length cp] w fun e w' => e = .returned (.int .i64 (rightE l)) ∧ Below w.heap.size w w' := by
  have HS : Hid (Cta w a l) := h
  clear h
  go_enter Try.func7, Try.ntmps7
  by_cases h2 : 100 < l.length
  · have h2' : (100 : Int) < (l.length : Int) := by omega
    have HV : Hid (rightE l = 2) := by show rightE l = 2; rw [rightE, if_pos h2]
    generalize rightE l = V at *
    go_wp2
    go_ret
    exact ⟨by rw [HV.out]; rfl, Below.refl _ _⟩
  · have h2' : ¬ (100 : Int) < (l.length : Int) := by omega
    have HE : Hid (rightE l = if (l.drop 0).all mayC then (if l.any (fun c => decide (1000 < rt c.p c.f l)) then 90 else 0) else 90) := by show rightE l = _; rw [rightE, if_neg h2]; rfl
    generalize rightE l = V at *
    go_wp2_with fail
    go_loopw [11] (fun i wr => ∃ (k : Nat), k ≤ l.length ∧ i = .int .i64 k ∧ Below w.heap.size w wr ∧ Hid ((∀ c ∈ l.take k, mayC c = true) ∧ V = if (l.drop k).all mayC then (if l.any (fun c => decide (1000 < rt c.p c.f l)) then 90 else 0) else 90)) (fun i _ => l.length - (intOf i).toNat)
    case atStart => exact ⟨0, by omega, rfl, Below.refl _ _, by simp, HE.out⟩
    case round =>
      obtain ⟨k, hk, rfl, hbe, HR⟩ := hrel
      have HBe : Hid (Below w.heap.size w wr) := hbe
      clear hbe HE
      by_cases hlt : k < l.length
      · have hlt' : (k : Int) < (l.length : Int) := by omega
        obtain ⟨c, hc⟩ := pl_get l k hlt
        obtain ⟨g, off, rfl, q1, q2, q3, q4⟩ := (HS.out.below HBe.out).at hc
        have hA := may9_any c wr
        have HT : Hid (∀ d ∈ l.take (k + 1), d ∈ l.take k ∨ d = c) := fun d hd => by
          rw [List.take_add_one, hc] at hd
          rcases List.mem_append.mp hd with h | h
          · exact .inl h
          · exact .inr (by simpa using h)
        have HR2 : Hid ((∀ c ∈ l.take k, mayC c = true) ∧ V = if (mayC c && (l.drop (k + 1)).all mayC) then (if l.any (fun c => decide (1000 < rt c.p c.f l)) then 90 else 0) else 90) := ⟨HR.out.1, by have := HR.out.2; rw [all_drop hc] at this; exact this⟩
        clear hc HR
        cases hm : mayC c with
        | false =>
          have HV : Hid (V = 90) := by have := HR2.out.2; rw [hm] at this; exact this
          rw [hm] at hA
          clear HR2 HT hm
          obtain ⟨cp', cf, ct, cr⟩ := c
          simp only at q1 q2 q3 q4
          go_wp2_with fail
          refine hA.mono ?_
          rintro e w2 ⟨rfl, hb2⟩
          have HB2 : Hid (Below w.heap.size w w2) := HBe.out.trans (hb2.mono HBe.out.size)
          clear hb2 hA
          go_wp2
          go_ret
          exact ⟨by rw [HV.out]; rfl, HB2.out⟩
        | true =>
          have HR3 : Hid ((∀ c ∈ l.take (k + 1), mayC c = true) ∧ V = if (l.drop (k + 1)).all mayC then (if l.any (fun c => decide (1000 < rt c.p c.f l)) then 90 else 0) else 90) := by
            refine ⟨fun d hd => ?_, ?_⟩
            · rcases HT.out d hd with h | h
              · exact HR2.out.1 d h
              · rw [h]; exact hm
            · have := HR2.out.2; rw [hm, Bool.true_and] at this; exact this
          rw [hm] at hA
          clear HR2 HT hm
          obtain ⟨cp', cf, ct, cr⟩ := c
          simp only at q1 q2 q3 q4
          go_wp2_with fail
          refine hA.mono ?_
          rintro e w2 ⟨rfl, hb2⟩
          have HB2 : Hid (Below w.heap.size w w2) := HBe.out.trans (hb2.mono HBe.out.size)
          clear hb2 hA
          go_wp2
          go_roundw
          case rel => exact ⟨k + 1, by omega, by go_num, HB2.out, HR3⟩
          case measure => simp [intOf]; omega
      · have hkn : k = l.length := by omega
        subst hkn
        have HM : Hid (∀ c ∈ l, mayC c = true) := by have := HR.out.1; rw [List.take_length] at this; exact this
        have HE : Hid (V = if (l.drop 0).any (fun c => decide (1000 < rt c.p c.f l)) then 90 else 0) := by have := HR.out.2; rw [List.drop_length] at this; exact this
        clear HR
        go_wp2_with fail
        go_loopw [23] (fun i wr' => ∃ (k : Nat), k ≤ l.length ∧ i = .int .i64 k ∧ Below w.heap.size w wr' ∧ Hid (V = if (l.drop k).any (fun c => decide (1000 < rt c.p c.f l)) then 90 else 0)) (fun i _ => l.length - (intOf i).toNat)
        case atStart => exact ⟨0, by omega, rfl, HBe.out, HE⟩
        case round =>
          obtain ⟨k, hk, rfl, hbe, HR⟩ := hrel
          have HBf : Hid (Below w.heap.size w wr) := hbe
          clear hbe HE HBe
          by_cases hlt : k < l.length
          · have hlt' : (k : Int) < (l.length : Int) := by omega
            obtain ⟨c, hc⟩ := pl_get l k hlt
            have HC : Hid (Cta wr a l) := HS.out.below HBf.out
            obtain ⟨g, off, rfl, q1, q2, q3, q4⟩ := HC.out.at hc
            have hA := ratesOf_any (some ⟨g, off, none⟩) l.length cp c.p wr
            have HR2 : Hid (V = if (decide (1000 < rt c.p c.f l) || (l.drop (k + 1)).any (fun c => decide (1000 < rt c.p c.f l))) then 90 else 0) := by have := HR.out; rw [any_drop hc] at this; exact this
            clear hc HR
            obtain ⟨cp', cf, ct, cr⟩ := c
            simp only at q1 q2 q3 q4 hA HR2
            go_wp2_with fail
            refine hA.mono ?_
            rintro e w2 ⟨⟨Bl, Bp, rfl, hbl, hbp⟩, hb2⟩
            have q2' := pl_cell q2 hb2
            have hA2 := rate1_any Bl Bp (some ⟨g, off, none⟩) cp l cp' cf w2 hbl hbp (HC.out.below hb2) HM.out (by omega)
            have HB2 : Hid (Below w.heap.size w w2) := HBf.out.trans (hb2.mono HBf.out.size)
            clear hb2 hA hbl hbp HBf q1 q2 q3 q4
            by_cases hr : 1000 < rt cp' cf l
            · have HV : Hid (V = 90) := by have := HR2.out; rw [decide_eq_true hr] at this; exact this
              clear HR2
              generalize rt cp' cf l = R at *
              go_wp2_with fail
              refine hA2.mono ?_
              rintro e w3 ⟨rfl, hb3⟩
              have HB3 : Hid (Below w.heap.size w w3) := HB2.out.trans (hb3.mono HB2.out.size)
              clear hb3 hA2
              go_wp2
              go_ret
              exact ⟨by rw [HV.out]; rfl, HB3.out⟩
            · have HR3 : Hid (V = if (l.drop (k + 1)).any (fun c => decide (1000 < rt c.p c.f l)) then 90 else 0) := by have := HR2.out; rw [decide_eq_false hr, Bool.false_or] at this; exact this
              clear HR2
              generalize rt cp' cf l = R at hr hA2
              go_wp2_with fail
              refine hA2.mono ?_
              rintro e w3 ⟨rfl, hb3⟩
              have HB3 : Hid (Below w.heap.size w w3) := HB2.out.trans (hb3.mono HB2.out.size)
              clear hb3 hA2
              go_wp2
              go_roundw
              case rel => exact ⟨k + 1, by omega, by go_num, HB3.out, HR3⟩
              case measure => simp [intOf]; omega
          · have hkn : k = l.length := by omega
            have HV : Hid (V = 0) := by have := HR.out; rw [hkn, List.drop_length] at this; exact this
            clear HR
            subst hkn
            go_wp2
            go_ret
            exact ⟨by rw [HV.out]; rfl, HBf.out⟩

end Go.Proofs.Ytjolflpmeodnaai
