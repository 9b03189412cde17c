import Derived.Test.YtjolflpmeodnaaiPlWn
namespace Go.Proofs.Ytjolflpmeodnaai
set_option linter.unusedVariables false
open Go.RowKit

theorem tot_const {p a R : Int} {l : List Ct} (hm : ∀ c ∈ l, mayC c = true) : ∀ (n : Nat) {b : Int}, b = a + n → (∀ x, a ≤ x → x < b → rt p x l = R) → tot p a b l = R * (b - a)
  | 0, b, hb, _ => by
    have : b = a := by omega
    subst this
    rw [tot_self]; simp
  | n + 1, b, hb, h => by
    have h1 := tot_const hm n (b := b - 1) (by omega) (fun x h1 h2 => h x h1 (by omega))
    have h2 := tot_add (p := p) (show a ≤ b - 1 by omega) (show b - 1 ≤ b by omega) l
    have h3 := tot_one (p := p) (x := b - 1) hm
    rw [show b - 1 + 1 = b by omega] at h3
    rw [h (b - 1) (by omega) (by omega)] at h3
    rw [← h2, h1, h3, show b - a = (b - 1 - a) + 1 by omega, Int.mul_add, Int.mul_one]
theorem tot_const' {p a b R : Int} {l : List Ct} (hm : ∀ c ∈ l, mayC c = true) (hab : a ≤ b) (h : ∀ x, a ≤ x → x < b → rt p x l = R) : tot p a b l = R * (b - a) :=
  tot_const hm (b - a).toNat (by omega) h

set_option maxHeartbeats 4000000 in
set_option maxRecDepth 100000 in
/-- The law PlanAdds. -/
theorem planAdds_any (ad : Option Addr) (cp : Nat) (l : List Ct) (p a b c : Int) (w : World) (h : Cta w ad l) (hn : l.length ≤ 9223372036854775807) :
    Calls Try.prog 3 #[.slice ad l.length cp, .int .i64 p, .int .i64 a, .int .i64 b, .int .i64 c] w fun e w' => e = .returned (.bool true) ∧ Below w.heap.size w w' := by
  have HS : Hid (∀ W, Below w.heap.size w W → Cta W ad l) := fun W hb => h.below hb
  have HA := awake9_any w
  have HP : Hid (∀ W, Below w.heap.size w W → Calls Try.prog 7 #[.slice ad l.length cp] W fun e w' => e = .returned (.int .i64 (rightE l)) ∧ Below W.heap.size W w') := fun W hb => right9_any ad cp l W (HS.out W hb) hn
  have HR : Hid (∀ W, Below w.heap.size w W → Calls Try.prog 8 #[.slice ad l.length cp] W fun e w' => e = .returned (.int .i64 (rightE l)) ∧ Below W.heap.size W w') := fun W hb => right2_any ad cp l W (HS.out W hb) hn
  have HT : Hid (∀ x y W, Below w.heap.size w W → Calls Try.prog 10 #[.slice ad l.length cp, .int .i64 p, .int .i64 x, .int .i64 y] W fun e w' => e = .returned (.int .i64 (totV p x y l (rightE l))) ∧ Below W.heap.size W w') := fun x y W hb => total9_any ad cp l p x y W (HS.out W hb) hn
  have HQ : Hid (∀ x W, Below w.heap.size w W → Calls Try.prog 11 #[.slice ad l.length cp, .int .i64 p, .int .i64 x] W fun e w' => e = .returned (.int .i64 (rtV p x l (rightE l))) ∧ Below W.heap.size W w') := fun x W hb => rate9_any ad cp l p x W (HS.out W hb) hn
  have HX : Hid (∀ x W, Below w.heap.size w W → Calls Try.prog 12 #[.slice ad l.length cp, .int .i64 p, .int .i64 x] W fun e w' => (∃ n, e = .returned (.int .i64 n) ∧ NxP p (cn x) l (rightE l) n) ∧ Below W.heap.size W w') := fun x W hb => next9_any ad cp l p x W (HS.out W hb) hn
  have HK1 := fun W => tick_any a W
  have HK2 := fun W => tick_any b W
  have HK3 := fun W => tick_any c W
  have HE : Hid (rightE l = 0 → (l.length ≤ 100 ∧ (∀ c ∈ l, mayC c = true) ∧ ∀ c ∈ l, rt c.p c.f l ≤ 1000) ∧ ∀ x, rt p x l ≤ 1000) := fun h => ⟨rightE_ok.mp h, fun x => rt_max h p x⟩
  have ha := cn_bnd a
  have hb := cn_bnd b
  have hc := cn_bnd c
  have haa := cn_of ha.1 ha.2
  generalize cn a = A at *
  generalize cn b = B0 at *
  generalize cn c = C0 at *
  clear h HS
  generalize rightE l = E at *
  go_enter Try.func3, Try.ntmps3
  go_wp2_with fail
  refine HA.mono ?_
  rintro e w1 ⟨rfl, hb1⟩
  have HB1 : Hid (Below w.heap.size w w1) := hb1
  clear hb1 HA
  go_wp2_with fail
  refine (HP.out _ HB1.out).mono ?_
  rintro e w2 ⟨rfl, hb2⟩
  have HB2 : Hid (Below w.heap.size w w2) := HB1.out.trans (hb2.mono HB1.out.size)
  clear hb2 HP HB1
  go_wp2_with fail
  refine (HR.out _ HB2.out).mono ?_
  rintro e w3 ⟨rfl, hb3⟩
  have HB3 : Hid (Below w.heap.size w w3) := HB2.out.trans (hb3.mono HB2.out.size)
  clear hb3 HR HB2
  by_cases hE : E = 0
  · obtain ⟨⟨hn2, hmm, _⟩, hmx⟩ := HE.out hE
    subst hE
    have HM : Hid (∀ c ∈ l, mayC c = true) := hmm
    have HMx : Hid (∀ x, rt p x l ≤ 1000) := hmx
    have hl100 : (l.length : Int) ≤ 100 := by omega
    clear hmm HE hmx
    obtain ⟨B, hB⟩ : ∃ B, max A B0 = B := ⟨_, rfl⟩
    obtain ⟨C, hC⟩ : ∃ C, max B C0 = C := ⟨_, rfl⟩
    have hAB : A ≤ B ∧ B ≤ 1099511627776 := by omega
    have hBC : B ≤ C ∧ C ≤ 1099511627776 := by omega
    have hb0 : (0 : Int) ≤ B := by omega
    have hc0 : (0 : Int) ≤ C := by omega
    go_wp2_with fail
    refine (HK1 _).mono ?_
    rintro e w3' ⟨rfl, rfl⟩
    clear HK1
    go_wp2_with fail
    refine (HK2 _).mono ?_
    rintro e w3' ⟨rfl, rfl⟩
    clear HK2
    go_wp2_with fail
    refine (HK3 _).mono ?_
    rintro e w3' ⟨rfl, rfl⟩
    clear HK3
    have HT3 := HT.out A B _ HB3.out
    rw [totV_eq ha.1 hAB.1 hAB.2] at HT3
    go_wp2_with fail
    refine HT3.mono ?_
    rintro e w4 ⟨rfl, hb4⟩
    have HB4 : Hid (Below w.heap.size w w4) := HB3.out.trans (hb4.mono HB3.out.size)
    clear hb4 HT3 HB3 hB hC hb hc
    have HT4 := HT.out B C _ HB4.out
    rw [totV_eq hb0 hBC.1 hBC.2] at HT4
    have hx := (tot_bnd (p := p) ha.1 hAB.1 hAB.2 HM.out)
    have hy := (tot_bnd (p := p) hb0 hBC.1 hBC.2 HM.out)
    have hz := (tot_bnd (p := p) ha.1 (show A ≤ C by omega) hBC.2 HM.out)
    have hxyz := tot_add (p := p) hAB.1 hBC.1 l
    have hwx : IntKind.i64.wrap (tot p A B l + tot p B C l) = tot p A B l + tot p B C l := by rw [IntKind.wrap_i64]; omega
    have hwA : IntKind.i64.wrap (A + 1) = A + 1 := by rw [IntKind.wrap_i64]; omega
    go_wp2_with fail
    refine HT4.mono ?_
    rintro e w5 ⟨rfl, hb5⟩
    have HB5 : Hid (Below w.heap.size w w5) := HB4.out.trans (hb5.mono HB4.out.size)
    clear hb5 HT4 HB4
    have HT5 := HT.out A C _ HB5.out
    rw [totV_eq ha.1 (by omega) hBC.2] at HT5
    go_wp2_with fail
    refine HT5.mono ?_
    rintro e w6 ⟨rfl, hb6⟩
    have HB6 : Hid (Below w.heap.size w w6) := HB5.out.trans (hb6.mono HB5.out.size)
    clear hb6 HT5 HB5
    have HT6 := HT.out A (A + 1) _ HB6.out
    have hone : A < 1099511627776 → totV p A (A + 1) l 0 = rt p A l := fun h => by rw [totV_eq ha.1 (by omega) (by omega), tot_one HM.out]
    go_wp2_with fail
    refine HT6.mono ?_
    rintro e w7 ⟨rfl, hb7⟩
    have HB7 : Hid (Below w.heap.size w w7) := HB6.out.trans (hb7.mono HB6.out.size)
    clear hb7 HT6 HB6
    have HQ7 := HQ.out A _ HB7.out
    rw [rtV_eq ha.1 ha.2] at HQ7
    go_wp2_with fail
    refine HQ7.mono ?_
    rintro e w8 ⟨rfl, hb8⟩
    have HB8 : Hid (Below w.heap.size w w8) := HB7.out.trans (hb8.mono HB7.out.size)
    clear hb8 HQ7 HB7
    have hr := (rt_bnd (p := p) (x := A) HM.out).1
    have hr2 := HMx.out A
    have HX8 := HX.out A _ HB8.out
    rw [haa] at HX8
    have HFin : Hid (∀ n, NxP p A l 0 n → (n = -1 ∧ rt p C l = rt p A l ∧ tot p A C l = rt p A l * (C - A)) ∨ (A < n ∧ n ≤ 1099511627776 ∧ rt p (n - 1) l = rt p A l ∧ rt p n l ≠ rt p A l ∧ tot p A n l = rt p A l * (n - A))) := fun n hN => by
      rcases hN.2 rfl with ⟨rfl, h⟩ | ⟨h1, h2, h3, h4⟩
      · exact .inl ⟨rfl, h C (by omega) hBC.2, tot_const' HM.out (by omega) (fun x h1 h2 => h x h1 (by omega))⟩
      · exact .inr ⟨h1, h2, h4 _ (by omega) (by omega), h3, tot_const' HM.out (by omega) h4⟩
    have HTN : Hid (∀ n, A < n → n ≤ 1099511627776 → totV p A n l 0 = tot p A n l ∧ 0 ≤ tot p A n l ∧ tot p A n l ≤ 1099511627776000 * l.length) := fun n h1 h2 => ⟨totV_eq ha.1 (by omega) h2, tot_bnd (p := p) ha.1 (by omega) h2 HM.out⟩
    have HRN : Hid (∀ n, 0 ≤ n → n ≤ 1099511627776 → rtV p n l 0 = rt p n l) := fun n h1 h2 => rtV_eq h1 h2
    generalize tot p A B l = x at *
    generalize tot p B C l = y at *
    generalize hgz : tot p A C l = z at *
    generalize totV p A (A + 1) l 0 = o at *
    generalize rt p A l = r at *
    subst hxyz
    have hxz : ¬ x < 0 := by omega
    have hyz : ¬ y < 0 := by omega
    have hrz : ¬ r < 0 := by omega
    have hrm : ¬ 1000 < r := by omega
    have HGo : Hid (∀ W, Below w.heap.size w W → Calls Try.prog 12 #[.slice ad l.length cp, .int .i64 p, .int .i64 A] W fun e w' => (∃ n, e = .returned (.int .i64 n) ∧ NxP p A l 0 n) ∧ Below W.heap.size W w') := fun W hb => by have := HX.out A W hb; rw [haa] at this; exact this
    clear HX8 HX HM HMx
    by_cases hA : A < 1099511627776
    · have ho := hone hA
      subst ho
      clear hone
      go_wp2_with fail
      refine (HGo.out _ HB8.out).mono ?_
      rintro e w9 ⟨⟨n, rfl, hN⟩, hb9⟩
      have HB9 : Hid (Below w.heap.size w w9) := HB8.out.trans (hb9.mono HB8.out.size)
      clear hb9 HGo HB8
      rcases HFin.out n hN with ⟨rfl, k1, k2⟩ | ⟨k1, k2, k3, k4, k5⟩
      · have HQ9 := HQ.out C _ HB9.out
        rw [HRN.out C hc0 hBC.2, k1] at HQ9
        have hw1 : IntKind.i64.wrap (C - A) = C - A := by rw [IntKind.wrap_i64]; omega
        have hw2 : IntKind.i64.wrap (o * (C - A)) = o * (C - A) := by rw [IntKind.wrap_i64]; omega
        clear hN HFin HTN HRN HT HQ
        go_wp2_with fail
        refine HQ9.mono ?_
        rintro e w10 ⟨rfl, hb10⟩
        have HB10 : Hid (Below w.heap.size w w10) := HB9.out.trans (hb10.mono HB9.out.size)
        clear hb10 HQ9 HB9
        go_wp2
        go_ret
        exact ⟨by simp, HB10.out⟩
      · have hn0 : ¬ n < 0 := by omega
        have hn1 : IntKind.i64.wrap (n - 1) = n - 1 := by rw [IntKind.wrap_i64]; omega
        have HQ9 := HQ.out (n - 1) _ HB9.out
        rw [HRN.out (n - 1) (by omega) (by omega), k3] at HQ9
        have hwn : IntKind.i64.wrap (n - A) = n - A := by rw [IntKind.wrap_i64]; omega
        have ht := HTN.out n k1 k2
        have hw2 : IntKind.i64.wrap (o * (n - A)) = o * (n - A) := by rw [IntKind.wrap_i64]; omega
        clear hN HFin HTN
        go_wp2_with fail
        refine HQ9.mono ?_
        rintro e w10 ⟨rfl, hb10⟩
        have HB10 : Hid (Below w.heap.size w w10) := HB9.out.trans (hb10.mono HB9.out.size)
        clear hb10 HQ9 HB9
        have HQ10 := HQ.out n _ HB10.out
        rw [HRN.out n (by omega) (by omega)] at HQ10
        go_wp2_with fail
        refine HQ10.mono ?_
        rintro e w11 ⟨rfl, hb11⟩
        have HB11 : Hid (Below w.heap.size w w11) := HB10.out.trans (hb11.mono HB10.out.size)
        clear hb11 HQ10 HB10
        have HT11 := HT.out A n _ HB11.out
        rw [ht.1, k5] at HT11
        generalize rt p n l = rn at *
        clear ht HT HQ HRN
        go_wp2_with fail
        refine HT11.mono ?_
        rintro e w12 ⟨rfl, hb12⟩
        have HB12 : Hid (Below w.heap.size w w12) := HB11.out.trans (hb12.mono HB11.out.size)
        clear hb12 HT11 HB11
        go_wp2
        go_ret
        exact ⟨by simp [k4], HB12.out⟩
    · clear hone
      go_wp2_with fail
      refine (HGo.out _ HB8.out).mono ?_
      rintro e w9 ⟨⟨n, rfl, hN⟩, hb9⟩
      have HB9 : Hid (Below w.heap.size w w9) := HB8.out.trans (hb9.mono HB8.out.size)
      clear hb9 HGo HB8
      rcases HFin.out n hN with ⟨rfl, k1, k2⟩ | ⟨k1, k2, k3, k4, k5⟩
      · have HQ9 := HQ.out C _ HB9.out
        rw [HRN.out C hc0 hBC.2, k1] at HQ9
        have hw1 : IntKind.i64.wrap (C - A) = C - A := by rw [IntKind.wrap_i64]; omega
        have hw2 : IntKind.i64.wrap (r * (C - A)) = r * (C - A) := by rw [IntKind.wrap_i64]; omega
        clear hN HFin HTN HRN HT HQ
        go_wp2_with fail
        refine HQ9.mono ?_
        rintro e w10 ⟨rfl, hb10⟩
        have HB10 : Hid (Below w.heap.size w w10) := HB9.out.trans (hb10.mono HB9.out.size)
        clear hb10 HQ9 HB9
        go_wp2
        go_ret
        exact ⟨by simp, HB10.out⟩
      · exfalso; omega
  · go_wp2
    go_ret
    exact ⟨by simp, HB3.out⟩

end Go.Proofs.Ytjolflpmeodnaai
