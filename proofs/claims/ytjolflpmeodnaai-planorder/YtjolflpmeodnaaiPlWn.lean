import Derived.Test.YtjolflpmeodnaaiPlAw
namespace Go.Proofs.Ytjolflpmeodnaai
set_option linter.unusedVariables false
open Go.RowKit

theorem cn_cn (x : Int) : cn (cn x) = cn x := by unfold cn; omega
theorem cn_of {x : Int} (h0 : 0 ≤ x) (h1 : x ≤ 1099511627776) : cn x = x := by unfold cn; omega

/-- What Total and Rate answer: E tells whether it is a plan. -/
def totV (p x y : Int) (l : List Ct) (E : Int) : Int := if E = 0 ∧ cn x < cn y then tot p (cn x) (cn y) l else 0
def rtV (p x : Int) (l : List Ct) (E : Int) : Int := if E = 0 then rt p (cn x) l else 0
theorem totV_eq {p x y : Int} {l : List Ct} (h0 : 0 ≤ x) (h1 : x ≤ y) (h2 : y ≤ 1099511627776) : totV p x y l 0 = tot p x y l := by
  unfold totV
  rw [cn_of h0 (by omega), cn_of (by omega) h2]
  by_cases h : x < y
  · rw [if_pos ⟨rfl, h⟩]
  · obtain rfl : x = y := by omega
    rw [if_neg (by omega), tot_self]
theorem rtV_eq {p x : Int} {l : List Ct} (h0 : 0 ≤ x) (h2 : x ≤ 1099511627776) : rtV p x l 0 = rt p x l := by
  unfold rtV
  rw [cn_of h0 h2, if_pos rfl]

set_option maxHeartbeats 4000000 in
/-- The law PlanWhen. -/
theorem planWhen_any (a : Option Addr) (cp : Nat) (l : List Ct) (p x m : Int) (w : World) (h : Cta w a l) (hn : l.length ≤ 9223372036854775807) (hm : m ≤ 9223372036854775807) :
    Calls Try.prog 4 #[.slice a l.length cp, .int .i64 p, .int .i64 x, .int .i64 m] w fun e w' => e = .returned (.bool true) ∧ Below w.heap.size w w' := by
  have HS : Hid (∀ W, Below w.heap.size w W → Cta W a l) := fun W hb => h.below hb
  have HA := awake9_any w
  have HP : Hid (∀ W, Below w.heap.size w W → Calls Try.prog 7 #[.slice a l.length cp] W fun e w' => e = .returned (.int .i64 (rightE l)) ∧ Below W.heap.size W w') := fun W hb => right9_any a cp l W (HS.out W hb) hn
  have HR : Hid (∀ W, Below w.heap.size w W → Calls Try.prog 8 #[.slice a l.length cp] W fun e w' => e = .returned (.int .i64 (rightE l)) ∧ Below W.heap.size W w') := fun W hb => right2_any a cp l W (HS.out W hb) hn
  have HT : Hid (∀ x y W, Below w.heap.size w W → Calls Try.prog 10 #[.slice a l.length cp, .int .i64 p, .int .i64 x, .int .i64 y] W fun e w' => e = .returned (.int .i64 (totV p x y l (rightE l))) ∧ Below W.heap.size W w') := fun x y W hb => total9_any a cp l p x y W (HS.out W hb) hn
  have HQ : Hid (∀ x W, Below w.heap.size w W → Calls Try.prog 11 #[.slice a l.length cp, .int .i64 p, .int .i64 x] W fun e w' => e = .returned (.int .i64 (rtV p x l (rightE l))) ∧ Below W.heap.size W w') := fun x W hb => rate9_any a cp l p x W (HS.out W hb) hn
  have HW : Hid (∀ x W, Below w.heap.size w W → Calls Try.prog 13 #[.slice a l.length cp, .int .i64 p, .int .i64 x, .int .i64 m] W fun e w' => (∃ t, e = .returned (.int .i64 t) ∧ WnP p (cn x) m l (rightE l) t) ∧ Below W.heap.size W w') := fun x W hb => when9_any a cp l p x m W (HS.out W hb) hn hm
  have HK := fun W => tick_any x W
  have HE : Hid (rightE l = 0 → l.length ≤ 100 ∧ (∀ c ∈ l, mayC c = true) ∧ ∀ c ∈ l, rt c.p c.f l ≤ 1000) := rightE_ok.mp
  have hx := cn_bnd x
  have hxx := cn_of hx.1 hx.2
  generalize cn x = X at *
  clear h HS
  generalize rightE l = E at *
  go_enter Try.func4, Try.ntmps4
  go_wp2_with fail
  refine HA.mono ?_
  rintro e w1 ⟨rfl, hb1⟩
  have HB1 : Hid (Below w.heap.size w w1) := hb1
  clear hb1 HA
  go_wp2_with fail
  refine (HP.out _ HB1.out).mono ?_
  rintro e w2 ⟨rfl, hb2⟩
  have HB2 : Hid (Below w.heap.size w w2) := HB1.out.trans (hb2.mono HB1.out.size)
  clear hb2 HP HB1
  go_wp2_with fail
  refine (HR.out _ HB2.out).mono ?_
  rintro e w3 ⟨rfl, hb3⟩
  have HB3 : Hid (Below w.heap.size w w3) := HB2.out.trans (hb3.mono HB2.out.size)
  clear hb3 HR HB2
  by_cases hE : E = 0
  · obtain ⟨hn2, hmm, _⟩ := HE.out hE
    subst hE
    have HM : Hid (∀ c ∈ l, mayC c = true) := hmm
    clear hmm HE
    go_wp2_with fail
    refine (HK _).mono ?_
    rintro e w3' ⟨rfl, rfl⟩
    clear HK
    have HW3 := HW.out X _ HB3.out
    rw [hxx] at HW3
    go_wp2_with fail
    refine HW3.mono ?_
    rintro e w4 ⟨⟨t, rfl, ht⟩, hb4⟩
    have HB4 : Hid (Below w.heap.size w w4) := HB3.out.trans (hb4.mono HB3.out.size)
    have HN : Hid ((m < 1 → t = X) ∧ (1 ≤ m → WR p X m l t)) := ht.2 rfl
    clear hb4 HW3 HW HB3 ht
    by_cases hm1 : m < 1
    · have htx := HN.out.1 hm1
      subst htx
      go_wp2
      go_ret
      exact ⟨by simp, HB4.out⟩
    · have HT4 := HT.out X 1099511627776 _ HB4.out
      rw [totV_eq hx.1 hx.2 (by omega)] at HT4
      go_wp2_with fail
      refine HT4.mono ?_
      rintro e w5 ⟨rfl, hb5⟩
      have HB5 : Hid (Below w.heap.size w w5) := HB4.out.trans (hb5.mono HB4.out.size)
      clear hb5 HT4 HB4
      rcases HN.out.2 (by omega) with ⟨rfl, h1⟩ | ⟨h1, h2, h3, h4⟩
      · generalize tot p X 1099511627776 l = A at *
        go_wp2
        go_ret
        exact ⟨by simp, HB5.out⟩
      · have ht0 : ¬ t < 0 := by omega
        have hw1 : IntKind.i64.wrap (t + 1) = t + 1 := by rw [IntKind.wrap_i64]; omega
        have HT5 := HT.out X t _ HB5.out
        rw [totV_eq hx.1 h1 (by omega)] at HT5
        have hadd := tot_add (p := p) h1 (show t ≤ t + 1 by omega) l
        rw [tot_one HM.out] at hadd
        have hr : 0 < rt p t l := by omega
        generalize tot p X 1099511627776 l = A at *
        go_wp2_with fail
        refine HT5.mono ?_
        rintro e w6 ⟨rfl, hb6⟩
        have HB6 : Hid (Below w.heap.size w w6) := HB5.out.trans (hb6.mono HB5.out.size)
        clear hb6 HT5 HB5
        have HT6 := HT.out X (t + 1) _ HB6.out
        rw [totV_eq hx.1 (by omega) (by omega)] at HT6
        go_wp2_with fail
        refine HT6.mono ?_
        rintro e w7 ⟨rfl, hb7⟩
        have HB7 : Hid (Below w.heap.size w w7) := HB6.out.trans (hb7.mono HB6.out.size)
        clear hb7 HT6 HB6 HT
        have HQ7 := HQ.out t _ HB7.out
        rw [rtV_eq (by omega) (by omega)] at HQ7
        go_wp2_with fail
        refine HQ7.mono ?_
        rintro e w8 ⟨rfl, hb8⟩
        have HB8 : Hid (Below w.heap.size w w8) := HB7.out.trans (hb8.mono HB7.out.size)
        clear hb8 HQ7 HB7 HQ hadd
        generalize tot p X t l = B at *
        generalize tot p X (t + 1) l = C at *
        generalize rt p t l = R at *
        go_wp2
        go_ret
        exact ⟨by simp, HB8.out⟩
  · go_wp2
    go_ret
    exact ⟨by simp, HB3.out⟩

end Go.Proofs.Ytjolflpmeodnaai
