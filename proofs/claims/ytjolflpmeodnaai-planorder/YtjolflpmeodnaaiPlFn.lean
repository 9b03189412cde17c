import Derived.Test.YtjolflpmeodnaaiPlMk
namespace Go.Proofs.Ytjolflpmeodnaai
set_option linter.unusedVariables false
set_option linter.unusedSimpArgs false
open Go.RowKit

/-- What the loops over marks stand on. -/
structure Stg (W : World) (Bl Bp g : Nat) (a : Option Addr) (cp : Nat) (l : List Ct) (p : Int) (M : List Int) : Prop where
  hl : W.cell? ⟨Bl, 0, none⟩ = some (.slice a l.length cp)
  hp : W.cell? ⟨Bp, 0, none⟩ = some (.int .i64 p)
  ct : Cta W a l
  mm : ∀ (i : Nat) x, M[i]? = some x → W.cell? ⟨g, i, none⟩ = some (.int .i64 x)
theorem Stg.below {W W' : World} {Bl Bp g : Nat} {a : Option Addr} {cp : Nat} {l : List Ct} {p : Int} {M : List Int} (h : Stg W Bl Bp g a cp l p M) (hb : Below W.heap.size W W') : Stg W' Bl Bp g a cp l p M :=
  ⟨pl_cell h.hl hb, pl_cell h.hp hb, h.ct.below hb, fun i x hx => pl_cell (h.mm i x hx) hb⟩
theorem Stg.rate {W : World} {Bl Bp g : Nat} {a : Option Addr} {cp : Nat} {l : List Ct} {p : Int} {M : List Int} (h : Stg W Bl Bp g a cp l p M) (hm : ∀ c ∈ l, mayC c = true) (hn : l.length ≤ 100) (x : Int) :
    Calls Try.prog 20 #[.int .i64 x, .pointer (some ⟨Bl, 0, none⟩), .pointer (some ⟨Bp, 0, none⟩)] W fun e w' => e = .returned (.int .i64 (rt p x l)) ∧ Below W.heap.size W w' :=
  rate1_any Bl Bp a cp l p x W h.hl h.hp h.ct hm hn

theorem cn_bnd (x : Int) : 0 ≤ cn x ∧ cn x ≤ 1099511627776 := by unfold cn; omega

set_option maxHeartbeats 2000000 in
theorem rate9_any (a : Option Addr) (cp : Nat) (l : List Ct) (p x : Int) (w : World) (h : Cta w a l) (hn : l.length ≤ 9223372036854775807) :
    Calls Try.prog 11 #[.slice a l.length cp, .int .i64 p, .int .i64 x] w fun e w' => e = .returned (.int .i64 (if rightE l = 0 then rt p (cn x) l else 0)) ∧ Below w.heap.size w w' := by
  have HR := right9_any a cp l w h hn
  have HS : Hid (Cta w a l) := h
  have HE : Hid (rightE l = 0 → l.length ≤ 100 ∧ (∀ c ∈ l, mayC c = true) ∧ ∀ c ∈ l, rt c.p c.f l ≤ 1000) := rightE_ok.mp
  clear h
  have HV : Hid ((rightE l = 0 → (if rightE l = 0 then rt p (cn x) l else 0) = rt p (cn x) l) ∧ (rightE l ≠ 0 → (if rightE l = 0 then rt p (cn x) l else 0) = 0)) := ⟨fun h => if_pos h, fun h => if_neg h⟩
  generalize (if rightE l = 0 then rt p (cn x) l else 0) = V at *
  generalize rightE l = E at *
  go_enter Try.func11, Try.ntmps11
  go_wp2_with fail
  refine HR.mono ?_
  rintro e w1 ⟨rfl, hb1⟩
  have HB1 : Hid (Below w.heap.size w w1) := hb1
  clear hb1 HR
  by_cases hE : E = 0
  · obtain ⟨hn2, hm, _⟩ := HE.out hE
    have HM : Hid (∀ c ∈ l, mayC c = true) := hm
    clear hm HE
    subst hE
    have HV2 : Hid (V = rt p (cn x) l) := HV.out.1 rfl
    have HO := ratesOf_any a l.length cp p w1
    clear HV
    go_wp2_with fail
    refine HO.mono ?_
    rintro e w2 ⟨⟨Bl, Bp, rfl, hbl, hbp⟩, hb2⟩
    have HC := rate1_any Bl Bp a cp l p (cn x) w2 hbl hbp ((HS.out.below HB1.out).below hb2) HM.out hn2
    have HB2 : Hid (Below w.heap.size w w2) := HB1.out.trans (hb2.mono HB1.out.size)
    have HN := counted_any x w2
    clear hb2 HB1 HO hbl hbp HS HM
    generalize rt p (cn x) l = R at *
    generalize cn x = X at *
    go_wp2_with fail
    refine HN.mono ?_
    rintro e w2' ⟨rfl, rfl⟩
    clear HN
    go_wp2_with fail
    refine HC.mono ?_
    rintro e w3 ⟨rfl, hb3⟩
    have HB3 : Hid (Below w.heap.size w w3) := HB2.out.trans (hb3.mono HB2.out.size)
    clear hb3 HC
    go_wp2
    go_ret
    exact ⟨by rw [HV2.out]; rfl, HB3.out⟩
  · have HV2 : Hid (V = 0) := HV.out.2 hE
    clear HV
    go_wp2
    go_ret
    exact ⟨by rw [HV2.out]; rfl, HB1.out⟩

/-- What Next answers, of whatever list: E tells whether it is a plan. -/
def NxP (p a : Int) (l : List Ct) (E n : Int) : Prop := (E ≠ 0 → n = -1) ∧ (E = 0 → NR p a l n)

set_option maxHeartbeats 4000000 in
theorem next9_any (a : Option Addr) (cp : Nat) (l : List Ct) (p x : Int) (w : World) (h : Cta w a l) (hn : l.length ≤ 9223372036854775807) :
    Calls Try.prog 12 #[.slice a l.length cp, .int .i64 p, .int .i64 x] w fun e w' => (∃ n, e = .returned (.int .i64 n) ∧ NxP p (cn x) l (rightE l) n) ∧ Below w.heap.size w w' := by
  have HR := right9_any a cp l w h hn
  have HS : Hid (Cta w a l) := h
  have HE : Hid (rightE l = 0 → l.length ≤ 100 ∧ (∀ c ∈ l, mayC c = true) ∧ ∀ c ∈ l, rt c.p c.f l ≤ 1000) := rightE_ok.mp
  clear h
  have HN0 := fun w => counted_any x w
  have hcb := cn_bnd x
  generalize cn x = X at *
  generalize rightE l = E at *
  go_enter Try.func12, Try.ntmps12
  go_wp2_with fail
  refine HR.mono ?_
  rintro e w1 ⟨rfl, hb1⟩
  have HB1 : Hid (Below w.heap.size w w1) := hb1
  clear hb1 HR
  by_cases hE : E = 0
  · obtain ⟨hn2, hm, _⟩ := HE.out hE
    have HM : Hid (∀ c ∈ l, mayC c = true) := hm
    clear hm HE
    subst hE
    have HO := ratesOf_any a l.length cp p w1
    go_wp2_with fail
    refine HO.mono ?_
    rintro e w2 ⟨⟨Bl, Bp, rfl, hbl, hbp⟩, hb2⟩
    have HC2 : Hid (Cta w2 a l) := (HS.out.below HB1.out).below hb2
    have HB2 : Hid (Below w.heap.size w w2) := HB1.out.trans (hb2.mono HB1.out.size)
    have HN := HN0 w2
    have HK := marks_any a cp l p X 1099511627776 w2 HC2.out hn2 hcb.2
    have HL : Hid (w2.cell? ⟨Bl, 0, none⟩ = some (.slice a l.length cp) ∧ w2.cell? ⟨Bp, 0, none⟩ = some (.int .i64 p)) := ⟨hbl, hbp⟩
    clear hb2 HB1 HO hbl hbp
    clear HN0
    go_wp2_with fail
    refine HN.mono ?_
    rintro e w2' ⟨rfl, rfl⟩
    clear HN
    go_wp2_with fail
    refine HK.mono ?_
    rintro e w3 ⟨g, cap, M, rfl, hmk, hml, hmc, hb3⟩
    have HG : Hid (Stg w3 Bl Bp g a cp l p M) := ⟨pl_cell HL.out.1 hb3, pl_cell HL.out.2 hb3, HC2.out.below hb3, hmc⟩
    have HB3 : Hid (Below w.heap.size w w3) := HB2.out.trans (hb3.mono HB2.out.size)
    have HMK : Hid (MK p X 1099511627776 l M) := hmk
    clear hb3 HK HL HC2 hmc HB2 hmk HS
    go_wp2_with fail
    go_loopw [23] (fun i wr => ∃ (k : Nat), k ≤ M.length ∧ i = .int .i64 k ∧ Below w3.heap.size w3 wr ∧ Hid (∀ (j : Nat) z, j < k → M[j]? = some z → rt p z l = rt p X l)) (fun i _ => M.length - (intOf i).toNat)
    case atStart => exact ⟨0, by omega, rfl, Below.refl _ _, (fun j z hj => by omega : ∀ (j : Nat) z, j < 0 → M[j]? = some z → rt p z l = rt p X l)⟩
    case round =>
      obtain ⟨k, hk, rfl, hbe, HQ⟩ := hrel
      have HBe : Hid (Below w3.heap.size w3 wr) := hbe
      clear hbe
      by_cases hlt : k < M.length
      · have hlt' : (k : Int) < (M.length : Int) := by omega
        have h0l : (0 : Int) < (M.length : Int) := by omega
        obtain ⟨y, hy⟩ := pl_get M k hlt
        have HSt : Hid (Stg wr Bl Bp g a cp l p M) := HG.out.below HBe.out
        have HRt : Hid (∀ z W, Below wr.heap.size wr W → Calls Try.prog 20 #[.int .i64 z, .pointer (some ⟨Bl, 0, none⟩), .pointer (some ⟨Bp, 0, none⟩)] W fun e w' => e = .returned (.int .i64 (rt p z l)) ∧ Below W.heap.size W w') := fun z W hb => (HSt.out.below hb).rate HM.out hn2 z
        have c1 := HSt.out.mm k y hy
        have c0 := HSt.out.mm 0 X HMK.out.first
        have HB4 : Hid (∀ W, Below wr.heap.size wr W → Below w3.heap.size w3 W) := fun W hb => HBe.out.trans (hb.mono HBe.out.size)
        have HNx : Hid (rt p y l ≠ rt p X l → NR p X l y) := fun hne => HMK.out.next_some hy HQ.out hne
        have HQ2 : Hid (rt p y l = rt p X l → ∀ (j : Nat) z, j < k + 1 → M[j]? = some z → rt p z l = rt p X l) := fun he j z hj hz => by
          rcases Nat.lt_or_ge j k with h1 | h1
          · exact HQ.out j z h1 hz
          · obtain rfl : j = k := by omega
            rw [hy] at hz; cases hz; exact he
        have HSy : Hid (M[k]? = some y) := hy
        clear hy HQ HBe
        go_wp2_with fail
        go_region_with (first
          | (go_at_call 20
             refine (HRt.out _ _ HV2.out).mono ?_
             rintro e w5 ⟨rfl, hb5⟩
             have HV5 : Hid (Below wr.heap.size wr w5) := HV2.out.trans (hb5.mono HV2.out.size)
             have e1 := pl_cell c1 HV5.out
             have e0 := pl_cell c0 HV5.out
             clear hb5)
          | (go_at_call 20
             refine (HRt.out _ _ (Below.refl _ _).drew).mono ?_
             rintro e w4 ⟨rfl, hb4⟩
             have HV2 : Hid (Below wr.heap.size wr w4) := (Below.refl _ _).drew.trans hb4
             have d1 := pl_cell c1 HV2.out
             have d0 := pl_cell c0 HV2.out
             clear hb4))
        all_goals (
          have HB5 : Hid (Below w.heap.size w w5) := HB3.out.trans ((HB4.out _ HV5.out).mono HB3.out.size)
          have HB6 : Hid (Below w3.heap.size w3 w5) := HB4.out _ HV5.out
          clear c0 c1 d0 d1 HRt HV2 HV5 HB4 HSt
          by_cases he : rt p y l = rt p X l
          · have HQ3 : Hid (∀ (j : Nat) z, j < k + 1 → M[j]? = some z → rt p z l = rt p X l) := HQ2.out he
            clear HQ2 HNx
            go_wp2
            go_roundw
            case rel => exact ⟨k + 1, by omega, by go_num, HB6.out, HQ3⟩
            case measure => simp [intOf]; omega
          · have HN3 : Hid (NR p X l y) := HNx.out he
            clear HQ2 HNx
            go_wp2
            go_ret
            exact ⟨⟨y, rfl, fun h => absurd rfl h, fun _ => HN3.out⟩, HB5.out⟩)
      · have hkn : k = M.length := by omega
        subst hkn
        have HN3 : Hid (NR p X l (-1)) := HMK.out.next_none HQ.out
        have HB5 : Hid (Below w.heap.size w wr) := HB3.out.trans (HBe.out.mono HB3.out.size)
        clear HQ
        go_wp2
        go_ret
        exact ⟨⟨-1, rfl, fun h => absurd rfl h, fun _ => HN3.out⟩, HB5.out⟩
  · go_wp2
    go_ret
    exact ⟨⟨-1, rfl, fun _ => rfl, fun h => absurd h hE⟩, HB1.out⟩

end Go.Proofs.Ytjolflpmeodnaai
