import Derived.Test.YtjolflpmeodnaaiPlFn
import Derived.Deep.RegionHeld3
namespace Go.Proofs.Ytjolflpmeodnaai
set_option linter.unusedVariables false
open Go.RowKit

theorem seg_bnd {p a b : Int} {l : List Ct} {M : List Int} (h : MK p a b l M) (hm : ∀ c ∈ l, mayC c = true) (hn : l.length ≤ 100) (h0 : 0 ≤ a) (hb : b ≤ 1099511627776) {i : Nat} {x y : Int} (hi : M[i]? = some x) (hj : M[i + 1]? = some y) :
    (0 ≤ y - x ∧ y - x ≤ 1099511627776) ∧ (0 ≤ rt p x l * (y - x) ∧ rt p x l * (y - x) ≤ 109951162777600000) ∧ (0 ≤ tot p a x l ∧ tot p a x l ≤ 109951162777600000) ∧ (0 ≤ rt p x l ∧ rt p x l ≤ 100000) ∧ (0 ≤ x ∧ x ≤ 1099511627776) := by
  obtain ⟨h1, h2, h3, h4⟩ := h.step hi hj
  have e := tot_same h2 hm h4
  have b1 := tot_bnd (p := p) (show 0 ≤ x by omega) h2 (by omega) hm
  have b2 := tot_bnd (p := p) h0 h1 (by omega) hm
  have b3 := rt_bnd (p := p) (x := x) hm
  have hl : (l.length : Int) ≤ 100 := by omega
  rw [e] at b1
  refine ⟨by omega, by omega, by omega, by omega, by omega⟩

set_option maxHeartbeats 4000000 in
theorem total9_any (a : Option Addr) (cp : Nat) (l : List Ct) (p x z : Int) (w : World) (h : Cta w a l) (hn : l.length ≤ 9223372036854775807) :
    Calls Try.prog 10 #[.slice a l.length cp, .int .i64 p, .int .i64 x, .int .i64 z] w fun e w' => e = .returned (.int .i64 (if rightE l = 0 ∧ cn x < cn z then tot p (cn x) (cn z) l else 0)) ∧ Below w.heap.size w w' := by
  have HR := right9_any a cp l w h hn
  have HS : Hid (Cta w a l) := h
  have HE : Hid (rightE l = 0 → l.length ≤ 100 ∧ (∀ c ∈ l, mayC c = true) ∧ ∀ c ∈ l, rt c.p c.f l ≤ 1000) := rightE_ok.mp
  clear h
  have HV : Hid ((rightE l = 0 ∧ cn x < cn z → (if rightE l = 0 ∧ cn x < cn z then tot p (cn x) (cn z) l else 0) = tot p (cn x) (cn z) l) ∧ (¬ (rightE l = 0 ∧ cn x < cn z) → (if rightE l = 0 ∧ cn x < cn z then tot p (cn x) (cn z) l else 0) = 0)) := ⟨fun h => if_pos h, fun h => if_neg h⟩
  generalize (if rightE l = 0 ∧ cn x < cn z then tot p (cn x) (cn z) l else 0) = V at *
  generalize rightE l = E at *
  have HN1 := counted_any x w
  have HN2 := counted_any z w
  have hx := cn_bnd x
  have hz := cn_bnd z
  generalize cn x = X at *
  generalize cn z = Z at *
  go_enter Try.func10, Try.ntmps10
  go_wp2_with fail
  refine HN1.mono ?_
  rintro e w' ⟨rfl, rfl⟩
  clear HN1
  go_wp2_with fail
  refine HN2.mono ?_
  rintro e w'' ⟨rfl, rfl⟩
  clear HN2
  go_wp2_with fail
  refine HR.mono ?_
  rintro e w1 ⟨rfl, hb1⟩
  have HB1 : Hid (Below w''.heap.size w'' w1) := hb1
  clear hb1 HR
  by_cases hE : E = 0
  · obtain ⟨hn2, hm, _⟩ := HE.out hE
    have HM : Hid (∀ c ∈ l, mayC c = true) := hm
    clear hm HE
    subst hE
    by_cases hxz : Z ≤ X
    · have HV2 : Hid (V = 0) := HV.out.2 (by omega)
      clear HV
      go_wp2
      go_ret
      exact ⟨by rw [HV2.out]; rfl, HB1.out⟩
    · have HV2 : Hid (V = tot p X Z l) := HV.out.1 ⟨rfl, by omega⟩
      clear HV
      have HO := ratesOf_any a l.length cp p w1
      go_wp2_with fail
      refine HO.mono ?_
      rintro e w2 ⟨⟨Bl, Bp, rfl, hbl, hbp⟩, hb2⟩
      have HC2 : Hid (Cta w2 a l) := (HS.out.below HB1.out).below hb2
      have HB2 : Hid (Below w''.heap.size w'' w2) := HB1.out.trans (hb2.mono HB1.out.size)
      have HK := marks_any a cp l p X Z w2 HC2.out hn2 (by omega)
      have HL : Hid (w2.cell? ⟨Bl, 0, none⟩ = some (.slice a l.length cp) ∧ w2.cell? ⟨Bp, 0, none⟩ = some (.int .i64 p)) := ⟨hbl, hbp⟩
      clear hb2 HB1 HO hbl hbp
      go_wp2_with fail
      refine HK.mono ?_
      rintro e w3 ⟨g, cap, M, rfl, hmk, hml, hmc, hb3⟩
      have HG : Hid (Stg w3 Bl Bp g a cp l p M) := ⟨pl_cell HL.out.1 hb3, pl_cell HL.out.2 hb3, HC2.out.below hb3, hmc⟩
      have HB3 : Hid (Below w''.heap.size w'' w3) := HB2.out.trans (hb3.mono HB2.out.size)
      have HMK : Hid (MK p X Z l M) := hmk
      have hM1 : 0 < M.length := (List.getElem?_eq_some_iff.mp hmk.first).1
      clear hb3 HK HL HC2 hmc HB2 hmk HS
      have hwl : IntKind.i64.wrap ((M.length : Int) - 1) = (M.length : Int) - 1 := by rw [IntKind.wrap_i64]; omega
      go_wp2_with fail
      go_loopw [11, 36] (fun q i wr => ∃ (k : Nat) (s : Int), k + 1 ≤ M.length ∧ i = .int .i64 k ∧ q = .int .i64 s ∧ Below w3.heap.size w3 wr ∧ Hid (∃ y, M[k]? = some y ∧ s = tot p X y l)) (fun _ i _ => M.length - (intOf i).toNat)
      case atStart => exact ⟨0, 0, by omega, rfl, rfl, Below.refl _ _, (⟨X, HMK.out.first, (tot_self p X l).symm⟩ : ∃ y, M[0]? = some y ∧ 0 = tot p X y l)⟩
      case round =>
        obtain ⟨k, s, hk, rfl, rfl, hbe, HQ⟩ := hrel
        have HBe : Hid (Below w3.heap.size w3 wr) := hbe
        clear hbe
        obtain ⟨y, hy, hs⟩ := HQ.out
        clear HQ
        by_cases hlt : k + 1 < M.length
        · have hlt' : (k : Int) < (M.length : Int) - 1 := by omega
          have hlt2 : (k : Int) < (M.length : Int) := by omega
          have hlt3 : (k : Int) + 1 < (M.length : Int) := by omega
          have hk0 : (0 : Int) ≤ (k : Int) + 1 := by omega
          obtain ⟨u, hu⟩ := pl_get M (k + 1) hlt
          have HSt : Hid (Stg wr Bl Bp g a cp l p M) := HG.out.below HBe.out
          have HRt : Hid (∀ z W, Below wr.heap.size wr W → Calls Try.prog 20 #[.int .i64 z, .pointer (some ⟨Bl, 0, none⟩), .pointer (some ⟨Bp, 0, none⟩)] W fun e w' => e = .returned (.int .i64 (rt p z l)) ∧ Below W.heap.size W w') := fun z W hb => (HSt.out.below hb).rate HM.out hn2 z
          have c1 := HSt.out.mm k y hy
          have c2 := HSt.out.mm (k + 1) u hu
          have hsb := seg_bnd HMK.out HM.out hn2 hx.1 hz.2 hy hu
          have HT : Hid (∃ y', M[k + 1]? = some y' ∧ s + rt p y l * (u - y) = tot p X y' l) := ⟨u, hu, by rw [hs]; exact HMK.out.total HM.out hy hu⟩
          rw [← hs] at hsb
          have HB4 : Hid (∀ W, Below wr.heap.size wr W → Below w3.heap.size w3 W) := fun W hb => HBe.out.trans (hb.mono HBe.out.size)
          clear hy hu hs HBe
          obtain ⟨⟨b1, b2⟩, ⟨b3, b4⟩, ⟨b5, b6⟩, ⟨b7, b8⟩, b9, b10⟩ := hsb
          have hw1 : IntKind.i64.wrap (u - y) = u - y := by rw [IntKind.wrap_i64]; omega
          have hw2 : IntKind.i64.wrap (rt p y l * (u - y)) = rt p y l * (u - y) := by rw [IntKind.wrap_i64]; omega
          have hw3 : IntKind.i64.wrap (s + rt p y l * (u - y)) = s + rt p y l * (u - y) := by rw [IntKind.wrap_i64]; omega
          have hw4 : IntKind.i64.wrap ((k : Int) + 1) = (k : Int) + 1 := by rw [IntKind.wrap_i64]; omega
          have hlt4 : (k : Int) + 1 < (M.length : Int) := by omega
          have hk00 : (0 : Int) ≤ (k : Int) := by omega
          have hk01 : (0 : Int) ≤ (k : Int) + 1 := by omega
          clear b1 b2 b3 b4 b5 b6 b7 b8 b9 b10 hk0 hlt3
          go_wp2_with fail
          go_region_held3 (fun V => V.cell? ⟨g, k, none⟩ = some (.int .i64 y) ∧ V.cell? ⟨g, k + 1, none⟩ = some (.int .i64 u) ∧ Below wr.heap.size wr V)
            (first | (exact ⟨d1, d2, hV4⟩) | (exact ⟨c1, c2, Below.refl _ _⟩) | (exact ⟨c1, c2, (Below.refl _ _).drew⟩))
            (first
              | (go_at_call 20
                 refine (HRt.out _ _ (Below.refl _ _).drew).mono ?_
                 rintro e w4 ⟨rfl, hb4⟩
                 have hV4 : Below wr.heap.size wr w4 := (Below.refl _ _).drew.trans hb4
                 have d1 := pl_cell c1 hV4
                 have d2 := pl_cell c2 hV4
                 clear hb4))
          all_goals (
            have HB5 : Hid (Below w3.heap.size w3 w4) := HB4.out _ hV4
            clear c1 c2 d1 d2 HRt hV4 HB4 HSt
            go_wp2
            go_roundw
            case rel => exact ⟨k + 1, s + rt p y l * (u - y), by omega, by go_num, by first | rfl | simp, HB5.out, HT⟩
            case measure => simp [intOf]; omega)
        · have hkn : ¬ (k : Int) < (M.length : Int) - 1 := by omega
          have HV3 : Hid (V = s) := by
            show V = s
            have h1 := HMK.out.last (k := k) (by omega)
            rw [hy] at h1; cases h1
            rw [HV2.out, hs]
          have HB5 : Hid (Below w''.heap.size w'' wr) := HB3.out.trans (HBe.out.mono HB3.out.size)
          clear hy hs
          go_wp2
          go_ret
          exact ⟨by rw [HV3.out]; rfl, HB5.out⟩
  · have HV2 : Hid (V = 0) := HV.out.2 (fun h => hE h.1)
    clear HV
    go_wp2
    go_ret
    exact ⟨by rw [HV2.out]; rfl, HB1.out⟩

end Go.Proofs.Ytjolflpmeodnaai
