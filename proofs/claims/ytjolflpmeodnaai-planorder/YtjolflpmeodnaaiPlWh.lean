import Derived.Test.YtjolflpmeodnaaiPlTo
import Derived.Deep.RegionHeld3
namespace Go.Proofs.Ytjolflpmeodnaai
set_option linter.unusedVariables false
open Go.RowKit

/-- What When answers, of whatever list. -/
def WnP (p a m : Int) (l : List Ct) (E t : Int) : Prop := (E ≠ 0 → t = -1) ∧ (E = 0 → (m < 1 → t = a) ∧ (1 ≤ m → WR p a m l t))

set_option maxHeartbeats 4000000 in
theorem when9_any (a : Option Addr) (cp : Nat) (l : List Ct) (p x m : Int) (w : World) (h : Cta w a l) (hn : l.length ≤ 9223372036854775807) (hm2 : m ≤ 9223372036854775807) :
    Calls Try.prog 13 #[.slice a l.length cp, .int .i64 p, .int .i64 x, .int .i64 m] w fun e w' => (∃ t, e = .returned (.int .i64 t) ∧ WnP p (cn x) m l (rightE l) t) ∧ Below w.heap.size w w' := by
  have HR := right9_any a cp l w h hn
  have HS : Hid (Cta w a l) := h
  have HE : Hid (rightE l = 0 → l.length ≤ 100 ∧ (∀ c ∈ l, mayC c = true) ∧ ∀ c ∈ l, rt c.p c.f l ≤ 1000) := rightE_ok.mp
  clear h
  have HN0 := fun w => counted_any x w
  have hx := cn_bnd x
  generalize cn x = X at *
  generalize rightE l = E at *
  go_enter Try.func13, Try.ntmps13
  go_wp2_with fail
  refine HR.mono ?_
  rintro e w1 ⟨rfl, hb1⟩
  have HB1 : Hid (Below w.heap.size w w1) := hb1
  clear hb1 HR
  by_cases hE : E = 0
  · obtain ⟨hn2, hm, _⟩ := HE.out hE
    have HM : Hid (∀ c ∈ l, mayC c = true) := hm
    clear hm HE
    subst hE
    have HN := HN0 w1
    clear HN0
    go_wp2_with fail
    refine HN.mono ?_
    rintro e w1' ⟨rfl, rfl⟩
    clear HN
    by_cases hm1 : m < 1
    · go_wp2
      go_ret
      exact ⟨⟨X, rfl, ⟨fun h => absurd rfl h, fun _ => ⟨fun _ => rfl, fun h => by omega⟩⟩⟩, HB1.out⟩
    · have HO := ratesOf_any a l.length cp p w1'
      go_wp2_with fail
      refine HO.mono ?_
      rintro e w2 ⟨⟨Bl, Bp, rfl, hbl, hbp⟩, hb2⟩
      have HC2 : Hid (Cta w2 a l) := (HS.out.below HB1.out).below hb2
      have HB2 : Hid (Below w.heap.size w w2) := HB1.out.trans (hb2.mono HB1.out.size)
      have HK := marks_any a cp l p X 1099511627776 w2 HC2.out hn2 hx.2
      have HL : Hid (w2.cell? ⟨Bl, 0, none⟩ = some (.slice a l.length cp) ∧ w2.cell? ⟨Bp, 0, none⟩ = some (.int .i64 p)) := ⟨hbl, hbp⟩
      clear hb2 HB1 HO hbl hbp
      go_wp2_with fail
      refine HK.mono ?_
      rintro e w3 ⟨g, cap, M, rfl, hmk, hml, hmc, hb3⟩
      have HG : Hid (Stg w3 Bl Bp g a cp l p M) := ⟨pl_cell HL.out.1 hb3, pl_cell HL.out.2 hb3, HC2.out.below hb3, hmc⟩
      have HB3 : Hid (Below w.heap.size w w3) := HB2.out.trans (hb3.mono HB2.out.size)
      have HMK : Hid (MK p X 1099511627776 l M) := hmk
      have hM1 : 0 < M.length := (List.getElem?_eq_some_iff.mp hmk.first).1
      clear hb3 HK HL HC2 hmc HB2 hmk HS
      have hwl : IntKind.i64.wrap ((M.length : Int) - 1) = (M.length : Int) - 1 := by rw [IntKind.wrap_i64]; omega
      go_wp2_with fail
      go_loopw [3, 32] (fun q i wr => ∃ (k : Nat) (s : Int), k + 1 ≤ M.length ∧ i = .int .i64 k ∧ q = .int .i64 s ∧ Below w3.heap.size w3 wr ∧ 1 ≤ s ∧ s ≤ m ∧ Hid (∃ y, M[k]? = some y ∧ s = m - tot p X y l)) (fun _ i _ => M.length - (intOf i).toNat)
      case atStart => exact ⟨0, m, by omega, rfl, rfl, Below.refl _ _, by omega, by omega, (⟨X, HMK.out.first, by rw [tot_self]; omega⟩ : ∃ y, M[0]? = some y ∧ m = m - tot p X y l)⟩
      case round =>
        obtain ⟨k, s, hk, rfl, rfl, hbe, hs1, hs2, HQ⟩ := hrel
        have HBe : Hid (Below w3.heap.size w3 wr) := hbe
        clear hbe
        obtain ⟨y, hy, hs⟩ := HQ.out
        clear HQ
        by_cases hlt : k + 1 < M.length
        · have hlt' : (k : Int) < (M.length : Int) - 1 := by omega
          have hlt2 : (k : Int) < (M.length : Int) := by omega
          obtain ⟨u, hu⟩ := pl_get M (k + 1) hlt
          have HSt : Hid (Stg wr Bl Bp g a cp l p M) := HG.out.below HBe.out
          have HRt : Hid (∀ z W, Below wr.heap.size wr W → Calls Try.prog 20 #[.int .i64 z, .pointer (some ⟨Bl, 0, none⟩), .pointer (some ⟨Bp, 0, none⟩)] W fun e w' => e = .returned (.int .i64 (rt p z l)) ∧ Below W.heap.size W w') := fun z W hb => (HSt.out.below hb).rate HM.out hn2 z
          have c1 := HSt.out.mm k y hy
          have c2 := HSt.out.mm (k + 1) u hu
          have hsb := seg_bnd HMK.out HM.out hn2 hx.1 (by omega) hy hu
          have HT : Hid (¬ s ≤ rt p y l * (u - y) → ∃ y', M[k + 1]? = some y' ∧ s - rt p y l * (u - y) = m - tot p X y' l) := fun _ => ⟨u, hu, by have := HMK.out.total HM.out hy hu; omega⟩
          have HW : Hid (s ≤ rt p y l * (u - y) → 0 < rt p y l ∧ WR p X m l (y + (s - 1) / rt p y l)) := fun hle => by
            have := HMK.out.when (m := m) HM.out hy hu (by omega) (by omega)
            rw [← hs] at this
            exact this
          have HB4 : Hid (∀ W, Below wr.heap.size wr W → Below w3.heap.size w3 W) := fun W hb => HBe.out.trans (hb.mono HBe.out.size)
          clear hy hu hs HBe
          obtain ⟨⟨b1, b2⟩, ⟨b3, b4⟩, ⟨b5, b6⟩, ⟨b7, b8⟩, b9, b10⟩ := hsb
          have hw1 : IntKind.i64.wrap (u - y) = u - y := by rw [IntKind.wrap_i64]; omega
          have hw2 : IntKind.i64.wrap (rt p y l * (u - y)) = rt p y l * (u - y) := by rw [IntKind.wrap_i64]; omega
          have hw4 : IntKind.i64.wrap ((k : Int) + 1) = (k : Int) + 1 := by rw [IntKind.wrap_i64]; omega
          have hlt4 : (k : Int) + 1 < (M.length : Int) := by omega
          have hk00 : (0 : Int) ≤ (k : Int) := by omega
          have hk01 : (0 : Int) ≤ (k : Int) + 1 := by omega
          clear b5 b6
          go_wp2_with fail
          go_region_held3 (fun V => V.cell? ⟨g, k, none⟩ = some (.int .i64 y) ∧ V.cell? ⟨g, k + 1, none⟩ = some (.int .i64 u) ∧ Below wr.heap.size wr V)
            (first | (exact ⟨d1, d2, hV4⟩) | (exact ⟨c1, c2, Below.refl _ _⟩) | (exact ⟨c1, c2, (Below.refl _ _).drew⟩))
            (first
              | (go_at_call 20
                 refine (HRt.out _ _ (Below.refl _ _).drew).mono ?_
                 rintro e w4 ⟨rfl, hb4⟩
                 have hV4 : Below wr.heap.size wr w4 := (Below.refl _ _).drew.trans hb4
                 have d1 := pl_cell c1 hV4
                 have d2 := pl_cell c2 hV4
                 clear hb4))
          all_goals (
            have HB5 : Hid (Below w3.heap.size w3 w4) := HB4.out _ hV4
            have HB6 : Hid (Below w.heap.size w w4) := HB3.out.trans (HB5.out.mono HB3.out.size)
            clear c1 c2 d2 HRt hV4 HB4 HSt
            generalize rt p y l = R at *
            by_cases hle : s ≤ R * (u - y)
            · obtain ⟨hr0, hwr⟩ := HW.out hle
              have hrn : ¬ R = 0 := by omega
              have hq : Int.tdiv (s - 1) R = (s - 1) / R := Int.tdiv_eq_ediv_of_nonneg (by omega)
              have hq0 : 0 ≤ (s - 1) / R := Int.ediv_nonneg (by omega) (by omega)
              have hq1 : (s - 1) / R ≤ s - 1 := Int.ediv_le_self _ (by omega)
              have hq2 : y + (s - 1) / R ≤ 1099511627776 := by rcases hwr with ⟨h, _⟩ | ⟨_, h, _⟩ <;> omega
              have HWr : Hid (WR p X m l (y + (s - 1) / R)) := hwr
              have hw5 : IntKind.i64.wrap (s - 1) = s - 1 := by rw [IntKind.wrap_i64]; omega
              have hw6 : IntKind.i64.wrap ((s - 1) / R) = (s - 1) / R := by rw [IntKind.wrap_i64]; omega
              have hw7 : IntKind.i64.wrap (y + (s - 1) / R) = y + (s - 1) / R := by rw [IntKind.wrap_i64]; omega
              clear HW HT hwr hq2
              generalize (s - 1) / R = q at *
              go_wp2_with fail
              go_region
              all_goals (
                go_wp2
                go_ret
                exact ⟨⟨y + q, by first | rfl | simp [hq, hw5, hw6, hw7, Act.put], ⟨fun h => absurd rfl h, fun _ => ⟨fun h => by omega, fun _ => HWr.out⟩⟩⟩, HB6.out.drew⟩)
            · have HT2 : Hid (∃ y', M[k + 1]? = some y' ∧ s - R * (u - y) = m - tot p X y' l) := HT.out (by omega)
              have hw5 : IntKind.i64.wrap (s - R * (u - y)) = s - R * (u - y) := by rw [IntKind.wrap_i64]; omega
              have hs3 : 1 ≤ s - R * (u - y) ∧ s - R * (u - y) ≤ m := by omega
              clear HW HT d1
              go_wp2
              go_roundw
              case rel => exact ⟨k + 1, s - R * (u - y), by omega, by go_num, by simp, HB5.out, hs3.1, hs3.2, HT2⟩
              case measure => simp [intOf]; omega)
        · have hkn : ¬ (k : Int) < (M.length : Int) - 1 := by omega
          have HW : Hid (WR p X m l (-1)) := by
            have h1 := HMK.out.last (k := k) (by omega)
            rw [hy] at h1; cases h1
            exact .inl ⟨rfl, by omega⟩
          have HB5 : Hid (Below w.heap.size w wr) := HB3.out.trans (HBe.out.mono HB3.out.size)
          clear hy hs
          go_wp2
          go_ret
          exact ⟨⟨-1, rfl, ⟨fun h => absurd rfl h, fun _ => ⟨fun h => by omega, fun _ => HW.out⟩⟩⟩, HB5.out⟩
  · go_wp2
    go_ret
    exact ⟨⟨-1, rfl, ⟨fun _ => rfl, fun h => absurd h hE⟩⟩, HB1.out⟩

end Go.Proofs.Ytjolflpmeodnaai
