import Derived.Test.YtjolflpmeodnaahPlR2
namespace Go.Proofs.Ytjolflpmeodnaah
set_option linter.unusedVariables false
open Go.RowKit

set_option maxHeartbeats 4000000 in
theorem nextR_any (a : Option Addr) (cp : Nat) (l : List Ct) (p x : Int) (w : World) (h : Cta w a l) (hn : l.length ≤ 9223372036854775807) :
    Calls Try.prog 12 #[.slice a l.length cp, .int .i64 p, .int .i64 x] w fun e w' => (∃ n, e = .returned (.int .i64 n) ∧ NxP p (cn x) l (rightE l) n) ∧ Below w.heap.size w w' := by
  have HR := right2_any a cp l w h hn
  have HS : Hid (Cta w a l) := h
  have HE : Hid (rightE l = 0 → l.length ≤ 100 ∧ (∀ c ∈ l, mayC c = true) ∧ ∀ c ∈ l, rt c.p c.f l ≤ 1000) := rightE_ok.mp
  clear h
  have HN := fun w => tick2_any x w
  have hx := cn_bnd x
  generalize cn x = X at *
  generalize rightE l = E at *
  go_enter Try.func12, Try.ntmps12
  go_wp2_with fail
  refine HR.mono ?_
  rintro e w1 ⟨rfl, hb1⟩
  have HB1 : Hid (Below w.heap.size w w1) := hb1
  clear hb1 HR
  by_cases hE : E = 0
  · obtain ⟨hn2, hm, _⟩ := HE.out hE
    have HM : Hid (∀ c ∈ l, mayC c = true) := hm
    clear hm HE
    subst hE
    have HC : Hid (Cta w1 a l) := HS.out.below HB1.out
    have HRt : Hid (∀ z, Calls Try.prog 22 #[.slice a l.length cp, .int .i64 p, .int .i64 z] w1 fun e w' => e = .returned (.int .i64 (rt p z l)) ∧ w' = w1) := fun z => rate2_any a cp l p z w1 HC.out HM.out hn2
    have HEd : Hid (∀ z, 0 ≤ z → Calls Try.prog 24 #[.slice a l.length cp, .int .i64 p, .int .i64 z] w1 fun e w' => (∃ o, e = .returned (.int .i64 o) ∧ ED z (edges p l) o) ∧ w' = w1) := fun z hz => edge2_any a cp l p z w1 HC.out hz hn2
    clear HS HC
    go_wp2_with fail
    refine (HN _).mono ?_
    rintro e w2 ⟨rfl, rfl⟩
    clear HN
    go_wp2_with fail
    refine (HRt.out X).mono ?_
    rintro e w3 ⟨rfl, rfl⟩
    go_wp2_with fail
    refine (HEd.out X hx.1).mono ?_
    rintro e w4 ⟨⟨o, rfl, ho⟩, rfl⟩
    have HO : Hid (ED X (edges p l) o) := ho
    clear ho
    go_wp2_with fail
    go_loopg [9] 1099511627777 (fun gx q wr => ∃ (t b : Int), q = .int .i64 t ∧ X ≤ b ∧ b ≤ 1099511627776 ∧ (1099511627776 - b).toNat < gx ∧ wr = w4 ∧ Hid (ED b (edges p l) t ∧ ∀ z, X ≤ z → z ≤ b → rt p z l = rt p X l))
    case atStart => exact ⟨o, X, rfl, Int.le_refl _, hx.2, by omega, rfl, (⟨HO.out, fun z h1 h2 => by rw [show z = X by omega]⟩ : ED X (edges p l) o ∧ ∀ z, X ≤ z → z ≤ X → rt p z l = rt p X l)⟩
    case round =>
      obtain ⟨t, b, rfl, hb1, hb2, hg, rfl, HQ⟩ := hrel
      clear HO
      by_cases ht : 0 ≤ t
      · have hbd := HQ.out.1.bnd HM.out
        have htb : b < t ∧ t ≤ 1099511627776 := by omega
        have HCt : Hid (∀ z, X ≤ z → z < t → rt p z l = rt p X l) := fun z h1 h2 => by
          rcases Int.lt_or_le b z with h3 | h3
          · rw [rt_same (HQ.out.1.calm (by omega)) (show b ≤ z by omega) h2]
            exact HQ.out.2 b hb1 (Int.le_refl _)
          · exact HQ.out.2 z h1 h3
        clear hbd
        have hRt := HRt.out t
        by_cases he : rt p t l = rt p X l
        · have HQ2 : Hid (∀ z, X ≤ z → z ≤ t → rt p z l = rt p X l) := fun z h1 h2 => by
            rcases Int.lt_or_le z t with h3 | h3
            · exact HCt.out z h1 h3
            · rw [show z = t by omega]; exact he
          rw [he] at hRt
          clear HCt HQ he
          generalize rt p X l = r at *
          go_wp2_with fail
          refine hRt.mono ?_
          rintro e w5 ⟨rfl, rfl⟩
          clear hRt
          go_wp2_with fail
          refine (HEd.out t (by omega)).mono ?_
          rintro e w6 ⟨⟨o2, rfl, ho2⟩, rfl⟩
          have HO2 : Hid (ED t (edges p l) o2 ∧ ∀ z, X ≤ z → z ≤ t → rt p z l = r) := ⟨ho2, HQ2.out⟩
          clear ho2 HQ2
          go_wp2
          go_roundg ((1099511627776 - t).toNat + 1)
          case measure => omega
          case rel => exact ⟨o2, t, rfl, by omega, by omega, by omega, by trivial, HO2⟩
        · have HN3 : Hid (NR p X l t) := .inr ⟨by omega, htb.2, he, HCt.out⟩
          clear HCt HQ
          generalize rt p X l = r at *
          generalize rt p t l = s at *
          go_wp2_with fail
          refine hRt.mono ?_
          rintro e w5 ⟨rfl, rfl⟩
          clear hRt
          go_wp2
          go_ret
          exact ⟨⟨t, rfl, ⟨fun h => absurd rfl h, fun _ => HN3.out⟩⟩, HB1.out⟩
      · have htm : t = -1 := by have := HQ.out.1.bnd HM.out; omega
        subst htm
        have HN3 : Hid (NR p X l (-1)) := .inl ⟨rfl, fun z h1 h2 => by
          rcases Int.lt_or_le b z with h3 | h3
          · rw [HQ.out.1.none_rt (by omega) (show b ≤ z by omega), ← HQ.out.2 b hb1 (Int.le_refl _), HQ.out.1.none_rt (by omega) (Int.le_refl _)]
          · exact HQ.out.2 z h1 h3⟩
        clear HQ
        go_wp2
        go_ret
        exact ⟨⟨-1, rfl, ⟨fun h => absurd rfl h, fun _ => HN3.out⟩⟩, HB1.out⟩
  · go_wp2
    go_ret
    exact ⟨⟨-1, rfl, ⟨fun _ => rfl, fun h => absurd h hE⟩⟩, HB1.out⟩

set_option maxHeartbeats 4000000 in
theorem whenR_any (a : Option Addr) (cp : Nat) (l : List Ct) (p x m : Int) (w : World) (h : Cta w a l) (hn : l.length ≤ 9223372036854775807) (hm2 : m ≤ 9223372036854775807) :
    Calls Try.prog 14 #[.slice a l.length cp, .int .i64 p, .int .i64 x, .int .i64 m] w fun e w' => (∃ t, e = .returned (.int .i64 t) ∧ WnP p (cn x) m l (rightE l) t) ∧ Below w.heap.size w w' := by
  have HR := right2_any a cp l w h hn
  have HS : Hid (Cta w a l) := h
  have HE : Hid (rightE l = 0 → l.length ≤ 100 ∧ (∀ c ∈ l, mayC c = true) ∧ ∀ c ∈ l, rt c.p c.f l ≤ 1000) := rightE_ok.mp
  clear h
  have HN := fun w => tick2_any x w
  have hx := cn_bnd x
  generalize cn x = X at *
  generalize rightE l = E at *
  go_enter Try.func14, Try.ntmps14
  go_wp2_with fail
  refine HR.mono ?_
  rintro e w1 ⟨rfl, hb1⟩
  have HB1 : Hid (Below w.heap.size w w1) := hb1
  clear hb1 HR
  by_cases hE : E = 0
  · obtain ⟨hn2, hm, _⟩ := HE.out hE
    have HM : Hid (∀ c ∈ l, mayC c = true) := hm
    have hl100 : (l.length : Int) ≤ 100 := by omega
    clear hm HE
    subst hE
    have HC : Hid (Cta w1 a l) := HS.out.below HB1.out
    have HRt : Hid (∀ z, Calls Try.prog 22 #[.slice a l.length cp, .int .i64 p, .int .i64 z] w1 fun e w' => e = .returned (.int .i64 (rt p z l)) ∧ w' = w1) := fun z => rate2_any a cp l p z w1 HC.out HM.out hn2
    have HEd : Hid (∀ z, 0 ≤ z → Calls Try.prog 24 #[.slice a l.length cp, .int .i64 p, .int .i64 z] w1 fun e w' => (∃ o, e = .returned (.int .i64 o) ∧ ED z (edges p l) o) ∧ w' = w1) := fun z hz => edge2_any a cp l p z w1 HC.out hz hn2
    clear HS HC
    go_wp2_with fail
    refine (HN _).mono ?_
    rintro e w2 ⟨rfl, rfl⟩
    clear HN
    by_cases hm1 : m < 1
    · go_wp2
      go_ret
      exact ⟨⟨X, rfl, ⟨fun h => absurd rfl h, fun _ => ⟨fun _ => rfl, fun h => by omega⟩⟩⟩, HB1.out⟩
    · go_wp2_with fail
      go_loopg [3, 10] 1099511627777 (fun gx q i wr => ∃ (s b : Int), q = .int .i64 s ∧ i = .int .i64 b ∧ X ≤ b ∧ b ≤ 1099511627776 ∧ (1099511627776 - b).toNat < gx ∧ 1 ≤ s ∧ s ≤ m ∧ wr = w2 ∧ Hid (s = m - tot p X b l))
      case atStart => exact ⟨m, X, rfl, rfl, Int.le_refl _, hx.2, by omega, by omega, by omega, rfl, by show m = _; rw [tot_self]; omega⟩
      case round =>
        obtain ⟨s, b, rfl, rfl, hb1, hb2, hg, hs1, hs2, rfl, HQ⟩ := hrel
        have hRt := HRt.out b
        go_wp2_with fail
        refine hRt.mono ?_
        rintro e w5 ⟨rfl, rfl⟩
        clear hRt
        go_wp2_with fail
        refine (HEd.out b (by omega)).mono ?_
        rintro e w6 ⟨⟨t, rfl, ht⟩, rfl⟩
        have HO : Hid (ED b (edges p l) t) := ht
        clear ht
        rcases HO.out.bnd HM.out with htm | ⟨ht1, ht2⟩
        · subst htm
          have HW : Hid (WR p X m l (-1)) := by
            refine .inl ⟨rfl, ?_⟩
            have h1 := tot_add (p := p) hb1 hb2 l
            have h2 : tot p b 1099511627776 l = 0 := by
              have h3 : Calm p b 1099511627776 l := fun c hc hp => by
                rcases HO.out with ⟨_, h4⟩ | ⟨h4, _⟩
                · have := h4 _ (edges_mem hc hp).1; have := h4 _ (edges_mem hc hp).2; omega
                · omega
              rw [tot_same hb2 HM.out h3, HO.out.none_rt (by omega) (Int.le_refl _)]; simp
            have := HQ.out
            omega
          clear HQ HO
          generalize rt p b l = r at *
          go_wp2
          go_ret
          exact ⟨⟨-1, rfl, ⟨fun h => absurd rfl h, fun _ => ⟨fun h => by omega, fun _ => HW.out⟩⟩⟩, HB1.out⟩
        · have ht0 : ¬ t < 0 := by omega
          have hcl := HO.out.calm (by omega)
          have hts := tot_same (p := p) (show b ≤ t by omega) HM.out hcl
          have htb := tot_bnd (p := p) (show 0 ≤ b by omega) (show b ≤ t by omega) ht2 HM.out
          have hta := tot_add (p := p) hb1 (show b ≤ t by omega) l
          have hrb := rt_bnd (p := p) (x := b) HM.out
          rw [hts] at htb hta
          have HW : Hid (s ≤ rt p b l * (t - b) → 0 < rt p b l ∧ WR p X m l (b + (s - 1) / rt p b l)) := fun hle => by
            have hq := HQ.out
            have := calm_when (m := m) HM.out hb1 (show b ≤ t by omega) ht2 hcl (by omega) (by omega)
            rw [← hq] at this
            exact this
          have HQ2 : Hid (s - rt p b l * (t - b) = m - tot p X t l) := by show _ = _; have := HQ.out; omega
          have hw1 : IntKind.i64.wrap (t - b) = t - b := by rw [IntKind.wrap_i64]; omega
          have hw2 : IntKind.i64.wrap (rt p b l * (t - b)) = rt p b l * (t - b) := by rw [IntKind.wrap_i64]; omega
          clear HQ HO hts hta hcl
          generalize rt p b l = R at *
          by_cases hle : s ≤ R * (t - b)
          · obtain ⟨hr0, hwr⟩ := HW.out hle
            have hrn : ¬ R = 0 := by omega
            have hq : Int.tdiv (s - 1) R = (s - 1) / R := Int.tdiv_eq_ediv_of_nonneg (by omega)
            have hq0 : 0 ≤ (s - 1) / R := Int.ediv_nonneg (by omega) (by omega)
            have hq1 : (s - 1) / R ≤ s - 1 := Int.ediv_le_self _ (by omega)
            have hq2 : b + (s - 1) / R ≤ 1099511627776 := by rcases hwr with ⟨h, _⟩ | ⟨_, h, _⟩ <;> omega
            have HWr : Hid (WR p X m l (b + (s - 1) / R)) := hwr
            have hw5 : IntKind.i64.wrap (s - 1) = s - 1 := by rw [IntKind.wrap_i64]; omega
            have hw6 : IntKind.i64.wrap ((s - 1) / R) = (s - 1) / R := by rw [IntKind.wrap_i64]; omega
            have hw7 : IntKind.i64.wrap (b + (s - 1) / R) = b + (s - 1) / R := by rw [IntKind.wrap_i64]; omega
            clear HW hwr hq2 HQ2
            generalize (s - 1) / R = q at *
            go_wp2
            go_ret
            exact ⟨⟨b + q, by first | rfl | simp [hq, hw5, hw6, hw7], ⟨fun h => absurd rfl h, fun _ => ⟨fun h => by omega, fun _ => HWr.out⟩⟩⟩, HB1.out⟩
          · have hw5 : IntKind.i64.wrap (s - R * (t - b)) = s - R * (t - b) := by rw [IntKind.wrap_i64]; omega
            have hs3 : 1 ≤ s - R * (t - b) ∧ s - R * (t - b) ≤ m := by omega
            clear HW
            go_wp2
            go_roundg ((1099511627776 - t).toNat + 1)
            case measure => omega
            case rel => exact ⟨s - R * (t - b), t, by first | rfl | simp, rfl, by omega, ht2, by omega, hs3.1, hs3.2, by trivial, HQ2⟩
  · go_wp2
    go_ret
    exact ⟨⟨-1, rfl, ⟨fun _ => rfl, fun h => absurd h hE⟩⟩, HB1.out⟩

end Go.Proofs.Ytjolflpmeodnaah
