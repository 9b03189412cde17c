import Derived.Test.YtjolflpmeodnaahPlEd
namespace Go.Proofs.Ytjolflpmeodnaah
set_option linter.unusedVariables false
open Go.RowKit

theorem r2_cn_of {x : Int} (h0 : 0 ≤ x) (h1 : x ≤ 1099511627776) : cn x = x := by unfold cn; omega

/-- Where so many have gone, within ticks of one rate. -/
theorem calm_when {p a m x y : Int} {l : List Ct} (hm : ∀ c ∈ l, mayC c = true) (hax : a ≤ x) (hxy : x ≤ y) (hy : y ≤ 1099511627776) (hc : Calm p x y l)
    (h1 : tot p a x l < m) (h2 : m - tot p a x l ≤ rt p x l * (y - x)) : 0 < rt p x l ∧ WR p a m l (x + (m - tot p a x l - 1) / rt p x l) := by
  have hr := (rt_bnd (p := p) (x := x) hm).1
  have hr1 : 0 < rt p x l := by
    rcases Int.lt_or_le 0 (rt p x l) with h3 | h3
    · exact h3
    · have : rt p x l = 0 := by omega
      rw [this, Int.zero_mul] at h2; omega
  refine ⟨hr1, .inr ?_⟩
  generalize hk : m - tot p a x l - 1 = k at *
  have hk0 : 0 ≤ k := by omega
  generalize hq : k / rt p x l = q
  have hq0 : 0 ≤ q := by rw [← hq]; exact Int.ediv_nonneg hk0 (by omega)
  have hq1 : rt p x l * q ≤ k := by rw [← hq]; exact Int.mul_ediv_self_le (by omega)
  have hq2 : k < rt p x l * (q + 1) := by
    rw [← hq, Int.mul_add, Int.mul_one]; exact Int.lt_mul_ediv_self_add hr1
  have hq3 : q < y - x := by
    rcases Int.lt_or_le q (y - x) with h4 | h4
    · exact h4
    · have : rt p x l * (y - x) ≤ rt p x l * q := Int.mul_le_mul_of_nonneg_left h4 (by omega)
      omega
  have e1 : tot p x (x + q) l = rt p x l * q := by
    rw [tot_same (by omega) hm (hc.sub (Int.le_refl _) (by omega))]
    congr 1; omega
  have e2 : tot p x (x + q + 1) l = rt p x l * (q + 1) := by
    rw [tot_same (by omega) hm (hc.sub (Int.le_refl _) (by omega))]
    congr 1; omega
  have f1 := tot_add (p := p) hax (show x ≤ x + q by omega) l
  have f2 := tot_add (p := p) hax (show x ≤ x + q + 1 by omega) l
  exact ⟨by omega, by omega, by omega, by omega⟩

theorem pt_bnd2 {p a b : Int} {c : Ct} (h : mayC c = true) (h0 : 0 ≤ a) (hb : b ≤ 1099511627776) : 0 ≤ pt p a b c ∧ pt p a b c ≤ 1099511627776000 := by
  have h' := mayC_iff.mp h
  unfold pt
  split
  · have h1 : 0 ≤ ov c a b ∧ ov c a b ≤ 1099511627776 := by unfold ov; omega
    refine ⟨Int.mul_nonneg h1.1 (by omega), ?_⟩
    calc ov c a b * c.r ≤ 1099511627776 * c.r := Int.mul_le_mul_of_nonneg_right h1.2 (by omega)
      _ ≤ 1099511627776 * 1000 := Int.mul_le_mul_of_nonneg_left (by omega) (by omega)
  · omega
theorem tot_rev {p a b : Int} (h : b ≤ a) : ∀ {l : List Ct}, (∀ c ∈ l, mayC c = true) → tot p a b l = 0
  | [], _ => rfl
  | c :: l, hm => by
    have h1 := tot_rev (p := p) h (l := l) (fun d hd => hm d (by simp [hd]))
    have h2 := mayC_iff.mp (hm c (by simp))
    simp only [tot, h1, pt]
    split
    · have : ov c a b = 0 := by unfold ov; omega
      rw [this]; simp
    · rfl
theorem tot_drop {p a b : Int} {l : List Ct} {k : Nat} {c : Ct} (h : l[k]? = some c) : tot p a b (l.drop k) = pt p a b c + tot p a b (l.drop (k + 1)) := by
  rw [pl_drop l k c h]; rfl

set_option maxHeartbeats 2000000 in
theorem rateR_any (a : Option Addr) (cp : Nat) (l : List Ct) (p x : Int) (w : World) (h : Cta w a l) (hn : l.length ≤ 9223372036854775807) :
    Calls Try.prog 11 #[.slice a l.length cp, .int .i64 p, .int .i64 x] w fun e w' => e = .returned (.int .i64 (if rightE l = 0 then rt p (cn x) l else 0)) ∧ Below w.heap.size w w' := by
  have HR := right2_any a cp l w h hn
  have HS : Hid (Cta w a l) := h
  have HE : Hid (rightE l = 0 → l.length ≤ 100 ∧ (∀ c ∈ l, mayC c = true) ∧ ∀ c ∈ l, rt c.p c.f l ≤ 1000) := rightE_ok.mp
  clear h
  have HV : Hid ((rightE l = 0 → (if rightE l = 0 then rt p (cn x) l else 0) = rt p (cn x) l) ∧ (rightE l ≠ 0 → (if rightE l = 0 then rt p (cn x) l else 0) = 0)) := ⟨fun h => if_pos h, fun h => if_neg h⟩
  generalize (if rightE l = 0 then rt p (cn x) l else 0) = V at *
  generalize rightE l = E at *
  have HN := fun w => tick2_any x w
  go_enter Try.func11, Try.ntmps11
  go_wp2_with fail
  refine HR.mono ?_
  rintro e w1 ⟨rfl, hb1⟩
  have HB1 : Hid (Below w.heap.size w w1) := hb1
  clear hb1 HR
  by_cases hE : E = 0
  · obtain ⟨hn2, hm, _⟩ := HE.out hE
    have HM : Hid (∀ c ∈ l, mayC c = true) := hm
    clear hm HE
    subst hE
    have HV2 : Hid (V = rt p (cn x) l) := HV.out.1 rfl
    have HC := rate2_any a cp l p (cn x) w1 (HS.out.below HB1.out) HM.out hn2
    clear HV
    generalize rt p (cn x) l = R at *
    generalize cn x = X at *
    go_wp2_with fail
    refine (HN _).mono ?_
    rintro e w2 ⟨rfl, rfl⟩
    clear HN
    go_wp2_with fail
    refine HC.mono ?_
    rintro e w3 ⟨rfl, rfl⟩
    clear HC
    go_wp2
    go_ret
    exact ⟨by rw [HV2.out]; rfl, HB1.out⟩
  · have HV2 : Hid (V = 0) := HV.out.2 hE
    clear HV
    go_wp2
    go_ret
    exact ⟨by rw [HV2.out]; rfl, HB1.out⟩

set_option maxHeartbeats 4000000 in
theorem totalR_any (a : Option Addr) (cp : Nat) (l : List Ct) (p x z : Int) (w : World) (h : Cta w a l) (hn : l.length ≤ 9223372036854775807) :
    Calls Try.prog 13 #[.slice a l.length cp, .int .i64 p, .int .i64 x, .int .i64 z] w fun e w' => e = .returned (.int .i64 (if rightE l = 0 ∧ cn x < cn z then tot p (cn x) (cn z) l else 0)) ∧ Below w.heap.size w w' := by
  have HR := right2_any a cp l w h hn
  have HS : Hid (Cta w a l) := h
  have HE : Hid (rightE l = 0 → l.length ≤ 100 ∧ (∀ c ∈ l, mayC c = true) ∧ ∀ c ∈ l, rt c.p c.f l ≤ 1000) := rightE_ok.mp
  clear h
  have HV : Hid ((rightE l = 0 → (∀ c ∈ l, mayC c = true) → (if rightE l = 0 ∧ cn x < cn z then tot p (cn x) (cn z) l else 0) = tot p (cn x) (cn z) l) ∧ (rightE l ≠ 0 → (if rightE l = 0 ∧ cn x < cn z then tot p (cn x) (cn z) l else 0) = 0)) := ⟨fun h hm => by
      by_cases h2 : cn x < cn z
      · rw [if_pos ⟨h, h2⟩]
      · rw [if_neg (fun h3 => h2 h3.2), tot_rev (by omega) hm], fun h => if_neg (fun h3 => h h3.1)⟩
  generalize (if rightE l = 0 ∧ cn x < cn z then tot p (cn x) (cn z) l else 0) = V at *
  generalize rightE l = E at *
  have HN1 := fun w => tick2_any x w
  have HN2 := fun w => tick2_any z w
  have hx := cn_bnd x
  have hz := cn_bnd z
  generalize cn x = X at *
  generalize cn z = Z at *
  go_enter Try.func13, Try.ntmps13
  go_wp2_with fail
  refine HR.mono ?_
  rintro e w1 ⟨rfl, hb1⟩
  have HB1 : Hid (Below w.heap.size w w1) := hb1
  clear hb1 HR
  by_cases hE : E = 0
  · obtain ⟨hn2, hm, _⟩ := HE.out hE
    have HM : Hid (∀ c ∈ l, mayC c = true) := hm
    subst hE
    have HV2 : Hid (V = tot p X Z l) := HV.out.1 rfl hm
    have HC : Hid (Cta w1 a l) := HS.out.below HB1.out
    clear HV hm HE
    go_wp2_with fail
    refine (HN1 _).mono ?_
    rintro e w2 ⟨rfl, rfl⟩
    go_wp2_with fail
    refine (HN2 _).mono ?_
    rintro e w3 ⟨rfl, rfl⟩
    clear HN1 HN2
    go_wp2_with fail
    go_loopw [10, 11] (fun q i wr => ∃ (k : Nat) (s : Int), k ≤ l.length ∧ i = .int .i64 k ∧ q = .int .i64 s ∧ 0 ≤ s ∧ s ≤ 1099511627776000 * k ∧ wr = w3 ∧ Hid (s + tot p X Z (l.drop k) = V)) (fun _ i _ => l.length - (intOf i).toNat)
    case atStart => exact ⟨0, 0, by omega, rfl, rfl, by omega, by omega, rfl, by rw [HV2.out]; exact Int.zero_add _⟩
    case round =>
      obtain ⟨k, s, hk, rfl, rfl, hs0, hs1, rfl, HQ⟩ := hrel
      by_cases hlt : k < l.length
      · have hlt' : (k : Int) < (l.length : Int) := by omega
        obtain ⟨c, hc⟩ := pl_get l k hlt
        obtain ⟨g, off, rfl, q1, q2, q3, q4⟩ := HC.out.at hc
        have hpb := pt_bnd2 (p := p) (HM.out c (List.mem_of_getElem? hc)) hx.1 hz.2
        have hmc := mayC_iff.mp (HM.out c (List.mem_of_getElem? hc))
        have HQ2 : Hid (s + (pt p X Z c + tot p X Z (l.drop (k + 1))) = V) := by have := HQ.out; rw [tot_drop hc] at this; exact this
        clear hc HQ
        obtain ⟨cp', cf, ct, cr⟩ := c
        simp only at q1 q2 q3 q4 hmc
        obtain ⟨A, hA⟩ : ∃ A, max cf X = A := ⟨_, rfl⟩
        obtain ⟨B, hB⟩ : ∃ B, min ct Z = B := ⟨_, rfl⟩
        by_cases h1 : cp' = p ∧ A < B
        · obtain ⟨h1, h2⟩ := h1
          have hpt : pt p X Z ⟨cp', cf, ct, cr⟩ = (B - A) * cr := by
            unfold pt
            rw [if_pos h1]
            have : ov ⟨cp', cf, ct, cr⟩ X Z = B - A := by unfold ov; simp only; omega
            rw [this]
          rw [hpt] at hpb HQ2
          have HQ3 : Hid (s + (B - A) * cr + tot p X Z (l.drop (k + 1)) = V) := by have := HQ2.out; rw [← this]; exact Int.add_assoc _ _ _
          subst h1
          have hw1 : IntKind.i64.wrap (B - A) = B - A := by rw [IntKind.wrap_i64]; omega
          have hw2 : IntKind.i64.wrap ((B - A) * cr) = (B - A) * cr := by rw [IntKind.wrap_i64]; omega
          have hw3 : IntKind.i64.wrap (s + (B - A) * cr) = s + (B - A) * cr := by rw [IntKind.wrap_i64]; omega
          clear HQ2 hpt
          go_wp2
          go_roundw
          case rel => exact ⟨k + 1, s + (B - A) * cr, by omega, by go_num, by first | rfl | simp, by omega, by omega, by trivial, HQ3⟩
          case measure => simp [intOf]; omega
        · have hpt : pt p X Z ⟨cp', cf, ct, cr⟩ = 0 := by
            unfold pt
            by_cases hp : cp' = p
            · rw [if_pos hp]
              have : ov ⟨cp', cf, ct, cr⟩ X Z = 0 := by unfold ov; simp only; omega
              rw [this]; simp
            · rw [if_neg hp]
          have HQ3 : Hid (s + tot p X Z (l.drop (k + 1)) = V) := by have := HQ2.out; rw [hpt, Int.zero_add] at this; exact this
          clear HQ2 hpt hpb
          by_cases e1 : cp' = p
          · have e2 : ¬ A < B := fun h => h1 ⟨e1, h⟩
            subst e1
            clear h1
            go_wp2
            go_roundw
            case rel => exact ⟨k + 1, s, by omega, by go_num, by go_num, by omega, by omega, by trivial, HQ3⟩
            case measure => simp [intOf]; omega
          · clear h1
            go_wp2
            go_roundw
            case rel => exact ⟨k + 1, s, by omega, by go_num, by go_num, by omega, by omega, by trivial, HQ3⟩
            case measure => simp [intOf]; omega
      · have hkn : k = l.length := by omega
        have HV3 : Hid (s = V) := by have := HQ.out; rw [hkn, List.drop_length] at this; rw [tot, Int.add_zero] at this; exact this
        clear HQ
        subst hkn
        go_wp2
        go_ret
        exact ⟨by rw [HV3.out]; rfl, HB1.out⟩
  · have HV2 : Hid (V = 0) := HV.out.2 hE
    clear HV
    go_wp2
    go_ret
    exact ⟨by rw [HV2.out]; rfl, HB1.out⟩

end Go.Proofs.Ytjolflpmeodnaah
