import Derived.Test.YtbehliigemoblabAwake
import Derived.Test.YtbehliigemoblabRisesMath
import Derived.Deep.QuietTactic
import Derived.BigQuiet
namespace Go.Proofs.Ytbehliigemoblab
open Go.RowKit

theorem kept_cells {w w' : World} {base n cap g : Nat} {xs : List Int} {e : TypeId} (hb : Below w.heap.size w w') (h : w.ownsRow base e 1 (.slice (some ⟨g, 0, none⟩) n cap) n (xs.map (Value.int .u8))) (hl : xs.length = n) :
    ∀ i, i < n → w'.cell? ⟨g, 0 + i, none⟩ = some (.int .u8 (xs.getD i 0)) := by
  intro i hi
  rw [hb.cell (p := ⟨g, 0 + i, none⟩) (owned_below h).2]
  exact owned_cell h hl i hi

set_option maxHeartbeats 1000000 in
theorem rises_gt (a b : Int) (w : World) (ha0 : 0 ≤ a) (ha1 : a ≤ 18446744073709551615) (hb0 : 0 ≤ b) (hb1 : b ≤ 18446744073709551615) (hab : b < a) :
    Calls Try.prog 3 #[.int .u64 a, .int .u64 b] w fun e w' => e = .returned (.bool true) ∧ Below w.heap.size w w' := by
  obtain ⟨s1, s2, s3, s4⟩ := sz_bounds b (by omega) (by omega)
  obtain ⟨t1, t2, t3, t4⟩ := sz_bounds a (by omega) (by omega)
  clear s3 s4 t3 t4
  have hm := sz_mono b a (by omega) (by omega) (by omega)
  have HA : Hid ((enc b).length = sz b) := enc_length b (by omega) (by omega)
  have HB : Hid ((enc a).length = sz a) := enc_length a (by omega) (by omega)
  have q1 : decide ((sz b : Int) < 1) = false := by simp; omega
  have q2 : decide (10 < (sz a : Int)) = false := by simp; omega
  have q3 : decide ((sz a : Int) < (sz b : Int)) = false := decide_eq_false (by omega)
  go_enter Try.func3, Try.ntmps3
  go_wp2_with fail
  refine (awake_any _).mono ?_
  rintro e w1 ⟨rfl, hb1⟩
  go_wp2_with fail
  refine (bytes_any b w1 (by omega) (by omega)).mono ?_
  rintro e w2 ⟨g, cap, rfl, hx, hb2⟩
  go_wp2_with fail
  refine (bytes_any a w2 (by omega) (by omega)).mono ?_
  rintro e w3 ⟨g', cap', rfl, hy, hb3⟩
  have hxc := kept_cells hb3 hx HA.out
  have hyc := owned_cell hy HB.out
  have HBel : Hid (Below w.heap.size w w3) := (hb1.trans (hb2.mono hb1.size)).trans (hb3.mono (Nat.le_trans hb1.size hb2.size))
  clear hb1 hb2 hb3 hx hy
  go_wp2_with fail
  refine (size_any b _ (by omega) (by omega)).mono ?_
  rintro e w' ⟨rfl, rfl⟩
  go_wp2_with fail
  refine (size_any a _ (by omega) (by omega)).mono ?_
  rintro e w' ⟨rfl, rfl⟩
  go_wp2_with fail
  go_loopw [10] (fun i wr => ∃ k nd : Nat, k ≤ sz b ∧ i = .int .i64 k ∧ wr = w3.drewN nd ∧ ∀ j, j < k → (enc b).getD j 0 = (enc a).getD j 0) (fun i _ => sz b - (intOf i).toNat)
  case atStart => exact ⟨0, 0, Nat.zero_le _, rfl, rfl, fun j hj => by omega⟩
  case round =>
    obtain ⟨k, nd, hk, rfl, rfl, hj⟩ := hrel
    have HJ : Hid (∀ j, j < k → (enc b).getD j 0 = (enc a).getD j 0) := hj
    clear hj
    by_cases hlt : k < sz b
    · have c1 := hxc k hlt
      have c2 := hyc k (by omega)
      simp only [Nat.zero_add] at c1 c2
      have i1 : (k : Int) < (sz b : Int) := by omega
      have i2 : (k : Int) < (sz a : Int) := by omega
      have HX : Hid ((enc b).getD k 0 ≠ (enc a).getD k 0 → sz b = sz a → (enc b).getD k 0 < (enc a).getD k 0) := fun hne hs => enc_less b a (by omega) (by omega) (by omega) hs k hlt HJ.out hne
      have HK : Hid ((enc b).getD k 0 = (enc a).getD k 0 → ∀ j, j < k + 1 → (enc b).getD j 0 = (enc a).getD j 0) := fun he j hjk => by
        rcases Nat.lt_or_ge j k with h | h
        · exact HJ.out j h
        · rw [show j = k from by omega]; exact he
      generalize (enc b).getD k 0 = x at c1 HX HK
      generalize (enc a).getD k 0 = y at c2 HX HK
      clear hxc hyc HJ
      by_cases hxy : x = y
      · have hne : (x != y) = false := by simp [hxy]
        have HK2 := HK.out hxy
        have HK3 : Hid (∀ j, j < k + 1 → (enc b).getD j 0 = (enc a).getD j 0) := HK2
        clear HK HX HK2 hxy
        go_wp2_with fail
        go_quiet (fail)
        go_wp2
        go_roundw
        case rel => exact ⟨k + 1, _, by omega, by go_num, rfl, HK3.out⟩
        case measure => simp [intOf]; omega
      · have hne : (x != y) = true := by simp [hxy]
        have HX2 : Hid (sz b = sz a → x < y) := HX.out hxy
        clear HK HX hxy
        go_wp2_with fail
        go_quiet (fail)
        by_cases hst : (sz b : Int) < (sz a : Int)
        · go_wp2_with fail
          go_quiet (fail)
          go_wp2
          go_ret
          exact ⟨rfl, by first | exact below_drewN (below_drewN HBel.out _) _ | exact below_drewN (below_drewN (below_drewN HBel.out _) _) _⟩
        · have hst2 : decide ((sz b : Int) < (sz a : Int)) = false := by simp; omega
          have hst3 : decide (sz b < sz a) = false := by simp; omega
          have hl : x < y := HX2.out (by omega)
          clear HX2
          go_wp2_with fail
          go_quiet (fail)
          go_wp2
          go_ret
          exact ⟨rfl, by first | exact below_drewN (below_drewN HBel.out _) _ | exact below_drewN (below_drewN (below_drewN HBel.out _) _) _⟩
    · exfalso
      refine enc_apart b a (by omega) (by omega) (by omega) fun j hj => HJ.out j (by omega)

set_option maxHeartbeats 1000000 in
theorem rises_lt (a b : Int) (w : World) (ha0 : 0 ≤ a) (ha1 : a ≤ 18446744073709551615) (hb0 : 0 ≤ b) (hb1 : b ≤ 18446744073709551615) (hab : a < b) :
    Calls Try.prog 3 #[.int .u64 a, .int .u64 b] w fun e w' => e = .returned (.bool true) ∧ Below w.heap.size w w' := by
  obtain ⟨s1, s2, s3, s4⟩ := sz_bounds a (by omega) (by omega)
  obtain ⟨t1, t2, t3, t4⟩ := sz_bounds b (by omega) (by omega)
  clear s3 s4 t3 t4
  have hm := sz_mono a b (by omega) (by omega) (by omega)
  have HA : Hid ((enc a).length = sz a) := enc_length a (by omega) (by omega)
  have HB : Hid ((enc b).length = sz b) := enc_length b (by omega) (by omega)
  have q1 : decide ((sz a : Int) < 1) = false := by simp; omega
  have q2 : decide (10 < (sz b : Int)) = false := by simp; omega
  have q3 : decide ((sz b : Int) < (sz a : Int)) = false := decide_eq_false (by omega)
  go_enter Try.func3, Try.ntmps3
  go_wp2_with fail
  refine (awake_any _).mono ?_
  rintro e w1 ⟨rfl, hb1⟩
  go_wp2_with fail
  refine (bytes_any a w1 (by omega) (by omega)).mono ?_
  rintro e w2 ⟨g, cap, rfl, hx, hb2⟩
  go_wp2_with fail
  refine (bytes_any b w2 (by omega) (by omega)).mono ?_
  rintro e w3 ⟨g', cap', rfl, hy, hb3⟩
  have hxc := kept_cells hb3 hx HA.out
  have hyc := owned_cell hy HB.out
  have HBel : Hid (Below w.heap.size w w3) := (hb1.trans (hb2.mono hb1.size)).trans (hb3.mono (Nat.le_trans hb1.size hb2.size))
  clear hb1 hb2 hb3 hx hy
  go_wp2_with fail
  refine (size_any a _ (by omega) (by omega)).mono ?_
  rintro e w' ⟨rfl, rfl⟩
  go_wp2_with fail
  refine (size_any b _ (by omega) (by omega)).mono ?_
  rintro e w' ⟨rfl, rfl⟩
  go_wp2_with fail
  go_loopw [10] (fun i wr => ∃ k nd : Nat, k ≤ sz a ∧ i = .int .i64 k ∧ wr = w3.drewN nd ∧ ∀ j, j < k → (enc a).getD j 0 = (enc b).getD j 0) (fun i _ => sz a - (intOf i).toNat)
  case atStart => exact ⟨0, 0, Nat.zero_le _, rfl, rfl, fun j hj => by omega⟩
  case round =>
    obtain ⟨k, nd, hk, rfl, rfl, hj⟩ := hrel
    have HJ : Hid (∀ j, j < k → (enc a).getD j 0 = (enc b).getD j 0) := hj
    clear hj
    by_cases hlt : k < sz a
    · have c1 := hxc k hlt
      have c2 := hyc k (by omega)
      simp only [Nat.zero_add] at c1 c2
      have i1 : (k : Int) < (sz a : Int) := by omega
      have i2 : (k : Int) < (sz b : Int) := by omega
      have HX : Hid ((enc a).getD k 0 ≠ (enc b).getD k 0 → sz a = sz b → (enc a).getD k 0 < (enc b).getD k 0) := fun hne hs => enc_less a b (by omega) (by omega) (by omega) hs k hlt HJ.out hne
      have HK : Hid ((enc a).getD k 0 = (enc b).getD k 0 → ∀ j, j < k + 1 → (enc a).getD j 0 = (enc b).getD j 0) := fun he j hjk => by
        rcases Nat.lt_or_ge j k with h | h
        · exact HJ.out j h
        · rw [show j = k from by omega]; exact he
      generalize (enc a).getD k 0 = x at c1 HX HK
      generalize (enc b).getD k 0 = y at c2 HX HK
      clear hxc hyc HJ
      by_cases hxy : x = y
      · have hne : (x != y) = false := by simp [hxy]
        have HK2 := HK.out hxy
        have HK3 : Hid (∀ j, j < k + 1 → (enc a).getD j 0 = (enc b).getD j 0) := HK2
        clear HK HX HK2 hxy
        go_wp2_with fail
        go_quiet (fail)
        go_wp2
        go_roundw
        case rel => exact ⟨k + 1, _, by omega, by go_num, rfl, HK3.out⟩
        case measure => simp [intOf]; omega
      · have hne : (x != y) = true := by simp [hxy]
        have HX2 : Hid (sz a = sz b → x < y) := HX.out hxy
        clear HK HX hxy
        go_wp2_with fail
        go_quiet (fail)
        by_cases hst : (sz a : Int) < (sz b : Int)
        · go_wp2_with fail
          go_quiet (fail)
          go_wp2
          go_ret
          exact ⟨rfl, by first | exact below_drewN (below_drewN HBel.out _) _ | exact below_drewN (below_drewN (below_drewN HBel.out _) _) _⟩
        · have hst2 : decide ((sz a : Int) < (sz b : Int)) = false := by simp; omega
          have hst3 : decide (sz a < sz b) = false := by simp; omega
          have hl : x < y := HX2.out (by omega)
          clear HX2
          go_wp2_with fail
          go_quiet (fail)
          go_wp2
          go_ret
          exact ⟨rfl, by first | exact below_drewN (below_drewN HBel.out _) _ | exact below_drewN (below_drewN (below_drewN HBel.out _) _) _⟩
    · exfalso
      refine enc_apart a b (by omega) (by omega) (by omega) fun j hj => HJ.out j (by omega)

set_option maxHeartbeats 1000000 in
theorem rises_eq (a : Int) (w : World) (ha0 : 0 ≤ a) (ha1 : a ≤ 18446744073709551615) :
    Calls Try.prog 3 #[.int .u64 a, .int .u64 a] w fun e w' => e = .returned (.bool true) ∧ Below w.heap.size w w' := by
  obtain ⟨s1, s2, s3, s4⟩ := sz_bounds a (by omega) (by omega)
  obtain ⟨t1, t2, t3, t4⟩ := sz_bounds a (by omega) (by omega)
  clear s3 s4 t3 t4
  have hm := sz_mono a a (by omega) (by omega) (by omega)
  have HA : Hid ((enc a).length = sz a) := enc_length a (by omega) (by omega)
  have HB : Hid ((enc a).length = sz a) := enc_length a (by omega) (by omega)
  have q1 : decide ((sz a : Int) < 1) = false := by simp; omega
  have q2 : decide (10 < (sz a : Int)) = false := by simp; omega
  have q3 : decide ((sz a : Int) < (sz a : Int)) = false := decide_eq_false (by omega)
  go_enter Try.func3, Try.ntmps3
  go_wp2_with fail
  refine (awake_any _).mono ?_
  rintro e w1 ⟨rfl, hb1⟩
  go_wp2_with fail
  refine (bytes_any a w1 (by omega) (by omega)).mono ?_
  rintro e w2 ⟨g, cap, rfl, hx, hb2⟩
  go_wp2_with fail
  refine (bytes_any a w2 (by omega) (by omega)).mono ?_
  rintro e w3 ⟨g', cap', rfl, hy, hb3⟩
  have hxc := kept_cells hb3 hx HA.out
  have hyc := owned_cell hy HB.out
  have HBel : Hid (Below w.heap.size w w3) := (hb1.trans (hb2.mono hb1.size)).trans (hb3.mono (Nat.le_trans hb1.size hb2.size))
  clear hb1 hb2 hb3 hx hy
  go_wp2_with fail
  refine (size_any a _ (by omega) (by omega)).mono ?_
  rintro e w' ⟨rfl, rfl⟩
  go_wp2_with fail
  refine (size_any a _ (by omega) (by omega)).mono ?_
  rintro e w' ⟨rfl, rfl⟩
  have hcx := conv_own w3 g _ cap _ HA.out hxc
  have hcy := conv_own w3 g' _ cap' _ HB.out hyc
  clear hxc hyc
  go_wp2
  go_ret
  exact ⟨by simp, HBel.out⟩

end Go.Proofs.Ytbehliigemoblab
