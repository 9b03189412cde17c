import Derived.Test.YtnclfoljfnfglaiTmPxo
import Derived.Test.YtnclfoljfnfglaiTmPcp
import Derived.Test.YtnclfoljfnfglaiLen
import Derived.Sort.Walk7
namespace Go.Proofs.Ytnclfoljfnfglai
open Go.RowKit Go.Maps Go.Sort
set_option linter.unusedVariables false
attribute [local go_sem ↓] wp_store_key
attribute [local go_sem] pBlk_ptr pOff_ptr pAgg_agg

/-- A row that is sorted, and the generator beside it. -/
structure SB (g og cap base n p X : Nat) (w0 : World) (d : Array Kx) (W : World) : Prop where
  sr : SR g og cap base n w0 d W
  num : W.heap[p]? = some (.cells #[.int .u64 X] 126 (0, 0))
  new : w0.heap.size ≤ p
  neg : p ≠ g
  neo : p ≠ og
theorem SB.below {g og cap base n p s : Nat} {w0 : World} {d : Array Kx} {W W' : World} (h : SB g og cap base n p s w0 d W) (hb : Below W.heap.size W W') : SB g og cap base n p s w0 d W' :=
  ⟨h.sr.below hb, (hb.block p (Array.getElem?_eq_some_iff.1 h.num).1).trans h.num, h.new, h.neg, h.neo⟩
theorem SB.put {g og cap base n p s : Nat} (X : Nat) {w0 : World} {d : Array Kx} {W : World} (h : SB g og cap base n p s w0 d W) : SB g og cap base n p X w0 d ((W.setCell ⟨p, 0, none⟩ (.int .u64 X)).drewN 3) := by
  have hk : Kq (· = p) W (W.setCell ⟨p, 0, none⟩ (.int .u64 X)) := kq_setCells [.int .u64 X] 0 W
  refine SB.below (W := W.setCell ⟨p, 0, none⟩ (.int .u64 X)) ⟨⟨h.sr.row.keep hk ?_, (heap_setCell_other _ _ _ _ (Ne.symm h.neo)).trans h.sr.ord, h.sr.kq.then hk ?_, h.sr.ne, h.sr.len⟩, heap_setCells [.int .u64 X] 0 W _ h.num, h.new, h.neg, h.neo⟩ ⟨rfl, rfl, rfl, Nat.le_refl _, fun _ _ => rfl⟩
  · rintro k hx rfl
    exact h.neg (by simpa [Value.ownBlock] using hx.symm)
  · rintro k hx rfl
    have := h.new
    omega
theorem SB.of {g og cap base n p s : Nat} {w0 : World} {d d' : Array Kx} {W : World} {o1 o2 : Nat} {v1 v2 : List Value} (h : SB g og cap base n p s w0 d W) (h' : SR g og cap base n w0 d' ((W.drew.setCells g o1 v1).setCells g o2 v2)) : SB g og cap base n p s w0 d' ((W.drew.setCells g o1 v1).setCells g o2 v2) :=
  ⟨h', (heap_setCells_other h.neg _ _ _).trans ((heap_setCells_other h.neg _ _ _).trans h.num), h.new, h.neg, h.neo⟩
theorem SB.of_alloc {g og cap base n : Nat} {w0 : World} {d : Array Kx} {W : World} (L : Nat) (h : SR g og cap base n w0 d W) : SB g og cap base n W.heap.size L w0 d (W.alloc (.cells #[.int .u64 L] 126)) :=
  ⟨h.below ⟨rfl, rfl, rfl, by simp, fun j hj => Below.heap_alloc _ _ j hj⟩, (by show (W.heap.push _)[W.heap.size]? = _; exact Array.getElem?_push_size), h.kq.size, by have := h.lt_g; omega, by have := (Array.getElem?_eq_some_iff.1 h.ord).1; omega⟩
theorem SB.next {g og cap base n p X : Nat} {w0 : World} {d : Array Kx} {W : World} (h : SB g og cap base n p X w0 d W) (hX : X < 18446744073709551616) :
    Calls Try.prog 101 #[.pointer (some ⟨p, 0, none⟩)] W fun e w' => e = .returned (.int .u64 (xorNextN X : Nat)) ∧ SB g og cap base n p (xorNextN X) w0 d w' :=
  (xor_any p X hX W (cell_of_one h.num) (frozen_of_row _ p 0 _ _ h.num)).mono fun e w' ⟨h1, h2⟩ => ⟨h1, h2 ▸ h.put _⟩

set_option maxHeartbeats 4000000 in
set_option maxRecDepth 100000 in
theorem blenX (n : Nat) (hn : n < 4611686018427387904) (w : World) : Calls Try.prog 76 #[.int .u64 n] w fun e w' => e = .returned (.int .i64 (bitsLen n : Nat)) ∧ w' = w := by
  have h := len64_any (n : Int) w (by omega) (by omega)
  rw [Int.toNat_natCast, bitLen_eq _ (by omega)] at h
  go_enter Try.func76, Try.ntmps76
  go_wp2_with fail
  refine h.mono ?_
  rintro e w' ⟨rfl, rfl⟩
  go_wp2
  go_ret
  exact ⟨rfl, rfl⟩

set_option maxHeartbeats 4000000 in
set_option maxRecDepth 100000 in
theorem npow_any (n : Nat) (hn : n < 4611686018427387904) (w : World) : Calls Try.prog 100 #[.int .i64 n] w fun e w' => e = .returned (.int .u64 ((1 <<< bitsLen n : Nat) : Int)) ∧ w' = w := by
  have h := blenX n hn w
  have hk : bitsLen n ≤ 62 := (bitsLen_le_iff n 62).2 (by omega)
  have hp := wrap_two_pow (bitsLen n) hk
  have hw : IntKind.u64.wrap (n : Int) = n := by rw [IntKind.wrap_u64]; omega
  go_enter Try.func100, Try.ntmps100
  go_wp2_with fail
  refine h.mono ?_
  rintro e w' ⟨rfl, rfl⟩
  go_wp2
  go_ret
  exact ⟨rfl, rfl⟩

set_option maxHeartbeats 8000000 in
set_option maxRecDepth 100000 in
theorem break_any (g og cap base n a b : Nat) (w0 : World) (d : Array Kx) (w : World) (h : SR g og cap base n w0 d w) (hab : a + 12 < b) (hb : b ≤ n) (hn : n < 1152921504606846976) :
    Calls Try.prog 92 #[.slice (some ⟨g, 0, none⟩) n cap, .int .i64 a, .int .i64 b, cmpF og] w fun e w' => e = .returned (.tuple #[]) ∧ SR g og cap base n w0 (breakPatterns d a b) w' := by
  obtain ⟨L, hL⟩ : ∃ x, x = b - a := ⟨_, rfl⟩
  obtain rfl : b = a + L := by omega
  have HSB : Hid (SB g og cap base n w.heap.size L w0 d (w.alloc (.cells #[.int .u64 L] 126))) := SB.of_alloc L h
  obtain ⟨M, hM⟩ : ∃ M : Nat, M = 1 <<< bitsLen L := ⟨_, rfl⟩
  have hM1 : 1 ≤ M := by rw [hM, Nat.one_shiftLeft]; exact Nat.two_pow_pos _
  have hM2 : M ≤ 2 * L := by rw [hM, Nat.one_shiftLeft]; exact two_pow_bitsLen_le (by omega)
  have hNP : ∀ w, Calls Try.prog 100 #[.int .i64 (L : Int)] w fun e w' => e = .returned (.int .u64 (M : Int)) ∧ w' = w := by rw [hM]; exact fun w => npow_any L (by omega) w
  obtain ⟨q, hq⟩ : ∃ x, x = L / 4 := ⟨_, rfl⟩
  obtain ⟨q2, hq2⟩ : ∃ x, x = q * 2 := ⟨_, rfl⟩
  obtain ⟨aq, haq⟩ : ∃ x, x = a + q2 := ⟨_, rfl⟩
  obtain ⟨i0, hi0⟩ : ∃ x, x = aq - 1 := ⟨_, rfl⟩
  obtain ⟨a9, ha9⟩ : ∃ x, x = aq + 1 := ⟨_, rfl⟩
  obtain ⟨m1, hm1⟩ : ∃ x, x = M - 1 := ⟨_, rfl⟩
  have HEq : Hid (breakPatterns d a (a + L) = bpRest a L M i0 3 0 (UInt64.ofNat L, d)) := by
    show _ = _
    rw [breakPatterns_eq d a L (by omega), hM, hi0, haq, hq2, hq]
  have HQ : Hid (i0 = aq - 1 ∧ a9 = aq + 1 ∧ 1 ≤ aq ∧ aq + 1 < n ∧ m1 = M - 1) := ⟨hi0, ha9, by omega, by omega, hm1⟩
  have hbz : ((a + L : Nat) : Int) = (a : Int) + (L : Int) := by omega
  have kk0 : IntKind.i64.wrap (L : Int) = (L : Int) := by rw [IntKind.wrap_i64]; omega
  have kk1 : IntKind.i64.wrap (((a + L : Nat) : Int) - (a : Int)) = (L : Int) := by rw [IntKind.wrap_i64]; omega
  have kk2 : Int.tdiv (L : Int) 4 = (q : Int) := by rw [Int.tdiv_eq_ediv_of_nonneg (by omega)]; omega
  have kk3 : IntKind.i64.wrap (q : Int) = (q : Int) := by rw [IntKind.wrap_i64]; omega
  have kk4 : IntKind.i64.wrap ((q : Int) * 2) = (q2 : Int) := by rw [IntKind.wrap_i64]; omega
  have kk5 : IntKind.i64.wrap ((a : Int) + (q2 : Int)) = (aq : Int) := by rw [IntKind.wrap_i64]; omega
  have kk6 : IntKind.i64.wrap ((aq : Int) - 1) = (i0 : Int) := by rw [IntKind.wrap_i64]; omega
  have kk7 : IntKind.i64.wrap ((aq : Int) + 1) = (a9 : Int) := by rw [IntKind.wrap_i64]; omega
  have kk8 : IntKind.u64.wrap (L : Int) = (L : Int) := by rw [IntKind.wrap_u64]; omega
  have kk9 : IntKind.u64.wrap ((M : Int) - 1) = (m1 : Int) := by rw [IntKind.wrap_u64]; omega
  have l8 : (8 : Int) ≤ (L : Int) := by omega
  obtain ⟨b, hbb⟩ : ∃ x, x = a + L := ⟨_, rfl⟩
  rw [← hbb] at kk1 hbz ⊢
  have HBB : Hid (b = a + L) := hbb
  have hMn : M ≤ 2 * n := by omega
  have hLn : a + L ≤ n := by omega
  have hL2 : L < 18446744073709551616 := by omega
  rw [← hbb] at HEq
  clear h hL hM hq hq2 haq hi0 ha9 hm1 hbb hbz
  go_enter Try.func92, Try.ntmps92
  go_wp2_with (first | (go_at_call 100; refine (hNP _).mono ?_; rintro e w' ⟨rfl, rfl⟩))
  go_loopw [11] (fun v wr => ∃ (t k : Nat) (r : UInt64) (dk : Array Kx), v = .int .i64 k ∧ k = i0 + t ∧ t ≤ 3 ∧ SB g og cap base n w.heap.size r.toNat w0 dk wr ∧ bpRest a L M i0 (3 - t) t (r, dk) = bpRest a L M i0 3 0 (UInt64.ofNat L, d))
    (fun v _ => i0 + 3 - (intOf v).toNat)
  case atStart => exact ⟨0, i0, UInt64.ofNat L, d, rfl, by omega, by omega, by rw [show (UInt64.ofNat L).toNat = L from by simp; omega]; exact HSB.out, rfl⟩
  case round =>
    obtain ⟨t, k, r, dk, rfl, hk, ht, hsb, heq⟩ := hrel
    have HS : Hid (SB g og cap base n w.heap.size r.toNat w0 dk wr) := hsb
    have HE : Hid (bpRest a L M i0 (3 - t) t (r, dk) = bpRest a L M i0 3 0 (UInt64.ofNat L, d)) := heq
    have HK : Hid (k = i0 + t) := hk
    clear hsb heq HSB
    by_cases t3 : t < 3
    · have t3z : (k : Int) ≤ (a9 : Int) := by have := HQ.out; omega
      have hNext := HS.out.next r.toNat_lt
      obtain ⟨R', hR'⟩ : ∃ R' : Nat, R' = xorNextN r.toNat := ⟨_, rfl⟩
      have lR' : R' < 18446744073709551616 := by rw [hR']; exact xorNextN_lt _ r.toNat_lt
      obtain ⟨O, hO⟩ : ∃ O : Nat, O = R' &&& m1 := ⟨_, rfl⟩
      have lO : O ≤ m1 := by rw [hO]; exact Nat.and_le_right
      have hm := HQ.out.2.2.2.2
      have eAnd : bits .and .u64 (R' : Int) (m1 : Int) = (O : Int) := by
        rw [bits_and_u64_nat _ _ lR' (by omega), hO]
      have HN : Hid (R' = (xorNext r).toNat ∧ O = (xorNext r).toNat &&& (M - 1)) := by
        have e : R' = (xorNext r).toNat := by rw [hR', xorNext_toNat]
        exact ⟨e, by rw [hO, e, hm]⟩
      rw [← hR'] at hNext
      obtain ⟨k1, hk1⟩ : ∃ x, x = k + 1 := ⟨_, rfl⟩
      have HK1 : Hid (k1 = k + 1) := hk1
      have kk11 : IntKind.i64.wrap ((k : Int) + 1) = (k1 : Int) := by have := HQ.out; rw [IntKind.wrap_i64]; omega
      have kk12 : IntKind.i64.wrap (O : Int) = (O : Int) := by rw [IntKind.wrap_i64]; omega
      have lO2 : O < 2 * L := by omega
      clear hR' hO hk hk1 hm
      by_cases hLO : L ≤ O
      · have hLOz : (L : Int) ≤ (O : Int) := by omega
        obtain ⟨o, ho⟩ : ∃ x, x = O - L := ⟨_, rfl⟩
        have kk13 : IntKind.i64.wrap ((O : Int) - (L : Int)) = (o : Int) := by rw [IntKind.wrap_i64]; omega
        have HOo : Hid ((if (xorNext r).toNat &&& (M - 1) ≥ L then ((xorNext r).toNat &&& (M - 1)) - L else (xorNext r).toNat &&& (M - 1)) = o) := by
          show _ = _; rw [← HN.out.2, if_pos hLO, ho]
        have loL : o < L := by omega
        clear ho
        go_wp2_with (first | (go_at_call 101; refine hNext.mono ?_; rintro e w1 ⟨rfl, hs1⟩; have HS1 : Hid (SB g og cap base n w.heap.size R' w0 dk w1) := hs1; clear hs1 hNext))
        obtain ⟨ao, hao⟩ : ∃ x, x = a + o := ⟨_, rfl⟩
        have ka : IntKind.i64.wrap ((a : Int) + (o : Int)) = (ao : Int) := by rw [IntKind.wrap_i64]; omega
        have zo : (ao : Int) < (n : Int) := by omega
        have zk : (k : Int) < (n : Int) := by have := HQ.out; omega
        have ho' : ao < n := by omega
        have hk' : k < n := by omega
        have HR1 : Hid (SR g og cap base n w0 dk w1) := HS1.out.sr
        have hgo := (bp_step a L M i0 t r dk o (by omega) HOo.out).symm.trans HE.out
        rw [← hao, ← HK.out] at hgo
        have HGo : Hid _ := hgo
        clear hgo hao
        obtain ⟨x3, hx3⟩ : ∃ x, dk[k]! = x := ⟨_, rfl⟩
        obtain ⟨y3, hy3⟩ : ∃ y, dk[ao]! = y := ⟨_, rfl⟩
        obtain ⟨p0, p1, p2, p3, p4⟩ := HR1.out.drew.cells (i := k) (by omega) hx3
        obtain ⟨q0, q1, q2, q3, q4⟩ := HR1.out.drew.cells (i := ao) (by omega) hy3
        obtain ⟨x3_0, x3_1, x3_2, x3_3, x3_4⟩ := x3
        obtain ⟨y3_0, y3_1, y3_2, y3_3, y3_4⟩ := y3
        simp only at p0 p1 p2 p3 p4 q0 q1 q2 q3 q4
        have s1 := StOk.mk HR1.out.drew (i := k) (by omega) (y3_0, y3_1, y3_2, y3_3, y3_4)
        have s2 := StOk.mk (HR1.out.drew.set (i := k) (by omega) (y3_0, y3_1, y3_2, y3_3, y3_4)) (i := ao) (by omega) (x3_0, x3_1, x3_2, x3_3, x3_4)
        simp only [kV] at s2
        have HW3 : Hid (SR g og cap base n w0 (swp dk k ao) ((w1.drew.setCells g (k * 5) (kV (y3_0, y3_1, y3_2, y3_3, y3_4))).setCells g (ao * 5) (kV (x3_0, x3_1, x3_2, x3_3, x3_4)))) := by
          have := HR1.out.drew.swap (i := k) (j := ao) (by omega) (by omega)
          rw [hx3, hy3] at this
          exact this
        clear hx3 hy3
        go_wp2
        go_region
        clear p0 p1 p2 p3 p4 q0 q1 q2 q3 q4 s1 s2
        have HB3 := HS1.out.of HW3.out
        have HZ3 : Hid _ := HB3
        clear HB3 HW3
        go_wp2
        have hx := HQ.out
        have hkk := HK.out
        have hk1 := HK1.out
        refine ⟨⟨t + 1, k1, xorNext r, _, rfl, by omega, by omega, HN.out.1 ▸ HZ3.out, HGo.out⟩, by simp [intOf]; omega⟩
      · have hLOz : ¬ (L : Int) ≤ (O : Int) := by omega
        obtain ⟨o, rfl⟩ : ∃ x, O = x := ⟨_, rfl⟩
        have HOo : Hid ((if (xorNext r).toNat &&& (M - 1) ≥ L then ((xorNext r).toNat &&& (M - 1)) - L else (xorNext r).toNat &&& (M - 1)) = O) := by
          show _ = _; rw [← HN.out.2, if_neg hLO]
        have loL : O < L := by omega
        go_wp2_with (first | (go_at_call 101; refine hNext.mono ?_; rintro e w1 ⟨rfl, hs1⟩; have HS1 : Hid (SB g og cap base n w.heap.size R' w0 dk w1) := hs1; clear hs1 hNext))
        obtain ⟨ao, hao⟩ : ∃ x, x = a + O := ⟨_, rfl⟩
        have ka : IntKind.i64.wrap ((a : Int) + (O : Int)) = (ao : Int) := by rw [IntKind.wrap_i64]; omega
        have zo : (ao : Int) < (n : Int) := by omega
        have zk : (k : Int) < (n : Int) := by have := HQ.out; omega
        have ho' : ao < n := by omega
        have hk' : k < n := by omega
        have HR1 : Hid (SR g og cap base n w0 dk w1) := HS1.out.sr
        have hgo := (bp_step a L M i0 t r dk O (by omega) HOo.out).symm.trans HE.out
        rw [← hao, ← HK.out] at hgo
        have HGo : Hid _ := hgo
        clear hgo hao
        obtain ⟨x3, hx3⟩ : ∃ x, dk[k]! = x := ⟨_, rfl⟩
        obtain ⟨y3, hy3⟩ : ∃ y, dk[ao]! = y := ⟨_, rfl⟩
        obtain ⟨p0, p1, p2, p3, p4⟩ := HR1.out.drew.cells (i := k) (by omega) hx3
        obtain ⟨q0, q1, q2, q3, q4⟩ := HR1.out.drew.cells (i := ao) (by omega) hy3
        obtain ⟨x3_0, x3_1, x3_2, x3_3, x3_4⟩ := x3
        obtain ⟨y3_0, y3_1, y3_2, y3_3, y3_4⟩ := y3
        simp only at p0 p1 p2 p3 p4 q0 q1 q2 q3 q4
        have s1 := StOk.mk HR1.out.drew (i := k) (by omega) (y3_0, y3_1, y3_2, y3_3, y3_4)
        have s2 := StOk.mk (HR1.out.drew.set (i := k) (by omega) (y3_0, y3_1, y3_2, y3_3, y3_4)) (i := ao) (by omega) (x3_0, x3_1, x3_2, x3_3, x3_4)
        simp only [kV] at s2
        have HW3 : Hid (SR g og cap base n w0 (swp dk k ao) ((w1.drew.setCells g (k * 5) (kV (y3_0, y3_1, y3_2, y3_3, y3_4))).setCells g (ao * 5) (kV (x3_0, x3_1, x3_2, x3_3, x3_4)))) := by
          have := HR1.out.drew.swap (i := k) (j := ao) (by omega) (by omega)
          rw [hx3, hy3] at this
          exact this
        clear hx3 hy3
        go_wp2
        go_region
        clear p0 p1 p2 p3 p4 q0 q1 q2 q3 q4 s1 s2
        have HB3 := HS1.out.of HW3.out
        have HZ3 : Hid _ := HB3
        clear HB3 HW3
        go_wp2
        have hx := HQ.out
        have hkk := HK.out
        have hk1 := HK1.out
        refine ⟨⟨t + 1, k1, xorNext r, _, rfl, by omega, by omega, HN.out.1 ▸ HZ3.out, HGo.out⟩, by simp [intOf]; omega⟩
    · have t3z : ¬ (k : Int) ≤ (a9 : Int) := by have := HQ.out; omega
      obtain rfl : t = 3 := by omega
      have e := HE.out
      have HF : Hid (dk = breakPatterns d a b) := by show _ = _; rw [HEq.out, ← e]; rfl
      clear e hk
      go_wp2
      go_end0
      exact ⟨rfl, HF.out ▸ HS.out.sr⟩

end Go.Proofs.Ytnclfoljfnfglai
