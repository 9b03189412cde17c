import Derived.Test.YtgmbpagbiakciafDoorRcApp
namespace Go.Proofs.YtgmbpagbiakciafDoor
open Go.RowKit
set_option linter.unusedVariables false

theorem pow_mono {a b : Nat} (h : a ≤ b) : (128 : Int) ^ a ≤ 128 ^ b := by
  have := Nat.pow_le_pow_right (n := 128) (by omega) h
  exact_mod_cast this
theorem div_pow (n : Int) (k : Nat) : n / 128 ^ (k + 1) / 128 = n / 128 ^ (k + 1 + 1) := by
  rw [Int.pow_succ (128 : Int) (k + 1), Int.ediv_ediv_of_nonneg (Int.pow_nonneg (by omega))]
theorem tl_rev (n : Int) (k : Nat) : (tl n (k + 1)).reverse = (tl n k).reverse ++ [n / 128 ^ (k + 1) % 128 + 128] := by
  show ((n / 128 ^ (k + 1) % 128 + 128) :: tl n k).reverse = _
  rw [List.reverse_cons]
/-- The digits from the last one on. -/
def lowV (n : Int) (k : Nat) : List Value := (tl n k).reverse.map (Value.int .u8)
theorem more_digits {n : Int} {k : Nat} (h0 : 0 ≤ n) (h1 : n ≤ 18446744073709551615) (h : 0 < n / 128 ^ (k + 1)) : k + 1 < sz n := by
  have hb := sz_bounds n h0 h1
  rcases Nat.lt_or_ge (k + 1) (sz n) with q | q
  · exact q
  · exfalso
    have h2 : (128 : Int) ^ sz n ≤ 128 ^ (k + 1) := pow_mono q
    have h3 : n < 128 ^ (k + 1) := by omega
    rw [Int.ediv_eq_zero_of_lt h0 h3] at h
    omega
theorem all_digits {n : Int} {k : Nat} (h0 : 0 ≤ n) (h1 : n ≤ 18446744073709551615) (h : ¬ 0 < n / 128 ^ (k + 1)) (hk : k + 1 ≤ sz n) : k + 1 = sz n := by
  have hb := sz_bounds n h0 h1
  rcases Nat.lt_or_ge (k + 1) (sz n) with q | q
  · exfalso
    have h2 := hb.2.2.2 (by omega)
    have h3 : (128 : Int) ^ (k + 1) ≤ 128 ^ (sz n - 1) := pow_mono (by omega)
    have hp : (0 : Int) < 128 ^ (k + 1) := Int.pow_pos (by omega)
    have h4 : 1 ≤ n / 128 ^ (k + 1) := by rw [Int.le_ediv_iff_mul_le hp]; omega
    omega
  · omega

theorem own_pos7 {w : World} {base n sz : Nat} {e : TypeId} {v : Value} {xs : List Value} (h : w.ownsRow base e sz v n xs) (hn : 0 < n) : ∃ g cap, v = .slice (some ⟨g, 0, none⟩) n cap ∧ base ≤ g := by
  obtain ⟨_, ⟨rfl, rfl⟩ | ⟨g, cap, cur, rfl, hb, _⟩⟩ := h
  · omega
  · exact ⟨g, cap, rfl, hb⟩
theorem own_low {w : World} {base n : Nat} {e : TypeId} {v : Value} {xs : List Value} {g : Nat} (h : w.ownsRow base e 1 v n xs) (hg : v.ownBlock = some g) : g < w.heap.size := (h.lt g hg).2

set_option maxRecDepth 100000 in
set_option maxHeartbeats 4000000 in
theorem number2_any (v : Value) (m : Nat) (xs : List Value) (base : Nat) (n : Int) (w : World) (h0 : 0 ≤ n) (h1 : n ≤ 4611686018427387903)
    (hown : w.ownsRow base 5 1 v m xs) (hbase : base ≤ w.heap.size) (hm : m + 10 ≤ 140737488355328) :
    Calls Tryd.prog 44 #[v, .int .i64 n] w fun e w' => ∃ v', e = .returned v' ∧
      w'.ownsRow base 5 1 v' (m + sz n) (xs ++ (enc n).map (Value.int .u8)) ∧ Below base w w' ∧ Keeps8 w w' := by
  obtain ⟨i0, hi, hz0, hz1, hz2⟩ := info_parts Tryd.info_u8
  have hsz := sz_bounds n h0 (by omega)
  have HOW : Hid (w.ownsRow base 5 1 v m xs) := hown
  have hm0 : 0 ≤ n % 128 ∧ n % 128 < 128 := by omega
  have HD1 : Hid (n / 128 = n / 128 ^ (0 + 1)) := by unfold Hid; rfl
  have HNN : Hid (0 ≤ n ∧ n ≤ 18446744073709551615) := ⟨h0, by omega⟩
  clear hown
  go_enter Tryd.func44, Tryd.ntmps44
  go_wp2_with (at_builtin; refine append_any _ rfl _ _ 39 rfl w.heap.size 5 i0 (.int .u8 0) 1 Tryd.underlying39 hi hz0 hz1 hz2 rfl _ 0 [] rfl (World.ownsRow_nil _ _ _ _) .u8 _ _ _ [n % 128] rfl (by intro h; cases h) rfl (Blk.lies (k := .u8) (t := 5) (xs := [n % 128]) (by exact heap_new6 _ _) 1) (by unfold maxLen; omega) (by omega) (by simp) ?_; intro v1 w1 ho1 hg1)
  have HO1 : Hid (w1.ownsRow w.heap.size 5 1 v1 (0 + 1) (lowV n 0)) := ho1
  have HB1 : Hid (Below w.heap.size w w1) := own_grown ((Below.refl _ _).alloc (Nat.le_refl _) _) (show World.grownBy _ w1 (Value.slice none 0 0).ownBlock from hg1) (World.ownsRow_nil _ w.heap.size 5 1) (by simp)
  clear ho1 hg1
  rw [HD1.out]
  go_loopw [1, 5] (fun t lo wr => ∃ k : Nat, k + 1 ≤ sz n ∧ t = .int .i64 (n / 128 ^ (k + 1)) ∧ wr.ownsRow w.heap.size 5 1 lo (k + 1) (lowV n k) ∧ Below w.heap.size w wr) (fun t _ _ => (intOf t).toNat)
  case atStart => exact ⟨0, by omega, rfl, HO1.out, HB1.out⟩
  case round =>
    obtain ⟨k, hk, rfl, ho, hb⟩ := hrel
    have HO : Hid (wr.ownsRow w.heap.size 5 1 u5 (k + 1) (lowV n k)) := ho
    have HB : Hid (Below w.heap.size w wr) := hb
    clear ho hb HO1 HB1 HD1
    have hd0 : 0 ≤ n / 128 ^ (k + 1) := Int.ediv_nonneg h0 (Int.pow_nonneg (by omega))
    have HDV : Hid (n / 128 ^ (k + 1) / 128 = n / 128 ^ (k + 1 + 1)) := div_pow n k
    have HTR : Hid (lowV n (k + 1) = lowV n k ++ [128 + n / 128 ^ (k + 1) % 128].map (Value.int .u8)) := by unfold Hid lowV; rw [tl_rev, List.map_append, Int.add_comm]
    have HMO : Hid (0 < n / 128 ^ (k + 1) → k + 1 < sz n) := more_digits HNN.out.1 HNN.out.2
    have HAL : Hid (¬ 0 < n / 128 ^ (k + 1) → k + 1 = sz n) := fun h => all_digits HNN.out.1 HNN.out.2 h hk
    have hd1 : n / 128 ^ (k + 1) ≤ n := Int.ediv_le_self _ h0
    generalize n / 128 ^ (k + 1) = d at *
    by_cases hp : 0 < d
    · have hk2 := HMO.out hp
      have hdm : 0 ≤ d % 128 ∧ d % 128 < 128 := by omega
      have hsw := HB.out.size
      go_wp2_with (at_builtin; refine append_any _ rfl _ _ 39 rfl w.heap.size 5 i0 (.int .u8 0) 1 Tryd.underlying39 hi hz0 hz1 hz2 rfl _ _ _ rfl (own_below6 HO.out ((Below.refl _ _).alloc (Nat.le_refl _) _)) .u8 _ _ _ [128 + d % 128] rfl (by intro h; cases h) rfl (Blk.lies (k := .u8) (t := 5) (xs := [128 + d % 128]) (by exact heap_new6 _ _) 1) (by unfold maxLen; omega) (by omega) (by simp; omega) ?_; intro v2 w2 ho2 hg2)
      have HO2 : Hid (w2.ownsRow w.heap.size 5 1 v2 (k + 1 + 1) (lowV n (k + 1))) := by
        unfold Hid
        rw [HTR.out]
        exact ho2
      have HB2 : Hid (Below w.heap.size w w2) := own_grown (HB.out.alloc hsw _) hg2 (own_below6 HO.out ((Below.refl _ _).alloc (Nat.le_refl _) _)) (by simp; omega)
      go_roundw
      case rel => exact ⟨k + 1, by omega, by rw [HDV.out], HO2.out, HB2.out⟩
      case measure => simp [intOf]; omega
    · have hks := HAL.out hp
      obtain ⟨gl, cl, rfl, hgl⟩ := own_pos7 HO.out (by omega)
      have HEN : Hid (enc n = tl n k) := by unfold Hid enc; rw [← hks]; rfl
      have hlow : ∀ j, j < k + 1 → wr.cell? ⟨gl, j, none⟩ = some (.int .u8 ((enc n).getD (k - j) 0)) := fun j hj => by
        rw [World.ownsRow.cellAt HO.out j (by omega), HEN.out]
        unfold lowV
        rw [List.getElem?_map, List.getElem?_reverse (by rw [tl_length]; exact hj), tl_length, List.getD_eq_getElem?_getD]
        have hl : k - j < (tl n k).length := by rw [tl_length]; omega
        rw [show k + 1 - 1 - j = k - j by omega, List.getElem?_eq_getElem hl]
        rfl
      have HHB : Hid (∃ cs, wr.heap[gl]? = some (.cells cs 5 (0, 0))) := by
        obtain ⟨_, ⟨h, _⟩ | ⟨g, cap, cur, hv, _, hh, _⟩⟩ := HO.out
        · cases h
        · simp only [Value.slice.injEq, Option.some.injEq, Addr.mk.injEq] at hv
          obtain ⟨⟨rfl, _⟩, _⟩ := hv
          exact ⟨cur, hh⟩
      have hel : (enc n).length = k + 1 := by rw [HEN.out, tl_length]
      have HEL : Hid ((enc n).length = k + 1) := hel
      have HLOW : Hid (∀ j, j < k + 1 → wr.cell? ⟨gl, j, none⟩ = some (.int .u8 ((enc n).getD (k - j) 0))) := hlow
      have HV : Hid (wr.ownsRow base 5 1 v m xs) := own_below6 HOW.out HB.out
      have HVB : Hid (∀ g, v.ownBlock = some g → g < w.heap.size) := fun g hg => own_low HOW.out hg
      have HBB : Hid (Below base w wr) := HB.out.mono hbase
      have hglw : gl < wr.heap.size := by obtain ⟨cs, hc⟩ := HHB.out; exact (Array.getElem?_eq_some_iff.mp hc).1
      have HKW : Hid (Keeps8 w wr) := Keeps8.below HB.out
      have hwk : IntKind.i64.wrap ((k : Int) + 1 - 1) = (k : Int) := by rw [IntKind.wrap_i64]; omega
      have hk9 : k + 1 ≤ 10 := by omega
      have HRES : Hid (sz n = k + 1) := hks.symm
      clear hlow hel HO HTR HDV HMO HAL hks HOW HEN hd0 hd1 hk HNN
      have hsw := HB.out.size
      go_wp2_with fail
      obtain ⟨w4, h4⟩ : ∃ x, x = wr := ⟨_, rfl⟩
      subst h4
      go_loopw [0, 6] (fun b i wx => ∃ j : Nat, j ≤ k + 1 ∧ i = .int .i64 ((j : Int) - 1) ∧ wx.ownsRow base 5 1 b (m + (k + 1 - j)) (xs ++ ((enc n).take (k + 1 - j)).map (Value.int .u8)) ∧ b.ownBlock ≠ some gl ∧ wx.heap[gl]? = w4.heap[gl]? ∧ w4.heap.size ≤ wx.heap.size ∧ Below base w wx ∧ Keeps8 w wx) (fun _ i _ => (intOf i + 1).toNat)
      case atStart =>
        refine ⟨k + 1, Nat.le_refl _, by first | rfl | (congr 1; omega) | go_num, ?_, fun h => ?_, rfl, Nat.le_refl _, HBB.out, HKW.out⟩
        · rw [Nat.sub_self, List.take_zero, List.map_nil, List.append_nil]; exact HV.out
        · have := HVB.out _ h; omega
      case round =>
        obtain ⟨j, hj, rfl, ho, hne, hgb, hsx, hbx, hkx⟩ := hrel
        have HOx : Hid (wr.ownsRow base 5 1 u0 (m + (k + 1 - j)) (xs ++ ((enc n).take (k + 1 - j)).map (Value.int .u8))) := ho
        have HNE : Hid (u0.ownBlock ≠ some gl) := hne
        have HGB : Hid (wr.heap[gl]? = w4.heap[gl]?) := hgb
        have HBX : Hid (Below base w wr) := hbx
        have HKX : Hid (Keeps8 w wr) := hkx
        clear ho hne hgb hbx hkx
        by_cases hj1 : 1 ≤ j
        · have hj1' : 0 ≤ (j : Int) - 1 := by omega
          have hc : wr.cell? ⟨gl, j - 1, none⟩ = some (.int .u8 ((enc n).getD (k + 1 - j) 0)) := by
            have h2 := HLOW.out (j - 1) (by omega)
            rw [show k - (j - 1) = k + 1 - j by omega] at h2
            have h3 : wr.cell? ⟨gl, j - 1, none⟩ = w4.cell? ⟨gl, j - 1, none⟩ := by simp only [World.cell?]; rw [HGB.out]
            rw [h3]; exact h2
          have HTK : Hid ((enc n).take (k + 1 - (j - 1)) = (enc n).take (k + 1 - j) ++ [(enc n).getD (k + 1 - j) 0]) := by
            unfold Hid
            rw [show k + 1 - (j - 1) = (k + 1 - j) + 1 by omega]
            exact take_snoc' _ _ (by rw [HEL.out]; omega)
          generalize (enc n).getD (k + 1 - j) 0 = y at *
          have hnj : ((j : Int) - 1).toNat = j - 1 := by omega
          have hjl : (j : Int) - 1 < (k : Int) + 1 := by omega
          have hcx : wr.cell? ⟨gl, ((j : Int) - 1).toNat, none⟩ = some (.int .u8 y) := by rw [hnj]; exact hc
          have hwj : IntKind.i64.wrap ((j : Int) - 1 - 1) = (j : Int) - 1 - 1 := by rw [IntKind.wrap_i64]; omega
          have hsb := HBX.out.size
          go_wp2_with (at_builtin; refine append_at _ rfl _ _ 39 rfl base 5 i0 (.int .u8 0) 1 Tryd.underlying39 hi hz0 hz1 hz2 rfl _ _ _ rfl (own_below6 HOx.out ((Below.refl _ _).alloc (Nat.le_refl _) _)) .u8 _ _ _ [y] rfl (by intro h; cases h) rfl (Blk.lies (k := .u8) (t := 5) (xs := [y]) (by exact heap_new6 _ _) 1) (by unfold maxLen; omega) (by omega) (by simp; omega) ?_; intro v2 w2 ho2 hg2 hst2)
          have HOA := own_below6 HOx.out ((Below.refl _ _).alloc (Nat.le_refl _) (.cells #[.int .u8 y] 5))
          have HO2 : Hid (w2.ownsRow base 5 1 v2 (m + (k + 1 - (j - 1))) (xs ++ ((enc n).take (k + 1 - (j - 1))).map (Value.int .u8))) := by
            unfold Hid
            rw [HTK.out, List.map_append, ← List.append_assoc]
            exact grow_to ho2 (by omega)
          have HG2 : Hid (w2.heap[gl]? = w4.heap[gl]?) := (hg2.block gl (by simp; omega) (fun h => HNE.out h.symm)).trans ((Below.heap_alloc wr _ gl (by omega)).trans HGB.out)
          have HN2 : Hid (v2.ownBlock ≠ some gl) := fun h => by
            rcases hst2 gl h with q | q
            · exact HNE.out q
            · simp at q; omega
          have HK2 : Hid (Keeps8 w w2) := (HKX.out.trans (Keeps8.below ((Below.refl _ _).alloc (Nat.le_refl _) _))).trans (Keeps8.grown HOA hg2)
          have HB2 : Hid (Below base w w2) := own_grown (HBX.out.alloc (by omega) _) hg2 HOA (by simp; omega)
          have hz2' : w4.heap.size ≤ w2.heap.size := by have := hg2.size; simp at this; omega
          go_roundw
          case rel => exact ⟨j - 1, by omega, congrArg (Value.int IntKind.i64) (by omega), HO2.out, HN2.out, HG2.out, hz2', HB2.out, HK2.out⟩
          case measure => simp [intOf]; omega
        · obtain rfl : j = 0 := by omega
          have HFIN : Hid (wr.ownsRow base 5 1 u0 (m + sz n) (xs ++ (enc n).map (Value.int .u8))) := by
            unfold Hid
            have h := HOx.out
            rw [Nat.sub_zero, ← HEL.out, List.take_length] at h
            rw [HRES.out, ← HEL.out]
            exact h
          clear HOx
          go_wp2
          go_ret
          exact ⟨_, rfl, HFIN.out, HBX.out, HKX.out⟩
end Go.Proofs.YtgmbpagbiakciafDoor
