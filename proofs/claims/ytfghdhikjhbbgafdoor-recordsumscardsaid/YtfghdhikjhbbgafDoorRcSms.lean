import Derived.Test.YtfghdhikjhbbgafDoorRcAwk
namespace Go.Proofs.YtfghdhikjhbbgafDoor
open Go.RowKit

theorem own_pos6 {w : World} {base n sz : Nat} {e : TypeId} {v : Value} {xs : List Value} (h : w.ownsRow base e sz v n xs) (hn : 0 < n) : ∃ g cap, v = .slice (some ⟨g, 0, none⟩) n cap ∧ base ≤ g := by
  obtain ⟨_, ⟨rfl, rfl⟩ | ⟨g, cap, cur, rfl, hb, _⟩⟩ := h
  · omega
  · exact ⟨g, cap, rfl, hb⟩

/-- The bytes in memory of one's own, and one of them turned. -/
theorem turn_row {w w1 w2 : World} {zs : List Int} {len k : Nat} {y t : Int} {v : Value} (hs1 : w.heap.size ≤ w1.heap.size) (HB1 : Hid (Below w.heap.size w w1)) (hg : w1.grownBy w2 (Value.slice none 0 0).ownBlock)
    (ho0 : w2.ownsRow w.heap.size 5 1 v (0 + len) ([] ++ zs.map (Value.int .u8))) (hk : k < len) (HY : Hid (zs[k]? = some y)) :
    ∃ g cap, v = .slice (some ⟨g, 0, none⟩) len cap ∧ w2.frozen? ⟨g, k, none⟩ = false ∧ w2.cell? ⟨g, k, none⟩ = some (.int .u8 y) ∧
      Hid ((w2.setCell ⟨g, k, none⟩ (.int .u8 t)).ownsRow w.heap.size 5 1 (.slice (some ⟨g, 0, none⟩) len cap) len ((zs.set k t).map (Value.int .u8))) ∧
      Hid (Below w.heap.size w (w2.setCell ⟨g, k, none⟩ (.int .u8 t))) := by
  have HB2 : Below w.heap.size w w2 := own_grown HB1.out hg (World.ownsRow_nil w1 w.heap.size 5 1) hs1
  rw [Nat.zero_add, List.nil_append] at ho0
  obtain ⟨g, cap, rfl, hgb⟩ := own_pos6 ho0 (by omega)
  refine ⟨g, cap, rfl, ho0.frozenAt k, (ho0.cellAt k (by omega)).trans (by rw [List.getElem?_map, HY.out]; rfl), ?_, HB2.setCell (p := ⟨g, k, none⟩) hgb _⟩
  have h := (ho0.stored k (.int .u8 t)).1
  rw [← List.map_set] at h
  exact h

set_option maxRecDepth 100000 in
set_option maxHeartbeats 2000000 in
theorem sums_walk (a : Option Addr) (zs : List Int) (len cap : Nat) (i to' : Int) (w : World) (hT : Tab6 w) (hb : Bytey zs) (hl : zs.length = len) (hm : len ≤ 140737488355328)
    (hc : Lies .u8 w a zs) (hn : a = none → len = 0 ∧ cap = 0) (hi : -9223372036854775808 ≤ i ∧ i ≤ 9223372036854775807) (ht : 0 ≤ to' ∧ to' ≤ 255) :
    Calls Tryd.prog 8 #[.slice a len cap, .int .i64 i, .int .u8 to'] w fun e w' => e = .returned (.bool true) ∧ Below w.heap.size w w' := by
  have HA := awake6_any w hT
  have HL : Hid (∀ W, Below w.heap.size w W → Lies .u8 W a zs) := fun W hW => hc.below hW
  have HR : Hid (∀ W, Below w.heap.size w W → Calls Tryd.prog 31 #[.slice a len cap] W fun e w' => e = .returned (.int .u32 (crs zs : Nat)) ∧ W = w') := fun W hW => rsum_any a zs len cap W hb hl hm (HL.out W hW)
  have HS : Hid (∀ W, Below w.heap.size w W → Calls Tryd.prog 32 #[.slice a len cap] W fun e w' => e = .returned (.int .u32 (crs zs : Nat)) ∧ W = w') := fun W hW => sum_any a zs len cap W hb hl hm (HL.out W hW)
  obtain ⟨i0, hinf, hz0, hz1, hz2⟩ := info_parts Tryd.info_u8
  have HB : Hid (Bytey zs) := hb
  have HLE : Hid (zs.length = len) := hl
  have HN : Hid (a = none → len = 0 ∧ cap = 0) := hn
  clear hT hc hb hl hn
  obtain ⟨hi0, hi1⟩ := hi
  obtain ⟨ht0, ht1⟩ := ht
  obtain ⟨S, hS⟩ : ∃ S : Nat, S = crs zs := ⟨_, rfl⟩
  rw [← hS] at HR HS
  have HSE : Hid (S = crs zs) := hS
  clear hS
  go_enter Tryd.func8, Tryd.ntmps8
  go_wp2_with fail
  refine HA.mono ?_
  rintro e w1 ⟨rfl, hb1⟩
  have HB1 : Hid (Below w.heap.size w w1) := hb1
  clear HA hb1
  by_cases h0 : len = 0
  · subst h0
    go_wp2_with (first
      | (go_at_call 31; refine (HR.out _ HB1.out).mono ?_; rintro e w' ⟨rfl, rfl⟩)
      | (go_at_call 32; refine (HS.out _ HB1.out).mono ?_; rintro e w' ⟨rfl, rfl⟩))
    go_ret
    exact ⟨rfl, HB1.out⟩
  · by_cases hneg : i < 0
    · have h0' : ¬ (len : Int) = 0 := by omega
      go_wp2_with (first
        | (go_at_call 31; refine (HR.out _ HB1.out).mono ?_; rintro e w' ⟨rfl, rfl⟩)
        | (go_at_call 32; refine (HS.out _ HB1.out).mono ?_; rintro e w' ⟨rfl, rfl⟩))
      go_ret
      exact ⟨rfl, HB1.out⟩
    · have h0' : ¬ (len : Int) = 0 := by omega
      have hlp : (0 : Int) < len := by omega
      obtain ⟨k, hk⟩ : ∃ k : Nat, i.tmod len = (k : Int) := ⟨(i.tmod len).toNat, by rw [Int.toNat_of_nonneg (Int.tmod_nonneg _ (by omega))]⟩
      have hkl : k < len := by have := Int.tmod_lt_of_pos i hlp; omega
      have hkm : Int.tmod i len = k := hk
      obtain ⟨y, hy⟩ : ∃ y, zs[k]? = some y := ⟨_, List.getElem?_eq_getElem (by rw [HLE.out]; exact hkl)⟩
      obtain ⟨g, off, hga⟩ : ∃ g off, a = some ⟨g, off, none⟩ := by
        rcases HL.out w (Below.refl _ _) with h | ⟨g, off, h, _⟩
        · have := HLE.out; rw [h] at this; simp at this; omega
        · exact ⟨g, off, h⟩
      subst hga
      have hcy : ∀ W, Below w.heap.size w W → W.cell? ⟨g, off + k, none⟩ = some (.int .u8 y) := by
        intro W hW
        rcases HL.out W hW with h | ⟨g', off', h, hc⟩
        · have := HLE.out; rw [h] at this; simp at this; omega
        · simp only [Option.some.injEq, Addr.mk.injEq, and_true] at h
          obtain ⟨rfl, rfl⟩ := h
          rw [hc k (by rw [HLE.out]; exact hkl), List.getD_eq_getElem?_getD, hy]; rfl
      have HY : Hid (zs[k]? = some y) := hy
      have HCY : Hid (∀ W, Below w.heap.size w W → W.cell? ⟨g, off + k, none⟩ = some (.int .u8 y)) := hcy
      clear hy hcy
      have hs1 := HB1.out.size
      have hz' : ((len : Int) == 0) = false := by simpa using h0
      have hn' : decide (i < 0) = false := decide_eq_false hneg
      go_wp2_with fail
      refine (HR.out _ HB1.out).mono ?_
      rintro e w' ⟨rfl, rfl⟩
      go_wp2_with fail
      refine (HS.out _ HB1.out).mono ?_
      rintro e w' ⟨rfl, rfl⟩
      clear HR HS
      go_wp2_with (at_builtin; refine append_any _ rfl _ _ 39 rfl w.heap.size 5 i0 (.int .u8 0) 1 Tryd.underlying39 hinf hz0 hz1 hz2 rfl _ 0 [] rfl (World.ownsRow_nil _ _ _ _) .u8 _ _ _ zs rfl (by intro h; cases h) HLE.out (HL.out _ HB1.out) (by unfold maxLen; omega) (by omega) hs1 ?_; intro v2 w2 ho2 hg2; obtain ⟨g2, cap2, rfl, hfr, hce, HST, HB3⟩ := turn_row (k := k) (t := to') hs1 HB1 hg2 ho2 hkl HY; clear ho2 hg2)
      have HO := own_lies HST.out
      have hby : Bytey (zs.set k to') := fun z hz => by
        rcases List.mem_or_eq_of_mem_set hz with h | h
        · exact HB.out z h
        · subst h; exact ⟨ht0, ht1⟩
      refine (sum_any _ (zs.set k to') len cap2 _ hby HO.2 hm HO.1).mono ?_
      rintro e w' ⟨rfl, rfl⟩
      have hcz := HCY.out _ HB3.out
      have HEQ : Hid ((crs (zs.set k to') = crs zs) ↔ to' = y) := crs_set HY.out HB.out ⟨ht0, ht1⟩
      rw [← HSE.out] at HEQ
      generalize w2.setCell ⟨g2, k, none⟩ (.int .u8 to') = w3 at *
      generalize crs (zs.set k to') = S2 at *
      clear HO hby HST HL HCY hce hfr
      go_wp2
      go_ret
      refine ⟨congrArg (fun b => Ending.returned (Value.bool b)) ?_, HB3.out⟩
      show (((S2 : Int) == (S : Int)) == (to' == y)) = true
      by_cases hty : to' = y
      · have h1 := HEQ.out.mpr hty
        rw [h1, hty]
        simp
      · have h1 : ¬ (S2 : Int) = (S : Int) := fun h => hty (HEQ.out.mp (by omega))
        rw [beq_false_of_ne h1, beq_false_of_ne hty]
        rfl
end Go.Proofs.YtfghdhikjhbbgafDoor
