import Derived.Test.YtkkmoplijicmpabDoorAwake2
import Derived.Test.YtkkmoplijicmpabDoorFirstMath
namespace Go.Proofs.YtkkmoplijicmpabDoor
open Go.RowKit

theorem prs_nil : (prs []).1 = 20 := rfl
theorem take_bytey {zs : List Int} (h : Bytey zs) (k : Nat) : Bytey (zs.take k) := fun z hz => h z (List.mem_of_mem_take hz)

theorem bytey_append {a b : List Int} (h : Bytey a) (h' : Bytey b) : Bytey (a ++ b) := fun z hz => (List.mem_append.mp hz).elim (h z) (h' z)
theorem own_bounds {w : World} {base n c : Nat} {e : TypeId} {a : Option Addr} {xs : List Value} (h : w.ownsRow base e 1 (.slice a n c) n xs) : n ≤ c ∧ c ≤ 9223372036854775807 ∧ (a = none → n = 0 ∧ c = 0) := by
  obtain ⟨_, ⟨hv, h0⟩ | ⟨g, cap, cur, hv, _, _, h1, h2, _⟩⟩ := h
  · simp at hv
    exact ⟨by omega, by omega, fun _ => by omega⟩
  · simp at hv
    obtain ⟨rfl, rfl⟩ := hv
    unfold maxLen at h2
    exact ⟨h1, by omega, fun h => by cases h⟩

def FirstPost (w : World) (e : Ending) (w' : World) : Prop := e = .returned (.bool true) ∧ Below w.heap.size w w'

set_option maxRecDepth 100000 in
set_option maxHeartbeats 8000000 in
theorem first_small (x : Addr) (zs : List Int) (len cap : Nat) (a' : Option Addr) (ms : List Int) (len' cap' : Nat) (w : World) (hT : Tab w) (hb : Bytey zs) (hb' : Bytey ms) (hl : zs.length = len) (hl' : ms.length = len') (hlc : len ≤ cap) (hlc' : len' ≤ cap') (hm : cap ≤ 1048576) (hm' : cap' ≤ 1048576)
    (hc : Lies .u8 w (some x) zs) (hc' : Lies .u8 w a' ms) (hn' : a' = none → len' = 0 ∧ cap' = 0) (hbig : ¬ 300 < len) :
    Calls Tryd.prog 7 #[.slice (some x) len cap, .slice a' len' cap'] w (FirstPost w) := by
  obtain ⟨i0, hi, hz0, hz1, hz2⟩ := info_parts Tryd.info_u8
  have hw0 : 0 < w.heap.size := World.block_lt_of_cell? w ⟨0, 0, none⟩ (hT 0 (by omega))
  have HT : Hid (Tab w) := hT
  have HBY : Hid (Bytey zs) := hb
  have HL : Hid (zs.length = len) := by unfold Hid; exact hl
  have HLI : Hid (Lies .u8 w (some x) zs) := hc
  have HBM : Hid (Bytey ms ∧ ms.length = len' ∧ Lies .u8 w a' ms ∧ (a' = none → len' = 0 ∧ cap' = 0)) := ⟨hb', hl', hc', hn'⟩
  have hbig' : ¬ (300 : Int) < (len : Int) := by omega
  have hn3 : len ≤ 300 := by omega
  have hnc : len ≤ cap := by omega
  clear hT hb hc hl hl' hb' hc' hn'
  go_enter Tryd.func7, Tryd.ntmps7
  go_wp2_with fail
  refine (awake_any w HT.out).mono ?_
  rintro e w1 ⟨rfl, hb1⟩
  have HB1 : Hid (Below w.heap.size w w1) := hb1
  clear hb1
  go_wp2_with fail
  refine (parse_any (some x) zs len cap w1 HBY.out HL.out hnc (by omega) (HLI.out.below HB1.out) (fun h => by cases h) (HT.out.below HB1.out hw0)).mono ?_
  rintro e w2 ⟨hv, tv, dv, cv, hx, tx, B1, B2, rfl, hso, hb2⟩
  obtain ⟨a1, c1, rfl⟩ := own_shape hso.head.row
  obtain ⟨a2, c2, rfl⟩ := own_shape hso.tail.row
  obtain ⟨a3, c3, rfl⟩ := own_shape hso.clm
  obtain ⟨a4, c4, rfl⟩ := own_shape hso.data
  have HB2 : Hid (Below w.heap.size w w2) := HB1.out.trans (hb2.mono HB1.out.size)
  simp only [sv]
  clear hso hb2 HB1
  generalize (prs zs).2 = S at *
  generalize hE : (prs zs).1 = E
  have HE : Hid ((prs zs).1 = E) := hE
  clear hE
  by_cases he : E = 21 ∨ E = 22 ∨ E = 23
  · have HEE : Hid (E = 21 ∨ E = 22 ∨ E = 23) := he
    have hE20 : E ≠ 20 := by omega
    rcases he with rfl | rfl | rfl
    · go_wp2_with fail
      go_loopw [8, 9] (fun kk ff wr => ∃ k : Nat, k ≤ len + 1 ∧ kk = .int .i64 k ∧ ff = .int .i64 20 ∧ Below w.heap.size w wr ∧ (∀ j, j < k → (prs (zs.take j)).1 = 20)) (fun kk _ _ => len + 1 - (intOf kk).toNat)
      case atStart => exact ⟨0, by omega, rfl, rfl, HB2.out.alloc HB2.out.size _, fun j hj => by omega⟩
      case round =>
        obtain ⟨k, hk, rfl, rfl, hbel, hall⟩ := hrel
        have HBr : Hid (Below w.heap.size w wr) := hbel
        have HAll : Hid (∀ j, j < k → (prs (zs.take j)).1 = 20) := hall
        have hkN : k ≤ len := by
          rcases Nat.lt_or_ge len k with q | q
          · exfalso
            have h1 := hall len q
            rw [List.take_of_length_le (by have := HL.out; omega)] at h1
            have h2 := HE.out; rw [h1] at h2; exact absurd h2 (by decide)
          · exact q
        clear hbel hall
        have hk1 : (k : Int) ≤ (len : Int) := by omega
        have hk2 : (k : Int) ≤ (cap : Int) := by omega
        have HLk : Hid ((zs.take k).length = k) := by have := HL.out; unfold Hid; rw [List.length_take]; omega
        go_wp2_with fail
        refine (parse_any (some x) (zs.take k) k cap wr (take_bytey HBY.out k) HLk.out (by omega) (by omega) (take_lies (HLI.out.below HBr.out) k) (fun h => by cases h) (HT.out.below HBr.out hw0)).mono ?_
        rintro e w3 ⟨hv, tv, dv, cv, hx, tx, B1, B2, rfl, hso, hb3⟩
        have HB3 : Hid (Below w.heap.size w w3) := HBr.out.trans (hb3.mono HBr.out.size)
        clear hso hb3 HBr
        generalize hF : (prs (zs.take k)).1 = F
        have HF : Hid ((prs (zs.take k)).1 = F) := hF
        clear hF
        generalize sv (prs (zs.take k)).2 hv tv dv cv = SV
        by_cases hf : F = 20
        · subst hf
          go_wp2
          go_roundw
          case rel =>
            refine ⟨k + 1, by omega, by go_num, rfl, HB3.out, fun j hj => ?_⟩
            rcases Nat.lt_or_ge j k with q | q
            · exact HAll.out j q
            · obtain rfl : j = k := by omega
              exact HF.out
          case measure => simp [intOf]; omega
        · have hfm := first_math zs (by have := HL.out; omega) 21 (by decide) HE.out k (by rw [HF.out]; exact hf)
          have hFe : F = 21 := HF.out.symm.trans hfm.1
          subst hFe
          have HFM := hfm.2 ms
          have HG : Hid ((prs (zs.take k ++ ms)).1 = 21 ∨ ((prs (zs.take k ++ ms)).1 = 2 ∧ 8192 < (zs.take k ++ ms).length)) := HFM
          have HLik : Hid (Lies .u8 w3 (some x) (zs.take k)) := take_lies (HLI.out.below HB3.out) k
          clear hfm HFM hf HAll HF
          go_wp2_with (at_builtin; refine append_any _ rfl _ _ 25 rfl w3.heap.size 5 i0 (.int .u8 0) 1 Tryd.underlying25 hi hz0 hz1 hz2 rfl _ _ _ rfl (World.ownsRow_nil _ _ _ _) .u8 (some x) k cap (zs.take k) rfl (fun h => by cases h) HLk.out HLik.out (by unfold maxLen; omega) (by omega) (Nat.le_refl _) ?_)
          intro l1 w4 hown4 hgr4
          have hb4 : Below w3.heap.size w3 w4 := own_grown (Below.refl _ _) hgr4 (World.ownsRow_nil _ _ 5 1) (Nat.le_refl _)
          have HO4 : Hid (w4.ownsRow w3.heap.size 5 1 l1 k ((zs.take k).map (Value.int .u8))) := by
            unfold Hid; simpa using hown4
          have HB4 : Hid (Below w.heap.size w w4) := HB3.out.trans (hb4.mono HB3.out.size)
          have hs4 : w3.heap.size ≤ w4.heap.size := hb4.size
          have hml : len' ≤ 1048576 := by omega
          clear hown4 hgr4 hb4 HLik
          go_wp2_with (at_builtin; refine append_any _ rfl _ _ 25 rfl w3.heap.size 5 i0 (.int .u8 0) 1 Tryd.underlying25 hi hz0 hz1 hz2 rfl _ _ _ rfl HO4.out .u8 a' len' cap' ms rfl HBM.out.2.2.2 HBM.out.2.1 (HBM.out.2.2.1.below HB4.out) (by unfold maxLen; omega) (by omega) hs4 ?_)
          intro l2 w5 hown5 hgr5
          have HO5 : Hid (w5.ownsRow w3.heap.size 5 1 l2 (k + len') ((zs.take k ++ ms).map (Value.int .u8))) := by
            unfold Hid; rw [List.map_append]; simpa [List.map_take] using hown5
          have HB5 : Hid (Below w.heap.size w w5) := HB4.out.trans ((own_grown (Below.refl _ _) hgr5 HO4.out hs4).mono HB3.out.size)
          clear hown5 hgr5 HO4 HB4
          obtain ⟨al, cl, rfl⟩ := own_shape HO5.out
          obtain ⟨ob1, ob2, ob3⟩ := own_bounds HO5.out
          have hol := own_lies HO5.out
          have HLO : Hid (Lies .u8 w5 al (zs.take k ++ ms)) := hol.1
          have HLL : Hid ((zs.take k ++ ms).length = k + len') := hol.2
          have HN5 : Hid (al = none → k + len' = 0 ∧ cl = 0) := ob3
          clear hol ob3
          go_wp2_with fail
          refine (parse_any al (zs.take k ++ ms) (k + len') cl w5 (bytey_append (take_bytey HBY.out k) HBM.out.1) HLL.out ob1 ob2 HLO.out HN5.out (HT.out.below HB5.out hw0)).mono ?_
          rintro e w6 ⟨hv6, tv6, dv6, cv6, hx6, tx6, B16, B26, rfl, hso6, hb6⟩
          obtain ⟨a16, c16, rfl⟩ := own_shape hso6.head.row
          obtain ⟨a26, c26, rfl⟩ := own_shape hso6.tail.row
          obtain ⟨a36, c36, rfl⟩ := own_shape hso6.clm
          obtain ⟨a46, c46, rfl⟩ := own_shape hso6.data
          have HB6 : Hid (Below w.heap.size w w6) := HB5.out.trans (hb6.mono HB5.out.size)
          have HLL2 := HLL.out
          rcases HG.out with hg | ⟨hg, hg8⟩
          · rw [hg]
            simp only [sv]
            clear hso6 hb6 HB5 HLO HLL HLL2 HO5 hg HG
            go_wp2
            go_ret
            exact ⟨rfl, HB6.out.alloc HB6.out.size _⟩
          · rw [hg]
            rw [HLL2] at hg8
            have hg9 : (8192 : Int) < (k : Int) + (len' : Int) := by omega
            simp only [sv]
            clear hso6 hb6 HB5 HLO HLL HLL2 HO5 hg HG
            go_wp2
            go_ret
            exact ⟨rfl, HB6.out.alloc HB6.out.size _⟩
    · go_wp2_with fail
      go_loopw [8, 9] (fun kk ff wr => ∃ k : Nat, k ≤ len + 1 ∧ kk = .int .i64 k ∧ ff = .int .i64 20 ∧ Below w.heap.size w wr ∧ (∀ j, j < k → (prs (zs.take j)).1 = 20)) (fun kk _ _ => len + 1 - (intOf kk).toNat)
      case atStart => exact ⟨0, by omega, rfl, rfl, HB2.out.alloc HB2.out.size _, fun j hj => by omega⟩
      case round =>
        obtain ⟨k, hk, rfl, rfl, hbel, hall⟩ := hrel
        have HBr : Hid (Below w.heap.size w wr) := hbel
        have HAll : Hid (∀ j, j < k → (prs (zs.take j)).1 = 20) := hall
        have hkN : k ≤ len := by
          rcases Nat.lt_or_ge len k with q | q
          · exfalso
            have h1 := hall len q
            rw [List.take_of_length_le (by have := HL.out; omega)] at h1
            have h2 := HE.out; rw [h1] at h2; exact absurd h2 (by decide)
          · exact q
        clear hbel hall
        have hk1 : (k : Int) ≤ (len : Int) := by omega
        have hk2 : (k : Int) ≤ (cap : Int) := by omega
        have HLk : Hid ((zs.take k).length = k) := by have := HL.out; unfold Hid; rw [List.length_take]; omega
        go_wp2_with fail
        refine (parse_any (some x) (zs.take k) k cap wr (take_bytey HBY.out k) HLk.out (by omega) (by omega) (take_lies (HLI.out.below HBr.out) k) (fun h => by cases h) (HT.out.below HBr.out hw0)).mono ?_
        rintro e w3 ⟨hv, tv, dv, cv, hx, tx, B1, B2, rfl, hso, hb3⟩
        have HB3 : Hid (Below w.heap.size w w3) := HBr.out.trans (hb3.mono HBr.out.size)
        clear hso hb3 HBr
        generalize hF : (prs (zs.take k)).1 = F
        have HF : Hid ((prs (zs.take k)).1 = F) := hF
        clear hF
        generalize sv (prs (zs.take k)).2 hv tv dv cv = SV
        by_cases hf : F = 20
        · subst hf
          go_wp2
          go_roundw
          case rel =>
            refine ⟨k + 1, by omega, by go_num, rfl, HB3.out, fun j hj => ?_⟩
            rcases Nat.lt_or_ge j k with q | q
            · exact HAll.out j q
            · obtain rfl : j = k := by omega
              exact HF.out
          case measure => simp [intOf]; omega
        · have hfm := first_math zs (by have := HL.out; omega) 22 (by decide) HE.out k (by rw [HF.out]; exact hf)
          have hFe : F = 22 := HF.out.symm.trans hfm.1
          subst hFe
          have HFM := hfm.2 ms
          have HG : Hid ((prs (zs.take k ++ ms)).1 = 22 ∨ ((prs (zs.take k ++ ms)).1 = 2 ∧ 8192 < (zs.take k ++ ms).length)) := HFM
          have HLik : Hid (Lies .u8 w3 (some x) (zs.take k)) := take_lies (HLI.out.below HB3.out) k
          clear hfm HFM hf HAll HF
          go_wp2_with (at_builtin; refine append_any _ rfl _ _ 25 rfl w3.heap.size 5 i0 (.int .u8 0) 1 Tryd.underlying25 hi hz0 hz1 hz2 rfl _ _ _ rfl (World.ownsRow_nil _ _ _ _) .u8 (some x) k cap (zs.take k) rfl (fun h => by cases h) HLk.out HLik.out (by unfold maxLen; omega) (by omega) (Nat.le_refl _) ?_)
          intro l1 w4 hown4 hgr4
          have hb4 : Below w3.heap.size w3 w4 := own_grown (Below.refl _ _) hgr4 (World.ownsRow_nil _ _ 5 1) (Nat.le_refl _)
          have HO4 : Hid (w4.ownsRow w3.heap.size 5 1 l1 k ((zs.take k).map (Value.int .u8))) := by
            unfold Hid; simpa using hown4
          have HB4 : Hid (Below w.heap.size w w4) := HB3.out.trans (hb4.mono HB3.out.size)
          have hs4 : w3.heap.size ≤ w4.heap.size := hb4.size
          have hml : len' ≤ 1048576 := by omega
          clear hown4 hgr4 hb4 HLik
          go_wp2_with (at_builtin; refine append_any _ rfl _ _ 25 rfl w3.heap.size 5 i0 (.int .u8 0) 1 Tryd.underlying25 hi hz0 hz1 hz2 rfl _ _ _ rfl HO4.out .u8 a' len' cap' ms rfl HBM.out.2.2.2 HBM.out.2.1 (HBM.out.2.2.1.below HB4.out) (by unfold maxLen; omega) (by omega) hs4 ?_)
          intro l2 w5 hown5 hgr5
          have HO5 : Hid (w5.ownsRow w3.heap.size 5 1 l2 (k + len') ((zs.take k ++ ms).map (Value.int .u8))) := by
            unfold Hid; rw [List.map_append]; simpa [List.map_take] using hown5
          have HB5 : Hid (Below w.heap.size w w5) := HB4.out.trans ((own_grown (Below.refl _ _) hgr5 HO4.out hs4).mono HB3.out.size)
          clear hown5 hgr5 HO4 HB4
          obtain ⟨al, cl, rfl⟩ := own_shape HO5.out
          obtain ⟨ob1, ob2, ob3⟩ := own_bounds HO5.out
          have hol := own_lies HO5.out
          have HLO : Hid (Lies .u8 w5 al (zs.take k ++ ms)) := hol.1
          have HLL : Hid ((zs.take k ++ ms).length = k + len') := hol.2
          have HN5 : Hid (al = none → k + len' = 0 ∧ cl = 0) := ob3
          clear hol ob3
          go_wp2_with fail
          refine (parse_any al (zs.take k ++ ms) (k + len') cl w5 (bytey_append (take_bytey HBY.out k) HBM.out.1) HLL.out ob1 ob2 HLO.out HN5.out (HT.out.below HB5.out hw0)).mono ?_
          rintro e w6 ⟨hv6, tv6, dv6, cv6, hx6, tx6, B16, B26, rfl, hso6, hb6⟩
          obtain ⟨a16, c16, rfl⟩ := own_shape hso6.head.row
          obtain ⟨a26, c26, rfl⟩ := own_shape hso6.tail.row
          obtain ⟨a36, c36, rfl⟩ := own_shape hso6.clm
          obtain ⟨a46, c46, rfl⟩ := own_shape hso6.data
          have HB6 : Hid (Below w.heap.size w w6) := HB5.out.trans (hb6.mono HB5.out.size)
          have HLL2 := HLL.out
          rcases HG.out with hg | ⟨hg, hg8⟩
          · rw [hg]
            simp only [sv]
            clear hso6 hb6 HB5 HLO HLL HLL2 HO5 hg HG
            go_wp2
            go_ret
            exact ⟨rfl, HB6.out.alloc HB6.out.size _⟩
          · rw [hg]
            rw [HLL2] at hg8
            have hg9 : (8192 : Int) < (k : Int) + (len' : Int) := by omega
            simp only [sv]
            clear hso6 hb6 HB5 HLO HLL HLL2 HO5 hg HG
            go_wp2
            go_ret
            exact ⟨rfl, HB6.out.alloc HB6.out.size _⟩
    · go_wp2_with fail
      go_loopw [8, 9] (fun kk ff wr => ∃ k : Nat, k ≤ len + 1 ∧ kk = .int .i64 k ∧ ff = .int .i64 20 ∧ Below w.heap.size w wr ∧ (∀ j, j < k → (prs (zs.take j)).1 = 20)) (fun kk _ _ => len + 1 - (intOf kk).toNat)
      case atStart => exact ⟨0, by omega, rfl, rfl, HB2.out.alloc HB2.out.size _, fun j hj => by omega⟩
      case round =>
        obtain ⟨k, hk, rfl, rfl, hbel, hall⟩ := hrel
        have HBr : Hid (Below w.heap.size w wr) := hbel
        have HAll : Hid (∀ j, j < k → (prs (zs.take j)).1 = 20) := hall
        have hkN : k ≤ len := by
          rcases Nat.lt_or_ge len k with q | q
          · exfalso
            have h1 := hall len q
            rw [List.take_of_length_le (by have := HL.out; omega)] at h1
            have h2 := HE.out; rw [h1] at h2; exact absurd h2 (by decide)
          · exact q
        clear hbel hall
        have hk1 : (k : Int) ≤ (len : Int) := by omega
        have hk2 : (k : Int) ≤ (cap : Int) := by omega
        have HLk : Hid ((zs.take k).length = k) := by have := HL.out; unfold Hid; rw [List.length_take]; omega
        go_wp2_with fail
        refine (parse_any (some x) (zs.take k) k cap wr (take_bytey HBY.out k) HLk.out (by omega) (by omega) (take_lies (HLI.out.below HBr.out) k) (fun h => by cases h) (HT.out.below HBr.out hw0)).mono ?_
        rintro e w3 ⟨hv, tv, dv, cv, hx, tx, B1, B2, rfl, hso, hb3⟩
        have HB3 : Hid (Below w.heap.size w w3) := HBr.out.trans (hb3.mono HBr.out.size)
        clear hso hb3 HBr
        generalize hF : (prs (zs.take k)).1 = F
        have HF : Hid ((prs (zs.take k)).1 = F) := hF
        clear hF
        generalize sv (prs (zs.take k)).2 hv tv dv cv = SV
        by_cases hf : F = 20
        · subst hf
          go_wp2
          go_roundw
          case rel =>
            refine ⟨k + 1, by omega, by go_num, rfl, HB3.out, fun j hj => ?_⟩
            rcases Nat.lt_or_ge j k with q | q
            · exact HAll.out j q
            · obtain rfl : j = k := by omega
              exact HF.out
          case measure => simp [intOf]; omega
        · have hfm := first_math zs (by have := HL.out; omega) 23 (by decide) HE.out k (by rw [HF.out]; exact hf)
          have hFe : F = 23 := HF.out.symm.trans hfm.1
          subst hFe
          have HFM := hfm.2 ms
          have HG : Hid ((prs (zs.take k ++ ms)).1 = 23 ∨ ((prs (zs.take k ++ ms)).1 = 2 ∧ 8192 < (zs.take k ++ ms).length)) := HFM
          have HLik : Hid (Lies .u8 w3 (some x) (zs.take k)) := take_lies (HLI.out.below HB3.out) k
          clear hfm HFM hf HAll HF
          go_wp2_with (at_builtin; refine append_any _ rfl _ _ 25 rfl w3.heap.size 5 i0 (.int .u8 0) 1 Tryd.underlying25 hi hz0 hz1 hz2 rfl _ _ _ rfl (World.ownsRow_nil _ _ _ _) .u8 (some x) k cap (zs.take k) rfl (fun h => by cases h) HLk.out HLik.out (by unfold maxLen; omega) (by omega) (Nat.le_refl _) ?_)
          intro l1 w4 hown4 hgr4
          have hb4 : Below w3.heap.size w3 w4 := own_grown (Below.refl _ _) hgr4 (World.ownsRow_nil _ _ 5 1) (Nat.le_refl _)
          have HO4 : Hid (w4.ownsRow w3.heap.size 5 1 l1 k ((zs.take k).map (Value.int .u8))) := by
            unfold Hid; simpa using hown4
          have HB4 : Hid (Below w.heap.size w w4) := HB3.out.trans (hb4.mono HB3.out.size)
          have hs4 : w3.heap.size ≤ w4.heap.size := hb4.size
          have hml : len' ≤ 1048576 := by omega
          clear hown4 hgr4 hb4 HLik
          go_wp2_with (at_builtin; refine append_any _ rfl _ _ 25 rfl w3.heap.size 5 i0 (.int .u8 0) 1 Tryd.underlying25 hi hz0 hz1 hz2 rfl _ _ _ rfl HO4.out .u8 a' len' cap' ms rfl HBM.out.2.2.2 HBM.out.2.1 (HBM.out.2.2.1.below HB4.out) (by unfold maxLen; omega) (by omega) hs4 ?_)
          intro l2 w5 hown5 hgr5
          have HO5 : Hid (w5.ownsRow w3.heap.size 5 1 l2 (k + len') ((zs.take k ++ ms).map (Value.int .u8))) := by
            unfold Hid; rw [List.map_append]; simpa [List.map_take] using hown5
          have HB5 : Hid (Below w.heap.size w w5) := HB4.out.trans ((own_grown (Below.refl _ _) hgr5 HO4.out hs4).mono HB3.out.size)
          clear hown5 hgr5 HO4 HB4
          obtain ⟨al, cl, rfl⟩ := own_shape HO5.out
          obtain ⟨ob1, ob2, ob3⟩ := own_bounds HO5.out
          have hol := own_lies HO5.out
          have HLO : Hid (Lies .u8 w5 al (zs.take k ++ ms)) := hol.1
          have HLL : Hid ((zs.take k ++ ms).length = k + len') := hol.2
          have HN5 : Hid (al = none → k + len' = 0 ∧ cl = 0) := ob3
          clear hol ob3
          go_wp2_with fail
          refine (parse_any al (zs.take k ++ ms) (k + len') cl w5 (bytey_append (take_bytey HBY.out k) HBM.out.1) HLL.out ob1 ob2 HLO.out HN5.out (HT.out.below HB5.out hw0)).mono ?_
          rintro e w6 ⟨hv6, tv6, dv6, cv6, hx6, tx6, B16, B26, rfl, hso6, hb6⟩
          obtain ⟨a16, c16, rfl⟩ := own_shape hso6.head.row
          obtain ⟨a26, c26, rfl⟩ := own_shape hso6.tail.row
          obtain ⟨a36, c36, rfl⟩ := own_shape hso6.clm
          obtain ⟨a46, c46, rfl⟩ := own_shape hso6.data
          have HB6 : Hid (Below w.heap.size w w6) := HB5.out.trans (hb6.mono HB5.out.size)
          have HLL2 := HLL.out
          rcases HG.out with hg | ⟨hg, hg8⟩
          · rw [hg]
            simp only [sv]
            clear hso6 hb6 HB5 HLO HLL HLL2 HO5 hg HG
            go_wp2
            go_ret
            exact ⟨rfl, HB6.out.alloc HB6.out.size _⟩
          · rw [hg]
            rw [HLL2] at hg8
            have hg9 : (8192 : Int) < (k : Int) + (len' : Int) := by omega
            simp only [sv]
            clear hso6 hb6 HB5 HLO HLL HLL2 HO5 hg HG
            go_wp2
            go_ret
            exact ⟨rfl, HB6.out.alloc HB6.out.size _⟩
  · have n1 : (E != 21) = true := by simp; omega
    have n2 : (E != 22) = true := by simp; omega
    have n3 : (E != 23) = true := by simp; omega
    clear he
    go_wp2
    go_ret
    exact ⟨rfl, HB2.out.alloc HB2.out.size _⟩

set_option maxRecDepth 100000 in
set_option maxHeartbeats 8000000 in
theorem first_big (x : Addr) (zs : List Int) (len cap : Nat) (a' : Option Addr) (ms : List Int) (len' cap' : Nat) (w : World) (hT : Tab w) (hb : Bytey zs) (hb' : Bytey ms) (hl : zs.length = len) (hl' : ms.length = len') (hlc : len ≤ cap) (hlc' : len' ≤ cap') (hm : cap ≤ 1048576) (hm' : cap' ≤ 1048576)
    (hc : Lies .u8 w (some x) zs) (hc' : Lies .u8 w a' ms) (hn' : a' = none → len' = 0 ∧ cap' = 0) (hbig : 300 < len) :
    Calls Tryd.prog 7 #[.slice (some x) len cap, .slice a' len' cap'] w (FirstPost w) := by
  obtain ⟨i0, hi, hz0, hz1, hz2⟩ := info_parts Tryd.info_u8
  have hw0 : 0 < w.heap.size := World.block_lt_of_cell? w ⟨0, 0, none⟩ (hT 0 (by omega))
  have HT : Hid (Tab w) := hT
  have HBY : Hid (Bytey (zs.take 300)) := take_bytey hb 300
  have HL : Hid ((zs.take 300).length = 300) := by unfold Hid; simp; omega
  have HLI : Hid (Lies .u8 w (some x) (zs.take 300)) := take_lies hc 300
  have HBM : Hid (Bytey ms ∧ ms.length = len' ∧ Lies .u8 w a' ms ∧ (a' = none → len' = 0 ∧ cap' = 0)) := ⟨hb', hl', hc', hn'⟩
  have hbig' :  (300 : Int) < (len : Int) := by omega
  have hn3 : 300 ≤ 300 := by omega
  have hnc : 300 ≤ cap := by omega
  clear hT hb hc hl hl' hb' hc' hn'
  go_enter Tryd.func7, Tryd.ntmps7
  go_wp2_with fail
  refine (awake_any w HT.out).mono ?_
  rintro e w1 ⟨rfl, hb1⟩
  have HB1 : Hid (Below w.heap.size w w1) := hb1
  clear hb1
  go_wp2_with fail
  refine (parse_any (some x) (zs.take 300) 300 cap w1 HBY.out HL.out hnc (by omega) (HLI.out.below HB1.out) (fun h => by cases h) (HT.out.below HB1.out hw0)).mono ?_
  rintro e w2 ⟨hv, tv, dv, cv, hx, tx, B1, B2, rfl, hso, hb2⟩
  obtain ⟨a1, c1, rfl⟩ := own_shape hso.head.row
  obtain ⟨a2, c2, rfl⟩ := own_shape hso.tail.row
  obtain ⟨a3, c3, rfl⟩ := own_shape hso.clm
  obtain ⟨a4, c4, rfl⟩ := own_shape hso.data
  have HB2 : Hid (Below w.heap.size w w2) := HB1.out.trans (hb2.mono HB1.out.size)
  simp only [sv]
  clear hso hb2 HB1
  generalize (prs (zs.take 300)).2 = S at *
  generalize hE : (prs (zs.take 300)).1 = E
  have HE : Hid ((prs (zs.take 300)).1 = E) := hE
  clear hE
  by_cases he : E = 21 ∨ E = 22 ∨ E = 23
  · have HEE : Hid (E = 21 ∨ E = 22 ∨ E = 23) := he
    have hE20 : E ≠ 20 := by omega
    rcases he with rfl | rfl | rfl
    · go_wp2_with fail
      go_loopw [8, 9] (fun kk ff wr => ∃ k : Nat, k ≤ 300 + 1 ∧ kk = .int .i64 k ∧ ff = .int .i64 20 ∧ Below w.heap.size w wr ∧ (∀ j, j < k → (prs ((zs.take 300).take j)).1 = 20)) (fun kk _ _ => 300 + 1 - (intOf kk).toNat)
      case atStart => exact ⟨0, by omega, rfl, rfl, HB2.out.alloc HB2.out.size _, fun j hj => by omega⟩
      case round =>
        obtain ⟨k, hk, rfl, rfl, hbel, hall⟩ := hrel
        have HBr : Hid (Below w.heap.size w wr) := hbel
        have HAll : Hid (∀ j, j < k → (prs ((zs.take 300).take j)).1 = 20) := hall
        have hkN : k ≤ 300 := by
          rcases Nat.lt_or_ge 300 k with q | q
          · exfalso
            have h1 := hall 300 q
            rw [List.take_of_length_le (by have := HL.out; omega)] at h1
            have h2 := HE.out; rw [h1] at h2; exact absurd h2 (by decide)
          · exact q
        clear hbel hall
        have hk1 : (k : Int) ≤ (300 : Int) := by omega
        have hk2 : (k : Int) ≤ (cap : Int) := by omega
        have HLk : Hid (((zs.take 300).take k).length = k) := by have := HL.out; unfold Hid; rw [List.length_take]; omega
        go_wp2_with fail
        refine (parse_any (some x) ((zs.take 300).take k) k cap wr (take_bytey HBY.out k) HLk.out (by omega) (by omega) (take_lies (HLI.out.below HBr.out) k) (fun h => by cases h) (HT.out.below HBr.out hw0)).mono ?_
        rintro e w3 ⟨hv, tv, dv, cv, hx, tx, B1, B2, rfl, hso, hb3⟩
        have HB3 : Hid (Below w.heap.size w w3) := HBr.out.trans (hb3.mono HBr.out.size)
        clear hso hb3 HBr
        generalize hF : (prs ((zs.take 300).take k)).1 = F
        have HF : Hid ((prs ((zs.take 300).take k)).1 = F) := hF
        clear hF
        generalize sv (prs ((zs.take 300).take k)).2 hv tv dv cv = SV
        by_cases hf : F = 20
        · subst hf
          go_wp2
          go_roundw
          case rel =>
            refine ⟨k + 1, by omega, by go_num, rfl, HB3.out, fun j hj => ?_⟩
            rcases Nat.lt_or_ge j k with q | q
            · exact HAll.out j q
            · obtain rfl : j = k := by omega
              exact HF.out
          case measure => simp [intOf]; omega
        · have hfm := first_math (zs.take 300) (by have := HL.out; omega) 21 (by decide) HE.out k (by rw [HF.out]; exact hf)
          have hFe : F = 21 := HF.out.symm.trans hfm.1
          subst hFe
          have HFM := hfm.2 ms
          have HG : Hid ((prs ((zs.take 300).take k ++ ms)).1 = 21 ∨ ((prs ((zs.take 300).take k ++ ms)).1 = 2 ∧ 8192 < ((zs.take 300).take k ++ ms).length)) := HFM
          have HLik : Hid (Lies .u8 w3 (some x) ((zs.take 300).take k)) := take_lies (HLI.out.below HB3.out) k
          clear hfm HFM hf HAll HF
          go_wp2_with (at_builtin; refine append_any _ rfl _ _ 25 rfl w3.heap.size 5 i0 (.int .u8 0) 1 Tryd.underlying25 hi hz0 hz1 hz2 rfl _ _ _ rfl (World.ownsRow_nil _ _ _ _) .u8 (some x) k cap ((zs.take 300).take k) rfl (fun h => by cases h) HLk.out HLik.out (by unfold maxLen; omega) (by omega) (Nat.le_refl _) ?_)
          intro l1 w4 hown4 hgr4
          have hb4 : Below w3.heap.size w3 w4 := own_grown (Below.refl _ _) hgr4 (World.ownsRow_nil _ _ 5 1) (Nat.le_refl _)
          have HO4 : Hid (w4.ownsRow w3.heap.size 5 1 l1 k (((zs.take 300).take k).map (Value.int .u8))) := by
            unfold Hid; simpa using hown4
          have HB4 : Hid (Below w.heap.size w w4) := HB3.out.trans (hb4.mono HB3.out.size)
          have hs4 : w3.heap.size ≤ w4.heap.size := hb4.size
          have hml : len' ≤ 1048576 := by omega
          clear hown4 hgr4 hb4 HLik
          go_wp2_with (at_builtin; refine append_any _ rfl _ _ 25 rfl w3.heap.size 5 i0 (.int .u8 0) 1 Tryd.underlying25 hi hz0 hz1 hz2 rfl _ _ _ rfl HO4.out .u8 a' len' cap' ms rfl HBM.out.2.2.2 HBM.out.2.1 (HBM.out.2.2.1.below HB4.out) (by unfold maxLen; omega) (by omega) hs4 ?_)
          intro l2 w5 hown5 hgr5
          have HO5 : Hid (w5.ownsRow w3.heap.size 5 1 l2 (k + len') (((zs.take 300).take k ++ ms).map (Value.int .u8))) := by
            unfold Hid; rw [List.map_append]; simpa [List.map_take] using hown5
          have HB5 : Hid (Below w.heap.size w w5) := HB4.out.trans ((own_grown (Below.refl _ _) hgr5 HO4.out hs4).mono HB3.out.size)
          clear hown5 hgr5 HO4 HB4
          obtain ⟨al, cl, rfl⟩ := own_shape HO5.out
          obtain ⟨ob1, ob2, ob3⟩ := own_bounds HO5.out
          have hol := own_lies HO5.out
          have HLO : Hid (Lies .u8 w5 al ((zs.take 300).take k ++ ms)) := hol.1
          have HLL : Hid (((zs.take 300).take k ++ ms).length = k + len') := hol.2
          have HN5 : Hid (al = none → k + len' = 0 ∧ cl = 0) := ob3
          clear hol ob3
          go_wp2_with fail
          refine (parse_any al ((zs.take 300).take k ++ ms) (k + len') cl w5 (bytey_append (take_bytey HBY.out k) HBM.out.1) HLL.out ob1 ob2 HLO.out HN5.out (HT.out.below HB5.out hw0)).mono ?_
          rintro e w6 ⟨hv6, tv6, dv6, cv6, hx6, tx6, B16, B26, rfl, hso6, hb6⟩
          obtain ⟨a16, c16, rfl⟩ := own_shape hso6.head.row
          obtain ⟨a26, c26, rfl⟩ := own_shape hso6.tail.row
          obtain ⟨a36, c36, rfl⟩ := own_shape hso6.clm
          obtain ⟨a46, c46, rfl⟩ := own_shape hso6.data
          have HB6 : Hid (Below w.heap.size w w6) := HB5.out.trans (hb6.mono HB5.out.size)
          have HLL2 := HLL.out
          rcases HG.out with hg | ⟨hg, hg8⟩
          · rw [hg]
            simp only [sv]
            clear hso6 hb6 HB5 HLO HLL HLL2 HO5 hg HG
            go_wp2
            go_ret
            exact ⟨rfl, HB6.out.alloc HB6.out.size _⟩
          · rw [hg]
            rw [HLL2] at hg8
            have hg9 : (8192 : Int) < (k : Int) + (len' : Int) := by omega
            simp only [sv]
            clear hso6 hb6 HB5 HLO HLL HLL2 HO5 hg HG
            go_wp2
            go_ret
            exact ⟨rfl, HB6.out.alloc HB6.out.size _⟩
    · go_wp2_with fail
      go_loopw [8, 9] (fun kk ff wr => ∃ k : Nat, k ≤ 300 + 1 ∧ kk = .int .i64 k ∧ ff = .int .i64 20 ∧ Below w.heap.size w wr ∧ (∀ j, j < k → (prs ((zs.take 300).take j)).1 = 20)) (fun kk _ _ => 300 + 1 - (intOf kk).toNat)
      case atStart => exact ⟨0, by omega, rfl, rfl, HB2.out.alloc HB2.out.size _, fun j hj => by omega⟩
      case round =>
        obtain ⟨k, hk, rfl, rfl, hbel, hall⟩ := hrel
        have HBr : Hid (Below w.heap.size w wr) := hbel
        have HAll : Hid (∀ j, j < k → (prs ((zs.take 300).take j)).1 = 20) := hall
        have hkN : k ≤ 300 := by
          rcases Nat.lt_or_ge 300 k with q | q
          · exfalso
            have h1 := hall 300 q
            rw [List.take_of_length_le (by have := HL.out; omega)] at h1
            have h2 := HE.out; rw [h1] at h2; exact absurd h2 (by decide)
          · exact q
        clear hbel hall
        have hk1 : (k : Int) ≤ (300 : Int) := by omega
        have hk2 : (k : Int) ≤ (cap : Int) := by omega
        have HLk : Hid (((zs.take 300).take k).length = k) := by have := HL.out; unfold Hid; rw [List.length_take]; omega
        go_wp2_with fail
        refine (parse_any (some x) ((zs.take 300).take k) k cap wr (take_bytey HBY.out k) HLk.out (by omega) (by omega) (take_lies (HLI.out.below HBr.out) k) (fun h => by cases h) (HT.out.below HBr.out hw0)).mono ?_
        rintro e w3 ⟨hv, tv, dv, cv, hx, tx, B1, B2, rfl, hso, hb3⟩
        have HB3 : Hid (Below w.heap.size w w3) := HBr.out.trans (hb3.mono HBr.out.size)
        clear hso hb3 HBr
        generalize hF : (prs ((zs.take 300).take k)).1 = F
        have HF : Hid ((prs ((zs.take 300).take k)).1 = F) := hF
        clear hF
        generalize sv (prs ((zs.take 300).take k)).2 hv tv dv cv = SV
        by_cases hf : F = 20
        · subst hf
          go_wp2
          go_roundw
          case rel =>
            refine ⟨k + 1, by omega, by go_num, rfl, HB3.out, fun j hj => ?_⟩
            rcases Nat.lt_or_ge j k with q | q
            · exact HAll.out j q
            · obtain rfl : j = k := by omega
              exact HF.out
          case measure => simp [intOf]; omega
        · have hfm := first_math (zs.take 300) (by have := HL.out; omega) 22 (by decide) HE.out k (by rw [HF.out]; exact hf)
          have hFe : F = 22 := HF.out.symm.trans hfm.1
          subst hFe
          have HFM := hfm.2 ms
          have HG : Hid ((prs ((zs.take 300).take k ++ ms)).1 = 22 ∨ ((prs ((zs.take 300).take k ++ ms)).1 = 2 ∧ 8192 < ((zs.take 300).take k ++ ms).length)) := HFM
          have HLik : Hid (Lies .u8 w3 (some x) ((zs.take 300).take k)) := take_lies (HLI.out.below HB3.out) k
          clear hfm HFM hf HAll HF
          go_wp2_with (at_builtin; refine append_any _ rfl _ _ 25 rfl w3.heap.size 5 i0 (.int .u8 0) 1 Tryd.underlying25 hi hz0 hz1 hz2 rfl _ _ _ rfl (World.ownsRow_nil _ _ _ _) .u8 (some x) k cap ((zs.take 300).take k) rfl (fun h => by cases h) HLk.out HLik.out (by unfold maxLen; omega) (by omega) (Nat.le_refl _) ?_)
          intro l1 w4 hown4 hgr4
          have hb4 : Below w3.heap.size w3 w4 := own_grown (Below.refl _ _) hgr4 (World.ownsRow_nil _ _ 5 1) (Nat.le_refl _)
          have HO4 : Hid (w4.ownsRow w3.heap.size 5 1 l1 k (((zs.take 300).take k).map (Value.int .u8))) := by
            unfold Hid; simpa using hown4
          have HB4 : Hid (Below w.heap.size w w4) := HB3.out.trans (hb4.mono HB3.out.size)
          have hs4 : w3.heap.size ≤ w4.heap.size := hb4.size
          have hml : len' ≤ 1048576 := by omega
          clear hown4 hgr4 hb4 HLik
          go_wp2_with (at_builtin; refine append_any _ rfl _ _ 25 rfl w3.heap.size 5 i0 (.int .u8 0) 1 Tryd.underlying25 hi hz0 hz1 hz2 rfl _ _ _ rfl HO4.out .u8 a' len' cap' ms rfl HBM.out.2.2.2 HBM.out.2.1 (HBM.out.2.2.1.below HB4.out) (by unfold maxLen; omega) (by omega) hs4 ?_)
          intro l2 w5 hown5 hgr5
          have HO5 : Hid (w5.ownsRow w3.heap.size 5 1 l2 (k + len') (((zs.take 300).take k ++ ms).map (Value.int .u8))) := by
            unfold Hid; rw [List.map_append]; simpa [List.map_take] using hown5
          have HB5 : Hid (Below w.heap.size w w5) := HB4.out.trans ((own_grown (Below.refl _ _) hgr5 HO4.out hs4).mono HB3.out.size)
          clear hown5 hgr5 HO4 HB4
          obtain ⟨al, cl, rfl⟩ := own_shape HO5.out
          obtain ⟨ob1, ob2, ob3⟩ := own_bounds HO5.out
          have hol := own_lies HO5.out
          have HLO : Hid (Lies .u8 w5 al ((zs.take 300).take k ++ ms)) := hol.1
          have HLL : Hid (((zs.take 300).take k ++ ms).length = k + len') := hol.2
          have HN5 : Hid (al = none → k + len' = 0 ∧ cl = 0) := ob3
          clear hol ob3
          go_wp2_with fail
          refine (parse_any al ((zs.take 300).take k ++ ms) (k + len') cl w5 (bytey_append (take_bytey HBY.out k) HBM.out.1) HLL.out ob1 ob2 HLO.out HN5.out (HT.out.below HB5.out hw0)).mono ?_
          rintro e w6 ⟨hv6, tv6, dv6, cv6, hx6, tx6, B16, B26, rfl, hso6, hb6⟩
          obtain ⟨a16, c16, rfl⟩ := own_shape hso6.head.row
          obtain ⟨a26, c26, rfl⟩ := own_shape hso6.tail.row
          obtain ⟨a36, c36, rfl⟩ := own_shape hso6.clm
          obtain ⟨a46, c46, rfl⟩ := own_shape hso6.data
          have HB6 : Hid (Below w.heap.size w w6) := HB5.out.trans (hb6.mono HB5.out.size)
          have HLL2 := HLL.out
          rcases HG.out with hg | ⟨hg, hg8⟩
          · rw [hg]
            simp only [sv]
            clear hso6 hb6 HB5 HLO HLL HLL2 HO5 hg HG
            go_wp2
            go_ret
            exact ⟨rfl, HB6.out.alloc HB6.out.size _⟩
          · rw [hg]
            rw [HLL2] at hg8
            have hg9 : (8192 : Int) < (k : Int) + (len' : Int) := by omega
            simp only [sv]
            clear hso6 hb6 HB5 HLO HLL HLL2 HO5 hg HG
            go_wp2
            go_ret
            exact ⟨rfl, HB6.out.alloc HB6.out.size _⟩
    · go_wp2_with fail
      go_loopw [8, 9] (fun kk ff wr => ∃ k : Nat, k ≤ 300 + 1 ∧ kk = .int .i64 k ∧ ff = .int .i64 20 ∧ Below w.heap.size w wr ∧ (∀ j, j < k → (prs ((zs.take 300).take j)).1 = 20)) (fun kk _ _ => 300 + 1 - (intOf kk).toNat)
      case atStart => exact ⟨0, by omega, rfl, rfl, HB2.out.alloc HB2.out.size _, fun j hj => by omega⟩
      case round =>
        obtain ⟨k, hk, rfl, rfl, hbel, hall⟩ := hrel
        have HBr : Hid (Below w.heap.size w wr) := hbel
        have HAll : Hid (∀ j, j < k → (prs ((zs.take 300).take j)).1 = 20) := hall
        have hkN : k ≤ 300 := by
          rcases Nat.lt_or_ge 300 k with q | q
          · exfalso
            have h1 := hall 300 q
            rw [List.take_of_length_le (by have := HL.out; omega)] at h1
            have h2 := HE.out; rw [h1] at h2; exact absurd h2 (by decide)
          · exact q
        clear hbel hall
        have hk1 : (k : Int) ≤ (300 : Int) := by omega
        have hk2 : (k : Int) ≤ (cap : Int) := by omega
        have HLk : Hid (((zs.take 300).take k).length = k) := by have := HL.out; unfold Hid; rw [List.length_take]; omega
        go_wp2_with fail
        refine (parse_any (some x) ((zs.take 300).take k) k cap wr (take_bytey HBY.out k) HLk.out (by omega) (by omega) (take_lies (HLI.out.below HBr.out) k) (fun h => by cases h) (HT.out.below HBr.out hw0)).mono ?_
        rintro e w3 ⟨hv, tv, dv, cv, hx, tx, B1, B2, rfl, hso, hb3⟩
        have HB3 : Hid (Below w.heap.size w w3) := HBr.out.trans (hb3.mono HBr.out.size)
        clear hso hb3 HBr
        generalize hF : (prs ((zs.take 300).take k)).1 = F
        have HF : Hid ((prs ((zs.take 300).take k)).1 = F) := hF
        clear hF
        generalize sv (prs ((zs.take 300).take k)).2 hv tv dv cv = SV
        by_cases hf : F = 20
        · subst hf
          go_wp2
          go_roundw
          case rel =>
            refine ⟨k + 1, by omega, by go_num, rfl, HB3.out, fun j hj => ?_⟩
            rcases Nat.lt_or_ge j k with q | q
            · exact HAll.out j q
            · obtain rfl : j = k := by omega
              exact HF.out
          case measure => simp [intOf]; omega
        · have hfm := first_math (zs.take 300) (by have := HL.out; omega) 23 (by decide) HE.out k (by rw [HF.out]; exact hf)
          have hFe : F = 23 := HF.out.symm.trans hfm.1
          subst hFe
          have HFM := hfm.2 ms
          have HG : Hid ((prs ((zs.take 300).take k ++ ms)).1 = 23 ∨ ((prs ((zs.take 300).take k ++ ms)).1 = 2 ∧ 8192 < ((zs.take 300).take k ++ ms).length)) := HFM
          have HLik : Hid (Lies .u8 w3 (some x) ((zs.take 300).take k)) := take_lies (HLI.out.below HB3.out) k
          clear hfm HFM hf HAll HF
          go_wp2_with (at_builtin; refine append_any _ rfl _ _ 25 rfl w3.heap.size 5 i0 (.int .u8 0) 1 Tryd.underlying25 hi hz0 hz1 hz2 rfl _ _ _ rfl (World.ownsRow_nil _ _ _ _) .u8 (some x) k cap ((zs.take 300).take k) rfl (fun h => by cases h) HLk.out HLik.out (by unfold maxLen; omega) (by omega) (Nat.le_refl _) ?_)
          intro l1 w4 hown4 hgr4
          have hb4 : Below w3.heap.size w3 w4 := own_grown (Below.refl _ _) hgr4 (World.ownsRow_nil _ _ 5 1) (Nat.le_refl _)
          have HO4 : Hid (w4.ownsRow w3.heap.size 5 1 l1 k (((zs.take 300).take k).map (Value.int .u8))) := by
            unfold Hid; simpa using hown4
          have HB4 : Hid (Below w.heap.size w w4) := HB3.out.trans (hb4.mono HB3.out.size)
          have hs4 : w3.heap.size ≤ w4.heap.size := hb4.size
          have hml : len' ≤ 1048576 := by omega
          clear hown4 hgr4 hb4 HLik
          go_wp2_with (at_builtin; refine append_any _ rfl _ _ 25 rfl w3.heap.size 5 i0 (.int .u8 0) 1 Tryd.underlying25 hi hz0 hz1 hz2 rfl _ _ _ rfl HO4.out .u8 a' len' cap' ms rfl HBM.out.2.2.2 HBM.out.2.1 (HBM.out.2.2.1.below HB4.out) (by unfold maxLen; omega) (by omega) hs4 ?_)
          intro l2 w5 hown5 hgr5
          have HO5 : Hid (w5.ownsRow w3.heap.size 5 1 l2 (k + len') (((zs.take 300).take k ++ ms).map (Value.int .u8))) := by
            unfold Hid; rw [List.map_append]; simpa [List.map_take] using hown5
          have HB5 : Hid (Below w.heap.size w w5) := HB4.out.trans ((own_grown (Below.refl _ _) hgr5 HO4.out hs4).mono HB3.out.size)
          clear hown5 hgr5 HO4 HB4
          obtain ⟨al, cl, rfl⟩ := own_shape HO5.out
          obtain ⟨ob1, ob2, ob3⟩ := own_bounds HO5.out
          have hol := own_lies HO5.out
          have HLO : Hid (Lies .u8 w5 al ((zs.take 300).take k ++ ms)) := hol.1
          have HLL : Hid (((zs.take 300).take k ++ ms).length = k + len') := hol.2
          have HN5 : Hid (al = none → k + len' = 0 ∧ cl = 0) := ob3
          clear hol ob3
          go_wp2_with fail
          refine (parse_any al ((zs.take 300).take k ++ ms) (k + len') cl w5 (bytey_append (take_bytey HBY.out k) HBM.out.1) HLL.out ob1 ob2 HLO.out HN5.out (HT.out.below HB5.out hw0)).mono ?_
          rintro e w6 ⟨hv6, tv6, dv6, cv6, hx6, tx6, B16, B26, rfl, hso6, hb6⟩
          obtain ⟨a16, c16, rfl⟩ := own_shape hso6.head.row
          obtain ⟨a26, c26, rfl⟩ := own_shape hso6.tail.row
          obtain ⟨a36, c36, rfl⟩ := own_shape hso6.clm
          obtain ⟨a46, c46, rfl⟩ := own_shape hso6.data
          have HB6 : Hid (Below w.heap.size w w6) := HB5.out.trans (hb6.mono HB5.out.size)
          have HLL2 := HLL.out
          rcases HG.out with hg | ⟨hg, hg8⟩
          · rw [hg]
            simp only [sv]
            clear hso6 hb6 HB5 HLO HLL HLL2 HO5 hg HG
            go_wp2
            go_ret
            exact ⟨rfl, HB6.out.alloc HB6.out.size _⟩
          · rw [hg]
            rw [HLL2] at hg8
            have hg9 : (8192 : Int) < (k : Int) + (len' : Int) := by omega
            simp only [sv]
            clear hso6 hb6 HB5 HLO HLL HLL2 HO5 hg HG
            go_wp2
            go_ret
            exact ⟨rfl, HB6.out.alloc HB6.out.size _⟩
  · have n1 : (E != 21) = true := by simp; omega
    have n2 : (E != 22) = true := by simp; omega
    have n3 : (E != 23) = true := by simp; omega
    clear he
    go_wp2
    go_ret
    exact ⟨rfl, HB2.out.alloc HB2.out.size _⟩

set_option maxRecDepth 100000 in
set_option maxHeartbeats 4000000 in
theorem first_none (a' : Option Addr) (len' cap' : Nat) (w : World) (hT : Tab w) :
    Calls Tryd.prog 7 #[.slice none 0 0, .slice a' len' cap'] w (FirstPost w) := by
  have hw0 : 0 < w.heap.size := World.block_lt_of_cell? w ⟨0, 0, none⟩ (hT 0 (by omega))
  have HT : Hid (Tab w) := hT
  clear hT
  go_enter Tryd.func7, Tryd.ntmps7
  go_wp2_with fail
  refine (awake_any w HT.out).mono ?_
  rintro e w1 ⟨rfl, hb1⟩
  have HB1 : Hid (Below w.heap.size w w1) := hb1
  clear hb1
  go_wp2_with fail
  refine (parse_any none [] 0 0 w1 (fun z hz => by cases hz) rfl (by omega) (by omega) (.inl rfl) (fun _ => ⟨rfl, rfl⟩) (HT.out.below HB1.out hw0)).mono ?_
  rintro e w2 ⟨hv, tv, dv, cv, hx, tx, B1, B2, rfl, hso, hb2⟩
  obtain ⟨a1, c1, rfl⟩ := own_shape hso.head.row
  obtain ⟨a2, c2, rfl⟩ := own_shape hso.tail.row
  obtain ⟨a3, c3, rfl⟩ := own_shape hso.clm
  obtain ⟨a4, c4, rfl⟩ := own_shape hso.data
  have HB2 : Hid (Below w.heap.size w w2) := HB1.out.trans (hb2.mono HB1.out.size)
  simp only [sv]
  rw [prs_nil]
  clear hso hb2 HB1
  generalize (prs []).2 = S at *
  go_wp2
  go_ret
  exact ⟨rfl, HB2.out.alloc HB2.out.size _⟩

theorem first_any (a : Option Addr) (zs : List Int) (len cap : Nat) (a' : Option Addr) (ms : List Int) (len' cap' : Nat) (w : World) (hT : Tab w) (hb : Bytey zs) (hb' : Bytey ms) (hl : zs.length = len) (hl' : ms.length = len') (hlc : len ≤ cap) (hlc' : len' ≤ cap') (hm : cap ≤ 1048576) (hm' : cap' ≤ 1048576)
    (hc : Lies .u8 w a zs) (hc' : Lies .u8 w a' ms) (hn : a = none → len = 0 ∧ cap = 0) (hn' : a' = none → len' = 0 ∧ cap' = 0) :
    Calls Tryd.prog 7 #[.slice a len cap, .slice a' len' cap'] w fun e w' => e = .returned (.bool true) ∧ Below w.heap.size w w' := by
  cases a with
  | none =>
    obtain ⟨rfl, rfl⟩ := hn rfl
    exact first_none a' len' cap' w hT
  | some x =>
    by_cases hbig : 300 < len
    · exact first_big x zs len cap a' ms len' cap' w hT hb hb' hl hl' hlc hlc' hm hm' hc hc' hn' hbig
    · exact first_small x zs len cap a' ms len' cap' w hT hb hb' hl hl' hlc hlc' hm hm' hc hc' hn' hbig

end Go.Proofs.YtkkmoplijicmpabDoor
