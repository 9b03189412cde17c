import Derived.Test.YtllhbhogfffedaaGreatDoorRcBkM
import Derived.Deep.RegionWith
import Derived.BigQuiet
namespace Go.Proofs.YtllhbhogfffedaaGreatDoor
open Go.RowKit
set_option linter.unusedVariables false
set_option linter.unusedSimpArgs false

theorem fsR_short {zs : List Int} (h : zs.length < 8) : fsR zs = (rz0, 0) := by unfold fsR; rw [if_pos h]
theorem fsR_long {zs : List Int} (h : ¬ zs.length < 8) (h1 : 131072 < vl4 zs ∨ (zs.length : Int) - 8 < vl4 zs) : fsR zs = (rz0, 0) := by unfold fsR; rw [if_neg h, if_pos h1]
theorem fsR_sum {zs : List Int} {k : Nat} (h : ¬ zs.length < 8) (h1 : ¬ (131072 < vl4 zs ∨ (zs.length : Int) - 8 < vl4 zs)) (hk : vl4 zs = k) (h2 : ((crs ((zs.drop 8).take k) : Nat) : Int) ≠ vl4 (zs.drop 4)) : fsR zs = (rz0, 0) := by
  unfold fsR; rw [if_neg h, if_neg h1, if_pos (by rw [hk]; exact h2)]
theorem fsR_none {zs : List Int} {k : Nat} (hk : vl4 zs = k) (h3 : readP ((zs.drop 8).take k) = none) : fsR zs = (rz0, 0) := by
  unfold fsR
  split
  · rfl
  split
  · rfl
  split
  · rfl
  rw [hk, Int.toNat_natCast, h3]
theorem fsR_some {zs : List Int} {k : Nat} {r : Rc} (h : ¬ zs.length < 8) (h1 : ¬ (131072 < vl4 zs ∨ (zs.length : Int) - 8 < vl4 zs)) (hk : vl4 zs = k) (h2 : ((crs ((zs.drop 8).take k) : Nat) : Int) = vl4 (zs.drop 4)) (h3 : readP ((zs.drop 8).take k) = some r) : fsR zs = (r, 8 + (k : Int)) := by
  unfold fsR
  rw [if_neg h, if_neg h1, hk, Int.toNat_natCast, if_neg (by rw [h2]; simp), h3]

/-- word of the bytes at a place. -/
theorem word_at (g off n c : Nat) (zs : List Int) (w : World) (hb : Bytey zs) (hn : 4 ≤ n) (h4 : 4 ≤ zs.length) (hz : ∀ i, i < zs.length → w.cell? ⟨g, off + i, none⟩ = some (.int .u8 (zs.getD i 0))) :
    Calls Tryz.prog 102 #[.slice (some ⟨g, off, none⟩) n c] w fun e w' => e = .returned (.int .u32 (vl4 zs)) ∧ Below w.heap.size w w' :=
  word_any g off n c (zs.getD 0 0) (zs.getD 1 0) (zs.getD 2 0) (zs.getD 3 0) w hn (bytAt hb 0) (bytAt hb 1) (bytAt hb 2) (bytAt hb 3) (hz 0 (by omega)) (hz 1 (by omega)) (hz 2 (by omega)) (hz 3 (by omega))

set_option maxRecDepth 100000 in
set_option maxHeartbeats 4000000 in
theorem first_short (a : Option Addr) (zs : List Int) (n c : Nat) (w : World) (hl : zs.length = n) (hn : n < 8) :
    Calls Tryz.prog 75 #[.slice a n c] w (RdPost (fsR zs) w) := by
  rw [fsR_short (by omega)]
  have hn' : (n : Int) < 8 := by omega
  go_enter Tryz.func75, Tryz.ntmps75
  go_wp2_with fail
  refine bodyPost_ret (v := .tuple #[.agg (rcC rz0 (.slice none 0 0) (.slice none 0 0)), .int .i64 0]) (by simp [results, Tryz.results75, go_sem, rcC]) rfl ?_
  exact ⟨none, none, 0, 0, rfl, C.SOwn.nil _ _, World.ownsRow_nil _ _ _ _, fun j hj => by simp [Value.ownBlock] at hj, (Below.refl _ _).alloc (Nat.le_refl _) _⟩

set_option maxRecDepth 100000 in
set_option maxHeartbeats 4000000 in
theorem first_long (g off : Nat) (zs : List Int) (n c : Nat) (w : World) (hT : Tab6 w) (hb : Bytey zs) (hl : zs.length = n) (hnc : n ≤ c) (hc : c ≤ 9223372036854775807) (hn : 8 ≤ n) (hm : n ≤ 1099511627776) (hz : ∀ i, i < zs.length → w.cell? ⟨g, off + i, none⟩ = some (.int .u8 (zs.getD i 0))) :
    Calls Tryz.prog 75 #[.slice (some ⟨g, off, none⟩) n c] w (RdPost (fsR zs) w) := by
  have hn8 : ¬ (n : Int) < 8 := by omega
  have hc4 : ¬ c = 4 := by omega
  have HB1 : Hid (Below w.heap.size w (w.alloc (rcO rz0 (.slice none 0 0) (.slice none 0 0)))) := (Below.refl _ _).alloc (Nat.le_refl _) _
  have HZ1 : Hid ((w.alloc (rcO rz0 (.slice none 0 0) (.slice none 0 0))).heap[w.heap.size]? = some (rcO rz0 (.slice none 0 0) (.slice none 0 0))) := heap_new6 w _
  have HW1 : Hid (∀ W, Below w.heap.size w W → Calls Tryz.prog 102 #[.slice (some ⟨g, off, none⟩) n c] W fun e w' => e = .returned (.int .u32 (vl4 zs)) ∧ Below W.heap.size W w') := fun W hW => word_at g off n c zs W hb (by omega) (by omega) (fun i hi => C.cell_below (hz i hi) hW)
  have HW2 : Hid (∀ W, Below w.heap.size w W → Calls Tryz.prog 102 #[.slice (some ⟨g, off + 4, none⟩) (n - 4) (c - 4)] W fun e w' => e = .returned (.int .u32 (vl4 (zs.drop 4))) ∧ Below W.heap.size W w') := fun W hW => word_at g (off + 4) (n - 4) (c - 4) (zs.drop 4) W (bytDrop hb 4) (by omega) (by rw [List.length_drop]; omega) (fun i hi => by
    rw [List.length_drop] at hi
    have h1 := C.cell_below (hz (4 + i) (by omega)) hW
    rw [List.getD_eq_getElem?_getD, List.getElem?_drop, ← List.getD_eq_getElem?_getD, show off + 4 + i = off + (4 + i) by omega]
    exact h1)
  obtain ⟨V, hV⟩ : ∃ V : Nat, vl4 zs = V := ⟨(vl4 zs).toNat, by have := vl4_bd hb; omega⟩
  have hVb : V < 4294967296 := by have := vl4_bd hb; omega
  obtain ⟨U, hU⟩ : ∃ U : Int, vl4 (zs.drop 4) = U := ⟨_, rfl⟩
  rw [hV] at HW1
  rw [hU] at HW2
  have hwV : IntKind.i64.wrap (V : Int) = V := by simp [IntKind.wrap, IntKind.bits, IntKind.signed]; omega
  obtain ⟨m, hmn⟩ : ∃ m, m = n - 8 := ⟨_, rfl⟩
  obtain ⟨d, hdc⟩ : ∃ d, d = c - 8 := ⟨_, rfl⟩
  have HZZ : Hid (∀ W, Below w.heap.size w W → V ≤ m → Lies .u8 W (some ⟨g, off + 8, none⟩) ((zs.drop 8).take V)) := fun W hW hVm => .inr ⟨g, off + 8, rfl, fun i hi => by
    rw [List.length_take, List.length_drop] at hi
    have h1 := C.cell_below (hz (8 + i) (by omega)) hW
    rw [List.getD_eq_getElem?_getD, List.getElem?_take_of_lt (by omega), List.getElem?_drop, ← List.getD_eq_getElem?_getD, show off + 8 + i = off + (8 + i) by omega]
    exact h1⟩
  have HMN : Hid (m = n - 8) := hmn
  have HDC : Hid (d = c - 8) := hdc
  have HV : Hid (vl4 zs = V) := hV
  have HU : Hid (vl4 (zs.drop 4) = U) := hU
  have HT : Hid (Tab6 w) := hT
  have HBY : Hid (Bytey ((zs.drop 8).take V)) := bytTake (bytDrop hb 8) V
  have HLN : Hid (V ≤ m → ((zs.drop 8).take V).length = V) := fun h => by rw [List.length_take, List.length_drop]; omega
  have HNL : Hid (¬ zs.length < 8 ∧ (zs.length : Int) - 8 = (m : Int)) := by constructor <;> omega
  have hmb : m ≤ 1099511627776 := by omega
  have hmd : m ≤ d := by omega
  have hdb : d ≤ 9223372036854775807 := by omega
  clear hmn hdc hV hU hT hz hb hl
  go_enter Tryz.func75, Tryz.ntmps75
  go_upto_region 3 with fail
  go_cut [4, 5, 6] from 13 to 20 (fun q4 q5 q6 wx => q4 = .int .i64 V ∧ q5 = .int .u32 U ∧ (∃ a', q6 = .slice a' m d ∧ Hid (∀ W, Below w.heap.size w W → V ≤ m → Lies .u8 W a' ((zs.drop 8).take V))) ∧ Hid (Below w.heap.size w wx) ∧ Hid (wx.heap[w.heap.size]? = some (rcO rz0 (.slice none 0 0) (.slice none 0 0))))
  case first =>
    by_cases hc8 : c = 8
    · subst hc8
      obtain rfl : n = 8 := by omega
      go_region_with (first
        | (go_at_call_of 102 (Value.slice (some ⟨g, off, none⟩) 8 8); refine (HW1.out _ (by first | exact HB1.out | exact HB1.out.drew)).mono ?_; rintro e w1 ⟨rfl, hb1⟩; have HB2 : Hid (Below w.heap.size w w1) := (by first | exact HB1.out.trans (hb1.mono HB1.out.size) | exact HB1.out.drew.trans (hb1.mono HB1.out.size)); have HZ2 : Hid (w1.heap[w.heap.size]? = some (rcO rz0 (.slice none 0 0) (.slice none 0 0))) := (hb1.block _ (by simp)).trans HZ1.out; clear hb1)
        | (go_at_call 102; refine (HW2.out _ HB2.out).mono ?_; rintro e w2 ⟨rfl, hb2⟩; have HB3 : Hid (Below w.heap.size w w2) := HB2.out.trans (hb2.mono HB2.out.size); have HZ3 : Hid (w2.heap[w.heap.size]? = some (rcO rz0 (.slice none 0 0) (.slice none 0 0))) := (hb2.block _ (Array.getElem?_eq_some_iff.mp HZ2.out).1).trans HZ2.out; clear hb2))
      all_goals
        go_wp2_with fail
        go_meet
        refine ⟨?_, rfl, ⟨some ⟨g, off, none⟩, ?_, fun W hW hVm => ?_⟩, HB3, HZ3⟩
        rotate_left 2
        · left
          have : V = 0 := by have := HMN.out; omega
          rw [this]; rfl
        · first | rfl | exact congrArg (Value.int .i64) hwV
        · rw [HMN.out, HDC.out]
    · skip
      go_region_with (first
        | (go_at_call_of 102 (Value.slice (some ⟨g, off, none⟩) n c); refine (HW1.out _ (by first | exact HB1.out | exact HB1.out.drew)).mono ?_; rintro e w1 ⟨rfl, hb1⟩; have HB2 : Hid (Below w.heap.size w w1) := (by first | exact HB1.out.trans (hb1.mono HB1.out.size) | exact HB1.out.drew.trans (hb1.mono HB1.out.size)); have HZ2 : Hid (w1.heap[w.heap.size]? = some (rcO rz0 (.slice none 0 0) (.slice none 0 0))) := (hb1.block _ (by simp)).trans HZ1.out; clear hb1)
        | (go_at_call 102; refine (HW2.out _ HB2.out).mono ?_; rintro e w2 ⟨rfl, hb2⟩; have HB3 : Hid (Below w.heap.size w w2) := HB2.out.trans (hb2.mono HB2.out.size); have HZ3 : Hid (w2.heap[w.heap.size]? = some (rcO rz0 (.slice none 0 0) (.slice none 0 0))) := (hb2.block _ (Array.getElem?_eq_some_iff.mp HZ2.out).1).trans HZ2.out; clear hb2))
      all_goals
        go_wp2_with fail
        go_meet
        refine ⟨?_, rfl, ⟨_, ?_, HZZ⟩, HB3, HZ3⟩
        · first | rfl | exact congrArg (Value.int .i64) hwV
        · rw [HMN.out, HDC.out]
  case rest =>
    obtain ⟨rfl, rfl, ⟨a', rfl, HZ⟩, HB3, HZ3⟩ := hcut
    clear HW1 HW2 HB1 HZ1 HZZ hn8 hc4 hwV hnc hc hn hm
    by_cases h1 : (131072 : Int) < (V : Int)
    · have HQ : Hid (fsR zs = (rz0, 0)) := fsR_long HNL.out.1 (.inl (by rw [HV.out]; exact h1))
      obtain ⟨y0, y1, y2, y3, y4, y5, y6, y7, y8, y9, y10⟩ := rc_cells HZ3.out
      have fz := rc_frozen HZ3.out
      go_wp2_with fail
      change bodyPost _ _ _ _ _ (rS wc w.heap.size rz0 (.slice none 0 0) (.slice none 0 0))
      have hlv := fun j => cell_of_row _ w.heap.size j _ _ _ (rS_heap wc w.heap.size rz0 rz0 (.slice none 0 0) (.slice none 0 0) _ _ HZ3.out)
      have hrg := rS_grown wc w.heap.size rz0 (.slice none 0 0) (.slice none 0 0)
      generalize rS wc w.heap.size rz0 (.slice none 0 0) (.slice none 0 0) = WF at *
      clear y0 y1 y2 y3 y4 y5 y6 y7 y8 y9 y10 fz
      refine bodyPost_ret (v := .tuple #[.agg (rcC rz0 (.slice none 0 0) (.slice none 0 0)), .int .i64 0]) (by simp [results, Tryz.results75, go_sem, rcC, hlv]) rfl ?_
      show RdPost (fsR zs) w _ _
      rw [HQ.out]
      exact ⟨none, none, 0, 0, rfl, C.SOwn.nil _ _, World.ownsRow_nil _ _ _ _, fun j hj => by simp [Value.ownBlock] at hj, HB3.out.grown hrg HB3.out.size (by simp)⟩
    · by_cases h2 : (m : Int) < (V : Int)
      · have HQ : Hid (fsR zs = (rz0, 0)) := fsR_long HNL.out.1 (.inr (by rw [HV.out, HNL.out.2]; exact h2))
        obtain ⟨y0, y1, y2, y3, y4, y5, y6, y7, y8, y9, y10⟩ := rc_cells HZ3.out
        have fz := rc_frozen HZ3.out
        go_wp2_with fail
        change bodyPost _ _ _ _ _ (rS wc w.heap.size rz0 (.slice none 0 0) (.slice none 0 0))
        have hlv := fun j => cell_of_row _ w.heap.size j _ _ _ (rS_heap wc w.heap.size rz0 rz0 (.slice none 0 0) (.slice none 0 0) _ _ HZ3.out)
        have hrg := rS_grown wc w.heap.size rz0 (.slice none 0 0) (.slice none 0 0)
        generalize rS wc w.heap.size rz0 (.slice none 0 0) (.slice none 0 0) = WF at *
        clear y0 y1 y2 y3 y4 y5 y6 y7 y8 y9 y10 fz
        refine bodyPost_ret (v := .tuple #[.agg (rcC rz0 (.slice none 0 0) (.slice none 0 0)), .int .i64 0]) (by simp [results, Tryz.results75, go_sem, rcC, hlv]) rfl ?_
        show RdPost (fsR zs) w _ _
        rw [HQ.out]
        exact ⟨none, none, 0, 0, rfl, C.SOwn.nil _ _, World.ownsRow_nil _ _ _ _, fun j hj => by simp [Value.ownBlock] at hj, HB3.out.grown hrg HB3.out.size (by simp)⟩
      · have HVM : Hid (V ≤ m) := by unfold Hid; omega
        have hVd : (V : Int) ≤ (d : Int) := by omega
        have HSU := fun W hW => sum_any a' ((zs.drop 8).take V) V d W HBY.out (HLN.out HVM.out) (by omega) (HZ.out W hW HVM.out)
        have HSUM : Hid (∀ W, Below w.heap.size w W → Calls Tryz.prog 103 #[.slice a' V d] W fun e w' => e = .returned (.int .u32 (crs ((zs.drop 8).take V) : Nat)) ∧ W = w') := HSU
        clear HSU
        obtain ⟨X, hX⟩ : ∃ X : Int, X = ((crs ((zs.drop 8).take V) : Nat) : Int) := ⟨_, rfl⟩
        have HX : Hid (X = ((crs ((zs.drop 8).take V) : Nat) : Int)) := hX
        rw [← hX] at HSUM
        clear hX
        have hNL : ¬ (131072 < vl4 zs ∨ (zs.length : Int) - 8 < vl4 zs) := by rw [HV.out, HNL.out.2]; omega
        have HNX : Hid (¬ (131072 < vl4 zs ∨ (zs.length : Int) - 8 < vl4 zs)) := hNL
        clear hNL
        by_cases h3 : X = U
        · have HRD := rread_any a' ((zs.drop 8).take V) V d wc (HT.out.below HB3.out (tab6_pos HT.out)) HBY.out (HLN.out HVM.out) (by omega) hdb (HZ.out wc HB3.out HVM.out)
          subst h3
          cases hq : readP ((zs.drop 8).take V) with
          | none =>
            have HQ : Hid (fsR zs = (rz0, 0)) := fsR_none HV.out hq
            have HQ2 : Hid (rdR ((zs.drop 8).take V) = (rz0, 61)) := by unfold Hid rdR; rw [if_neg (by rw [HLN.out HVM.out]; omega), hq]
            rw [HQ2.out] at HRD
            clear HQ2 hq
            go_upto_region 7 with (first | (go_at_call 103; refine (HSUM.out _ HB3.out).mono ?_; rintro e w' ⟨rfl, rfl⟩) | (go_at_call 104; refine HRD.mono ?_; rintro e w4 ⟨sa, da, sc, dc, rfl, hso, hdo, hpt, hb4⟩))
            have HB4 : Hid (Below w.heap.size w (w4.alloc (rcO rz0 (.slice sa 0 sc) (.slice da 0 dc)))) := (HB3.out.trans (hb4.mono HB3.out.size)).alloc (Nat.le_trans HB3.out.size hb4.size) _
            have HZ4 : Hid ((w4.alloc (rcO rz0 (.slice sa 0 sc) (.slice da 0 dc))).heap[w.heap.size]? = some (rcO rz0 (.slice none 0 0) (.slice none 0 0))) := (((Below.refl _ _).alloc (Nat.le_refl _) _).block _ (by have := (Array.getElem?_eq_some_iff.mp HZ3.out).1; have := hb4.size; omega)).trans ((hb4.block _ (Array.getElem?_eq_some_iff.mp HZ3.out).1).trans HZ3.out)
            clear hso hdo hpt hb4 HSUM HRD
            generalize w4.alloc (rcO rz0 (.slice sa 0 sc) (.slice da 0 dc)) = w5 at *
            obtain ⟨y0, y1, y2, y3, y4, y5, y6, y7, y8, y9, y10⟩ := rc_cells HZ4.out
            have fz := rc_frozen HZ4.out
            go_wp2_with fail
            change bodyPost _ _ _ _ _ (rS w5 w.heap.size rz0 (.slice none 0 0) (.slice none 0 0))
            have hlv := fun j => cell_of_row _ w.heap.size j _ _ _ (rS_heap w5 w.heap.size rz0 rz0 (.slice none 0 0) (.slice none 0 0) _ _ HZ4.out)
            have hrg := rS_grown w5 w.heap.size rz0 (.slice none 0 0) (.slice none 0 0)
            generalize rS w5 w.heap.size rz0 (.slice none 0 0) (.slice none 0 0) = WF at *
            clear y0 y1 y2 y3 y4 y5 y6 y7 y8 y9 y10 fz
            refine bodyPost_ret (v := .tuple #[.agg (rcC rz0 (.slice none 0 0) (.slice none 0 0)), .int .i64 0]) (by simp [results, Tryz.results75, go_sem, rcC, hlv]) rfl ?_
            show RdPost (fsR zs) w _ _
            rw [HQ.out]
            exact ⟨none, none, 0, 0, rfl, C.SOwn.nil _ _, World.ownsRow_nil _ _ _ _, fun j hj => by simp [Value.ownBlock] at hj, HB4.out.grown hrg HB4.out.size (by simp)⟩
          | some r =>
            have HQ : Hid (fsR zs = (r, 8 + (V : Int))) := fsR_some HNL.out.1 HNX.out HV.out (by rw [HU.out]; exact HX.out.symm) hq
            have HQ2 : Hid (rdR ((zs.drop 8).take V) = (r, 0)) := by unfold Hid rdR; rw [if_neg (by rw [HLN.out HVM.out]; omega), hq]
            rw [HQ2.out] at HRD
            clear HQ2 hq
            go_upto_region 7 with (first | (go_at_call 103; refine (HSUM.out _ HB3.out).mono ?_; rintro e w' ⟨rfl, rfl⟩) | (go_at_call 104; refine HRD.mono ?_; rintro e w4 ⟨sa, da, sc, dc, rfl, hso, hdo, hpt, hb4⟩))
            have hz3l := (Array.getElem?_eq_some_iff.mp HZ3.out).1
            have hs4 := hb4.size
            have HX4 : Hid ((w4.alloc (rcO r (.slice sa r.spans.length sc) (.slice da r.data.length dc))).heap[w4.heap.size]? = some (rcO r (.slice sa r.spans.length sc) (.slice da r.data.length dc))) := heap_new6 w4 _
            have HB4 : Hid (Below w.heap.size w (w4.alloc (rcO r (.slice sa r.spans.length sc) (.slice da r.data.length dc)))) := (HB3.out.trans (hb4.mono HB3.out.size)).alloc (Nat.le_trans HB3.out.size hs4) _
            have HZ4 : Hid ((w4.alloc (rcO r (.slice sa r.spans.length sc) (.slice da r.data.length dc))).heap[w.heap.size]? = some (rcO rz0 (.slice none 0 0) (.slice none 0 0))) := (((Below.refl _ _).alloc (Nat.le_refl _) _).block _ (by omega)).trans ((hb4.block _ hz3l).trans HZ3.out)
            have HS4 : Hid (C.SOwn (w4.alloc (rcO r (.slice sa r.spans.length sc) (.slice da r.data.length dc))) wc.heap.size (.slice sa r.spans.length sc) r.spans) := World.ownsRow.alloc hso _
            have HD4 : Hid ((w4.alloc (rcO r (.slice sa r.spans.length sc) (.slice da r.data.length dc))).ownsRow wc.heap.size 5 1 (.slice da r.data.length dc) r.data.length (r.data.map (Value.int .u8))) := hdo.alloc _
            have HPT : Hid (∀ j, (Value.slice sa r.spans.length sc).ownBlock = some j → (Value.slice da r.data.length dc).ownBlock ≠ some j) := hpt
            clear hso hdo hpt hb4 HSUM HRD
            generalize w4.alloc (rcO r (.slice sa r.spans.length sc) (.slice da r.data.length dc)) = w5 at *
            obtain ⟨x0, x1, x2, x3, x4, x5, x6, x7, x8, x9, x10⟩ := rc_cells HX4.out
            obtain ⟨y0, y1, y2, y3, y4, y5, y6, y7, y8, y9, y10⟩ := rc_cells HZ4.out
            have fz := rc_frozen HZ4.out
            go_wp2_with fail
            change bodyPost _ _ _ _ _ (rS w5 w.heap.size r (.slice sa r.spans.length sc) (.slice da r.data.length dc))
            have hlv := fun j => cell_of_row _ w.heap.size j _ _ _ (rS_heap w5 w.heap.size r rz0 (.slice sa r.spans.length sc) (.slice da r.data.length dc) _ _ HZ4.out)
            have hrg := rS_grown w5 w.heap.size r (.slice sa r.spans.length sc) (.slice da r.data.length dc)
            generalize rS w5 w.heap.size r (.slice sa r.spans.length sc) (.slice da r.data.length dc) = WF at *
            clear x0 x1 x2 x3 x4 x5 x6 x7 x8 x9 x10 y0 y1 y2 y3 y4 y5 y6 y7 y8 y9 y10 fz
            refine bodyPost_ret (v := .tuple #[.agg (rcC r (.slice sa r.spans.length sc) (.slice da r.data.length dc)), .int .i64 (8 + (V : Int))]) (by simp [results, Tryz.results75, go_sem, rcC, hlv]; try omega) rfl ?_
            show RdPost (fsR zs) w _ _
            rw [HQ.out]
            exact ⟨sa, da, sc, dc, rfl, own_base6 (own_keep6 HS4.out hrg (by intro j hj; have := (HS4.out.lt j hj).1; simp; omega)) HB3.out.size, own_base6 (own_keep6 HD4.out hrg (by intro j hj; have := (HD4.out.lt j hj).1; simp; omega)) HB3.out.size, HPT.out, HB4.out.grown hrg HB4.out.size (by simp)⟩
        · have HQ : Hid (fsR zs = (rz0, 0)) := fsR_sum HNL.out.1 HNX.out HV.out (by rw [HU.out]; intro e; exact h3 (HX.out.trans e))
          go_upto_region 5 with (go_at_call 103; refine (HSUM.out _ HB3.out).mono ?_; rintro e w' ⟨rfl, rfl⟩)
          obtain ⟨y0, y1, y2, y3, y4, y5, y6, y7, y8, y9, y10⟩ := rc_cells HZ3.out
          have fz := rc_frozen HZ3.out
          go_wp2_with fail
          change bodyPost _ _ _ _ _ (rS wc w.heap.size rz0 (.slice none 0 0) (.slice none 0 0))
          have hlv := fun j => cell_of_row _ w.heap.size j _ _ _ (rS_heap wc w.heap.size rz0 rz0 (.slice none 0 0) (.slice none 0 0) _ _ HZ3.out)
          have hrg := rS_grown wc w.heap.size rz0 (.slice none 0 0) (.slice none 0 0)
          generalize rS wc w.heap.size rz0 (.slice none 0 0) (.slice none 0 0) = WF at *
          clear y0 y1 y2 y3 y4 y5 y6 y7 y8 y9 y10 fz
          refine bodyPost_ret (v := .tuple #[.agg (rcC rz0 (.slice none 0 0) (.slice none 0 0)), .int .i64 0]) (by simp [results, Tryz.results75, go_sem, rcC, hlv]) rfl ?_
          show RdPost (fsR zs) w _ _
          rw [HQ.out]
          exact ⟨none, none, 0, 0, rfl, C.SOwn.nil _ _, World.ownsRow_nil _ _ _ _, fun j hj => by simp [Value.ownBlock] at hj, HB3.out.grown hrg HB3.out.size (by simp)⟩
theorem first_any (a : Option Addr) (zs : List Int) (n c : Nat) (w : World) (hT : Tab6 w) (hb : Bytey zs) (hl : zs.length = n) (hnc : n ≤ c) (hc : c ≤ 9223372036854775807) (hm : n ≤ 1099511627776) (hz : Lies .u8 w a zs) :
    Calls Tryz.prog 75 #[.slice a n c] w (RdPost (fsR zs) w) := by
  by_cases h8 : n < 8
  · exact first_short a zs n c w hl h8
  · rcases hz with h0 | ⟨g, off, rfl, hz⟩
    · rw [h0] at hl; simp at hl; omega
    · exact first_long g off zs n c w hT hb hl hnc hc (by omega) hm hz
end Go.Proofs.YtllhbhogfffedaaGreatDoor
