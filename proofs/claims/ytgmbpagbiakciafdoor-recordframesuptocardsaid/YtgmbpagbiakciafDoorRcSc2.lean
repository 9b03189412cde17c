import Derived.Test.YtgmbpagbiakciafDoorRcFst
import Derived.Test.YtgmbpagbiakciafDoorRcR28
import Derived.Test.YtgmbpagbiakciafDoorRcSby
namespace Go.Proofs.YtgmbpagbiakciafDoor
open Go.RowKit
set_option linter.unusedVariables false
set_option linter.unusedSimpArgs false

set_option maxRecDepth 100000 in
set_option maxHeartbeats 1000000 in
theorem value2_any (g off n c : Nat) (x0 x1 x2 x3 : Int) (w : World) (hn : 4 ≤ n) (h0 : 0 ≤ x0 ∧ x0 ≤ 255) (h1 : 0 ≤ x1 ∧ x1 ≤ 255) (h2 : 0 ≤ x2 ∧ x2 ≤ 255) (h3 : 0 ≤ x3 ∧ x3 ≤ 255)
    (c0 : w.cell? ⟨g, off, none⟩ = some (.int .u8 x0)) (c1 : w.cell? ⟨g, off + 1, none⟩ = some (.int .u8 x1)) (c2 : w.cell? ⟨g, off + 2, none⟩ = some (.int .u8 x2)) (c3 : w.cell? ⟨g, off + 3, none⟩ = some (.int .u8 x3)) :
    Calls Tryd.prog 75 #[.slice (some ⟨g, off, none⟩) n c] w fun e w' => e = .returned (.int .i64 (x0 * 16777216 + x1 * 65536 + x2 * 256 + x3)) ∧ Below w.heap.size w w' := by
  have hn' : (4 : Int) ≤ n := by omega
  go_enter Tryd.func75, Tryd.ntmps75
  go_wp2
  go_quiet (fail)
  go_wp2
  go_ret
  exact ⟨rfl, ⟨rfl, rfl, rfl, Nat.le_refl _, fun _ _ => rfl⟩⟩
theorem value2_at (g off n c : Nat) (zs : List Int) (w : World) (hb : Bytey zs) (hn : 4 ≤ n) (h4 : 4 ≤ zs.length) (hz : ∀ i, i < zs.length → w.cell? ⟨g, off + i, none⟩ = some (.int .u8 (zs.getD i 0))) :
    Calls Tryd.prog 75 #[.slice (some ⟨g, off, none⟩) n c] w fun e w' => e = .returned (.int .i64 (vl4 zs)) ∧ Below w.heap.size w w' :=
  value2_any g off n c (zs.getD 0 0) (zs.getD 1 0) (zs.getD 2 0) (zs.getD 3 0) w hn (bytAt hb 0) (bytAt hb 1) (bytAt hb 2) (bytAt hb 3) (hz 0 (by omega)) (hz 1 (by omega)) (hz 2 (by omega)) (hz 3 (by omega))

set_option maxRecDepth 100000 in
set_option maxHeartbeats 4000000 in
theorem scan2_any (ad : Option Addr) (zs : List Int) (n c : Nat) (w : World) (hb : Bytey zs) (hl : zs.length = n) (hnc : n ≤ c) (hc : c ≤ 9223372036854775807) (hm : n ≤ 1099511627776) (hz : Lies .u8 w ad zs) :
    Calls Tryd.prog 58 #[.slice ad n c] w (ScPost (scR zs) w) := by
  obtain ⟨i0, hi0, hz0, hy0, hb0⟩ := info_parts Tryd.info_rec
  have HBY : Hid (Bytey zs) := hb
  have HL : Hid (zs.length = n) := hl
  have HZ : Hid (Lies .u8 w ad zs) := hz
  clear hb hl hz
  go_enter Tryd.func58, Tryd.ntmps58
  go_wp2_with fail
  go_loopw [4, 5] (fun v p wr => ∃ (os : List Ro) (t : Nat), p = .int .i64 t ∧ Scd zs (os.map Ro.r) t ∧ Rl wr w.heap.size v os ∧ Below w.heap.size w wr) (fun _ p _ => n - (intOf p).toNat)
  case atStart => exact ⟨[], 0, rfl, Scd.start _, Rl.start _ _, Below.refl _ _⟩
  case round =>
    obtain ⟨os, t, rfl, hsc, hrl, hbw⟩ := hrel
    have hcnt := hsc.cnt
    have hlen := hsc.len
    rw [List.length_map] at hcnt
    rw [HL.out] at hlen
    have HSC : Hid (Scd zs (os.map Ro.r) t) := hsc
    have HRL : Hid (Rl wr w.heap.size u4 os) := hrl
    have HBW : Hid (Below w.heap.size w wr) := hbw
    have HLD : Hid ((zs.drop t).length = n - t) := by unfold Hid; rw [List.length_drop, HL.out]
    have hLz := HZ.out.below hbw
    clear hsc hrl hbw
    by_cases h8 : (n : Int) - (t : Int) < 8
    · have HE : Hid (scR zs = (os.map Ro.r, t)) := HSC.out.fin (by rw [fsR_short (by rw [HLD.out]; omega)])
      clear hLz
      go_wp2_with fail
      refine bodyPost_ret (v := .tuple #[u4, .int .i64 t]) (by simp [results, Tryd.results58, go_sem]) rfl ?_
      show ScPost (scR zs) w _ _
      rw [HE.out]
      exact ⟨_, os, rfl, HRL.out, rfl, HBW.out⟩
    · rcases hLz with h0 | ⟨g, off, rfl, hce⟩
      · have := HL.out; rw [h0] at this; simp at this; omega
      have HCE : Hid (∀ k W, Below wr.heap.size wr W → ∀ i, i < (zs.drop k).length → W.cell? ⟨g, off + k + i, none⟩ = some (.int .u8 ((zs.drop k).getD i 0))) := fun k W hW i hi => by
        rw [List.length_drop] at hi
        have h1 := C.cell_below (hce (k + i) (by omega)) hW
        rw [List.getD_eq_getElem?_getD, List.getElem?_drop, ← List.getD_eq_getElem?_getD, show off + k + i = off + (k + i) by omega]
        exact h1
      obtain ⟨V, hV⟩ : ∃ V : Nat, vl4 (zs.drop t) = V := ⟨(vl4 (zs.drop t)).toNat, by have := vl4_bd (bytDrop HBY.out t); omega⟩
      have hVb : V < 4294967296 := by have := vl4_bd (bytDrop HBY.out t); omega
      obtain ⟨U, hU⟩ : ∃ U : Int, vl4 (zs.drop (t + 4)) = U := ⟨_, rfl⟩
      have HV : Hid (vl4 (zs.drop t) = V) := hV
      have HU : Hid (vl4 ((zs.drop t).drop 4) = U) := by unfold Hid; rw [List.drop_drop]; exact hU
      have HW1 : Hid (Calls Tryd.prog 75 #[.slice (some ⟨g, off + t, none⟩) (n - t) (c - t)] wr fun e w' => e = .returned (.int .i64 V) ∧ Below wr.heap.size wr w') := by
        have := value2_at g (off + t) (n - t) (c - t) (zs.drop t) wr (bytDrop HBY.out t) (by omega) (by rw [HLD.out]; omega) (HCE.out t wr (Below.refl _ _))
        rw [hV] at this
        exact this
      have HW2 : Hid (∀ W, Below wr.heap.size wr W → Calls Tryd.prog 75 #[.slice (some ⟨g, off + (t + 4), none⟩) (n - (t + 4)) (c - (t + 4))] W fun e w' => e = .returned (.int .i64 U) ∧ Below W.heap.size W w') := fun W hW => by
        have := value2_at g (off + (t + 4)) (n - (t + 4)) (c - (t + 4)) (zs.drop (t + 4)) W (bytDrop HBY.out _) (by omega) (by rw [List.length_drop, HL.out]; omega) (HCE.out (t + 4) W hW)
        rw [hU] at this
        exact this
      have HNS : Hid (¬ (zs.drop t).length < 8) := by unfold Hid; rw [HLD.out]; omega
      have hct : ¬ c = t := by omega
      have hct4 : ¬ c = t + 4 := by omega
      have ht1 : (t : Int) ≤ (n : Int) := by omega
      clear hce hV hU
      by_cases h1 : (131072 : Int) < (V : Int)
      · have HE : Hid (scR zs = (os.map Ro.r, t)) := HSC.out.fin (by rw [fsR_long HNS.out (.inl (by rw [HV.out]; exact h1))])
        go_upto_region 5 with (go_at_call 75; refine HW1.out.mono ?_; rintro e w1 ⟨rfl, hb1⟩)
        clear HW2 HCE
        go_wp2_with fail
        refine bodyPost_ret (v := .tuple #[u4, .int .i64 t]) (by simp [results, Tryd.results58, go_sem]) rfl ?_
        show ScPost (scR zs) w _ _
        rw [HE.out]
        exact ⟨_, os, rfl, HRL.out.keep hb1, rfl, HBW.out.trans (hb1.mono HBW.out.size)⟩
      · by_cases h2 : (n : Int) - (t : Int) - 8 < (V : Int)
        · have HE : Hid (scR zs = (os.map Ro.r, t)) := HSC.out.fin (by rw [fsR_long HNS.out (.inr (by rw [HV.out, HLD.out]; omega))])
          go_upto_region 5 with (go_at_call 75; refine HW1.out.mono ?_; rintro e w1 ⟨rfl, hb1⟩)
          clear HW2 HCE
          go_wp2_with fail
          refine bodyPost_ret (v := .tuple #[u4, .int .i64 t]) (by simp [results, Tryd.results58, go_sem]) rfl ?_
          show ScPost (scR zs) w _ _
          rw [HE.out]
          exact ⟨_, os, rfl, HRL.out.keep hb1, rfl, HBW.out.trans (hb1.mono HBW.out.size)⟩
        · go_upto_region 6 with (go_at_call 75; refine HW1.out.mono ?_; rintro e w1 ⟨rfl, hb1⟩)
          have HB1 : Hid (Below wr.heap.size wr w1) := hb1
          have hVc : t + 8 + V ≤ n := by omega
          have HPZ : Hid (∀ W, Below w1.heap.size w1 W → Lies .u8 W (some ⟨g, off + (t + 8), none⟩) (((zs.drop t).drop 8).take V)) := fun W hW => .inr ⟨g, off + (t + 8), rfl, fun i hi => by
            rw [List.length_take, List.drop_drop] at hi
            have h1 := HCE.out (t + 8) W (HB1.out.trans (hW.mono HB1.out.size)) i (by omega)
            rw [List.drop_drop, List.getD_eq_getElem?_getD, List.getElem?_take_of_lt (by omega), ← List.getD_eq_getElem?_getD]
            exact h1⟩
          have HPL : Hid ((((zs.drop t).drop 8).take V).length = V) := by unfold Hid; rw [List.length_take, List.length_drop, HLD.out]; omega
          have HPB : Hid (Bytey (((zs.drop t).drop 8).take V)) := bytTake (bytDrop (bytDrop HBY.out t) 8) V
          have HNX : Hid (¬ (131072 < vl4 (zs.drop t) ∨ ((zs.drop t).length : Int) - 8 < vl4 (zs.drop t))) := by unfold Hid; rw [HV.out, HLD.out]; omega
          have hVi : (t : Int) + 8 + (V : Int) ≤ (c : Int) := by omega
          have hVj : (t : Int) + 8 ≤ (t : Int) + 8 + (V : Int) := by omega
          clear hb1 HCE HW1
          generalize hZZ : ((zs.drop t).drop 8).take V = zz at *
          go_cut [7] from 31 to 38 (fun q wx => ∃ a', q = .slice a' V (c - (t + 8)) ∧ Hid (∀ W, Below w1.heap.size w1 W → Lies .u8 W a' zz) ∧ wx = w1)
          case first =>
            by_cases hc8 : c = t + 8
            · obtain rfl : V = 0 := by omega
              subst hc8
              go_wp2_with fail
              go_meet
              refine ⟨some ⟨g, off, none⟩, ?_, fun W hW => .inl (List.eq_nil_of_length_eq_zero HPL.out), rfl⟩
              simp
            · go_wp2_with fail
              go_meet
              refine ⟨_, ?_, HPZ, rfl⟩
              first | rfl | (congr 1 <;> omega)
          case rest =>
            obtain ⟨a', rfl, HLZ, rfl⟩ := hcut
            have HSUM : Hid (∀ W, Below wc.heap.size wc W → Calls Tryd.prog 31 #[.slice a' V (c - (t + 8))] W fun e w' => e = .returned (.int .u32 (crs zz : Nat)) ∧ W = w') := fun W hW => rsum_any a' zz V (c - (t + 8)) W HPB.out HPL.out (by omega) (HLZ.out W hW)
            have HRD : Hid (∀ W, Below wc.heap.size wc W → Calls Tryd.prog 24 #[.slice a' V (c - (t + 8))] W (RdPost (rdR zz) W)) := fun W hW => read2_any a' zz V (c - (t + 8)) W HPB.out HPL.out (by omega) (by omega) (HLZ.out W hW)
            obtain ⟨X, hX⟩ : ∃ X : Nat, crs zz = X := ⟨_, rfl⟩
            have HX : Hid (crs zz = X) := hX
            have hXb : X < 4294967296 := by rw [← hX]; exact crs_lt HPB.out
            rw [hX] at HSUM
            have hwX : IntKind.i64.wrap (X : Int) = X := by simp [IntKind.wrap, IntKind.bits, IntKind.signed]; omega
            clear hX
            generalize hD : c - (t + 8) = d at *
            by_cases h3 : (X : Int) = U
            · subst h3
              cases hq : readP zz with
              | none =>
                have HE : Hid (scR zs = (os.map Ro.r, t)) := HSC.out.fin (by rw [fsR_none HV.out (by rw [hZZ]; exact hq)])
                have HQ2 : Hid (rdR zz = (rz0, 61)) := by unfold Hid rdR; rw [if_neg (by rw [HPL.out]; omega), hq]
                rw [HQ2.out] at HRD
                clear HQ2 hq
                go_upto_region 10 with (first | (go_at_call 31; refine (HSUM.out _ (Below.refl _ _)).mono ?_; rintro e w' ⟨rfl, rfl⟩) | (go_at_call 75; refine (HW2.out _ HB1.out).mono ?_; rintro e w3 ⟨rfl, hb3⟩) | (go_at_call 24; refine (HRD.out _ hb3).mono ?_; rintro e w4 ⟨sa, da, sc, dc, rfl, hso, hdo, hpt, hb4⟩))
                have HB4 : Hid (Below wr.heap.size wr (w4.alloc (rcO rz0 (.slice sa 0 sc) (.slice da 0 dc)))) := ((HB1.out.trans (hb3.mono HB1.out.size)).trans (hb4.mono (Nat.le_trans HB1.out.size hb3.size))).alloc (Nat.le_trans (Nat.le_trans HB1.out.size hb3.size) hb4.size) _
                clear hso hdo hpt hb4 hb3 HSUM HRD
                generalize w4.alloc (rcO rz0 (.slice sa 0 sc) (.slice da 0 dc)) = w5 at *
                go_wp2_with fail
                refine bodyPost_ret (v := .tuple #[u4, .int .i64 t]) (by simp [results, Tryd.results58, go_sem]) rfl ?_
                show ScPost (scR zs) w _ _
                rw [HE.out]
                exact ⟨_, os, rfl, HRL.out.keep HB4.out, rfl, HBW.out.trans (HB4.out.mono HBW.out.size)⟩
              | some r =>
                have HQF : Hid (fsR (zs.drop t) = (r, 8 + (V : Int))) := fsR_some HNS.out HNX.out HV.out (by rw [HU.out, hZZ, HX.out]) (by rw [hZZ]; exact hq)
                have HQ2 : Hid (rdR zz = (r, 0)) := by unfold Hid rdR; rw [if_neg (by rw [HPL.out]; omega), hq]
                have HSM : Hid (r.data.length ≤ 65536 ∧ r.spans.length ≤ 500) := by have := fs_small (bytDrop HBY.out t); rw [HQF.out] at this; exact this
                rw [HQ2.out] at HRD
                clear HQ2 hq
                go_upto_region 10 with (first | (go_at_call 31; refine (HSUM.out _ (Below.refl _ _)).mono ?_; rintro e w' ⟨rfl, rfl⟩) | (go_at_call 75; refine (HW2.out _ HB1.out).mono ?_; rintro e w3 ⟨rfl, hb3⟩) | (go_at_call 24; refine (HRD.out _ hb3).mono ?_; rintro e w4 ⟨sa, da, sc, dc, rfl, hso, hdo, hpt, hb4⟩))
                have HB3 : Hid (Below wr.heap.size wr w3) := HB1.out.trans (hb3.mono HB1.out.size)
                have HX4 : Hid ((w4.alloc (rcO r (.slice sa r.spans.length sc) (.slice da r.data.length dc))).heap[w4.heap.size]? = some (rcO r (.slice sa r.spans.length sc) (.slice da r.data.length dc))) := heap_new6 w4 _
                have HB4 : Hid (Below wr.heap.size wr (w4.alloc (rcO r (.slice sa r.spans.length sc) (.slice da r.data.length dc)))) := (HB3.out.trans (hb4.mono HB3.out.size)).alloc (Nat.le_trans HB3.out.size hb4.size) _
                have HS4 : Hid (C.SOwn (w4.alloc (rcO r (.slice sa r.spans.length sc) (.slice da r.data.length dc))) wr.heap.size (.slice sa r.spans.length sc) r.spans) := own_lower (World.ownsRow.alloc hso _) HB3.out.size
                have HD4 : Hid ((w4.alloc (rcO r (.slice sa r.spans.length sc) (.slice da r.data.length dc))).ownsRow wr.heap.size 5 1 (.slice da r.data.length dc) r.data.length (r.data.map (Value.int .u8))) := own_lower (hdo.alloc _) HB3.out.size
                have HPT : Hid (∀ j, (Value.slice sa r.spans.length sc).ownBlock = some j → (Value.slice da r.data.length dc).ownBlock ≠ some j) := hpt
                clear hso hdo hpt hb4 hb3 HSUM HRD HB3
                generalize w4.alloc (rcO r (.slice sa r.spans.length sc) (.slice da r.data.length dc)) = w5 at *
                obtain ⟨x0, x1, x2, x3, x4, x5, x6, x7, x8, x9, x10⟩ := rc_cells HX4.out
                have HR5 : Hid ((w5.alloc (rcO r (.slice sa r.spans.length sc) (.slice da r.data.length dc))).ownsRow w.heap.size 41 11 u4 os.length (rlC os)) := (own_below6 HRL.out.row HB4.out).alloc _
                have HB5 : Hid (Below wr.heap.size wr (w5.alloc (rcO r (.slice sa r.spans.length sc) (.slice da r.data.length dc)))) := HB4.out.alloc HB4.out.size _
                have hsz5 : wr.heap.size ≤ w5.heap.size := HB4.out.size
                have HLO : Hid (w.heap.size ≤ wr.heap.size) := HBW.out.size
                go_wp2_with (at_builtin; refine wpList_append_own_at _ rfl _ _ 53 rfl w.heap.size 41 i0 _ 11 120 Tryd.underlying53 hi0 hz0 hy0 hb0 rfl (by decide) _ _ _ rfl HR5.out ⟨w5.heap.size, 0, none⟩ 1 1 (rcC r (.slice sa r.spans.length sc) (.slice da r.data.length dc)).toList rfl rfl (rec_lit _ _ _ _) (rec_one _ _ _ _ _ _ _) (by unfold maxLen; omega) (by omega) (by have := HLO.out; simp; omega) ?_; intro v6 w6 o6 g6 _ t6)
                have HRN : Hid (Rl w6 w.heap.size v6 (os ++ [⟨r, sa, da, sc, dc⟩])) := HRL.out.push HLO.out HB5.out ⟨r, sa, da, sc, dc⟩ (World.ownsRow.alloc HS4.out _) (HD4.out.alloc _) HPT.out HSM.out g6 o6 (fun j hj => by
                  rcases t6 with q | q
                  · left; exact q.symm.trans hj
                  · right; rw [q] at hj; simp at hj; simp; omega)
                have HBN : Hid (Below w.heap.size w w6) := (HBW.out.trans (HB5.out.mono HLO.out)).grown g6 (by simp; have := HLO.out; omega) (fun j hj => (HRL.out.row.lt j hj).1)
                have HSN : Hid (Scd zs ((os ++ [(⟨r, sa, da, sc, dc⟩ : Ro)]).map Ro.r) (t + 8 + V)) := by
                  have := HSC.out.step HBY.out (by rw [HQF.out]; simp only; omega)
                  rw [HQF.out] at this
                  rw [List.map_append]
                  rw [show t + 8 + V = t + (8 + (V : Int)).toNat by omega]
                  exact this
                clear o6 g6 t6 x0 x1 x2 x3 x4 x5 x6 x7 x8 x9 x10
                go_wp2
                go_roundw
                case rel => exact ⟨os ++ [⟨r, sa, da, sc, dc⟩], t + 8 + V, by first | rfl | go_num | (congr 1; omega), HSN.out, HRN.out, HBN.out⟩
                case measure => simp [intOf]; omega
            · have HE : Hid (scR zs = (os.map Ro.r, t)) := HSC.out.fin (by rw [fsR_sum HNS.out HNX.out HV.out (by rw [HU.out, hZZ, HX.out]; exact h3)])
              go_upto_region 9 with (first | (go_at_call 31; refine (HSUM.out _ (Below.refl _ _)).mono ?_; rintro e w' ⟨rfl, rfl⟩) | (go_at_call 75; refine (HW2.out _ HB1.out).mono ?_; rintro e w3 ⟨rfl, hb3⟩))
              have HB4 : Hid (Below wr.heap.size wr w3) := HB1.out.trans (hb3.mono HB1.out.size)
              clear hb3 HSUM HRD
              go_wp2_with fail
              refine bodyPost_ret (v := .tuple #[u4, .int .i64 t]) (by simp [results, Tryd.results58, go_sem]) rfl ?_
              show ScPost (scR zs) w _ _
              rw [HE.out]
              exact ⟨_, os, rfl, HRL.out.keep HB4.out, rfl, HBW.out.trans (HB4.out.mono HBW.out.size)⟩

end Go.Proofs.YtgmbpagbiakciafDoor

namespace Go.Proofs.YtgmbpagbiakciafDoor
open Go.RowKit
set_option linter.unusedVariables false
set_option linter.unusedSimpArgs false

theorem two_lit6 (W : World) (x y : Value) (t : TypeId) : ∀ j u, [x, y][j]? = some u → (W.alloc (.cells #[x, y] t)).cell? ((⟨W.heap.size, 0, none⟩ : Addr).add j) = some u := by
  intro j u hj
  match j, hj with
  | 0, hj => simp at hj; subst hj; simp [Addr.add]
  | 1, hj => simp at hj; subst hj; simp [Addr.add]
  | j + 2, hj => simp at hj

set_option maxRecDepth 100000 in
set_option maxHeartbeats 8000000 in
theorem scans_any (a : Option Addr) (zs : List Int) (len cap : Nat) (w : World) (hT : Tab6 w) (hb : Bytey zs) (hl : zs.length = len) (hlc : len ≤ cap) (hcp : cap ≤ 9223372036854775807) (hm : len ≤ 1099511627776)
    (hc : Lies .u8 w a zs) (hn : a = none → len = 0 ∧ cap = 0) :
    Calls Tryd.prog 30 #[.slice a len cap] w fun e w' => e = .returned (.bool true) ∧ Below w.heap.size w w' := by
  have HTB : Hid (∀ W, Below w.heap.size w W → Tab6 W) := fun W hW => hT.below hW (tab6_pos hT)
  have HLZ : Hid (∀ W, Below w.heap.size w W → Lies .u8 W a zs) := fun W hW => hc.below hW
  obtain ⟨i0, hinf, hz0, hz1, hz2⟩ := info_parts Tryd.info_u8
  obtain ⟨i1, hinf1, hy0, hy1, hy2⟩ := info_parts Tryd.info_rec
  have HBZ : Hid (Bytey zs) := hb
  have HLE : Hid (zs.length = len) := hl
  have HN : Hid (a = none → len = 0 ∧ cap = 0) := hn
  have HRF : Hid (Calls Tryd.prog 58 #[.slice a len cap] w (ScPost (scR zs) w)) := scan2_any a zs len cap w hb hl hlc hcp hm hc
  have HRP : Hid (∀ W g c, Below w.heap.size w W → len ≤ c → c ≤ 9223372036854775807 → Lies .u8 W (some ⟨g, 0, none⟩) zs → Calls Tryd.prog 59 #[.slice (some ⟨g, 0, none⟩) len c] W (ScPost (scR zs) W)) := fun W g c hW h1 h2 h3 => scan_any _ zs len c W (HTB.out W hW) HBZ.out HLE.out h1 h2 hm h3 (.inr ⟨g, 0, rfl⟩)
  obtain ⟨L, N, hq⟩ : ∃ L N, scR zs = (L, N) := ⟨_, _, rfl⟩
  rw [hq] at HRF HRP
  have hL8 : L.length ≤ 1099511627776 := by
    have := scR_small zs hb
    rw [hq] at this
    simp only at this
    omega
  clear hT hc hb hl hn hq
  generalize hR : L.length = R at *
  have HR : Hid (L.length = R) := hR
  have hRi : (R : Int) ≤ 1099511627776 := by omega
  clear hR
  go_enter Tryd.func30, Tryd.ntmps30
  go_upto_region 3 with (go_at_call 58; refine HRF.out.mono ?_; intro e w1 hp1; obtain ⟨aw, cw, rfl, hr1, hb1⟩ := sc_rh hp1; clear hp1)
  have hs1 := hb1.size
  have HR1 : Hid (Rh w1 w.heap.size w1.heap.size aw cw L) := hr1
  have HB1 : Hid (Below w.heap.size w w1) := hb1
  clear hr1 hb1 HRF
  rw [HR.out]
  go_upto_region 4 with (at_builtin; refine append_at _ rfl _ _ 39 rfl w1.heap.size 5 i0 (.int .u8 0) 1 Tryd.underlying39 hinf hz0 hz1 hz2 rfl _ 0 [] rfl (World.ownsRow_nil _ _ _ _) .u8 _ _ _ zs rfl HN.out HLE.out (HLZ.out _ HB1.out) (by unfold maxLen; omega) (by omega) (Nat.le_refl _) ?_; intro v4 w4 ho4 hg4 hf4)
  rw [Nat.zero_add, List.nil_append] at ho4
  have hs4 := hg4.size
  have hb4 : Below w1.heap.size w1 w4 := ⟨hg4.os, hg4.tape, hg4.output, hg4.size, fun k hk => hg4.block k hk (fun e => by cases e)⟩
  have HO4 : Hid (∀ o, (w4.alloc o).ownsRow w1.heap.size 5 1 v4 len (zs.map (Value.int .u8))) := fun o => ho4.alloc o
  have HV4 : Hid (∀ k, v4.ownBlock = some k → w1.heap.size ≤ k) := fun k hk => (ho4.lt k hk).1
  have HB4 : Hid (∀ o, Below w1.heap.size w1 (w4.alloc o)) := fun o => hb4.alloc hs4 o
  clear ho4 hg4 hf4 hb4
  go_upto_region 5 with (at_builtin; refine wpList_append_own_at _ rfl _ _ 39 rfl w1.heap.size 5 i0 (.int .u8 0) 1 1 Tryd.underlying39 hinf hz0 hz1 hz2 rfl (by decide) _ _ _ rfl (HO4.out _) ⟨w4.heap.size, 0, none⟩ 2 2 [.int .u8 177, .int .u8 178] rfl rfl (two_lit6 _ _ _ _) (by intro u hu; simp at hu; rcases hu with rfl | rfl <;> rfl) (by unfold maxLen; omega) (by omega) (by simp; omega) ?_; intro v5 w5 ho5 hg5 _ _; have hb5 := (HB4.out _).grown hg5 (by simp; omega) (by intro k hk; exact HV4.out k hk))
  obtain ⟨go, co, rfl⟩ := C.own_some ho5 (by omega)
  have HO5 : Hid (w5.ownsRow w1.heap.size 5 1 (.slice (some ⟨go, 0, none⟩) (len + 2) co) (len + 2) ((zs ++ [177, 178]).map (Value.int .u8))) := by unfold Hid; rw [List.map_append]; exact ho5
  obtain ⟨hgo1, hgo2⟩ := ho5.lt go rfl
  have hco : len + 2 ≤ co ∧ co ≤ 9223372036854775807 := by
    obtain ⟨_, ⟨h, _⟩ | ⟨g', cap', cur, h, _, _, h1, h2, _⟩⟩ := ho5
    · cases h
    · simp only [Value.slice.injEq] at h
      obtain ⟨_, _, rfl⟩ := h
      unfold maxLen at h2
      omega
  have hs5 := hb5.size
  have HR5 : Hid (Rh w5 w.heap.size w1.heap.size aw cw L) := HR1.out.same (fun g _ hg _ => hb5.block g hg)
  have HB5 : Hid (Below w.heap.size w w5) := HB1.out.trans (hb5.mono (by omega))
  have HLI : Hid (Lies .u8 w5 (some ⟨go, 0, none⟩) zs) := (marks_lies HO5.out HLE.out).1
  obtain ⟨hco1, hco2⟩ := hco
  clear hb5 ho5 hg5 HO4 HV4 HB4 HR1 HB1
  go_upto_region 6 with (go_at_call 59; refine (HRP.out _ go co HB5.out (by omega) (by omega) HLI.out).mono ?_; intro e w6 hp6; obtain ⟨al, cl, rfl, hr6, hb6⟩ := sc_rh hp6; clear hp6)
  have hs6 := hb6.size
  have HL6 : Hid (Rh w6 w5.heap.size w6.heap.size al cl L) := hr6
  have HR6 : Hid (Rh w6 w.heap.size w1.heap.size aw cw L) := HR5.out.below hb6
  have HB6 : Hid (Below w.heap.size w w6) := HB5.out.trans (hb6.mono HB5.out.size)
  have HO6 : Hid (w6.ownsRow w1.heap.size 5 1 (.slice (some ⟨go, 0, none⟩) (len + 2) co) (len + 2) ((zs ++ [177, 178]).map (Value.int .u8))) := own_below6 HO5.out hb6
  have HLI6 : Hid (Lies .u8 w6 (some ⟨go, 0, none⟩) zs) := (marks_lies HO6.out HLE.out).1
  clear hr6 hb6 HO5 HR5 HB5 HLI
  rw [HR.out]
  go_upto_region 7 with (go_at_call 59; refine (HRP.out _ go co HB6.out (by omega) (by omega) HLI6.out).mono ?_; intro e w7 hp7; obtain ⟨ak, ck, rfl, hr7, hb7⟩ := sc_rh hp7; clear hp7)
  have hs7 := hb7.size
  have HK7 : Hid (Rh w7 w6.heap.size w7.heap.size ak ck L) := hr7
  have HL7 : Hid (Rh w7 w5.heap.size w6.heap.size al cl L) := HL6.out.below hb7
  have HR7 : Hid (Rh w7 w.heap.size w1.heap.size aw cw L) := HR6.out.below hb7
  have HB7 : Hid (Below w.heap.size w w7) := HB6.out.trans (hb7.mono HB6.out.size)
  have HO7 : Hid (w7.ownsRow w1.heap.size 5 1 (.slice (some ⟨go, 0, none⟩) (len + 2) co) (len + 2) ((zs ++ [177, 178]).map (Value.int .u8))) := own_below6 HO6.out hb7
  clear hr7 hb7 HO6 HR6 HL6 HB6 HLI6 HRP
  rw [HR.out]
  go_upto_region 8 with (go_at_call 29; refine (sameAll_eq L al aw R cl cw _ HR.out (by omega) HL7.out.lin HR7.out.lin).mono ?_; rintro e w8 ⟨rfl, hb8⟩)
  go_upto_region 9 with (go_at_call 29; refine (sameAll_eq L ak aw R ck cw _ HR.out (by omega) (HK7.out.below hb8).lin (HR7.out.below hb8).lin).mono ?_; rintro e w9 ⟨rfl, hb9⟩)
  have hb79 : Below w7.heap.size w7 w9 := hb8.trans (hb9.mono hb8.size)
  have HL9 : Hid (Lies .u8 w9 (some ⟨go, 0, none⟩) zs) := (marks_lies (own_below6 HO7.out hb79) HLE.out).1
  have HZ9 : Hid (Lies .u8 w9 a zs) := HLZ.out _ (HB7.out.trans (hb79.mono HB7.out.size))
  clear hb8 hb9
  go_upto_region 10 with (go_at_call 20; refine (sameBytes_eq _ a zs len co cap _ HLE.out (by omega) HL9.out HZ9.out).mono ?_; rintro e w10 ⟨rfl, hb10⟩)
  have hbt : Below w7.heap.size w7 w10 := hb79.trans (hb10.mono hb79.size)
  have hs10 := hbt.size
  have HK10 : Hid (Rh w10 w6.heap.size w7.heap.size ak ck L) := HK7.out.below hbt
  have HL10 : Hid (Rh w10 w5.heap.size w6.heap.size al cl L) := HL7.out.below hbt
  have HR10 : Hid (Rh w10 w.heap.size w1.heap.size aw cw L) := HR7.out.below hbt
  have HB10 : Hid (Below w.heap.size w w10) := HB7.out.trans (hbt.mono HB7.out.size)
  have HO10 : Hid (w10.ownsRow w1.heap.size 5 1 (.slice (some ⟨go, 0, none⟩) (len + 2) co) (len + 2) ((zs ++ [177, 178]).map (Value.int .u8))) := own_below6 HO7.out hbt
  obtain ⟨_, m0, m1⟩ := marks_lies HO10.out HLE.out
  clear hb79 hb10 hbt HK7 HL7 HR7 HB7 HO7 HL9 HZ9 HLZ
  go_upto_region 12 with fail
  clear m0 m1
  have hzl : (zs ++ ([177, 178] : List Int)).length = len + 2 := by have := HLE.out; simp; omega
  have HD10 : Hid (∃ ys : List Int, ys.length = len + 2 ∧ DOwn w10 w1.heap.size (.slice (some ⟨go, 0, none⟩) (len + 2) co) ys) := ⟨zs ++ [177, 178], hzl, by unfold DOwn; rw [hzl]; exact HO10.out⟩
  clear hzl
  clear HO10
  go_wp2
  go_loopw [13] (fun i wr => ∃ (k : Nat) (ys : List Int), k ≤ len + 2 ∧ i = .int .i64 k ∧ w10.grownBy wr (some go) ∧ ys.length = len + 2 ∧ DOwn wr w1.heap.size (.slice (some ⟨go, 0, none⟩) (len + 2) co) ys) (fun i _ => len + 2 - (intOf i).toNat)
  case atStart => obtain ⟨ys, h1, h2⟩ := HD10.out; exact ⟨0, ys, Nat.zero_le _, rfl, World.grownBy.refl _ _, h1, h2⟩
  case round =>
    obtain ⟨k, ys, hk, rfl, hg, hyl, hd⟩ := hrel
    by_cases hlt : k < len + 2
    · have hlt' : (k : Int) < (len : Int) + 2 := by omega
      obtain ⟨y, hy⟩ : ∃ y, ys[k]? = some y := ⟨_, List.getElem?_eq_getElem (by omega)⟩
      obtain ⟨c1, f1⟩ := hd.cells (k := k) (x := y) hy
      have HN1 : Hid (∃ ys', w10.grownBy (wr.setCell ⟨go, k, none⟩ (.int .u8 201)) (some go) ∧ ys'.length = len + 2 ∧ DOwn (wr.setCell ⟨go, k, none⟩ (.int .u8 201)) w1.heap.size (.slice (some ⟨go, 0, none⟩) (len + 2) co) ys') := ⟨ys.set k 201, C.grown_trans hg (grown_set _ _ _ _), by rw [List.length_set]; exact hyl, hd.put k 201⟩
      clear hg hd hyl hy
      go_wp2
      go_roundw
      case rel => obtain ⟨ys', q1, q2, q3⟩ := HN1.out; exact ⟨k + 1, ys', by omega, by go_num, q1, q2, q3⟩
      case measure => simp [intOf]; omega
    · have hlt' : (len : Int) + 2 ≤ (k : Int) := by omega
      obtain ⟨w11, h11⟩ : ∃ x, x = wr := ⟨_, rfl⟩
      subst h11
      have hs11 := hg.size
      have HK11 : Hid (Rh w11 w6.heap.size w7.heap.size ak ck L) := HK10.out.same (fun g h1 h2 h3 => hg.block g h3 (by simp; omega))
      have HL11 : Hid (Rh w11 w5.heap.size w6.heap.size al cl L) := HL10.out.same (fun g h1 h2 h3 => hg.block g h3 (by simp; omega))
      have HR11 : Hid (Rh w11 w.heap.size w1.heap.size aw cw L) := HR10.out.same (fun g h1 h2 h3 => hg.block g h3 (by simp; omega))
      have HB11 : Hid (Below w.heap.size w w11) := HB10.out.grown hg HB10.out.size (by simp; omega)
      clear hg hyl hd HK10 HL10 HR10 HB10 HD10
      go_upto_region 17 with (go_at_call 29; refine (sameAll_eq L al aw R cl cw _ HR.out (by omega) HL11.out.lin HR11.out.lin).mono ?_; rintro e w12 ⟨rfl, hb12⟩)
      have hs12 := hb12.size
      have HK12 : Hid (Rh w12 w6.heap.size w7.heap.size ak ck L) := HK11.out.below hb12
      have HL12 : Hid (Rh w12 w5.heap.size w6.heap.size al cl L) := HL11.out.below hb12
      have HR12 : Hid (Rh w12 w.heap.size w1.heap.size aw cw L) := HR11.out.below hb12
      have HB12 : Hid (Below w.heap.size w w12) := HB11.out.trans (hb12.mono HB11.out.size)
      have HOW := HL12.out.owned (by omega) (by have := HR.out; omega)
      have HLB : Hid (∀ k, (Value.slice al L.length cl).ownBlock = some k → w5.heap.size ≤ k ∧ k < w6.heap.size) := fun k hk => by obtain ⟨cs, h1, h2⟩ := HL12.out.row; exact ⟨(h1.lt k hk).1, h2 k hk⟩
      rw [HR.out] at HOW HLB
      clear hb12 HK11 HL11 HR11 HB11
      go_upto_region 18 with (go_at_call 26; refine HOW.mono ?_; rintro e w13 ⟨rfl, hk13, cs13, hc13⟩)
      have hs13 := hk13.size
      have HK13 : Hid (Rh w13 w6.heap.size w7.heap.size ak ck L) := HK12.out.same (fun g h1 h2 h3 => hk13.block g h3 (by omega))
      have HR13 : Hid (Rh w13 w.heap.size w1.heap.size aw cw L) := HR12.out.same (fun g h1 h2 h3 => hk13.block g h3 (by omega))
      have HB13 : Hid (Below w.heap.size w w13) := ⟨hk13.os.trans HB12.out.os, hk13.tape.trans HB12.out.tape, hk13.output.trans HB12.out.output, by have := HB12.out.size; omega, fun g hg => (hk13.block g (by have := HB12.out.size; omega) (by omega)).trans (HB12.out.block g hg)⟩
      have HC13 : Hid (w13.ownsRow w5.heap.size 41 11 (.slice al R cl) R cs13) := hc13
      clear hk13 hc13 HOW HK12 HL12 HR12 HB12
      go_upto_region 19 with (go_at_call 29; refine (sameAll_eq L ak aw R ck cw _ HR.out (by omega) HK13.out.lin HR13.out.lin).mono ?_; rintro e w14 ⟨rfl, hb14⟩)
      have hs14 := hb14.size
      have HK14 : Hid (Rh w14 w6.heap.size w7.heap.size ak ck L) := HK13.out.below hb14
      have HR14 : Hid (Rh w14 w.heap.size w1.heap.size aw cw L) := HR13.out.below hb14
      have HB14 : Hid (Below w.heap.size w w14) := HB13.out.trans (hb14.mono HB13.out.size)
      have HC14 : Hid (∃ cs, w14.ownsRow w5.heap.size 41 11 (.slice al R cl) R cs) := ⟨_, own_below6 HC13.out hb14⟩
      clear hb14 HK13 HR13 HB13 HC13
      go_wp2
      go_loopw [17] (fun i wr => ∃ (k : Nat) (cs : List Value), k ≤ R ∧ i = .int .i64 k ∧ Kps (fun g => w5.heap.size ≤ g ∧ g < w6.heap.size) w14 wr ∧ wr.ownsRow w5.heap.size 41 11 (.slice al R cl) R cs) (fun i _ => R - (intOf i).toNat)
      case atStart => obtain ⟨cs, h⟩ := HC14.out; exact ⟨0, cs, Nat.zero_le _, rfl, Kps.refl _ _, h⟩
      case round =>
        obtain ⟨k2, cs, hk2, rfl, hkp, hrow⟩ := hrel
        by_cases hlt2 : k2 < R
        · have hlt2' : (k2 : Int) < (R : Int) := by omega
          obtain ⟨gl, cl', hv⟩ := C.own_some hrow (by omega)
          simp only [Value.slice.injEq] at hv
          obtain ⟨rfl, _, rfl⟩ := hv
          have hcl := row_cells hrow hlt2
          obtain ⟨⟨v0, x0⟩, f0⟩ := hcl 0 (by omega)
          obtain ⟨⟨v1, x1⟩, f1⟩ := hcl 1 (by omega)
          obtain ⟨⟨v2, x2⟩, f2⟩ := hcl 2 (by omega)
          obtain ⟨⟨v3, x3⟩, f3⟩ := hcl 3 (by omega)
          obtain ⟨⟨v4', x4⟩, f4⟩ := hcl 4 (by omega)
          obtain ⟨⟨v5', x5⟩, f5⟩ := hcl 5 (by omega)
          obtain ⟨⟨v6, x6⟩, f6⟩ := hcl 6 (by omega)
          obtain ⟨⟨v7, x7⟩, f7⟩ := hcl 7 (by omega)
          obtain ⟨⟨v8, x8⟩, f8⟩ := hcl 8 (by omega)
          obtain ⟨⟨v9, x9⟩, f9⟩ := hcl 9 (by omega)
          obtain ⟨⟨v10, x10⟩, f10⟩ := hcl 10 (by omega)
          simp only [Nat.add_zero] at x0 f0
          have hp := row_put (i := k2) hrow ⟨-1, 0, 0, 0, 0, 0, 0, 0, 0, [], []⟩ (.slice none 0 0) (.slice none 0 0)
          have HP1 := hidMk hp.1
          have HP2 := hidMk (hkp.grown hp.2 (fun k hk => by simp only [Option.some.injEq] at hk; subst hk; exact .inl (HLB.out gl rfl)))
          clear hp hcl hkp hrow
          go_wp2
          go_roundw
          case rel => obtain ⟨cs', q⟩ := HP1.out; exact ⟨k2 + 1, cs', by omega, by go_num, HP2.out, q⟩
          case measure => simp [intOf]; omega
        · have hlt2' : (R : Int) ≤ (k2 : Int) := by omega
          obtain ⟨w15, h15⟩ : ∃ x, x = wr := ⟨_, rfl⟩
          subst h15
          have HKP : Hid (Kps (fun g => w5.heap.size ≤ g ∧ g < w6.heap.size) w14 w15) := hkp
          have HRW : Hid (w15.ownsRow w5.heap.size 41 11 (.slice al R cl) R cs) := hrow
          clear hkp hrow HC14
          go_wp2
          go_loopw [6, 18] (fun v i wr => ∃ (k : Nat) (cs : List Value), k ≤ 5 ∧ i = .int .i64 k ∧ Kps (fun g => w5.heap.size ≤ g ∧ g < w6.heap.size) w14 wr ∧ wr.ownsRow w5.heap.size 41 11 v (R + k) cs ∧ ∀ j, v.ownBlock = some j → (w5.heap.size ≤ j ∧ j < w6.heap.size) ∨ w14.heap.size ≤ j) (fun _ i _ => 5 - (intOf i).toNat)
          case atStart => exact ⟨0, cs, by omega, rfl, HKP.out, HRW.out, fun j hj => .inl (HLB.out j hj)⟩
          case round =>
            obtain ⟨k3, cs3, hk3, rfl, hkp, hrow, hpl⟩ := hrel
            have hsw := hkp.size
            by_cases hlt3 : k3 < 5
            · have hlt3' : (k3 : Int) < 5 := by omega
              have HKA : Hid (∀ o, Kps (fun g => w5.heap.size ≤ g ∧ g < w6.heap.size) w14 (wr.alloc o)) := fun o => hkp.after ((Below.refl _ _).alloc (Nat.le_refl _) _)
              have HRA : Hid (∀ o, (wr.alloc o).ownsRow w5.heap.size 41 11 u6 (R + k3) cs3) := fun o => hrow.alloc o
              have HPL : Hid (∀ j, u6.ownBlock = some j → (w5.heap.size ≤ j ∧ j < w6.heap.size) ∨ w14.heap.size ≤ j) := hpl
              clear hkp hrow hpl
              go_wp2_with (at_builtin; refine wpList_append_own_at _ rfl _ _ 53 rfl w5.heap.size 41 i1 _ 11 120 Tryd.underlying53 hinf1 hy0 hy1 hy2 rfl (by decide) _ _ _ rfl (HRA.out _) ⟨wr.heap.size, 0, none⟩ 1 1 (rcC ⟨-2, 0, 0, 0, 0, 0, 0, 0, 0, [], []⟩ (.slice none 0 0) (.slice none 0 0)).toList rfl rfl (rec_lit _ ⟨-2, 0, 0, 0, 0, 0, 0, 0, 0, [], []⟩ _ _) (rec_one _ _ _ _ _ _ _) (by unfold maxLen; omega) (by omega) (by simp; omega) ?_; intro v16 w16 o16 g16 _ t16)
              have HKN : Hid (Kps (fun g => w5.heap.size ≤ g ∧ g < w6.heap.size) w14 w16) := (HKA.out _).grown g16 (fun k hk => HPL.out k hk)
              have HRN : Hid (∃ cs', w16.ownsRow w5.heap.size 41 11 v16 (R + (k3 + 1)) cs') := ⟨_, o16⟩
              have HPN : Hid (∀ j, v16.ownBlock = some j → (w5.heap.size ≤ j ∧ j < w6.heap.size) ∨ w14.heap.size ≤ j) := fun j hj => by
                rcases t16 with q | q
                · exact HPL.out j (q.symm.trans hj)
                · right; rw [q] at hj; simp at hj; omega
              clear o16 g16 t16
              go_wp2
              go_roundw
              case rel => obtain ⟨cs', q⟩ := HRN.out; exact ⟨k3 + 1, cs', by omega, by go_num, HKN.out, q, HPN.out⟩
              case measure => simp [intOf]; omega
            · obtain rfl : k3 = 5 := by omega
              obtain ⟨a6, c6, rfl⟩ := own_sl hrow
              have HK17 : Hid (Rh wr w6.heap.size w7.heap.size ak ck L) := HK14.out.same (fun g h1 h2 h3 => hkp.block g h3 (by omega))
              have HR17 : Hid (Rh wr w.heap.size w1.heap.size aw cw L) := HR14.out.same (fun g h1 h2 h3 => hkp.block g h3 (by omega))
              have HB17 : Hid (Below w.heap.size w wr) := ⟨hkp.os.trans HB14.out.os, hkp.tape.trans HB14.out.tape, hkp.output.trans HB14.out.output, by have := HB14.out.size; omega, fun g hg => (hkp.block g (by have := HB14.out.size; omega) (by omega)).trans (HB14.out.block g hg)⟩
              clear hkp hrow hpl
              go_wp2_with (go_at_call 29; refine (sameAll_eq L ak aw R ck cw _ HR.out (by omega) HK17.out.lin HR17.out.lin).mono ?_; rintro e w18 ⟨rfl, hb18⟩)
              go_ret
              exact ⟨by first | rfl | simp | (congr 1; simp), HB17.out.trans (hb18.mono HB17.out.size)⟩
end Go.Proofs.YtgmbpagbiakciafDoor
