import Derived.Test.YtllhbhogfffedaaGreatDoorRcScn
import Derived.Test.YtllhbhogfffedaaGreatDoorRcR28
namespace Go.Proofs.YtllhbhogfffedaaGreatDoor
open Go.RowKit
set_option linter.unusedVariables false
set_option linter.unusedSimpArgs false

set_option maxRecDepth 100000 in
set_option maxHeartbeats 1000000 in
theorem value2_any (g off n c : Nat) (x0 x1 x2 x3 : Int) (w : World) (hn : 4 ≤ n) (h0 : 0 ≤ x0 ∧ x0 ≤ 255) (h1 : 0 ≤ x1 ∧ x1 ≤ 255) (h2 : 0 ≤ x2 ∧ x2 ≤ 255) (h3 : 0 ≤ x3 ∧ x3 ≤ 255)
    (c0 : w.cell? ⟨g, off, none⟩ = some (.int .u8 x0)) (c1 : w.cell? ⟨g, off + 1, none⟩ = some (.int .u8 x1)) (c2 : w.cell? ⟨g, off + 2, none⟩ = some (.int .u8 x2)) (c3 : w.cell? ⟨g, off + 3, none⟩ = some (.int .u8 x3)) :
    Calls Tryz.prog 61 #[.slice (some ⟨g, off, none⟩) n c] w fun e w' => e = .returned (.int .i64 (x0 * 16777216 + x1 * 65536 + x2 * 256 + x3)) ∧ Below w.heap.size w w' := by
  have hn' : (4 : Int) ≤ n := by omega
  go_enter Tryz.func61, Tryz.ntmps61
  go_wp2
  go_quiet (fail)
  go_wp2
  go_ret
  exact ⟨rfl, ⟨rfl, rfl, rfl, Nat.le_refl _, fun _ _ => rfl⟩⟩
theorem value2_at (g off n c : Nat) (zs : List Int) (w : World) (hb : Bytey zs) (hn : 4 ≤ n) (h4 : 4 ≤ zs.length) (hz : ∀ i, i < zs.length → w.cell? ⟨g, off + i, none⟩ = some (.int .u8 (zs.getD i 0))) :
    Calls Tryz.prog 61 #[.slice (some ⟨g, off, none⟩) n c] w fun e w' => e = .returned (.int .i64 (vl4 zs)) ∧ Below w.heap.size w w' :=
  value2_any g off n c (zs.getD 0 0) (zs.getD 1 0) (zs.getD 2 0) (zs.getD 3 0) w hn (bytAt hb 0) (bytAt hb 1) (bytAt hb 2) (bytAt hb 3) (hz 0 (by omega)) (hz 1 (by omega)) (hz 2 (by omega)) (hz 3 (by omega))

set_option maxRecDepth 100000 in
set_option maxHeartbeats 4000000 in
theorem scan2_any (ad : Option Addr) (zs : List Int) (n c : Nat) (w : World) (hb : Bytey zs) (hl : zs.length = n) (hnc : n ≤ c) (hc : c ≤ 9223372036854775807) (hm : n ≤ 1099511627776) (hz : Lies .u8 w ad zs) :
    Calls Tryz.prog 27 #[.slice ad n c] w (ScPost (scR zs) w) := by
  obtain ⟨i0, hi0, hz0, hy0, hb0⟩ := info_parts Tryz.info_rec
  have HBY : Hid (Bytey zs) := hb
  have HL : Hid (zs.length = n) := hl
  have HZ : Hid (Lies .u8 w ad zs) := hz
  clear hb hl hz
  go_enter Tryz.func27, Tryz.ntmps27
  go_wp2_with fail
  go_loopw [4, 5] (fun v p wr => ∃ (os : List Ro) (t : Nat), p = .int .i64 t ∧ Scd zs (os.map Ro.r) t ∧ Rl wr w.heap.size v os ∧ Below w.heap.size w wr) (fun _ p _ => n - (intOf p).toNat)
  case atStart => exact ⟨[], 0, rfl, Scd.start _, Rl.start _ _, Below.refl _ _⟩
  case round =>
    obtain ⟨os, t, rfl, hsc, hrl, hbw⟩ := hrel
    have hcnt := hsc.cnt
    have hlen := hsc.len
    rw [List.length_map] at hcnt
    rw [HL.out] at hlen
    have HSC : Hid (Scd zs (os.map Ro.r) t) := hsc
    have HRL : Hid (Rl wr w.heap.size u4 os) := hrl
    have HBW : Hid (Below w.heap.size w wr) := hbw
    have HLD : Hid ((zs.drop t).length = n - t) := by unfold Hid; rw [List.length_drop, HL.out]
    have hLz := HZ.out.below hbw
    clear hsc hrl hbw
    by_cases h8 : (n : Int) - (t : Int) < 8
    · have HE : Hid (scR zs = (os.map Ro.r, t)) := HSC.out.fin (by rw [fsR_short (by rw [HLD.out]; omega)])
      clear hLz
      go_wp2_with fail
      refine bodyPost_ret (v := .tuple #[u4, .int .i64 t]) (by simp [results, Tryz.results27, go_sem]) rfl ?_
      show ScPost (scR zs) w _ _
      rw [HE.out]
      exact ⟨_, os, rfl, HRL.out, rfl, HBW.out⟩
    · rcases hLz with h0 | ⟨g, off, rfl, hce⟩
      · have := HL.out; rw [h0] at this; simp at this; omega
      have HCE : Hid (∀ k W, Below wr.heap.size wr W → ∀ i, i < (zs.drop k).length → W.cell? ⟨g, off + k + i, none⟩ = some (.int .u8 ((zs.drop k).getD i 0))) := fun k W hW i hi => by
        rw [List.length_drop] at hi
        have h1 := C.cell_below (hce (k + i) (by omega)) hW
        rw [List.getD_eq_getElem?_getD, List.getElem?_drop, ← List.getD_eq_getElem?_getD, show off + k + i = off + (k + i) by omega]
        exact h1
      obtain ⟨V, hV⟩ : ∃ V : Nat, vl4 (zs.drop t) = V := ⟨(vl4 (zs.drop t)).toNat, by have := vl4_bd (bytDrop HBY.out t); omega⟩
      have hVb : V < 4294967296 := by have := vl4_bd (bytDrop HBY.out t); omega
      obtain ⟨U, hU⟩ : ∃ U : Int, vl4 (zs.drop (t + 4)) = U := ⟨_, rfl⟩
      have HV : Hid (vl4 (zs.drop t) = V) := hV
      have HU : Hid (vl4 ((zs.drop t).drop 4) = U) := by unfold Hid; rw [List.drop_drop]; exact hU
      have HW1 : Hid (Calls Tryz.prog 61 #[.slice (some ⟨g, off + t, none⟩) (n - t) (c - t)] wr fun e w' => e = .returned (.int .i64 V) ∧ Below wr.heap.size wr w') := by
        have := value2_at g (off + t) (n - t) (c - t) (zs.drop t) wr (bytDrop HBY.out t) (by omega) (by rw [HLD.out]; omega) (HCE.out t wr (Below.refl _ _))
        rw [hV] at this
        exact this
      have HW2 : Hid (∀ W, Below wr.heap.size wr W → Calls Tryz.prog 61 #[.slice (some ⟨g, off + (t + 4), none⟩) (n - (t + 4)) (c - (t + 4))] W fun e w' => e = .returned (.int .i64 U) ∧ Below W.heap.size W w') := fun W hW => by
        have := value2_at g (off + (t + 4)) (n - (t + 4)) (c - (t + 4)) (zs.drop (t + 4)) W (bytDrop HBY.out _) (by omega) (by rw [List.length_drop, HL.out]; omega) (HCE.out (t + 4) W hW)
        rw [hU] at this
        exact this
      have HNS : Hid (¬ (zs.drop t).length < 8) := by unfold Hid; rw [HLD.out]; omega
      have hct : ¬ c = t := by omega
      have hct4 : ¬ c = t + 4 := by omega
      have ht1 : (t : Int) ≤ (n : Int) := by omega
      clear hce hV hU
      by_cases h1 : (131072 : Int) < (V : Int)
      · have HE : Hid (scR zs = (os.map Ro.r, t)) := HSC.out.fin (by rw [fsR_long HNS.out (.inl (by rw [HV.out]; exact h1))])
        go_upto_region 5 with (go_at_call 61; refine HW1.out.mono ?_; rintro e w1 ⟨rfl, hb1⟩)
        clear HW2 HCE
        go_wp2_with fail
        refine bodyPost_ret (v := .tuple #[u4, .int .i64 t]) (by simp [results, Tryz.results27, go_sem]) rfl ?_
        show ScPost (scR zs) w _ _
        rw [HE.out]
        exact ⟨_, os, rfl, HRL.out.keep hb1, rfl, HBW.out.trans (hb1.mono HBW.out.size)⟩
      · by_cases h2 : (n : Int) - (t : Int) - 8 < (V : Int)
        · have HE : Hid (scR zs = (os.map Ro.r, t)) := HSC.out.fin (by rw [fsR_long HNS.out (.inr (by rw [HV.out, HLD.out]; omega))])
          go_upto_region 5 with (go_at_call 61; refine HW1.out.mono ?_; rintro e w1 ⟨rfl, hb1⟩)
          clear HW2 HCE
          go_wp2_with fail
          refine bodyPost_ret (v := .tuple #[u4, .int .i64 t]) (by simp [results, Tryz.results27, go_sem]) rfl ?_
          show ScPost (scR zs) w _ _
          rw [HE.out]
          exact ⟨_, os, rfl, HRL.out.keep hb1, rfl, HBW.out.trans (hb1.mono HBW.out.size)⟩
        · go_upto_region 6 with (go_at_call 61; refine HW1.out.mono ?_; rintro e w1 ⟨rfl, hb1⟩)
          have HB1 : Hid (Below wr.heap.size wr w1) := hb1
          have hVc : t + 8 + V ≤ n := by omega
          have HPZ : Hid (∀ W, Below w1.heap.size w1 W → Lies .u8 W (some ⟨g, off + (t + 8), none⟩) (((zs.drop t).drop 8).take V)) := fun W hW => .inr ⟨g, off + (t + 8), rfl, fun i hi => by
            rw [List.length_take, List.drop_drop] at hi
            have h1 := HCE.out (t + 8) W (HB1.out.trans (hW.mono HB1.out.size)) i (by omega)
            rw [List.drop_drop, List.getD_eq_getElem?_getD, List.getElem?_take_of_lt (by omega), ← List.getD_eq_getElem?_getD]
            exact h1⟩
          have HPL : Hid ((((zs.drop t).drop 8).take V).length = V) := by unfold Hid; rw [List.length_take, List.length_drop, HLD.out]; omega
          have HPB : Hid (Bytey (((zs.drop t).drop 8).take V)) := bytTake (bytDrop (bytDrop HBY.out t) 8) V
          have HNX : Hid (¬ (131072 < vl4 (zs.drop t) ∨ ((zs.drop t).length : Int) - 8 < vl4 (zs.drop t))) := by unfold Hid; rw [HV.out, HLD.out]; omega
          have hVi : (t : Int) + 8 + (V : Int) ≤ (c : Int) := by omega
          have hVj : (t : Int) + 8 ≤ (t : Int) + 8 + (V : Int) := by omega
          clear hb1 HCE HW1
          generalize hZZ : ((zs.drop t).drop 8).take V = zz at *
          go_cut [7] from 31 to 38 (fun q wx => ∃ a', q = .slice a' V (c - (t + 8)) ∧ Hid (∀ W, Below w1.heap.size w1 W → Lies .u8 W a' zz) ∧ wx = w1)
          case first =>
            by_cases hc8 : c = t + 8
            · obtain rfl : V = 0 := by omega
              subst hc8
              go_wp2_with fail
              go_meet
              refine ⟨some ⟨g, off, none⟩, ?_, fun W hW => .inl (List.eq_nil_of_length_eq_zero HPL.out), rfl⟩
              simp
            · go_wp2_with fail
              go_meet
              refine ⟨_, ?_, HPZ, rfl⟩
              first | rfl | (congr 1 <;> omega)
          case rest =>
            obtain ⟨a', rfl, HLZ, rfl⟩ := hcut
            have HSUM : Hid (∀ W, Below wc.heap.size wc W → Calls Tryz.prog 53 #[.slice a' V (c - (t + 8))] W fun e w' => e = .returned (.int .u32 (crs zz : Nat)) ∧ W = w') := fun W hW => rsum_any a' zz V (c - (t + 8)) W HPB.out HPL.out (by omega) (HLZ.out W hW)
            have HRD : Hid (∀ W, Below wc.heap.size wc W → Calls Tryz.prog 62 #[.slice a' V (c - (t + 8))] W (RdPost (rdR zz) W)) := fun W hW => read2_any a' zz V (c - (t + 8)) W HPB.out HPL.out (by omega) (by omega) (HLZ.out W hW)
            obtain ⟨X, hX⟩ : ∃ X : Nat, crs zz = X := ⟨_, rfl⟩
            have HX : Hid (crs zz = X) := hX
            have hXb : X < 4294967296 := by rw [← hX]; exact crs_lt HPB.out
            rw [hX] at HSUM
            have hwX : IntKind.i64.wrap (X : Int) = X := by simp [IntKind.wrap, IntKind.bits, IntKind.signed]; omega
            clear hX
            generalize hD : c - (t + 8) = d at *
            by_cases h3 : (X : Int) = U
            · subst h3
              cases hq : readP zz with
              | none =>
                have HE : Hid (scR zs = (os.map Ro.r, t)) := HSC.out.fin (by rw [fsR_none HV.out (by rw [hZZ]; exact hq)])
                have HQ2 : Hid (rdR zz = (rz0, 61)) := by unfold Hid rdR; rw [if_neg (by rw [HPL.out]; omega), hq]
                rw [HQ2.out] at HRD
                clear HQ2 hq
                go_upto_region 10 with (first | (go_at_call 53; refine (HSUM.out _ (Below.refl _ _)).mono ?_; rintro e w' ⟨rfl, rfl⟩) | (go_at_call 61; refine (HW2.out _ HB1.out).mono ?_; rintro e w3 ⟨rfl, hb3⟩) | (go_at_call 62; refine (HRD.out _ hb3).mono ?_; rintro e w4 ⟨sa, da, sc, dc, rfl, hso, hdo, hpt, hb4⟩))
                have HB4 : Hid (Below wr.heap.size wr (w4.alloc (rcO rz0 (.slice sa 0 sc) (.slice da 0 dc)))) := ((HB1.out.trans (hb3.mono HB1.out.size)).trans (hb4.mono (Nat.le_trans HB1.out.size hb3.size))).alloc (Nat.le_trans (Nat.le_trans HB1.out.size hb3.size) hb4.size) _
                clear hso hdo hpt hb4 hb3 HSUM HRD
                generalize w4.alloc (rcO rz0 (.slice sa 0 sc) (.slice da 0 dc)) = w5 at *
                go_wp2_with fail
                refine bodyPost_ret (v := .tuple #[u4, .int .i64 t]) (by simp [results, Tryz.results27, go_sem]) rfl ?_
                show ScPost (scR zs) w _ _
                rw [HE.out]
                exact ⟨_, os, rfl, HRL.out.keep HB4.out, rfl, HBW.out.trans (HB4.out.mono HBW.out.size)⟩
              | some r =>
                have HQF : Hid (fsR (zs.drop t) = (r, 8 + (V : Int))) := fsR_some HNS.out HNX.out HV.out (by rw [HU.out, hZZ, HX.out]) (by rw [hZZ]; exact hq)
                have HQ2 : Hid (rdR zz = (r, 0)) := by unfold Hid rdR; rw [if_neg (by rw [HPL.out]; omega), hq]
                have HSM : Hid (r.data.length ≤ 65536 ∧ r.spans.length ≤ 500) := by have := fs_small (bytDrop HBY.out t); rw [HQF.out] at this; exact this
                rw [HQ2.out] at HRD
                clear HQ2 hq
                go_upto_region 10 with (first | (go_at_call 53; refine (HSUM.out _ (Below.refl _ _)).mono ?_; rintro e w' ⟨rfl, rfl⟩) | (go_at_call 61; refine (HW2.out _ HB1.out).mono ?_; rintro e w3 ⟨rfl, hb3⟩) | (go_at_call 62; refine (HRD.out _ hb3).mono ?_; rintro e w4 ⟨sa, da, sc, dc, rfl, hso, hdo, hpt, hb4⟩))
                have HB3 : Hid (Below wr.heap.size wr w3) := HB1.out.trans (hb3.mono HB1.out.size)
                have HX4 : Hid ((w4.alloc (rcO r (.slice sa r.spans.length sc) (.slice da r.data.length dc))).heap[w4.heap.size]? = some (rcO r (.slice sa r.spans.length sc) (.slice da r.data.length dc))) := heap_new6 w4 _
                have HB4 : Hid (Below wr.heap.size wr (w4.alloc (rcO r (.slice sa r.spans.length sc) (.slice da r.data.length dc)))) := (HB3.out.trans (hb4.mono HB3.out.size)).alloc (Nat.le_trans HB3.out.size hb4.size) _
                have HS4 : Hid (C.SOwn (w4.alloc (rcO r (.slice sa r.spans.length sc) (.slice da r.data.length dc))) wr.heap.size (.slice sa r.spans.length sc) r.spans) := own_lower (World.ownsRow.alloc hso _) HB3.out.size
                have HD4 : Hid ((w4.alloc (rcO r (.slice sa r.spans.length sc) (.slice da r.data.length dc))).ownsRow wr.heap.size 5 1 (.slice da r.data.length dc) r.data.length (r.data.map (Value.int .u8))) := own_lower (hdo.alloc _) HB3.out.size
                have HPT : Hid (∀ j, (Value.slice sa r.spans.length sc).ownBlock = some j → (Value.slice da r.data.length dc).ownBlock ≠ some j) := hpt
                clear hso hdo hpt hb4 hb3 HSUM HRD HB3
                generalize w4.alloc (rcO r (.slice sa r.spans.length sc) (.slice da r.data.length dc)) = w5 at *
                obtain ⟨x0, x1, x2, x3, x4, x5, x6, x7, x8, x9, x10⟩ := rc_cells HX4.out
                have HR5 : Hid ((w5.alloc (rcO r (.slice sa r.spans.length sc) (.slice da r.data.length dc))).ownsRow w.heap.size 81 11 u4 os.length (rlC os)) := (own_below6 HRL.out.row HB4.out).alloc _
                have HB5 : Hid (Below wr.heap.size wr (w5.alloc (rcO r (.slice sa r.spans.length sc) (.slice da r.data.length dc)))) := HB4.out.alloc HB4.out.size _
                have hsz5 : wr.heap.size ≤ w5.heap.size := HB4.out.size
                have HLO : Hid (w.heap.size ≤ wr.heap.size) := HBW.out.size
                go_wp2_with (at_builtin; refine wpList_append_own_at _ rfl _ _ 34 rfl w.heap.size 81 i0 _ 11 120 Tryz.underlying34 hi0 hz0 hy0 hb0 rfl (by decide) _ _ _ rfl HR5.out ⟨w5.heap.size, 0, none⟩ 1 1 (rcC r (.slice sa r.spans.length sc) (.slice da r.data.length dc)).toList rfl rfl (rec_lit _ _ _ _) (rec_one _ _ _ _ _ _ _) (by unfold maxLen; omega) (by omega) (by have := HLO.out; simp; omega) ?_; intro v6 w6 o6 g6 _ t6)
                have HRN : Hid (Rl w6 w.heap.size v6 (os ++ [⟨r, sa, da, sc, dc⟩])) := HRL.out.push HLO.out HB5.out ⟨r, sa, da, sc, dc⟩ (World.ownsRow.alloc HS4.out _) (HD4.out.alloc _) HPT.out HSM.out g6 o6 (fun j hj => by
                  rcases t6 with q | q
                  · left; exact q.symm.trans hj
                  · right; rw [q] at hj; simp at hj; simp; omega)
                have HBN : Hid (Below w.heap.size w w6) := (HBW.out.trans (HB5.out.mono HLO.out)).grown g6 (by simp; have := HLO.out; omega) (fun j hj => (HRL.out.row.lt j hj).1)
                have HSN : Hid (Scd zs ((os ++ [(⟨r, sa, da, sc, dc⟩ : Ro)]).map Ro.r) (t + 8 + V)) := by
                  have := HSC.out.step HBY.out (by rw [HQF.out]; simp only; omega)
                  rw [HQF.out] at this
                  rw [List.map_append]
                  rw [show t + 8 + V = t + (8 + (V : Int)).toNat by omega]
                  exact this
                clear o6 g6 t6 x0 x1 x2 x3 x4 x5 x6 x7 x8 x9 x10
                go_wp2
                go_roundw
                case rel => exact ⟨os ++ [⟨r, sa, da, sc, dc⟩], t + 8 + V, by first | rfl | go_num | (congr 1; omega), HSN.out, HRN.out, HBN.out⟩
                case measure => simp [intOf]; omega
            · have HE : Hid (scR zs = (os.map Ro.r, t)) := HSC.out.fin (by rw [fsR_sum HNS.out HNX.out HV.out (by rw [HU.out, hZZ, HX.out]; exact h3)])
              go_upto_region 9 with (first | (go_at_call 53; refine (HSUM.out _ (Below.refl _ _)).mono ?_; rintro e w' ⟨rfl, rfl⟩) | (go_at_call 61; refine (HW2.out _ HB1.out).mono ?_; rintro e w3 ⟨rfl, hb3⟩))
              have HB4 : Hid (Below wr.heap.size wr w3) := HB1.out.trans (hb3.mono HB1.out.size)
              clear hb3 HSUM HRD
              go_wp2_with fail
              refine bodyPost_ret (v := .tuple #[u4, .int .i64 t]) (by simp [results, Tryz.results27, go_sem]) rfl ?_
              show ScPost (scR zs) w _ _
              rw [HE.out]
              exact ⟨_, os, rfl, HRL.out.keep HB4.out, rfl, HBW.out.trans (HB4.out.mono HBW.out.size)⟩

end Go.Proofs.YtllhbhogfffedaaGreatDoor
