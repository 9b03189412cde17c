import Derived.Test.YtllhbhogfffedaaGreatDoorRcR26
namespace Go.Proofs.YtllhbhogfffedaaGreatDoor
open Go.RowKit
set_option linter.unusedVariables false
set_option linter.unusedSimpArgs false

theorem run_snoc {s : Rc × Option (List Int)} {fs : List UInt8} {k : Nat} {c : UInt8} (h : fs[k]? = some c) : runL s (fs.take (k + 1)) = upL (runL s (fs.take k)) c := by
  unfold runL
  rw [List.take_add_one, h, List.foldl_append]
  rfl

set_option maxRecDepth 100000 in
set_option maxHeartbeats 8000000 in
theorem read2_any (a : Option Addr) (zs : List Int) (n c : Nat) (w : World) (hb : Bytey zs) (hl : zs.length = n) (hnc : n ≤ c) (hc : c ≤ 9223372036854775807) (hz : Lies .u8 w a zs) :
    Calls Tryz.prog 62 #[.slice a n c] w (RdPost (rdR zs) w) := by
  have hb0 : Below w.heap.size w (w.alloc (rcO rz0 (.slice none 0 0) (.slice none 0 0))) := (Below.refl _ _).alloc (Nat.le_refl _) _
  have hz0 : (w.alloc (rcO rz0 (.slice none 0 0) (.slice none 0 0))).heap[w.heap.size]? = some (rcO rz0 (.slice none 0 0) (.slice none 0 0)) := heap_new6 w _
  by_cases hlong : 131072 < n
  · have HQ : Hid (rdR zs = (rz0, 2)) := by unfold Hid rdR; rw [if_pos (by omega)]
    have hlong' : (131072 : Int) < (n : Int) := by omega
    rw [HQ.out]
    go_enter Tryz.func62, Tryz.ntmps62
    go_wp2
    refine bodyPost_ret (v := .tuple #[.agg (rcC rz0 (.slice none 0 0) (.slice none 0 0)), .int .i64 2]) (by simp [results, Tryz.results62, go_sem, rcC]) rfl ?_
    exact ⟨none, none, 0, 0, rfl, C.SOwn.nil _ _, World.ownsRow_nil _ _ _ _, fun j hj => by simp [Value.ownBlock] at hj, hb0⟩
  · have hlong' : ¬ (131072 : Int) < (n : Int) := by omega
    cases zs with
    | nil =>
      obtain rfl : n = 0 := by simpa using hl.symm
      have HQ : Hid (rdR [] = (rz0, 61)) := rfl
      rw [HQ.out]
      go_enter Tryz.func62, Tryz.ntmps62
      go_wp2
      refine bodyPost_ret (v := .tuple #[.agg (rcC rz0 (.slice none 0 0) (.slice none 0 0)), .int .i64 61]) (by simp [results, Tryz.results62, go_sem, rcC]) rfl ?_
      exact ⟨none, none, 0, 0, rfl, C.SOwn.nil _ _, World.ownsRow_nil _ _ _ _, fun j hj => by simp [Value.ownBlock] at hj, hb0⟩
    | cons kd t0 =>
      rcases hz with hz | ⟨g, off, rfl, hcell⟩
      · cases hz
      have hn1 : 1 ≤ n := by simp at hl; omega
      have hkd := hb kd (by simp)
      have hgl : g < w.heap.size := Lies.block (off := off) hcell (by simp)
      have HR2E : Hid (r2R (runL (mkR kd [], some t0) (fsB kd)) = rdR (kd :: t0)) := r2_eq hb (by omega)
      have hck : ∀ W, Below w.heap.size w W → W.cell? ⟨g, off, none⟩ = some (.int .u8 kd) := fun W hW => C.cell_below (hcell 0 (by simp)) hW
      have q0 := hck _ hb0
      have hnz : ¬ (n : Int) = 0 := by omega
      have hkw : IntKind.i64.wrap kd = kd := by rw [IntKind.wrap_i64]; omega
      have HFS : Hid (∀ W, Calls Tryz.prog 86 #[.int .i64 kd] W fun e w' => e = .returned (.string ⟨(fsB kd).toArray⟩) ∧ W = w') := fun W => fields2_any kd W
      have HLC : Hid (∀ c ∈ fsB kd, isL c) := fs_isL kd
      have hfl : (fsB kd).length ≤ 10 := by
        by_cases h : kf kd = 0
        · rw [no_letters h]; simp
        · exact (letters h).2.2.2.2
      have HBZ : Hid (Bytey (kd :: t0)) := hb
      have HLE : Hid ((kd :: t0).length = n) := hl
      generalize rdR (kd :: t0) = Q at *
      generalize hfs : fsB kd = fs at *
      -- the two boxes
      obtain ⟨W1, hW1⟩ : ∃ W1, W1 = (w.alloc (rcO rz0 (.slice none 0 0) (.slice none 0 0))).alloc (rcO (mkR kd []) (.slice none 0 0) (.slice none 0 0)) := ⟨_, rfl⟩
      have hb1 : Below w.heap.size w W1 := by rw [hW1]; exact hb0.alloc (by simp) _
      have hx1 : W1.heap[w.heap.size + 1]? = some (rcO (mkR kd []) (.slice none 0 0) (.slice none 0 0)) := by
        rw [hW1]
        have := heap_new6 (w.alloc (rcO rz0 (.slice none 0 0) (.slice none 0 0))) (rcO (mkR kd []) (.slice none 0 0) (.slice none 0 0))
        simpa using this
      have hs1 : W1.heap.size = w.heap.size + 2 := by rw [hW1]; simp
      have hzz1 : W1.heap[w.heap.size]? = some (rcO rz0 (.slice none 0 0) (.slice none 0 0)) := by rw [hW1]; exact (((Below.refl _ _).alloc (Nat.le_refl _) _).block _ (by simp)).trans hz0
      obtain ⟨W2, hW2⟩ : ∃ W2, W2 = W1.alloc (r2O (.slice (some ⟨g, off, none⟩) n c) 1 false) := ⟨_, rfl⟩
      have hb2 : Below W1.heap.size W1 W2 := by rw [hW2]; exact (Below.refl _ _).alloc (Nat.le_refl _) _
      have hr2 : W2.heap[w.heap.size + 2]? = some (r2O (.slice (some ⟨g, off, none⟩) n c) 1 false) := by
        rw [hW2, ← hs1]; exact heap_new6 W1 _
      have hs2 : W2.heap.size = w.heap.size + 3 := by rw [hW2]; simp; omega
      have HBW2 : Hid (Below w.heap.size w W2) := hb1.trans (hb2.mono hb1.size)
      have HX2 : Hid (W2.heap[w.heap.size + 1]? = some (rcO (mkR kd []) (.slice none 0 0) (.slice none 0 0))) := (hb2.block _ (by omega)).trans hx1
      have HZ2 : Hid (W2.heap[w.heap.size]? = some (rcO rz0 (.slice none 0 0) (.slice none 0 0))) := (hb2.block _ (by omega)).trans hzz1
      have HI0 : Hid (Rd2 W2 w (w.heap.size + 3) (w.heap.size + 1) (w.heap.size + 1 + 1) g off n c (kd :: t0) (runL (mkR kd [], some t0) (fs.take 0))) := by
        refine ⟨⟨none, none, 0, 0, HX2.out, C.SOwn.nil _ _, World.ownsRow_nil _ _ _ _, fun j hj => by simp [Value.ownBlock] at hj⟩, ⟨?_, fun i hi => C.cell_below (hcell i (by omega)) HBW2.out, hl, hnc, ⟨by omega, hc⟩, by omega, fun t ht => ?_⟩, HBW2.out, HZ2.out, by simp [runL, mkR], by omega⟩
        · show W2.heap[w.heap.size + 2]? = some (r2O _ (n - t0.length) false)
          rw [show n - t0.length = 1 by simp at hl; omega]
          exact hr2
        · have : t0 = t := by simpa [runL] using ht
          subst this
          refine ⟨by simp at hl; omega, ?_⟩
          rw [show n - t0.length = 1 by simp at hl; omega]
          rfl
      clear hb hcell hck hl hz0
      go_enter Tryz.func62, Tryz.ntmps62
      go_upto_region 7 with fail
      change Code.wp _ _ _ _ (((w.alloc (rcO rz0 (.slice none 0 0) (.slice none 0 0))).alloc (rcO (mkR kd []) (.slice none 0 0) (.slice none 0 0))).alloc (r2O (.slice (some ⟨g, off, none⟩) n c) 1 false))
      rw [← hW1, ← hW2]
      have x0 : W2.cell? ⟨w.heap.size + 1, 0, none⟩ = some (.int .i64 kd) := (rc_cells HX2.out).1
      clear hW1 hW2 hb0 hb1 hx1 hs1 hzz1 hb2 hr2 q0
      go_wp2_with (go_at_call 86; refine (HFS.out _).mono ?_; rintro e w' ⟨rfl, rfl⟩)
      clear x0
      go_loopw [7] (fun i wr => ∃ k : Nat, k ≤ fs.length ∧ i = .int .i64 k ∧ Rd2 wr w (w.heap.size + 3) (w.heap.size + 1) (w.heap.size + 1 + 1) g off n c (kd :: t0) (runL (mkR kd [], some t0) (fs.take k))) (fun i _ => fs.length - (intOf i).toNat)
      case atStart => exact ⟨0, Nat.zero_le _, rfl, HI0.out⟩
      case round =>
        obtain ⟨k, hk, rfl, hrd⟩ := hrel
        clear HI0
        by_cases hlt : k < fs.length
        · have hlt' : (k : Int) < (fs.length : Int) := by omega
          have hck : fs[k]? = some fs[k] := List.getElem?_eq_getElem hlt
          have HSN : Hid (runL (mkR kd [], some t0) (fs.take (k + 1)) = upL (runL (mkR kd [], some t0) (fs.take k)) fs[k]) := run_snoc hck
          have hlc := HLC.out fs[k] (List.getElem_mem hlt)
          generalize runL (mkR kd [], some t0) (fs.take k) = st at *
          obtain ⟨r, q⟩ := st
          obtain ⟨⟨sa, da, sc, dc, hxr, hso, hdo, hpt⟩, hrr, hbe, hzh, hdl, hsz⟩ := hrd
          simp only at hxr hso hdo hpt hrr hdl
          have HX : Hid (wr.heap[w.heap.size + 1]? = some (rcO r (.slice sa r.spans.length sc) (.slice da r.data.length dc))) := hxr
          have HSO : Hid (C.SOwn wr (w.heap.size + 3) (.slice sa r.spans.length sc) r.spans) := hso
          have HDO : Hid (wr.ownsRow (w.heap.size + 3) 5 1 (.slice da r.data.length dc) r.data.length (r.data.map (Value.int .u8))) := hdo
          have HPT : Hid (∀ j, (Value.slice sa r.spans.length sc).ownBlock = some j → (Value.slice da r.data.length dc).ownBlock ≠ some j) := hpt
          have HRR : Hid (R2 wr (w.heap.size + 1 + 1) g off n c (kd :: t0) q) := hrr
          have HBE : Hid (Below w.heap.size w wr) := hbe
          have HZH : Hid (wr.heap[w.heap.size]? = some (rcO rz0 (.slice none 0 0) (.slice none 0 0))) := hzh
          have hbq : ∀ t, q = some t → Bytey t := fun t ht => by rw [← (hrr.tl t ht).2]; exact bytey_drop HBZ.out _
          have hlq : ∀ t, q = some t → t.length ≤ n := fun t ht => (hrr.tl t ht).1
          clear hxr hso hdo hpt hrr hbe hzh
          rcases hlc with hc | hc | ⟨j, hj, hc⟩
          · have hcv : ((({ data := fs.toArray } : ByteArray)[k]'(show k < fs.toArray.size by simpa using hlt)).toNat : Int) = 68 := by show (((fs.toArray[k]'(by simpa using hlt)).toNat : Nat) : Int) = 68; simp [hc]
            rw [hc, upL68] at HSN
            simp only at HSN
            have hbl := byt2_len hbq hlq
            have HBY := bytes2_all (w.heap.size + 1 + 1) g off n c (kd :: t0) q wr HBZ.out HRR.out (by omega)
            clear hbq hlq
            generalize byt2P q = bq at *
            obtain ⟨d, q'⟩ := bq
            simp only at HSN hbl HBY
            go_wp2_with (go_at_call 90; refine HBY.mono ?_; rintro e w2 ⟨⟨v2, rfl, ho2⟩, hr2, hg2⟩; obtain ⟨da2, dc2, rfl⟩ := own_sl ho2; have HX2' : Hid (w2.heap[w.heap.size + 1]? = some (rcO r (.slice sa r.spans.length sc) (.slice da r.data.length dc))) := (hg2.block _ (by omega) (by simp)).trans HX.out; obtain ⟨x0, x1, x2, x3, x4, x5, x6, x7, x8, x9, x10⟩ := rc_cells HX2'.out; have fx := rc_frozen HX2'.out)
            have hgx := grown_set w2 (w.heap.size + 1) 10 (.slice da2 d.length dc2)
            have hg2s := hg2.size
            have HN : Hid (Rd2 (w2.setCell ⟨w.heap.size + 1, 10, none⟩ (.slice da2 d.length dc2)) w (w.heap.size + 3) (w.heap.size + 1) (w.heap.size + 1 + 1) g off n c (kd :: t0) ({ r with data := d }, q')) := by
              refine ⟨⟨sa, da2, sc, dc2, ?_, ?_, ?_, ?_⟩, hr2.keep hgx (by simp) (by simp; omega), (HBE.out.grown hg2 HBE.out.size (by simp; omega)).grown hgx (by have := HBE.out.size; omega) (by simp), (hgx.block _ (by omega) (by simp)).trans ((hg2.block _ (by omega) (by simp <;> omega)).trans HZH.out), hbl, by have := hgx.size; omega⟩
              · show _ = some (rcO r (.slice sa r.spans.length sc) (.slice da2 d.length dc2))
                simp [World.setCell, Array.getElem?_modify, HX2'.out]
              · exact own_keep6 (own_keep6 HSO.out hg2 (by intro j hj; have := (HSO.out.lt j hj).1; simp; omega)) hgx (by intro j hj; have := (HSO.out.lt j hj).1; simp; omega)
              · exact own_base6 (own_keep6 ho2 hgx (by intro j hj; have := (ho2.lt j hj).1; simp; omega)) hsz
              · intro j hj hj2
                have h1 := (HSO.out.lt j hj).2
                have h2 := (ho2.lt j hj2).1
                omega
            clear x0 x1 x2 x3 x4 x5 x6 x7 x8 x9 x10
            clear fx
            go_roundw
            case rel => exact ⟨k + 1, by omega, by go_num, by rw [HSN.out]; exact HN.out⟩
            case measure => simp [intOf]; omega
          · have hcv : ((({ data := fs.toArray } : ByteArray)[k]'(show k < fs.toArray.size by simpa using hlt)).toNat : Int) = 83 := by show (((fs.toArray[k]'(by simpa using hlt)).toNat : Nat) : Int) = 83; simp [hc]
            rw [hc, upL83] at HSN
            simp only at HSN
            have HBY := spans2_all (w.heap.size + 1 + 1) g off n c (kd :: t0) q wr HBZ.out HRR.out (by omega)
            clear hbq hlq
            generalize sps2P q = bq at *
            obtain ⟨d, q'⟩ := bq
            simp only at HSN HBY
            go_wp2_with (go_at_call 91; refine HBY.mono ?_; rintro e w2 ⟨⟨v2, rfl, ho2⟩, hr2, hg2⟩; obtain ⟨sa2, sc2, rfl⟩ := own_sl ho2; have HX2' : Hid (w2.heap[w.heap.size + 1]? = some (rcO r (.slice sa r.spans.length sc) (.slice da r.data.length dc))) := (hg2.block _ (by omega) (by simp)).trans HX.out; obtain ⟨x0, x1, x2, x3, x4, x5, x6, x7, x8, x9, x10⟩ := rc_cells HX2'.out; have fx := rc_frozen HX2'.out)
            have hgx := grown_set w2 (w.heap.size + 1) 9 (.slice sa2 d.length sc2)
            have hg2s := hg2.size
            have HN : Hid (Rd2 (w2.setCell ⟨w.heap.size + 1, 9, none⟩ (.slice sa2 d.length sc2)) w (w.heap.size + 3) (w.heap.size + 1) (w.heap.size + 1 + 1) g off n c (kd :: t0) ({ r with spans := d }, q')) := by
              refine ⟨⟨sa2, da, sc2, dc, ?_, ?_, ?_, ?_⟩, hr2.keep hgx (by simp) (by simp; omega), (HBE.out.grown hg2 HBE.out.size (by simp; omega)).grown hgx (by have := HBE.out.size; omega) (by simp), (hgx.block _ (by omega) (by simp)).trans ((hg2.block _ (by omega) (by simp <;> omega)).trans HZH.out), hdl, by have := hgx.size; omega⟩
              · show _ = some (rcO r (.slice sa2 d.length sc2) (.slice da r.data.length dc))
                simp [World.setCell, Array.getElem?_modify, HX2'.out]
              · exact own_base6 (own_keep6 ho2 hgx (by intro j hj; have := (ho2.lt j hj).1; simp; omega)) hsz
              · exact own_keep6 (own_keep6 HDO.out hg2 (by intro j hj; have := (HDO.out.lt j hj).1; simp; omega)) hgx (by intro j hj; have := (HDO.out.lt j hj).1; simp; omega)
              · intro j hj hj2
                have h1 := (HDO.out.lt j hj2).2
                have h2 := (ho2.lt j hj).1
                omega
            clear x0 x1 x2 x3 x4 x5 x6 x7 x8 x9 x10
            clear fx
            go_roundw
            case rel => exact ⟨k + 1, by omega, by go_num, by rw [HSN.out]; exact HN.out⟩
            case measure => simp [intOf]; omega
          · have hcv : ((({ data := fs.toArray } : ByteArray)[k]'(show k < fs.toArray.size by simpa using hlt)).toNat : Int) = ((ltL.getD j 0).toNat : Int) := by show (((fs.toArray[k]'(by simpa using hlt)).toNat : Nat) : Int) = ((ltL.getD j 0).toNat : Int); simp [hc]
            rw [hc, upLn _ j hj] at HSN
            simp only at HSN
            have HNU := num2_all (w.heap.size + 1 + 1) g off n c (kd :: t0) q wr HBZ.out HRR.out
            have HWT : Hid (∀ v W, Calls Tryz.prog 93 #[.agg (rcC r (.slice sa r.spans.length sc) (.slice da r.data.length dc)), .int .u8 (ltL.getD j 0).toNat, .int .i64 v] W fun e w' => e = .returned (.agg (rcC (setN r j v) (.slice sa r.spans.length sc) (.slice da r.data.length dc))) ∧ Below W.heap.size W w') := fun v W => with2_any r sa da _ _ sc dc j hj v W
            have hy1 : ¬ ((ltL.getD j 0).toNat : Int) = 68 := by
              have : j = 0 ∨ j = 1 ∨ j = 2 ∨ j = 3 ∨ j = 4 ∨ j = 5 ∨ j = 6 ∨ j = 7 := by omega
              rcases this with rfl | rfl | rfl | rfl | rfl | rfl | rfl | rfl <;> decide
            have hy2 : ¬ ((ltL.getD j 0).toNat : Int) = 83 := by
              have : j = 0 ∨ j = 1 ∨ j = 2 ∨ j = 3 ∨ j = 4 ∨ j = 5 ∨ j = 6 ∨ j = 7 := by omega
              rcases this with rfl | rfl | rfl | rfl | rfl | rfl | rfl | rfl <;> decide
            generalize ((ltL.getD j 0).toNat : Int) = y at *
            clear hbq hlq
            generalize num2P q = bq at *
            obtain ⟨v, q'⟩ := bq
            simp only at HSN HNU
            go_upto_region 13 with (go_at_call 92; refine HNU.mono ?_; rintro e w2 ⟨rfl, hr2, hg2⟩)
            have hg2s := hg2.size
            have HX2' : Hid (w2.heap[w.heap.size + 1]? = some (rcO r (.slice sa r.spans.length sc) (.slice da r.data.length dc))) := (hg2.block _ (by omega) (by simp)).trans HX.out
            have HR2' : Hid (R2 w2 (w.heap.size + 1 + 1) g off n c (kd :: t0) q') := hr2
            have HG2' : Hid (wr.grownBy w2 (some (w.heap.size + 1 + 1))) := hg2
            obtain ⟨x0, x1, x2, x3, x4, x5, x6, x7, x8, x9, x10⟩ := rc_cells HX2'.out
            clear hr2 hg2 HNU
            go_region_with (go_at_call 93; refine (HWT.out v _).mono ?_; rintro e w3 ⟨rfl, hb3⟩; have HX3 : Hid (w3.heap[w.heap.size + 1]? = some (rcO r (.slice sa r.spans.length sc) (.slice da r.data.length dc))) := (hb3.block _ (Array.getElem?_eq_some_iff.mp HX2'.out).1).trans HX2'.out; clear x0 x1 x2 x3 x4 x5 x6 x7 x8 x9 x10; obtain ⟨y0, y1, y2, y3, y4, y5, y6, y7, y8, y9, y10⟩ := rc_cells HX3.out; have fy := rc_frozen HX3.out)
            all_goals (
              have hb3' : Below w2.heap.size w2 w3 := ⟨hb3.os, hb3.tape, hb3.output, hb3.size, hb3.block⟩
              have hgx := rS_grown w3 (w.heap.size + 1) (setN r j v) (.slice sa r.spans.length sc) (.slice da r.data.length dc)
              have HXN := rS_heap w3 (w.heap.size + 1) (setN r j v) r (.slice sa r.spans.length sc) (.slice da r.data.length dc) _ _ HX3.out
              have hls := setN_lists r j v
              have HN : Hid (Rd2 (rS w3 (w.heap.size + 1) (setN r j v) (.slice sa r.spans.length sc) (.slice da r.data.length dc)) w (w.heap.size + 3) (w.heap.size + 1) (w.heap.size + 1 + 1) g off n c (kd :: t0) (setN r j v, q')) := by
                have hw3 := hb3'.size
                refine ⟨⟨sa, da, sc, dc, ?_, ?_, ?_, ?_⟩, (HR2'.out.below hb3').keep hgx (by simp) (by simp; omega), ((HBE.out.grown HG2'.out HBE.out.size (by simp; omega)).trans (hb3'.mono (by have := HBE.out.size; omega))).grown hgx (by have := HBE.out.size; omega) (by simp), (hgx.block _ (by omega) (by simp)).trans ((hb3'.block _ (by omega)).trans ((HG2'.out.block _ (by omega) (by simp <;> omega)).trans HZH.out)), ?_, by have := hgx.size; omega⟩
                · simp only [hls.1, hls.2.1]; exact HXN
                · simp only [hls.1]; exact own_keep6 (own_below6 (own_keep6 HSO.out HG2'.out (by intro j hj; have := (HSO.out.lt j hj).1; simp; omega)) hb3') hgx (by intro j hj; have := (HSO.out.lt j hj).1; simp; omega)
                · simp only [hls.2.1]; exact own_keep6 (own_below6 (own_keep6 HDO.out HG2'.out (by intro j hj; have := (HDO.out.lt j hj).1; simp; omega)) hb3') hgx (by intro j hj; have := (HDO.out.lt j hj).1; simp; omega)
                · simp only [hls.1, hls.2.1]; exact HPT.out
                · simp only [hls.2.1]; exact hdl
              clear y0 y1 y2 y3 y4 y5 y6 y7 y8 y9 y10
              clear fy hb3 hb3' hgx HXN
              change Exit.inBlock 2 (Exit.inBlock 1 _) Exit.normal _ (rS w3 (w.heap.size + 1) (setN r j v) (.slice sa r.spans.length sc) (.slice da r.data.length dc))
              generalize rS w3 (w.heap.size + 1) (setN r j v) (.slice sa r.spans.length sc) (.slice da r.data.length dc) = WF at *
              go_wp2
              go_roundw
              case rel => exact ⟨k + 1, by omega, by go_num, by rw [HSN.out]; exact HN.out⟩
              case measure => simp [intOf]; omega)
        · obtain rfl : k = fs.length := by omega
          rw [List.take_length] at hrd
          generalize runL (mkR kd [], some t0) fs = st at *
          obtain ⟨r, q⟩ := st
          obtain ⟨⟨sa, da, sc, dc, hxr, hso, hdo, hpt⟩, hrr, hbe, hzh, hdl, hsz⟩ := hrd
          simp only at hxr hso hdo hpt hrr hdl
          have HRI : Hid (RIn wr r sa da r.spans.length r.data.length sc dc) := own_rin hso hdo (by omega)
          have HX : Hid (wr.heap[w.heap.size + 1]? = some (rcO r (.slice sa r.spans.length sc) (.slice da r.data.length dc))) := hxr
          have HRG := right2_any r sa da r.spans.length r.data.length sc dc wr HRI.out
          obtain ⟨x0, x1, x2, x3, x4, x5, x6, x7, x8, x9, x10⟩ := rc_cells hxr
          go_upto_region 19 with (go_at_call 85; refine HRG.mono ?_; rintro e w2 ⟨rfl, hb2⟩)
          have hs2' := hb2.size
          have HX2' : Hid (w2.heap[w.heap.size + 1]? = some (rcO r (.slice sa r.spans.length sc) (.slice da r.data.length dc))) := (hb2.block _ (by omega)).trans hxr
          have HZ2' : Hid (w2.heap[w.heap.size]? = some (rcO rz0 (.slice none 0 0) (.slice none 0 0))) := (hb2.block _ (by omega)).trans hzh
          have HB2' : Hid (Below w.heap.size w w2) := hbe.trans (hb2.mono hbe.size)
          have HRR2 : Hid (R2 w2 (w.heap.size + 1 + 1) g off n c (kd :: t0) q) := hrr.below hb2
          have HSO2 : Hid (C.SOwn w2 (w.heap.size + 3) (.slice sa r.spans.length sc) r.spans) := own_below6 hso hb2
          have HDO2 : Hid (w2.ownsRow (w.heap.size + 3) 5 1 (.slice da r.data.length dc) r.data.length (r.data.map (Value.int .u8))) := own_below6 hdo hb2
          have HPT : Hid (∀ j, (Value.slice sa r.spans.length sc).ownBlock = some j → (Value.slice da r.data.length dc).ownBlock ≠ some j) := hpt
          have HPR : Hid ((prR r).2 = if mayB6 r then 0 else 60) := by unfold Hid prR; split <;> rfl
          clear x0 x1 x2 x3 x4 x5 x6 x7 x8 x9 x10
          clear hxr hso hdo hpt hrr hbe hzh hb2 HRG HX HRI
          obtain ⟨x0, x1, x2, x3, x4, x5, x6, x7, x8, x9, x10⟩ := rc_cells HX2'.out
          obtain ⟨y0, y1, y2, y3, y4, y5, y6, y7, y8, y9, y10⟩ := rc_cells HZ2'.out
          have fy := rc_frozen HZ2'.out
          have HBADR : Hid (Q = (rz0, 61) → RdPost Q w (.returned (.tuple #[.agg (rcC rz0 (.slice none 0 0) (.slice none 0 0)), .int .i64 61])) (rS w2 w.heap.size rz0 (.slice none 0 0) (.slice none 0 0))) := fun hQ => by
            rw [hQ]
            exact ⟨none, none, 0, 0, rfl, C.SOwn.nil _ _, World.ownsRow_nil _ _ _ _, fun j hj => by simp [Value.ownBlock] at hj, HB2'.out.grown (rS_grown _ _ _ _ _) HB2'.out.size (by simp)⟩
          have hlvz := fun j => cell_of_row _ w.heap.size j _ _ _ (rS_heap w2 w.heap.size rz0 rz0 (.slice none 0 0) (.slice none 0 0) _ _ HZ2'.out)
          generalize (prR r).2 = er at *
          cases q with
          | none =>
            have HQ : Hid (Q = (rz0, 61)) := HR2E.out.symm
            obtain ⟨kk, _, hhb⟩ := HRR2.out.hp
            obtain ⟨s0, s1, s2, _⟩ := r2_cells hhb
            clear hhb s0 s1
            go_wp2
            change bodyPost _ _ _ _ _ (rS w2 w.heap.size rz0 (.slice none 0 0) (.slice none 0 0))
            refine bodyPost_ret (v := .tuple #[.agg (rcC rz0 (.slice none 0 0) (.slice none 0 0)), .int .i64 61]) (by simp [results, Tryz.results62, go_sem, rcC, hlvz]) rfl ?_
            exact HBADR.out HQ.out
          | some t =>
            have hhb : w2.heap[w.heap.size + 1 + 1]? = some (r2O (.slice (some ⟨g, off, none⟩) n c) (n - t.length) false) := HRR2.out.hp
            obtain ⟨hl1, _⟩ := HRR2.out.tl t rfl
            obtain ⟨s0, s1, s2, _⟩ := r2_cells hhb
            obtain ⟨a, ha⟩ : ∃ a : Int, a = ((n - t.length : Nat) : Int) := ⟨_, rfl⟩
            rw [← ha] at s1
            clear hhb s0
            cases t with
            | cons z tz =>
              have HQ : Hid (Q = (rz0, 61)) := HR2E.out.symm
              have ha1 : a < (n : Int) := by simp at ha hl1; omega
              clear ha
              go_wp2
              change bodyPost _ _ _ _ _ (rS w2 w.heap.size rz0 (.slice none 0 0) (.slice none 0 0))
              refine bodyPost_ret (v := .tuple #[.agg (rcC rz0 (.slice none 0 0) (.slice none 0 0)), .int .i64 61]) (by simp [results, Tryz.results62, go_sem, rcC, hlvz]) rfl ?_
              exact HBADR.out HQ.out
            | nil =>
              have ha1 : ¬ a < (n : Int) := by simp at ha; omega
              clear ha
              cases hm : mayB6 r with
              | false =>
                have HQ : Hid (Q = (rz0, 61)) := by unfold Hid; rw [← HR2E.out]; unfold r2R; simp only [hm]; rfl
                have her : er = 60 := by rw [HPR.out, hm]; rfl
                subst her
                go_wp2
                change bodyPost _ _ _ _ _ (rS w2 w.heap.size rz0 (.slice none 0 0) (.slice none 0 0))
                refine bodyPost_ret (v := .tuple #[.agg (rcC rz0 (.slice none 0 0) (.slice none 0 0)), .int .i64 61]) (by simp [results, Tryz.results62, go_sem, rcC, hlvz]) rfl ?_
                exact HBADR.out HQ.out
              | true =>
                have HQ : Hid (Q = (r, 0)) := by unfold Hid; rw [← HR2E.out]; unfold r2R; simp only [hm, if_true]
                have her : er = 0 := by rw [HPR.out, hm]; rfl
                subst her
                go_wp2
                change bodyPost _ _ _ _ _ (rS w2 w.heap.size r (.slice sa r.spans.length sc) (.slice da r.data.length dc))
                have hrg := rS_grown w2 w.heap.size r (.slice sa r.spans.length sc) (.slice da r.data.length dc)
                have hlv := fun j => cell_of_row _ w.heap.size j _ _ _ (rS_heap w2 w.heap.size r rz0 (.slice sa r.spans.length sc) (.slice da r.data.length dc) _ _ HZ2'.out)
                generalize rS w2 w.heap.size r (.slice sa r.spans.length sc) (.slice da r.data.length dc) = WF at *
                refine bodyPost_ret (v := .tuple #[.agg (rcC r (.slice sa r.spans.length sc) (.slice da r.data.length dc)), .int .i64 0]) (by simp [results, Tryz.results62, go_sem, rcC, hlv]) rfl ?_
                rw [HQ.out]
                exact ⟨sa, da, sc, dc, rfl, own_base6 (own_keep6 HSO2.out hrg (by intro j hj; have := (HSO2.out.lt j hj).1; simp; omega)) (by omega), own_base6 (own_keep6 HDO2.out hrg (by intro j hj; have := (HDO2.out.lt j hj).1; simp; omega)) (by omega), HPT.out, HB2'.out.grown hrg HB2'.out.size (by simp)⟩
end Go.Proofs.YtllhbhogfffedaaGreatDoor
