import Derived.Test.YtkkmoplijicmpabDoorPq7
namespace Go.Proofs.YtkkmoplijicmpabDoor
open Go.RowKit
set_option linter.unusedVariables false
set_option linter.unusedSimpArgs false
attribute [local go_sem ↓] wp_storeQ
attribute [local go_sem] pBlkQ_ptr pAggQ_agg

theorem isK_shp (t : Int) (h0 : 0 ≤ t) (h1 : t < 16) : (isK t = true ↔ shp t % 2 = 1) := by
  have : t = 0 ∨ t = 1 ∨ t = 2 ∨ t = 3 ∨ t = 4 ∨ t = 5 ∨ t = 6 ∨ t = 7 ∨ t = 8 ∨ t = 9 ∨ t = 10 ∨ t = 11 ∨ t = 12 ∨ t = 13 ∨ t = 14 ∨ t = 15 := by omega
  rcases this with rfl | rfl | rfl | rfl | rfl | rfl | rfl | rfl | rfl | rfl | rfl | rfl | rfl | rfl | rfl | rfl <;> decide
/-- The head is none. -/
def badH (e v : Int) : Bool := (e == 0) && (decide (16 ≤ v) || !(isK (v % 16)))
def hst (s1 : St) (v : Int) : St := if badH s1.1 v = true then (21, s1.2) else s1
theorem kind_step {zs : List Int} {st s1 : St} {v : Int} (h : Step zs oct st v s1) (h0 : 0 ≤ v) (h1 : v ≤ 255) : Step zs kindp st (v % 16) (hst s1 v) := by
  refine h.bind ?_
  unfold hst badH
  by_cases h2 : s1.1 = 0
  · by_cases h3 : 16 ≤ v
    · have e : shp v = 0 := by unfold shp; rw [if_pos (.inr h3)]
      rw [if_neg (by rw [e]; decide), if_pos (by simp [h2, h3])]
      exact Step.fault _ _ _ h2 (by omega) rfl
    · have e : v % 16 = v := by omega
      have hk := isK_shp v h0 (by omega)
      rw [e]
      by_cases h4 : isK v = true
      · rw [if_pos (hk.mp h4), if_neg (by simp [h2, h3, h4])]
        exact Step.ret _
      · rw [if_neg (fun h => h4 (hk.mpr h)), if_pos (by simp [h2, h3, h4])]
        exact Step.fault _ _ _ h2 (by omega) rfl
  · rw [show (if (s1.1 == 0 && (decide (16 ≤ v) || !isK (v % 16))) = true then ((21 : Int), s1.2) else s1) = s1 from if_neg (by simp [h2])]
    exact Step.bad _ h2
theorem hst_zero {s1 : St} {v : Int} (h : (hst s1 v).1 = 0) : s1.1 = 0 := by
  unfold hst at h
  split at h
  · simp at h
  · exact h

/-- Within Parse: the answer's block, the reader, the segment's block. -/
structure Pw (w W : World) (a : Option Addr) (len cap : Nat) (zs : List Int) (st : St) (S : Array Value) : Prop where
  aq : Aq W (w.heap.size + 1) a len cap zs st
  seg : W.heap[w.heap.size + 1 + 1]? = some (.cells S 28 (0, 0))
  res : W.heap[w.heap.size]? = some (.cells zC 28 (0, 0))
  low : Below w.heap.size w W
  size : w.heap.size + 3 ≤ W.heap.size
theorem Pw.step {w W W' : World} {len cap : Nat} {a : Option Addr} {zs : List Int} {st st' : St} {S : Array Value} (h : Pw w W a len cap zs st S) (ha : Aq W' (w.heap.size + 1) a len cap zs st') (hg : W.grownBy W' (some (w.heap.size + 1))) : Pw w W' a len cap zs st' S :=
  ⟨ha, (hg.block _ (by have := h.size; omega) (by simp)).trans h.seg, (hg.block _ (by have := h.size; omega) (by simp)).trans h.res, h.low.grown hg (by have := h.size; omega) (by simp), Nat.le_trans h.size hg.size⟩
theorem Pw.put {w W : World} {len cap : Nat} {a : Option Addr} {zs : List Int} {st : St} {S : Array Value} (h : Pw w W a len cap zs st S) (i : Nat) (u : Value) (S' : Array Value) (hS : S' = S.setIfInBounds i u) : Pw w (W.setCell ⟨w.heap.size + 1 + 1, i, none⟩ u) a len cap zs st S' := by
  subst hS
  refine ⟨h.aq.still (grown_set _ _ _ _) (by omega), ?_, ?_, h.low.setCell (by show w.heap.size ≤ w.heap.size + 1 + 1; omega) _, by simpa [World.setCell] using h.size⟩
  · simp [World.setCell, Array.getElem?_modify, h.seg]
  · exact (heap_setCell_other _ _ _ _ (by show w.heap.size ≠ w.heap.size + 1 + 1; omega)).trans h.res
theorem Pw.row {w W : World} {len cap : Nat} {a : Option Addr} {zs : List Int} {st : St} {S : Array Value} (h : Pw w W a len cap zs st S) (S' : Array Value) : Pw w (W.setRow (w.heap.size + 1 + 1) S') a len cap zs st S' :=
  ⟨h.aq.still (grown_setRow _ _ _) (by omega), setRow_heap _ _ _ _ _ _ h.seg, ((grown_setRow W (w.heap.size + 1 + 1) S').block _ (by have := h.size; omega) (by simp; omega)).trans h.res, h.low.grown (grown_setRow _ _ _) (by have := h.size; omega) (by simp; omega), by simpa [World.setRow] using h.size⟩
theorem Pw.err {w W : World} {len cap : Nat} {a : Option Addr} {zs : List Int} {st : St} {S : Array Value} (h : Pw w W a len cap zs st S) (e : Int) (he : 0 ≤ e ∧ e ≤ 100) : Pw w (W.setCell ⟨w.heap.size + 1, 2, none⟩ (.int .i64 e)) a len cap zs (e, st.2) S :=
  h.step (h.aq.grown (grown_set _ _ _ _) (h.aq.cur.set2 e) h.aq.place he) (grown_set _ _ _ _)
theorem Pw.fz {w W : World} {len cap : Nat} {a : Option Addr} {zs : List Int} {st : St} {S : Array Value} (h : Pw w W a len cap zs st S) (i : Nat) : W.frozen? ⟨w.heap.size + 1 + 1, i, none⟩ = false := frozen_of_row _ _ i _ _ h.seg
abbrev rQ (a : Option Addr) (len cap : Nat) : Obj := .cells #[.slice a len cap, .int .i64 0, .int .i64 0] 70
abbrev zQ : Obj := .cells zC 28
theorem Pw.start (a : Option Addr) (zs : List Int) (len cap : Nat) (w : World) (hb : Bytey zs) (hl : zs.length = len) (hs : len ≤ 8192) (hlc : len ≤ cap) (hcm : cap ≤ 9223372036854775807) (hc : Lies .u8 w a zs) (hn : a = none → len = 0 ∧ cap = 0) :
    Pw w (((w.alloc zQ).alloc (rQ a len cap)).alloc zQ) a len cap zs (0, 0) zC := by
  have hbel : Below w.heap.size w (((w.alloc zQ).alloc (rQ a len cap)).alloc zQ) := (((Below.refl _ w).alloc (Nat.le_refl _) _).alloc (by simp) _).alloc (by simp; omega) _
  have hap : zs ≠ [] → ∀ x, a = some x → x.block < w.heap.size := fun hz x hx => by
    rcases hc with h | ⟨g, off, h, h'⟩
    · exact absurd h hz
    · rw [hx] at h
      simp only [Option.some.injEq] at h
      subst h
      have h0 := h' 0 (List.length_pos_iff.mpr hz)
      exact World.block_lt_of_cell? w ⟨g, off + 0, none⟩ h0
  have h1 : (((w.alloc zQ).alloc (rQ a len cap)).alloc zQ).heap[w.heap.size + 1]? = some (rQ a len cap) := by
    rw [Below.heap_alloc _ _ _ (by simp)]
    have := heap_alloc_new' (w.alloc zQ) (rQ a len cap)
    rwa [World.size_alloc] at this
  have h0 : (((w.alloc zQ).alloc (rQ a len cap)).alloc zQ).heap[w.heap.size]? = some zQ := by
    rw [Below.heap_alloc _ _ _ (by simp; omega), Below.heap_alloc _ _ _ (by simp)]
    exact heap_alloc_new' _ _
  have h2 : (((w.alloc zQ).alloc (rQ a len cap)).alloc zQ).heap[w.heap.size + 1 + 1]? = some zQ := by
    have := heap_alloc_new' ((w.alloc zQ).alloc (rQ a len cap)) zQ
    rwa [World.size_alloc, World.size_alloc] at this
  exact ⟨⟨h1, ⟨hb, hl, hs, hlc, hcm, lies_keep hc hbel hap, hn, fun hz x hx => by have := hap hz x hx; omega⟩, by simp, by simp⟩, h2, h0, hbel, by simp⟩
theorem XOwn.base {w : World} {base base' : Nat} {v : Value} {xs : List Xr} (h : XOwn w base v xs) (hb : base' ≤ base) : XOwn w base' v xs :=
  ⟨own_base h.row hb, fun x hx => ⟨own_base (h.data x hx).row hb, (h.data x hx).bytes, (h.data x hx).small, (h.data x hx).tag⟩, h.apart, h.nodup⟩

set_option maxRecDepth 100000 in
set_option maxHeartbeats 32000000 in
theorem rqParse_any (a : Option Addr) (zs : List Int) (len cap : Nat) (w : World) (hb : Bytey zs) (hl : zs.length = len) (hlc : len ≤ cap) (hcm : cap ≤ 9223372036854775807) (hc : Lies .u8 w a zs) (hn : a = none → len = 0 ∧ cap = 0) :
    Calls Tryd.prog 15 #[.slice a len cap] w (ParsePost zs w) := by
  by_cases hbig : 8192 < len
  · have HP : Hid (prs zs = (2, sg0)) := by unfold Hid prs; rw [if_pos (by omega)]
    have hbig' : (8192 : Int) < (len : Int) := by omega
    have hstor : StorQ Tryd.prog 28 (w.alloc zQ) (.pointer (some ⟨w.heap.size, 0, none⟩)) (.agg zC) := ⟨w.heap.size, _, _, _, rfl, rfl, heap_alloc_new' _ _, rfl, size_sgq, by simp [Value.oneCell']⟩
    go_enter Tryd.func15, Tryd.ntmps15
    go_wp2
    have hlv := fun j => cell_of_row _ w.heap.size j _ _ _ (setRow_heap (w.alloc zQ) w.heap.size zC zC _ _ (heap_alloc_new' _ _))
    refine bodyPost_ret (v := .tuple #[sv sg0 (.slice none 0 0) (.slice none 0 0) (.slice none 0 0) (.slice none 0 0), .int .i64 2]) (by simp [results, Tryd.results15, go_sem, sv, sg0, hlv]) rfl ?_
    have hp := HP.out
    refine ⟨_, _, _, _, [], [], _, _, by rw [hp], by rw [hp]; exact sown_zero _ _, ?_⟩
    first
      | exact ((Below.refl _ _).alloc (Nat.le_refl _) _).grown (grown_setRow _ _ _) (by simp) (by simp)
      | exact (Below.refl _ _).alloc (Nat.le_refl _) _
  · have D0 : Hid (Pw w (((w.alloc zQ).alloc (rQ a len cap)).alloc zQ) a len cap zs (0, 0) zC) := Pw.start a zs len cap w hb hl (by omega) hlc hcm hc hn
    have HL : Hid (zs.length ≤ 8192) := by unfold Hid; omega
    have HLn : Hid (zs.length = len) := hl
    have hbig' : ¬ (8192 : Int) < (len : Int) := by omega
    clear hb hl hlc hcm hc hn
    go_enter Tryd.func15, Tryd.ntmps15
    go_wp2_with fail
    refine (octq_any D0.out.aq).mono ?_
    rintro e w1 ⟨v, s1, rfl, ha, hg, hs, hv0, hv1, hm1, hna⟩
    have hd := D0.out.step ha hg
    have z0 := hd.fz 0
    obtain ⟨x0, x1, x2, x3, x4, x5, x6, x7, x8, x9, x10, x11, x12, x13⟩ := q14_cells hd.seg
    have hvm : v.tmod 16 = v % 16 := Int.tmod_eq_emod_of_nonneg hv0
    have D1 : Hid (Pw w (w1.setCell ⟨w.heap.size + 1 + 1, 0, none⟩ (.int .i64 (v % 16))) a len cap zs s1 (sC { sg0 with typ := v % 16 } nlQ nlQ nlQ nlQ)) := hd.put 0 _ _ rfl
    have SK : Hid (Step zs kindp (0, 0) (v % 16) (hst s1 v)) := kind_step hs hv0 hv1
    have HNa : Hid (s1.1 = 0 → a ≠ none) := hna
    clear ha hg hs hd hm1 hna D0
    obtain ⟨y0, y1, y2, y3, y4, y5, y6, y7, y8, y9, y10, y11, y12, y13⟩ := q14_cells D1.out.seg
    go_wp2_with fail
    obtain ⟨kb, hkb⟩ : ∃ x, isK (v % 16) = x := ⟨_, rfl⟩
    refine (knwq_any _ _).mono ?_
    rintro e w' ⟨rfl, rfl⟩
    rw [hkb]
    have c2 := D1.out.aq.cur.c2
    have zz2 := D1.out.aq.cur.fz 2
    clear x0 x1 x2 x3 x4 x5 x6 x7 x8 x9 x10 x11 x12 x13
    clear y0 y1 y2 y3 y4 y5 y6 y7 y8 y9 y10 y11 y12 y13
    obtain ⟨W1, hW1⟩ : ∃ x, w1.setCell ⟨w.heap.size + 1 + 1, 0, none⟩ (.int .i64 (v % 16)) = x := ⟨_, rfl⟩
    rw [hW1] at D1 c2 zz2 ⊢
    clear hW1 z0
    obtain ⟨f, p⟩ := s1
    simp only at c2
    obtain ⟨bd, hbd⟩ : ∃ x, badH f v = x := ⟨_, rfl⟩
    have HKb : Hid (isK (v % 16) = kb) := hkb
    clear hkb
    have HBd : Hid (badH f v = bd) := hbd
    go_upto_region 8 with fail
    go_cut [36] from 24 to 36 (fun q wx => q = .bool bd ∧ wx = W1)
    case first =>
      unfold badH at hbd
      by_cases hf : f = 0
      · have e0 : (f == 0) = true := by simp [hf]
        by_cases h16 : 16 ≤ v
        · have eb : bd = true := by rw [← hbd]; simp [hf, h16]
          go_wp2_with fail
          go_meet
          exact ⟨by rw [eb], rfl⟩
        · cases kb
          · have eb : bd = true := by rw [← hbd]; simp [hf, h16, HKb.out]
            go_wp2_with fail
            go_meet
            exact ⟨by rw [eb], rfl⟩
          · have eb : bd = false := by rw [← hbd]; simp [hf, h16, HKb.out]
            go_wp2_with fail
            go_meet
            exact ⟨by rw [eb], rfl⟩
      · have e0 : (f == 0) = false := by simp [hf]
        have eb : bd = false := by rw [← hbd]; simp [hf]
        go_wp2_with fail
        go_meet
        exact ⟨by rw [eb], rfl⟩
    case rest =>
    obtain ⟨rfl, rfl⟩ := hcut
    obtain ⟨W1, hW1⟩ : ∃ x, x = wc := ⟨_, rfl⟩
    subst hW1
    clear hbd
    go_upto_if 36 with fail
    go_cut [4] from 37 to 39 (fun q wx => q = .pointer (some ⟨w.heap.size + 1, 0, none⟩) ∧ Hid (Pw w wx a len cap zs (hst (f, p) v) (sC { sg0 with typ := v % 16 } nlQ nlQ nlQ nlQ)))
    case first =>
      cases bd with
      | true =>
        have HX : Hid (Pw w (W1.setCell ⟨w.heap.size + 1, 2, none⟩ (.int .i64 21)) a len cap zs (hst (f, p) v) (sC { sg0 with typ := v % 16 } nlQ nlQ nlQ nlQ)) := by
          have h := D1.out.err 21 (by omega)
          show Pw _ _ _ _ _ _ _ _
          unfold hst
          rw [if_pos HBd.out]
          exact h
        go_wp2_with fail
        go_meet
        exact ⟨rfl, HX⟩
      | false =>
        have HX : Hid (Pw w W1 a len cap zs (hst (f, p) v) (sC { sg0 with typ := v % 16 } nlQ nlQ nlQ nlQ)) := by
          show Pw _ _ _ _ _ _ _ _
          unfold hst
          rw [if_neg (by have h : badH f v = false := HBd.out; rw [h]; decide)]
          exact D1.out
        go_wp2_with fail
        go_meet
        exact ⟨rfl, HX⟩
    case rest =>
    obtain ⟨rfl, D2⟩ := hcut
    obtain ⟨W2, hW2⟩ : ∃ x, x = wc := ⟨_, rfl⟩
    subst hW2
    have HNb : Hid ((hst (f, p) v).1 = 0 → a ≠ none) := fun h => HNa.out (hst_zero h)
    clear D1 c2 zz2 HBd HNa
    generalize hst (f, p) v = s2 at *
    go_wp2_with fail
    refine (numq_any D2.out.aq).mono ?_
    rintro e w3 ⟨v0, s3, rfl, ha, hg, hs, p0, q0⟩
    have hd := D2.out.step ha hg
    have z0 := hd.fz 1
    obtain ⟨x0, x1, x2, x3, x4, x5, x6, x7, x8, x9, x10, x11, x12, x13⟩ := q14_cells hd.seg
    have D3 : Hid (Pw w (w3.setCell ⟨w.heap.size + 1 + 1, 1, none⟩ (.int .i64 v0)) a len cap zs s3 (sC { sg0 with typ := v % 16, org := v0 } nlQ nlQ nlQ nlQ)) := hd.put 1 _ _ rfl
    have R0 : Hid (numR zs s2 = (v0, s3)) := hs
    clear ha hg hs hd D2
    obtain ⟨y0, y1, y2, y3, y4, y5, y6, y7, y8, y9, y10, y11, y12, y13⟩ := q14_cells D3.out.seg
    go_wp2_with fail
    refine (wantq_any _ D3.out.aq).mono ?_
    rintro e w4 ⟨rfl, ha, hg⟩
    obtain ⟨okA, s4, hok, hsx, ha4⟩ : ∃ (ok : Bool) (sx : St), (ok = true ↔ 1 ≤ v0 ∧ v0 ≤ mn) ∧ wst ok s3 = sx ∧ Aq w4 (w.heap.size + 1) a len cap zs sx := ⟨_, _, by simp [mn]; omega, rfl, ha⟩
    have D4 : Hid (Pw w w4 a len cap zs s4 (sC { sg0 with typ := v % 16, org := v0 } nlQ nlQ nlQ nlQ)) := D3.out.step ha4 hg
    have OA : Hid ((okA = true ↔ 1 ≤ v0 ∧ v0 ≤ mn) ∧ wst okA s3 = s4) := ⟨hok, hsx⟩
    clear ha hg hok hsx ha4 D3
    clear x0 x1 x2 x3 x4 x5 x6 x7 x8 x9 x10 x11 x12 x13
    clear y0 y1 y2 y3 y4 y5 y6 y7 y8 y9 y10 y11 y12 y13
    go_wp2_with fail
    refine (numq_any D4.out.aq).mono ?_
    rintro e w5 ⟨v1, s5, rfl, ha, hg, hs, p1, q1⟩
    have hd := D4.out.step ha hg
    have z1 := hd.fz 2
    obtain ⟨x0, x1, x2, x3, x4, x5, x6, x7, x8, x9, x10, x11, x12, x13⟩ := q14_cells hd.seg
    have D5 : Hid (Pw w (w5.setCell ⟨w.heap.size + 1 + 1, 2, none⟩ (.int .i64 v1)) a len cap zs s5 (sC { sg0 with typ := v % 16, org := v0, num := v1 } nlQ nlQ nlQ nlQ)) := hd.put 2 _ _ rfl
    have R1 : Hid (numR zs s4 = (v1, s5)) := hs
    clear ha hg hs hd D4
    go_upto_region 13 with fail
    go_cut [4] from 54 to 65 (fun q wx => q = .pointer (some ⟨w.heap.size + 1, 0, none⟩) ∧ Hid (∃ (ok : Bool) (sx : St), (ok = true ↔ 1 ≤ v1 ∧ v1 ≤ mn - 1) ∧ wst ok s5 = sx ∧ Pw w wx a len cap zs sx (sC { sg0 with typ := v % 16, org := v0, num := v1 } nlQ nlQ nlQ nlQ)))
    case first =>
      obtain ⟨y0, y1, y2, y3, y4, y5, y6, y7, y8, y9, y10, y11, y12, y13⟩ := q14_cells D5.out.seg
      go_wp2_with fail
      all_goals (
        refine (wantq_any _ D5.out.aq).mono ?_
        rintro e wq ⟨rfl, ha, hg⟩
        have HX : Hid (∃ (ok : Bool) (sx : St), (ok = true ↔ 1 ≤ v1 ∧ v1 ≤ mn - 1) ∧ wst ok s5 = sx ∧ Pw w wq a len cap zs sx (sC { sg0 with typ := v % 16, org := v0, num := v1 } nlQ nlQ nlQ nlQ)) := ⟨_, _, by first | (simp [mn]; done) | (simp [mn]; omega), rfl, D5.out.step ha hg⟩
        clear ha hg y0 y1 y2 y3 y4 y5 y6 y7 y8 y9 y10 y11 y12 y13
        go_wp2_with fail
        go_meet
        exact ⟨rfl, HX⟩)
    case rest =>
    obtain ⟨rfl, HX⟩ := hcut
    obtain ⟨w6, hwq⟩ : ∃ x, x = wc := ⟨_, rfl⟩
    subst hwq
    obtain ⟨okB, s6, hok, hsx, hd6⟩ := HX.out
    have D6 : Hid (Pw w w6 a len cap zs s6 (sC { sg0 with typ := v % 16, org := v0, num := v1 } nlQ nlQ nlQ nlQ)) := hd6
    have OB : Hid ((okB = true ↔ 1 ≤ v1 ∧ v1 ≤ mn - 1) ∧ wst okB s5 = s6) := ⟨hok, hsx⟩
    clear hok hsx hd6 HX D5 x0 x1 x2 x3 x4 x5 x6 x7 x8 x9 x10 x11 x12 x13
    have HN6 : Hid (s6.1 = 0 → a ≠ none) := fun h => by
      rw [← OB.out.2] at h
      have h5 := numR_zero R1.out (wst_zero h).1
      rw [← OA.out.2] at h5
      exact HNb.out (numR_zero R0.out (wst_zero h5).1)
    go_wp2_with fail
    refine (octq_any D6.out.aq).mono ?_
    rintro e w7 ⟨c, s7, rfl, ha, hg, hs, hc0, hc1, hm7, _⟩
    have D7 : Hid (Pw w w7 a len cap zs s7 (sC { sg0 with typ := v % 16, org := v0, num := v1 } nlQ nlQ nlQ nlQ)) := D6.out.step ha hg
    have SO : Hid (Step zs oct s6 c s7) := hs
    have HN7 : Hid (s7.1 = 0 → a ≠ none) := fun h => HN6.out (hm7 h)
    clear ha hg hs hm7 D6
    obtain ⟨m, hm⟩ : ∃ m : Nat, c = m := ⟨c.toNat, by omega⟩
    subst hm
    have hm : m ≤ 255 := by omega
    go_wp2_with fail
    rw [show (m : Int) / 16 = ((m / 16 : Nat) : Int) from by omega]
    refine (extq_any (m / 16) (by omega) HN7.out D7.out.aq).mono ?_
    rintro e w8 ⟨ah, ch, hx, s8, rfl, hxl, hxo, ha, hg, hs, hm8⟩
    have hd := D7.out.step ha hg
    have z8 := hd.fz 3
    obtain ⟨x0, x1, x2, x3, x4, x5, x6, x7, x8, x9, x10, x11, x12, x13⟩ := q14_cells hd.seg
    have D8 : Hid (Pw w (w8.setCell ⟨w.heap.size + 1 + 1, 3, none⟩ (.slice ah hx.length ch)) a len cap zs s8 (sC { sg0 with typ := v % 16, org := v0, num := v1, head := hx.map Xr.ex } (.slice ah hx.length ch) nlQ nlQ nlQ)) := hd.put 3 _ _ rfl
    have SH : Hid (Step zs (extsp (m / 16) []) s7 (hx.map Xr.ex) s8) := hs
    have HN8 : Hid (s8.1 = 0 → a ≠ none) := fun h => HN7.out (hm8 h)
    have HXL : Hid (hx.length ≤ 15) := by show _ ≤ _; omega
    have HS7 : Hid (w.heap.size + 3 ≤ w7.heap.size) := D7.out.size
    have HXO : Hid (XOwn (w8.setCell ⟨w.heap.size + 1 + 1, 3, none⟩ (.slice ah hx.length ch)) w7.heap.size (.slice ah hx.length ch) hx) := hxo.keep (grown_set _ _ _ _) (by have := HS7.out; simp; omega)
    have HLe1 : Hid (w7.heap.size ≤ w8.heap.size) := hg.size
    clear ha hg hs hd hm8 hxo D7
    go_upto_region 16 with fail
    obtain ⟨y0, y1, y2, y3, y4, y5, y6, y7, y8, y9, y10, y11, y12, y13⟩ := q14_cells D8.out.seg
    obtain ⟨W8, hW8⟩ : ∃ x, w8.setCell ⟨w.heap.size + 1 + 1, 3, none⟩ (.slice ah hx.length ch) = x := ⟨_, rfl⟩
    have HWs8 : Hid (W8.heap.size = w8.heap.size) := by show _ = _; rw [← hW8]; simp [World.setCell]
    have HC8 : Hid (∀ V, W8 = V → Calls Tryd.prog 40 #[.pointer (some ⟨w.heap.size + 1, 0, none⟩), .agg (sC { sg0 with typ := v % 16, org := v0, num := v1, head := hx.map Xr.ex } (.slice ah hx.length ch) nlQ nlQ nlQ)] V (ContQ (w.heap.size + 1) a len cap zs s8 (contp (shp (v % 16)) { sg0 with typ := v % 16, org := v0, num := v1, head := hx.map Xr.ex }) { sg0 with typ := v % 16, org := v0, num := v1, head := hx.map Xr.ex } (.slice ah hx.length ch) nlQ V)) := fun V hV => by
      subst hV
      have h := contq_any (w := W8) { sg0 with typ := v % 16, org := v0, num := v1, head := hx.map Xr.ex } ah none hx.length ch 0 0 rfl rfl HN8.out (by rw [← hW8]; exact D8.out.aq)
      exact h
    rw [hW8] at D8 HXO y0 y1 y2 y3 y4 y5 y6 y7 y8 y9 y10 y11 y12 y13 ⊢
    clear x0 x1 x2 x3 x4 x5 x6 x7 x8 x9 x10 x11 x12 x13
    go_wp2_with fail
    refine (HC8.out _ rfl).mono ?_
    rintro e w9 ⟨s', ad, cd, ac, cc, s9, rfl, ha, hmid, hg, hs, hhd, hm9⟩
    have hd9 := D8.out.step ha hg
    have hstor : StorQ Tryd.prog 28 w9 (.pointer (some ⟨w.heap.size + 1 + 1, 0, none⟩)) (.agg (sC s' (.slice ah hx.length ch) nlQ (.slice ad s'.data.length cd) (.slice ac s'.clm.length cc))) := ⟨w.heap.size + 1 + 1, _, _, _, rfl, rfl, hd9.seg, rfl, size_sgq, by simp [Value.oneCell']⟩
    have D9 : Hid (Pw w (w9.setRow (w.heap.size + 1 + 1) (sC s' (.slice ah hx.length ch) nlQ (.slice ad s'.data.length cd) (.slice ac s'.clm.length cc))) a len cap zs s9 (sC s' (.slice ah hx.length ch) nlQ (.slice ad s'.data.length cd) (.slice ac s'.clm.length cc))) := hd9.row _
    have SC : Hid (Step zs (contp (shp (v % 16)) { sg0 with typ := v % 16, org := v0, num := v1, head := hx.map Xr.ex }) s8 s' s9) := hs
    have HN9 : Hid (s9.1 = 0 → a ≠ none) := fun h => HN8.out (hm9 h)
    have HHd : Hid (s'.head = hx.map Xr.ex) := hhd
    have HX9 : Hid (XOwn (w9.setRow (w.heap.size + 1 + 1) (sC s' (.slice ah hx.length ch) nlQ (.slice ad s'.data.length cd) (.slice ac s'.clm.length cc))) w7.heap.size (.slice ah hx.length ch) hx) := (HXO.out.keep hg (by have := HS7.out; simp; omega)).keep (grown_setRow _ _ _) (by have := HS7.out; simp; omega)
    have HM9 : Hid (Mid (w9.setRow (w.heap.size + 1 + 1) (sC s' (.slice ah hx.length ch) nlQ (.slice ad s'.data.length cd) (.slice ac s'.clm.length cc))) W8.heap.size s' (.slice ad s'.data.length cd) (.slice ac s'.clm.length cc)) := hmid.low (grown_setRow _ _ _) (by have := D8.out.size; omega) (Nat.le_refl _)
    have HLt1 : Hid (∀ k, ((Value.slice ah hx.length ch).ownBlock = some k ∨ ∃ x ∈ hx, x.val.ownBlock = some k) → k < W8.heap.size) := fun k hk => (HXO.out.lt k hk).2
    have HLe9 : Hid (W8.heap.size ≤ w9.heap.size) := hg.size
    clear ha hg hs hm9 hmid hhd hd9 HC8 HXO D8 hW8 y0 y1 y2 y3 y4 y5 y6 y7 y8 y9 y10 y11 y12 y13
    go_upto_region 17 with fail
    obtain ⟨W9, hW9⟩ : ∃ x, w9.setRow (w.heap.size + 1 + 1) (sC s' (.slice ah hx.length ch) nlQ (.slice ad s'.data.length cd) (.slice ac s'.clm.length cc)) = x := ⟨_, rfl⟩
    have HWs9 : Hid (W9.heap.size = w9.heap.size) := by show _ = _; rw [← hW9]; simp [World.setRow]
    rw [hW9] at D9 HX9 HM9 ⊢
    clear hW9 hstor
    go_wp2_with fail
    rw [show (m : Int) % 16 = ((m % 16 : Nat) : Int) from by omega]
    refine (extq_any (m % 16) (by omega) HN9.out D9.out.aq).mono ?_
    rintro e w10 ⟨at1, ct, tx, s10, rfl, htl, hto, ha, hg, hs, hm10⟩
    have hd := D9.out.step ha hg
    have z10 := hd.fz 4
    obtain ⟨x0, x1, x2, x3, x4, x5, x6, x7, x8, x9, x10, x11, x12, x13⟩ := q14_cells hd.seg
    have D10 : Hid (Pw w (w10.setCell ⟨w.heap.size + 1 + 1, 4, none⟩ (.slice at1 tx.length ct)) a len cap zs s10 (sC s' (.slice ah hx.length ch) (.slice at1 tx.length ct) (.slice ad s'.data.length cd) (.slice ac s'.clm.length cc))) := hd.put 4 _ _ rfl
    have ST : Hid (Step zs (extsp (m % 16) []) s9 (tx.map Xr.ex) s10) := hs
    have HTL : Hid (tx.length ≤ 15) := by show _ ≤ _; omega
    have HTO : Hid (XOwn (w10.setCell ⟨w.heap.size + 1 + 1, 4, none⟩ (.slice at1 tx.length ct)) W9.heap.size (.slice at1 tx.length ct) tx) := hto.keep (grown_set _ _ _ _) (by have := D9.out.size; simp; omega)
    have HX10 : Hid (XOwn (w10.setCell ⟨w.heap.size + 1 + 1, 4, none⟩ (.slice at1 tx.length ct)) w7.heap.size (.slice ah hx.length ch) hx) := (HX9.out.keep hg (by have := HS7.out; simp; omega)).keep (grown_set _ _ _ _) (by have := HS7.out; simp; omega)
    have HM10 : Hid (Mid (w10.setCell ⟨w.heap.size + 1 + 1, 4, none⟩ (.slice at1 tx.length ct)) W8.heap.size s' (.slice ad s'.data.length cd) (.slice ac s'.clm.length cc)) := (HM9.out.low hg (by have := HWs8.out; have := HLe1.out; have := HS7.out; omega) (Nat.le_refl _)).low (grown_set _ _ _ _) (by have := HWs8.out; have := HLe1.out; have := HS7.out; omega) (Nat.le_refl _)
    have HLt2 : Hid ((∀ k, (Value.slice ad s'.data.length cd).ownBlock = some k → k < W9.heap.size) ∧ ∀ k, (Value.slice ac s'.clm.length cc).ownBlock = some k → k < W9.heap.size) := ⟨fun k hk => (HM9.out.data.lt k hk).2, fun k hk => (HM9.out.clm.lt k hk).2⟩
    clear ha hg hs hm10 hto hd D9 HX9 HM9
    have HS : Hid (Step zs segp (0, 0) { s' with tail := tx.map Xr.ex } s10) := by
      show Step _ _ _ _ _
      refine SK.out.bind ((numR_step R0.out (fun _ => OA.out.1)).bind ?_)
      rw [OA.out.2]
      refine (numR_step R1.out (fun _ => OB.out.1)).bind ?_
      rw [OB.out.2]
      refine SO.out.bind ?_
      rw [show ((m : Int) / 16).toNat = m / 16 from by omega, show ((m : Int) % 16).toNat = m % 16 from by omega]
      exact SH.out.bind (SC.out.bind (ST.out.bind (Step.ret _)))
    clear SK R0 R1 OA OB SO SH SC ST
    go_upto_region 18 with fail
    obtain ⟨W10, hW10⟩ : ∃ x, w10.setCell ⟨w.heap.size + 1 + 1, 4, none⟩ (.slice at1 tx.length ct) = x := ⟨_, rfl⟩
    rw [hW10] at D10 HTO HX10 HM10 ⊢
    clear hW10 x0 x1 x2 x3 x4 x5 x6 x7 x8 x9 x10 x11 x12 x13
    have c1 := D10.out.aq.cur.c1
    have c2 := D10.out.aq.cur.c2
    have zz2 := D10.out.aq.cur.fz 2
    have hpl := D10.out.aq.place
    obtain ⟨f, p⟩ := s10
    simp only at c1 c2 hpl
    by_cases hf : f = 0
    · by_cases hpp : p = len
      · have HP : Hid (prs zs = (0, { s' with tail := tx.map Xr.ex })) := by
          show _ = _
          rw [prs_good HL.out HS.out hf, if_pos (List.drop_of_length_le (by have := HLn.out; simp only; omega))]
        subst hf
        have hlt : ¬ (p : Int) < (len : Int) := by omega
        have hlt2 : (len : Int) ≤ (p : Int) := by omega
        obtain ⟨y0, y1, y2, y3, y4, y5, y6, y7, y8, y9, y10, y11, y12, y13⟩ := q14_cells D10.out.seg
        have hstor : StorQ Tryd.prog 28 W10 (.pointer (some ⟨w.heap.size, 0, none⟩)) (.agg (sC s' (.slice ah hx.length ch) (.slice at1 tx.length ct) (.slice ad s'.data.length cd) (.slice ac s'.clm.length cc))) := ⟨w.heap.size, _, _, _, rfl, rfl, D10.out.res, rfl, size_sgq, by simp [Value.oneCell']⟩
        go_wp2_with fail
        have hlv := fun j => cell_of_row _ w.heap.size j _ _ _ (setRow_heap W10 w.heap.size zC (sC s' (.slice ah hx.length ch) (.slice at1 tx.length ct) (.slice ad s'.data.length cd) (.slice ac s'.clm.length cc)) _ _ D10.out.res)
        refine bodyPost_ret (v := .tuple #[sv { s' with tail := tx.map Xr.ex } (.slice ah hx.length ch) (.slice at1 tx.length ct) (.slice ad s'.data.length cd) (.slice ac s'.clm.length cc), .int .i64 0]) (by simp [results, Tryd.results15, go_sem, sv, hlv]) rfl ?_
        have hp := HP.out
        have hgr := grown_setRow W10 w.heap.size (sC s' (.slice ah hx.length ch) (.slice at1 tx.length ct) (.slice ad s'.data.length cd) (.slice ac s'.clm.length cc))
        have e1 := HS7.out
        have e2 := HLe1.out
        have e3 := HWs8.out
        have e4 := HLe9.out
        have e5 := HWs9.out
        have hM := HM10.out.low hgr (by omega) (Nat.le_refl _)
        refine ⟨_, _, _, _, hx, tx, W8.heap.size, W9.heap.size, by rw [hp], ?_, D10.out.low.grown hgr (by have := D10.out.size; omega) (by simp)⟩
        rw [hp]
        exact ⟨by omega, by omega, (HX10.out.keep hgr (by simp; omega)).base (by omega), HLt1.out, HHd.out, hM.data, HLt2.out.1, hM.dataB, hM.dataS, hM.clm, HLt2.out.2, hM.clmS, hM.only, HTO.out.keep hgr (by simp; omega), rfl, ⟨HXL.out, HTL.out⟩⟩
      · have HP : Hid (prs zs = (24, sg0)) := by
          show _ = _
          rw [prs_good HL.out HS.out hf, if_neg (fun h => by have h1 := congrArg List.length h; have := HLn.out; simp at h1; omega)]
        subst hf
        have hlt : (p : Int) < (len : Int) := by omega
        have D11 : Hid (Pw w (W10.setCell ⟨w.heap.size + 1, 2, none⟩ (.int .i64 24)) a len cap zs (24, p) (sC s' (.slice ah hx.length ch) (.slice at1 tx.length ct) (.slice ad s'.data.length cd) (.slice ac s'.clm.length cc))) := D10.out.err 24 (by omega)
        have d2 : (W10.setCell ⟨w.heap.size + 1, 2, none⟩ (.int .i64 24)).cell? ⟨w.heap.size + 1, 2, none⟩ = some (.int .i64 24) := D11.out.aq.cur.c2
        have d3 : (W10.setCell ⟨w.heap.size + 1, 2, none⟩ (.int .i64 24)).drew.cell? ⟨w.heap.size + 1, 2, none⟩ = some (.int .i64 24) := D11.out.aq.cur.c2
        have d4 : ((W10.setCell ⟨w.heap.size + 1, 2, none⟩ (.int .i64 24)).drew.setRow w.heap.size zC).cell? ⟨w.heap.size + 1, 2, none⟩ = some (.int .i64 24) := (World.cell?_of_block (a := ⟨w.heap.size + 1, 2, none⟩) ((grown_setRow (W10.setCell ⟨w.heap.size + 1, 2, none⟩ (.int .i64 24)).drew w.heap.size zC).block (w.heap.size + 1) (Nat.lt_of_lt_of_le (show w.heap.size + 1 < w.heap.size + 3 by omega) D11.out.size) (by simp))).trans d3
        have hstor : StorQ Tryd.prog 28 (W10.setCell ⟨w.heap.size + 1, 2, none⟩ (.int .i64 24)).drew (.pointer (some ⟨w.heap.size, 0, none⟩)) (.agg zC) := ⟨w.heap.size, _, _, _, rfl, rfl, D11.out.res, rfl, size_sgq, by simp [Value.oneCell']⟩
        go_wp2_with fail
        go_region
        all_goals (
          go_wp2_with fail
          have hlv := fun j => cell_of_row _ w.heap.size j _ _ _ (setRow_heap (W10.setCell ⟨w.heap.size + 1, 2, none⟩ (.int .i64 24)).drew w.heap.size zC zC _ _ D11.out.res)
          refine bodyPost_ret (v := .tuple #[sv sg0 (.slice none 0 0) (.slice none 0 0) (.slice none 0 0) (.slice none 0 0), .int .i64 24]) (by simp [results, Tryd.results15, go_sem, sv, sg0, hlv]) rfl ?_
          have hp := HP.out
          refine ⟨_, _, _, _, [], [], _, _, by rw [hp], by rw [hp]; exact sown_zero _ _, ?_⟩
          exact (D11.out.low.drew).grown (grown_setRow _ _ _) (Nat.le_trans (show w.heap.size ≤ w.heap.size + 3 by omega) D11.out.size) (by simp))
    · have HP : Hid (prs zs = (f, sg0)) := prs_bad HL.out HS.out hf
      have e0 : (f == 0) = false := by simp [hf]
      have e1 : (f != 0) = true := by simp [hf]
      have d3 : W10.drew.cell? ⟨w.heap.size + 1, 2, none⟩ = some (.int .i64 f) := c2
      have d4 : (W10.drew.setRow w.heap.size zC).cell? ⟨w.heap.size + 1, 2, none⟩ = some (.int .i64 f) := (World.cell?_of_block (a := ⟨w.heap.size + 1, 2, none⟩) ((grown_setRow W10.drew w.heap.size zC).block (w.heap.size + 1) (Nat.lt_of_lt_of_le (show w.heap.size + 1 < w.heap.size + 3 by omega) D10.out.size) (by simp))).trans d3
      have hstor : StorQ Tryd.prog 28 W10.drew (.pointer (some ⟨w.heap.size, 0, none⟩)) (.agg zC) := ⟨w.heap.size, _, _, _, rfl, rfl, D10.out.res, rfl, size_sgq, by simp [Value.oneCell']⟩
      go_wp2_with fail
      go_region
      all_goals (
        go_wp2_with fail
        have hlv := fun j => cell_of_row _ w.heap.size j _ _ _ (setRow_heap W10.drew w.heap.size zC zC _ _ D10.out.res)
        refine bodyPost_ret (v := .tuple #[sv sg0 (.slice none 0 0) (.slice none 0 0) (.slice none 0 0) (.slice none 0 0), .int .i64 f]) (by simp [results, Tryd.results15, go_sem, sv, sg0, hlv]) rfl ?_
        have hp := HP.out
        refine ⟨_, _, _, _, [], [], _, _, by rw [hp], by rw [hp]; exact sown_zero _ _, ?_⟩
        exact (D10.out.low.drew).grown (grown_setRow _ _ _) (Nat.le_trans (show w.heap.size ≤ w.heap.size + 3 by omega) D10.out.size) (by simp))

end Go.Proofs.YtkkmoplijicmpabDoor
