import Derived.Test.YtkkmoplijicmpabDoorPq4
namespace Go.Proofs.YtkkmoplijicmpabDoor
open Go.RowKit
set_option linter.unusedVariables false
set_option linter.unusedSimpArgs false
attribute [local go_sem ↓] wp_storeQ
attribute [local go_sem] pBlkQ_ptr pAggQ_agg

theorem shp_data {t : Int} (h : isD t = true) : (1 ≤ t ∧ t ≤ 3 → shp t = 7) ∧ (¬ (1 ≤ t ∧ t ≤ 3) → shp t = 3) := by
  unfold isD at h
  have h' : (0 ≤ t ∧ t ≤ 4) ∨ t = 7 := by simpa using h
  have : t = 0 ∨ t = 1 ∨ t = 2 ∨ t = 3 ∨ t = 4 ∨ t = 7 := by omega
  rcases this with rfl | rfl | rfl | rfl | rfl | rfl <;> decide

/-- The two lists of a segment whose data were read. -/
theorem mid_data {W W' : World} {B B0 k : Nat} {s : Sg} {ad : Option Addr} {cd : Nat} {d : List Int} (ho : W.ownsRow B 5 1 (.slice ad d.length cd) d.length (d.map (Value.int .u8))) (hB : B0 ≤ B) (hk : k < B) (hg : W.grownBy W' (some k)) (hby : Bytey d) (hd : d.length ≤ 70000) (hs : s.clm = []) (hsd : s.data = d) : Mid W' B0 s (.slice ad d.length cd) nlQ := by
  subst hsd
  exact ⟨own_base (own_keep ho hg (fun j hj e => by have := (ho.lt j hj).1; simp at e; omega)) hB, hby, hd, by rw [hs]; exact World.ownsRow_nil _ _ _ _, by rw [hs]; simp, .inr rfl⟩

set_option maxRecDepth 100000 in
set_option maxHeartbeats 8000000 in
theorem datq3_any {b len cap : Nat} {a : Option Addr} {zs : List Int} {st : St} {w : World} (s : Sg) (ah at1 : Option Addr) (nh ch nt ct : Nat) (hda : s.data = []) (hcl : s.clm = []) (hty : ¬ (1 ≤ s.typ ∧ s.typ ≤ 3)) (hne : st.1 = 0 → a ≠ none) (h : Aq w b a len cap zs st) :
    Calls Tryd.prog 69 #[.pointer (some ⟨b, 0, none⟩), .agg (sC s (.slice ah nh ch) (.slice at1 nt ct) nlQ nlQ)] w (ContQ b a len cap zs st (blockp 3 s) s (.slice ah nh ch) (.slice at1 nt ct) w) := by
  have D0 : Hid (Dq w _ b a len cap zs st (sC s (.slice ah nh ch) (.slice at1 nt ct) nlQ nlQ)) := Dq.start _ h
  have HSs : Hid (s.data = [] ∧ s.clm = []) := ⟨hda, hcl⟩
  have HNe : Hid (st.1 = 0 → a ≠ none) := hne
  have HCk : Hid (decide (1 ≤ s.typ ∧ s.typ ≤ 3) = false) := by show _ = _; simpa using hty
  have HLo : Hid (b < w.heap.size) := h.lt
  obtain ⟨P, hP⟩ : ∃ P, ContQ b a len cap zs st (blockp 3 s) s (.slice ah nh ch) (.slice at1 nt ct) w = P := ⟨_, rfl⟩
  have HP : Hid (ContQ b a len cap zs st (blockp 3 s) s (.slice ah nh ch) (.slice at1 nt ct) w = P) := hP
  rw [hP]
  clear h hda hcl hty hne hP
  go_enter Tryd.func69, Tryd.ntmps69
  go_wp2_with fail
  refine (numq_any D0.out.aq).mono ?_
  rintro e w1 ⟨v0, s1, rfl, ha, hg, hs, p0, q0⟩
  have hd := D0.out.step ha hg
  have z0 := hd.fz 5
  obtain ⟨x0, x1, x2, x3, x4, x5, x6, x7, x8, x9, x10, x11, x12, x13⟩ := q14_cells hd.seg
  have D1 : Hid (Dq w (w1.setCell ⟨w.heap.size, 5, none⟩ (.int .i64 v0)) b a len cap zs s1 (sC { s with srv := v0 } (.slice ah nh ch) (.slice at1 nt ct) nlQ nlQ)) := hd.put 5 _ _ rfl
  clear hd
  have R0 : Hid (numR zs st = (v0, s1)) := hs
  clear ha hg hs D0
  go_wp2_with fail
  refine (numq_any D1.out.aq).mono ?_
  rintro e w2 ⟨v1, s2, rfl, ha, hg, hs, p1, q1⟩
  have hd := D1.out.step ha hg
  have z1 := hd.fz 6
  obtain ⟨x0, x1, x2, x3, x4, x5, x6, x7, x8, x9, x10, x11, x12, x13⟩ := q14_cells hd.seg
  have D2 : Hid (Dq w (w2.setCell ⟨w.heap.size, 6, none⟩ (.int .i64 v1)) b a len cap zs s2 (sC { s with srv := v0, off := v1 } (.slice ah nh ch) (.slice at1 nt ct) nlQ nlQ)) := hd.put 6 _ _ rfl
  clear hd
  have R1 : Hid (numR zs s1 = (v1, s2)) := hs
  clear ha hg hs D1
  go_wp2_with fail
  refine (numq_any D2.out.aq).mono ?_
  rintro e w3 ⟨v2, s3, rfl, ha, hg, hs, p2, q2⟩
  have D3 : Hid (Dq w w3 b a len cap zs s3 (sC { s with srv := v0, off := v1 } (.slice ah nh ch) (.slice at1 nt ct) nlQ nlQ)) := D2.out.step ha hg
  have R2 : Hid (numR zs s2 = (v2, s3)) := hs
  clear ha hg hs D2
  obtain ⟨y0, y1, y2, y3, y4, y5, y6, y7, y8, y9, y10, y11, y12, y13⟩ := q14_cells D3.out.seg
  have hwo : IntKind.i64.wrap (65536 - v1) = 65536 - v1 := by rw [IntKind.wrap_i64]; omega
  go_wp2_with fail
  all_goals (
    refine (wantq_any _ D3.out.aq).mono ?_
    rintro e w4 ⟨rfl, ha, hg⟩
    obtain ⟨ok, s4, hok, hs4, ha4⟩ : ∃ (ok : Bool) (s4 : St), (ok = true ↔ 1 ≤ v2 ∧ v2 ≤ 65536 - v1) ∧ wst ok s3 = s4 ∧ Aq w4 b a len cap zs s4 := ⟨_, _, by simp; try omega, rfl, ha⟩
    have D4 : Hid (Dq w w4 b a len cap zs s4 (sC { s with srv := v0, off := v1 } (.slice ah nh ch) (.slice at1 nt ct) nlQ nlQ)) := D3.out.step ha4 hg
    have HOk : Hid ((ok = true ↔ 1 ≤ v2 ∧ v2 ≤ 65536 - v1) ∧ wst ok s3 = s4) := ⟨hok, hs4⟩
    clear ha hg hok hs4 ha4 D3 x0 x1 x2 x3 x4 x5 x6 x7 x8 x9 x10 x11 x12 x13 y0 y1 y2 y3 y4 y5 y6 y7 y8 y9 y10 y11 y12 y13
    obtain ⟨y0, y1, y2, y3, y4, y5, y6, y7, y8, y9, y10, y11, y12, y13⟩ := q14_cells D4.out.seg
    go_wp2_with fail
    refine (chkq_any _ _).mono ?_
    rintro e w' ⟨rfl, rfl⟩
    rw [HCk.out]
    clear y0 y1 y2 y3 y4 y5 y6 y7 y8 y9 y10 y11 y12 y13
    have HMo : Hid (s4.1 = 0 → st.1 = 0) := fun h7 => by have h5 := h7; rw [← HOk.out.2] at h5; exact numR_zero R0.out (numR_zero R1.out (numR_zero R2.out (wst_zero h5).1))
    go_wp2_with fail
    refine (bytq_any v2 p2 q2 (fun h7 => HNe.out (HMo.out h7)) D4.out.aq).mono ?_
    rintro e w8 ⟨ad, cd, d, s8, rfl, hown, hd8, hby, ha, hg, hst, hm8⟩
    have hd := D4.out.step ha hg
    have z8 := hd.fz 7
    obtain ⟨x0, x1, x2, x3, x4, x5, x6, x7, x8, x9, x10, x11, x12, x13⟩ := q14_cells hd.seg
    have D8 : Hid (Dq w (w8.setCell ⟨w.heap.size, 7, none⟩ (.slice ad d.length cd)) b a len cap zs s8 (sC { s with srv := v0, off := v1, data := d } (.slice ah nh ch) (.slice at1 nt ct) (.slice ad d.length cd) nlQ)) := hd.put 7 _ _ rfl
    have HO8 : Hid ((w8.setCell ⟨w.heap.size, 7, none⟩ (.slice ad d.length cd)).ownsRow (w.heap.size + 2) 5 1 (.slice ad d.length cd) d.length (d.map (Value.int .u8))) := own_keep (own_base hown D4.out.size) (grown_set _ _ _ _) (fun j hj e => by have h1 := (hown.lt j hj).1; have h2 := D4.out.size; simp at e; omega)
    have HRest : Hid (Step zs (rowp v2) s4 d s8 ∧ Bytey d ∧ d.length ≤ 70000 ∧ (s8.1 = 0 → s4.1 = 0)) := ⟨hst, hby, hd8, hm8⟩
    clear hown hd8 hby ha hg hst hm8 hd D4
    obtain ⟨y0, y1, y2, y3, y4, y5, y6, y7, y8, y9, y10, y11, y12, y13⟩ := q14_cells D8.out.seg
    have hstor : StorQ Tryd.prog 28 (w8.setCell ⟨w.heap.size, 7, none⟩ (.slice ad d.length cd)) (.pointer (some ⟨w.heap.size + 1, 0, none⟩)) (.agg (sC { s with srv := v0, off := v1, data := d } (.slice ah nh ch) (.slice at1 nt ct) (.slice ad d.length cd) nlQ)) := ⟨w.heap.size + 1, _, _, _, rfl, rfl, D8.out.res, rfl, size_sgq, by simp [Value.oneCell']⟩
    go_wp2_with fail
    have hdone := D8.out.done (T := sC { s with srv := v0, off := v1, data := d } (.slice ah nh ch) (.slice at1 nt ct) (.slice ad d.length cd) nlQ)
    have hlv := fun j => cell_of_row _ (w.heap.size + 1) j _ _ _ hdone.2.2
    refine bodyPost_ret (v := .agg (sC { s with srv := v0, off := v1, data := d } (.slice ah nh ch) (.slice at1 nt ct) (.slice ad d.length cd) nlQ)) (by simp [results, Tryd.results69, go_sem, hlv]) rfl ?_
    rw [← HP.out]
    obtain ⟨hst, hby, hd8, hm8⟩ := HRest.out
    refine ⟨{ s with srv := v0, off := v1, data := d }, ad, cd, none, 0, s8, ?_, hdone.1, ?_, hdone.2.1, ?_, rfl, fun h7 => HMo.out (hm8 h7)⟩
    · show _ = Ending.returned (.agg (sC _ _ _ _ (.slice none s.clm.length 0)))
      rw [HSs.out.2]; rfl
    · show Mid _ _ _ _ (.slice none s.clm.length 0)
      rw [HSs.out.2]
      exact mid_data HO8.out (by omega) (by omega) (grown_setRow _ _ _) hby hd8 (by first | exact HSs.out.2 | rfl) rfl
    refine (numR_any R0.out p0 q0).bind ((numR_any R1.out p1 q1).bind ((numR_step R2.out (fun _ => HOk.out.1)).bind ?_))
    rw [HOk.out.2]
    rw [if_neg (by decide)]
    exact hst.bind (Step.ret _))

set_option maxRecDepth 100000 in
set_option maxHeartbeats 8000000 in
theorem datq7_any {b len cap : Nat} {a : Option Addr} {zs : List Int} {st : St} {w : World} (s : Sg) (ah at1 : Option Addr) (nh ch nt ct : Nat) (hda : s.data = []) (hcl : s.clm = []) (hty : 1 ≤ s.typ ∧ s.typ ≤ 3) (hne : st.1 = 0 → a ≠ none) (h : Aq w b a len cap zs st) :
    Calls Tryd.prog 69 #[.pointer (some ⟨b, 0, none⟩), .agg (sC s (.slice ah nh ch) (.slice at1 nt ct) nlQ nlQ)] w (ContQ b a len cap zs st (blockp 7 s) s (.slice ah nh ch) (.slice at1 nt ct) w) := by
  have D0 : Hid (Dq w _ b a len cap zs st (sC s (.slice ah nh ch) (.slice at1 nt ct) nlQ nlQ)) := Dq.start _ h
  have HSs : Hid (s.data = [] ∧ s.clm = []) := ⟨hda, hcl⟩
  have HNe : Hid (st.1 = 0 → a ≠ none) := hne
  have HCk : Hid (decide (1 ≤ s.typ ∧ s.typ ≤ 3) = true) := by show _ = _; simpa using hty
  have HLo : Hid (b < w.heap.size) := h.lt
  obtain ⟨P, hP⟩ : ∃ P, ContQ b a len cap zs st (blockp 7 s) s (.slice ah nh ch) (.slice at1 nt ct) w = P := ⟨_, rfl⟩
  have HP : Hid (ContQ b a len cap zs st (blockp 7 s) s (.slice ah nh ch) (.slice at1 nt ct) w = P) := hP
  rw [hP]
  clear h hda hcl hty hne hP
  go_enter Tryd.func69, Tryd.ntmps69
  go_wp2_with fail
  refine (numq_any D0.out.aq).mono ?_
  rintro e w1 ⟨v0, s1, rfl, ha, hg, hs, p0, q0⟩
  have hd := D0.out.step ha hg
  have z0 := hd.fz 5
  obtain ⟨x0, x1, x2, x3, x4, x5, x6, x7, x8, x9, x10, x11, x12, x13⟩ := q14_cells hd.seg
  have D1 : Hid (Dq w (w1.setCell ⟨w.heap.size, 5, none⟩ (.int .i64 v0)) b a len cap zs s1 (sC { s with srv := v0 } (.slice ah nh ch) (.slice at1 nt ct) nlQ nlQ)) := hd.put 5 _ _ rfl
  clear hd
  have R0 : Hid (numR zs st = (v0, s1)) := hs
  clear ha hg hs D0
  go_wp2_with fail
  refine (numq_any D1.out.aq).mono ?_
  rintro e w2 ⟨v1, s2, rfl, ha, hg, hs, p1, q1⟩
  have hd := D1.out.step ha hg
  have z1 := hd.fz 6
  obtain ⟨x0, x1, x2, x3, x4, x5, x6, x7, x8, x9, x10, x11, x12, x13⟩ := q14_cells hd.seg
  have D2 : Hid (Dq w (w2.setCell ⟨w.heap.size, 6, none⟩ (.int .i64 v1)) b a len cap zs s2 (sC { s with srv := v0, off := v1 } (.slice ah nh ch) (.slice at1 nt ct) nlQ nlQ)) := hd.put 6 _ _ rfl
  clear hd
  have R1 : Hid (numR zs s1 = (v1, s2)) := hs
  clear ha hg hs D1
  go_wp2_with fail
  refine (numq_any D2.out.aq).mono ?_
  rintro e w3 ⟨v2, s3, rfl, ha, hg, hs, p2, q2⟩
  have D3 : Hid (Dq w w3 b a len cap zs s3 (sC { s with srv := v0, off := v1 } (.slice ah nh ch) (.slice at1 nt ct) nlQ nlQ)) := D2.out.step ha hg
  have R2 : Hid (numR zs s2 = (v2, s3)) := hs
  clear ha hg hs D2
  obtain ⟨y0, y1, y2, y3, y4, y5, y6, y7, y8, y9, y10, y11, y12, y13⟩ := q14_cells D3.out.seg
  have hwo : IntKind.i64.wrap (65536 - v1) = 65536 - v1 := by rw [IntKind.wrap_i64]; omega
  go_wp2_with fail
  all_goals (
    refine (wantq_any _ D3.out.aq).mono ?_
    rintro e w4 ⟨rfl, ha, hg⟩
    obtain ⟨ok, s4, hok, hs4, ha4⟩ : ∃ (ok : Bool) (s4 : St), (ok = true ↔ 1 ≤ v2 ∧ v2 ≤ 65536 - v1) ∧ wst ok s3 = s4 ∧ Aq w4 b a len cap zs s4 := ⟨_, _, by simp; try omega, rfl, ha⟩
    have D4 : Hid (Dq w w4 b a len cap zs s4 (sC { s with srv := v0, off := v1 } (.slice ah nh ch) (.slice at1 nt ct) nlQ nlQ)) := D3.out.step ha4 hg
    have HOk : Hid ((ok = true ↔ 1 ≤ v2 ∧ v2 ≤ 65536 - v1) ∧ wst ok s3 = s4) := ⟨hok, hs4⟩
    clear ha hg hok hs4 ha4 D3 x0 x1 x2 x3 x4 x5 x6 x7 x8 x9 x10 x11 x12 x13 y0 y1 y2 y3 y4 y5 y6 y7 y8 y9 y10 y11 y12 y13
    obtain ⟨y0, y1, y2, y3, y4, y5, y6, y7, y8, y9, y10, y11, y12, y13⟩ := q14_cells D4.out.seg
    go_wp2_with fail
    refine (chkq_any _ _).mono ?_
    rintro e w' ⟨rfl, rfl⟩
    rw [HCk.out]
    clear y0 y1 y2 y3 y4 y5 y6 y7 y8 y9 y10 y11 y12 y13
    go_wp2_with fail
    refine (numq_any D4.out.aq).mono ?_
    rintro e w5 ⟨v3, s5, rfl, ha, hg, hs, p3, q3⟩
    have hd := D4.out.step ha hg
    have z3 := hd.fz 8
    obtain ⟨x0, x1, x2, x3, x4, x5, x6, x7, x8, x9, x10, x11, x12, x13⟩ := q14_cells hd.seg
    have D5 : Hid (Dq w (w5.setCell ⟨w.heap.size, 8, none⟩ (.int .i64 v3)) b a len cap zs s5 (sC { s with srv := v0, off := v1, chk := v3 } (.slice ah nh ch) (.slice at1 nt ct) nlQ nlQ)) := hd.put 8 _ _ rfl
    clear hd
    have R3 : Hid (numR zs s4 = (v3, s5)) := hs
    clear ha hg hs D4
    obtain ⟨y0, y1, y2, y3, y4, y5, y6, y7, y8, y9, y10, y11, y12, y13⟩ := q14_cells D5.out.seg
    go_wp2_with fail
    refine (wantq_any _ D5.out.aq).mono ?_
    rintro e w6 ⟨rfl, ha, hg⟩
    have D6 : Hid (Dq w w6 b a len cap zs (wst (decide (1 ≤ v3)) s5) (sC { s with srv := v0, off := v1, chk := v3 } (.slice ah nh ch) (.slice at1 nt ct) nlQ nlQ)) := D5.out.step ha hg
    clear ha hg D5 x0 x1 x2 x3 x4 x5 x6 x7 x8 x9 x10 x11 x12 x13 y0 y1 y2 y3 y4 y5 y6 y7 y8 y9 y10 y11 y12 y13
    obtain ⟨s6, hs6⟩ : ∃ s6, wst (decide (1 ≤ v3)) s5 = s6 := ⟨_, rfl⟩
    have HO6 : Hid (wst (decide (1 ≤ v3)) s5 = s6) := hs6
    rw [hs6] at D6
    clear hs6
    go_wp2_with fail
    refine (numq_any D6.out.aq).mono ?_
    rintro e w7 ⟨v4, s7, rfl, ha, hg, hs, p4, q4⟩
    have hd := D6.out.step ha hg
    have z4 := hd.fz 9
    obtain ⟨x0, x1, x2, x3, x4, x5, x6, x7, x8, x9, x10, x11, x12, x13⟩ := q14_cells hd.seg
    have D7 : Hid (Dq w (w7.setCell ⟨w.heap.size, 9, none⟩ (.int .i64 v4)) b a len cap zs s7 (sC { s with srv := v0, off := v1, chk := v3, rep := v4 } (.slice ah nh ch) (.slice at1 nt ct) nlQ nlQ)) := hd.put 9 _ _ rfl
    clear hd
    have R4 : Hid (numR zs s6 = (v4, s7)) := hs
    clear ha hg hs D6
    have HMo : Hid (s7.1 = 0 → st.1 = 0) := fun h7 => by have h6 := HO6.out; have h4 := numR_zero R4.out h7; rw [← h6] at h4; have h5 := numR_zero R3.out (wst_zero h4).1; rw [← HOk.out.2] at h5; exact numR_zero R0.out (numR_zero R1.out (numR_zero R2.out (wst_zero h5).1))
    go_wp2_with fail
    refine (bytq_any v2 p2 q2 (fun h7 => HNe.out (HMo.out h7)) D7.out.aq).mono ?_
    rintro e w8 ⟨ad, cd, d, s8, rfl, hown, hd8, hby, ha, hg, hst, hm8⟩
    have hd := D7.out.step ha hg
    have z8 := hd.fz 7
    obtain ⟨x0, x1, x2, x3, x4, x5, x6, x7, x8, x9, x10, x11, x12, x13⟩ := q14_cells hd.seg
    have D8 : Hid (Dq w (w8.setCell ⟨w.heap.size, 7, none⟩ (.slice ad d.length cd)) b a len cap zs s8 (sC { s with srv := v0, off := v1, chk := v3, rep := v4, data := d } (.slice ah nh ch) (.slice at1 nt ct) (.slice ad d.length cd) nlQ)) := hd.put 7 _ _ rfl
    have HO8 : Hid ((w8.setCell ⟨w.heap.size, 7, none⟩ (.slice ad d.length cd)).ownsRow (w.heap.size + 2) 5 1 (.slice ad d.length cd) d.length (d.map (Value.int .u8))) := own_keep (own_base hown D7.out.size) (grown_set _ _ _ _) (fun j hj e => by have h1 := (hown.lt j hj).1; have h2 := D7.out.size; simp at e; omega)
    have HRest : Hid (Step zs (rowp v2) s7 d s8 ∧ Bytey d ∧ d.length ≤ 70000 ∧ (s8.1 = 0 → s7.1 = 0)) := ⟨hst, hby, hd8, hm8⟩
    clear hown hd8 hby ha hg hst hm8 hd D7
    obtain ⟨y0, y1, y2, y3, y4, y5, y6, y7, y8, y9, y10, y11, y12, y13⟩ := q14_cells D8.out.seg
    have hstor : StorQ Tryd.prog 28 (w8.setCell ⟨w.heap.size, 7, none⟩ (.slice ad d.length cd)) (.pointer (some ⟨w.heap.size + 1, 0, none⟩)) (.agg (sC { s with srv := v0, off := v1, chk := v3, rep := v4, data := d } (.slice ah nh ch) (.slice at1 nt ct) (.slice ad d.length cd) nlQ)) := ⟨w.heap.size + 1, _, _, _, rfl, rfl, D8.out.res, rfl, size_sgq, by simp [Value.oneCell']⟩
    go_wp2_with fail
    have hdone := D8.out.done (T := sC { s with srv := v0, off := v1, chk := v3, rep := v4, data := d } (.slice ah nh ch) (.slice at1 nt ct) (.slice ad d.length cd) nlQ)
    have hlv := fun j => cell_of_row _ (w.heap.size + 1) j _ _ _ hdone.2.2
    refine bodyPost_ret (v := .agg (sC { s with srv := v0, off := v1, chk := v3, rep := v4, data := d } (.slice ah nh ch) (.slice at1 nt ct) (.slice ad d.length cd) nlQ)) (by simp [results, Tryd.results69, go_sem, hlv]) rfl ?_
    rw [← HP.out]
    obtain ⟨hst, hby, hd8, hm8⟩ := HRest.out
    refine ⟨{ s with srv := v0, off := v1, chk := v3, rep := v4, data := d }, ad, cd, none, 0, s8, ?_, hdone.1, ?_, hdone.2.1, ?_, rfl, fun h7 => HMo.out (hm8 h7)⟩
    · show _ = Ending.returned (.agg (sC _ _ _ _ (.slice none s.clm.length 0)))
      rw [HSs.out.2]; rfl
    · show Mid _ _ _ _ (.slice none s.clm.length 0)
      rw [HSs.out.2]
      exact mid_data HO8.out (by omega) (by omega) (grown_setRow _ _ _) hby hd8 (by first | exact HSs.out.2 | rfl) rfl
    refine (numR_any R0.out p0 q0).bind ((numR_any R1.out p1 q1).bind ((numR_step R2.out (fun _ => HOk.out.1)).bind ?_))
    rw [HOk.out.2]
    rw [if_pos rfl]
    exact (numR_step R3.out (ok := decide (1 ≤ v3)) (lo := 1) (hi := mn) (fun _ => by simp [mn]; omega)).bind (by rw [HO6.out]; exact (numR_any R4.out p4 q4).bind (hst.bind (Step.ret _))))

end Go.Proofs.YtkkmoplijicmpabDoor
