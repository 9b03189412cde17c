import Derived.Test.YtkkmoplijicmpabDoorPq6
namespace Go.Proofs.YtkkmoplijicmpabDoor
open Go.RowKit
set_option linter.unusedVariables false
set_option linter.unusedSimpArgs false
attribute [local go_sem ↓] wp_storeQ
attribute [local go_sem] pBlkQ_ptr pAggQ_agg

theorem Mid.low {W W' : World} {B B0 k : Nat} {s : Sg} {dv cv : Value} (h : Mid W B s dv cv) (hg : W.grownBy W' (some k)) (hk : k < B) (hB : B0 ≤ B) : Mid W' B0 s dv cv :=
  ⟨own_base (own_keep h.data hg (fun j hj e => by have := (h.data.lt j hj).1; simp at e; omega)) hB, h.dataB, h.dataS, own_base (own_keep h.clm hg (fun j hj e => by have := (h.clm.lt j hj).1; simp at e; omega)) hB, h.clmS, h.only⟩
theorem reason_step {zs : List Int} {st s1 : St} {r : Int} (s : Sg) (h : Step zs oct st r s1) : Step zs (reasonp s) st { s with rsn := r } (wst (decide (r ≤ 5)) s1) := by
  refine h.bind ?_
  by_cases h5 : r ≤ 5
  · rw [if_pos h5, show decide (r ≤ 5) = true by simp [h5], wst_ok]
    exact Step.ret _
  · rw [if_neg h5, show decide (r ≤ 5) = false by simp [h5]]
    by_cases h1 : s1.1 = 0
    · rw [show wst false s1 = (23, s1.2) by unfold wst; simp [h1]]
      exact Step.fault _ _ _ h1 (by omega) rfl
    · rw [wst_bad h1]
      exact Step.bad _ h1
theorem shp_rest {t : Int} (hd : isD t = false) (h8 : t ≠ 8) (h9 : t ≠ 9) (h12 : t ≠ 12) (h14 : t ≠ 14) : shp t = 0 ∨ shp t = 1 := by
  by_cases hr : t < 0 ∨ 16 ≤ t
  · left; unfold shp; rw [if_pos hr]
  · have h' : ¬ ((0 ≤ t ∧ t ≤ 4) ∨ t = 7) := by unfold isD at hd; simpa using hd
    have : t = 5 ∨ t = 6 ∨ t = 10 ∨ t = 11 ∨ t = 13 ∨ t = 15 := by omega
    rcases this with rfl | rfl | rfl | rfl | rfl | rfl <;> decide

set_option maxRecDepth 100000 in
set_option maxHeartbeats 8000000 in
theorem contq7 {b len cap : Nat} {a : Option Addr} {zs : List Int} {st : St} {w : World} (s : Sg) (ah at1 : Option Addr) (nh ch nt ct : Nat) (hda : s.data = []) (hcl : s.clm = []) (hty : isD s.typ = true) (hk : 1 ≤ s.typ ∧ s.typ ≤ 3) (hne : st.1 = 0 → a ≠ none) (h : Aq w b a len cap zs st) :
    Calls Tryd.prog 40 #[.pointer (some ⟨b, 0, none⟩), .agg (sC s (.slice ah nh ch) (.slice at1 nt ct) nlQ nlQ)] w (ContQ b a len cap zs st (contp (shp s.typ) s) s (.slice ah nh ch) (.slice at1 nt ct) w) := by
  have D0 : Hid (Dq w _ b a len cap zs st (sC s (.slice ah nh ch) (.slice at1 nt ct) nlQ nlQ)) := Dq.start _ h
  have HSs : Hid (s.data = [] ∧ s.clm = []) := ⟨hda, hcl⟩
  have HNe : Hid (st.1 = 0 → a ≠ none) := hne
  have HLo : Hid (b < w.heap.size) := h.lt
  have HDt : Hid (isD s.typ = true) := hty
  have HK : Hid (shp s.typ = 7) := (shp_data hty).1 hk
  have HTy : Hid (1 ≤ s.typ ∧ s.typ ≤ 3) := hk
  clear hty hk
  obtain ⟨P, hP⟩ : ∃ P, ContQ b a len cap zs st (contp (shp s.typ) s) s (.slice ah nh ch) (.slice at1 nt ct) w = P := ⟨_, rfl⟩
  have HP : Hid (ContQ b a len cap zs st (contp (shp s.typ) s) s (.slice ah nh ch) (.slice at1 nt ct) w = P) := hP
  rw [hP]
  obtain ⟨W0, hW0⟩ : ∃ x, ((w.alloc (.cells (sC s (.slice ah nh ch) (.slice at1 nt ct) nlQ nlQ) 28)).alloc (.cells zC 28)) = x := ⟨_, rfl⟩
  have HW0 : Hid (((w.alloc (.cells (sC s (.slice ah nh ch) (.slice at1 nt ct) nlQ nlQ) 28)).alloc (.cells zC 28)) = W0) := hW0
  have HS0 : Hid (W0.heap.size = w.heap.size + 2) := by show _ = _; rw [← hW0]; simp
  rw [hW0] at D0
  clear h hda hcl hne hP hW0
  obtain ⟨y0, y1, y2, y3, y4, y5, y6, y7, y8, y9, y10, y11, y12, y13⟩ := q14_cells D0.out.seg
  go_enter Tryd.func40, Tryd.ntmps40
  go_wp2_with fail
  rw [HW0.out]
  refine (datk_any _ _).mono ?_
  rintro e w' ⟨rfl, rfl⟩
  rw [HDt.out]
  go_wp2_with fail
  refine (datq7_any s ah at1 nh ch nt ct HSs.out.1 HSs.out.2 HTy.out HNe.out D0.out.aq).mono ?_
  rintro e w5 ⟨s', ad, cd, ac, cc, s5, rfl, ha, hm, hg, hst, hhd, hmo⟩
  have D5 : Hid (Dq w w5 b a len cap zs s5 (sC s (.slice ah nh ch) (.slice at1 nt ct) nlQ nlQ)) := D0.out.step ha hg
  have HM : Hid (Mid w5 (w.heap.size + 2) s' (.slice ad s'.data.length cd) (.slice ac s'.clm.length cc)) := by rw [← HS0.out]; exact hm
  have HR : Hid (Step zs (contp (shp s.typ) s) st s' s5 ∧ s'.head = s.head ∧ (s5.1 = 0 → st.1 = 0)) := ⟨by rw [HK.out]; unfold contp; rw [if_pos (.inr rfl)]; exact hst, hhd, hmo⟩
  clear ha hm hg hst hhd hmo y0 y1 y2 y3 y4 y5 y6 y7 y8 y9 y10 y11 y12 y13 D0
  have hstor : StorQ Tryd.prog 28 w5 (.pointer (some ⟨w.heap.size + 1, 0, none⟩)) (.agg (sC s' (.slice ah nh ch) (.slice at1 nt ct) (.slice ad s'.data.length cd) (.slice ac s'.clm.length cc))) := ⟨w.heap.size + 1, _, _, _, rfl, rfl, D5.out.res, rfl, size_sgq, by simp [Value.oneCell']⟩
  go_wp2_with fail
  have hdone := D5.out.done (T := sC s' (.slice ah nh ch) (.slice at1 nt ct) (.slice ad s'.data.length cd) (.slice ac s'.clm.length cc))
  have hlv := fun j => cell_of_row _ (w.heap.size + 1) j _ _ _ hdone.2.2
  refine bodyPost_ret (v := .agg (sC s' (.slice ah nh ch) (.slice at1 nt ct) (.slice ad s'.data.length cd) (.slice ac s'.clm.length cc))) (by simp [results, Tryd.results40, go_sem, hlv]) rfl ?_
  rw [← HP.out]
  exact ⟨s', ad, cd, ac, cc, s5, rfl, hdone.1, HM.out.low (grown_setRow _ _ _) (by omega) (by omega), hdone.2.1, HR.out.1, HR.out.2.1, HR.out.2.2⟩

set_option maxRecDepth 100000 in
set_option maxHeartbeats 8000000 in
theorem contq3 {b len cap : Nat} {a : Option Addr} {zs : List Int} {st : St} {w : World} (s : Sg) (ah at1 : Option Addr) (nh ch nt ct : Nat) (hda : s.data = []) (hcl : s.clm = []) (hty : isD s.typ = true) (hk : ¬ (1 ≤ s.typ ∧ s.typ ≤ 3)) (hne : st.1 = 0 → a ≠ none) (h : Aq w b a len cap zs st) :
    Calls Tryd.prog 40 #[.pointer (some ⟨b, 0, none⟩), .agg (sC s (.slice ah nh ch) (.slice at1 nt ct) nlQ nlQ)] w (ContQ b a len cap zs st (contp (shp s.typ) s) s (.slice ah nh ch) (.slice at1 nt ct) w) := by
  have D0 : Hid (Dq w _ b a len cap zs st (sC s (.slice ah nh ch) (.slice at1 nt ct) nlQ nlQ)) := Dq.start _ h
  have HSs : Hid (s.data = [] ∧ s.clm = []) := ⟨hda, hcl⟩
  have HNe : Hid (st.1 = 0 → a ≠ none) := hne
  have HLo : Hid (b < w.heap.size) := h.lt
  have HDt : Hid (isD s.typ = true) := hty
  have HK : Hid (shp s.typ = 3) := (shp_data hty).2 hk
  have HTy : Hid (¬ (1 ≤ s.typ ∧ s.typ ≤ 3)) := hk
  clear hty hk
  obtain ⟨P, hP⟩ : ∃ P, ContQ b a len cap zs st (contp (shp s.typ) s) s (.slice ah nh ch) (.slice at1 nt ct) w = P := ⟨_, rfl⟩
  have HP : Hid (ContQ b a len cap zs st (contp (shp s.typ) s) s (.slice ah nh ch) (.slice at1 nt ct) w = P) := hP
  rw [hP]
  obtain ⟨W0, hW0⟩ : ∃ x, ((w.alloc (.cells (sC s (.slice ah nh ch) (.slice at1 nt ct) nlQ nlQ) 28)).alloc (.cells zC 28)) = x := ⟨_, rfl⟩
  have HW0 : Hid (((w.alloc (.cells (sC s (.slice ah nh ch) (.slice at1 nt ct) nlQ nlQ) 28)).alloc (.cells zC 28)) = W0) := hW0
  have HS0 : Hid (W0.heap.size = w.heap.size + 2) := by show _ = _; rw [← hW0]; simp
  rw [hW0] at D0
  clear h hda hcl hne hP hW0
  obtain ⟨y0, y1, y2, y3, y4, y5, y6, y7, y8, y9, y10, y11, y12, y13⟩ := q14_cells D0.out.seg
  go_enter Tryd.func40, Tryd.ntmps40
  go_wp2_with fail
  rw [HW0.out]
  refine (datk_any _ _).mono ?_
  rintro e w' ⟨rfl, rfl⟩
  rw [HDt.out]
  go_wp2_with fail
  refine (datq3_any s ah at1 nh ch nt ct HSs.out.1 HSs.out.2 HTy.out HNe.out D0.out.aq).mono ?_
  rintro e w5 ⟨s', ad, cd, ac, cc, s5, rfl, ha, hm, hg, hst, hhd, hmo⟩
  have D5 : Hid (Dq w w5 b a len cap zs s5 (sC s (.slice ah nh ch) (.slice at1 nt ct) nlQ nlQ)) := D0.out.step ha hg
  have HM : Hid (Mid w5 (w.heap.size + 2) s' (.slice ad s'.data.length cd) (.slice ac s'.clm.length cc)) := by rw [← HS0.out]; exact hm
  have HR : Hid (Step zs (contp (shp s.typ) s) st s' s5 ∧ s'.head = s.head ∧ (s5.1 = 0 → st.1 = 0)) := ⟨by rw [HK.out]; unfold contp; rw [if_pos (.inl rfl)]; exact hst, hhd, hmo⟩
  clear ha hm hg hst hhd hmo y0 y1 y2 y3 y4 y5 y6 y7 y8 y9 y10 y11 y12 y13 D0
  have hstor : StorQ Tryd.prog 28 w5 (.pointer (some ⟨w.heap.size + 1, 0, none⟩)) (.agg (sC s' (.slice ah nh ch) (.slice at1 nt ct) (.slice ad s'.data.length cd) (.slice ac s'.clm.length cc))) := ⟨w.heap.size + 1, _, _, _, rfl, rfl, D5.out.res, rfl, size_sgq, by simp [Value.oneCell']⟩
  go_wp2_with fail
  have hdone := D5.out.done (T := sC s' (.slice ah nh ch) (.slice at1 nt ct) (.slice ad s'.data.length cd) (.slice ac s'.clm.length cc))
  have hlv := fun j => cell_of_row _ (w.heap.size + 1) j _ _ _ hdone.2.2
  refine bodyPost_ret (v := .agg (sC s' (.slice ah nh ch) (.slice at1 nt ct) (.slice ad s'.data.length cd) (.slice ac s'.clm.length cc))) (by simp [results, Tryd.results40, go_sem, hlv]) rfl ?_
  rw [← HP.out]
  exact ⟨s', ad, cd, ac, cc, s5, rfl, hdone.1, HM.out.low (grown_setRow _ _ _) (by omega) (by omega), hdone.2.1, HR.out.1, HR.out.2.1, HR.out.2.2⟩

set_option maxRecDepth 100000 in
set_option maxHeartbeats 8000000 in
theorem contq8 {b len cap : Nat} {a : Option Addr} {zs : List Int} {st : St} {w : World} (s : Sg) (ah at1 : Option Addr) (nh ch nt ct : Nat) (hda : s.data = []) (hcl : s.clm = []) (hty : s.typ = 8) (hne : st.1 = 0 → a ≠ none) (h : Aq w b a len cap zs st) :
    Calls Tryd.prog 40 #[.pointer (some ⟨b, 0, none⟩), .agg (sC s (.slice ah nh ch) (.slice at1 nt ct) nlQ nlQ)] w (ContQ b a len cap zs st (contp (shp s.typ) s) s (.slice ah nh ch) (.slice at1 nt ct) w) := by
  have D0 : Hid (Dq w _ b a len cap zs st (sC s (.slice ah nh ch) (.slice at1 nt ct) nlQ nlQ)) := Dq.start _ h
  have HSs : Hid (s.data = [] ∧ s.clm = []) := ⟨hda, hcl⟩
  have HNe : Hid (st.1 = 0 → a ≠ none) := hne
  have HLo : Hid (b < w.heap.size) := h.lt
  have HDt : Hid (isD s.typ = false) := by show _ = _; rw [hty]; decide
  have HK : Hid (shp s.typ = 9) := by show _ = _; rw [hty]; decide
  have e8 : (s.typ == 8) = true := by rw [hty]; rfl
  clear hty
  obtain ⟨P, hP⟩ : ∃ P, ContQ b a len cap zs st (contp (shp s.typ) s) s (.slice ah nh ch) (.slice at1 nt ct) w = P := ⟨_, rfl⟩
  have HP : Hid (ContQ b a len cap zs st (contp (shp s.typ) s) s (.slice ah nh ch) (.slice at1 nt ct) w = P) := hP
  rw [hP]
  obtain ⟨W0, hW0⟩ : ∃ x, ((w.alloc (.cells (sC s (.slice ah nh ch) (.slice at1 nt ct) nlQ nlQ) 28)).alloc (.cells zC 28)) = x := ⟨_, rfl⟩
  have HW0 : Hid (((w.alloc (.cells (sC s (.slice ah nh ch) (.slice at1 nt ct) nlQ nlQ) 28)).alloc (.cells zC 28)) = W0) := hW0
  have HS0 : Hid (W0.heap.size = w.heap.size + 2) := by show _ = _; rw [← hW0]; simp
  rw [hW0] at D0
  clear h hda hcl hne hP hW0
  obtain ⟨y0, y1, y2, y3, y4, y5, y6, y7, y8, y9, y10, y11, y12, y13⟩ := q14_cells D0.out.seg
  go_enter Tryd.func40, Tryd.ntmps40
  go_wp2_with fail
  rw [HW0.out]
  refine (datk_any _ _).mono ?_
  rintro e w' ⟨rfl, rfl⟩
  rw [HDt.out]
  go_wp2_with fail
  refine (repq_any s ah at1 nh ch nt ct HSs.out.1 HSs.out.2 D0.out.aq).mono ?_
  rintro e w5 ⟨s', ad, cd, ac, cc, s5, rfl, ha, hm, hg, hst, hhd, hmo⟩
  have D5 : Hid (Dq w w5 b a len cap zs s5 (sC s (.slice ah nh ch) (.slice at1 nt ct) nlQ nlQ)) := D0.out.step ha hg
  have HM : Hid (Mid w5 (w.heap.size + 2) s' (.slice ad s'.data.length cd) (.slice ac s'.clm.length cc)) := by rw [← HS0.out]; exact hm
  have HR : Hid (Step zs (contp (shp s.typ) s) st s' s5 ∧ s'.head = s.head ∧ (s5.1 = 0 → st.1 = 0)) := ⟨by rw [HK.out]; unfold contp; rw [if_neg (by decide), if_pos rfl]; exact hst, hhd, hmo⟩
  clear ha hm hg hst hhd hmo y0 y1 y2 y3 y4 y5 y6 y7 y8 y9 y10 y11 y12 y13 D0
  have hstor : StorQ Tryd.prog 28 w5 (.pointer (some ⟨w.heap.size + 1, 0, none⟩)) (.agg (sC s' (.slice ah nh ch) (.slice at1 nt ct) (.slice ad s'.data.length cd) (.slice ac s'.clm.length cc))) := ⟨w.heap.size + 1, _, _, _, rfl, rfl, D5.out.res, rfl, size_sgq, by simp [Value.oneCell']⟩
  go_wp2_with fail
  have hdone := D5.out.done (T := sC s' (.slice ah nh ch) (.slice at1 nt ct) (.slice ad s'.data.length cd) (.slice ac s'.clm.length cc))
  have hlv := fun j => cell_of_row _ (w.heap.size + 1) j _ _ _ hdone.2.2
  refine bodyPost_ret (v := .agg (sC s' (.slice ah nh ch) (.slice at1 nt ct) (.slice ad s'.data.length cd) (.slice ac s'.clm.length cc))) (by simp [results, Tryd.results40, go_sem, hlv]) rfl ?_
  rw [← HP.out]
  exact ⟨s', ad, cd, ac, cc, s5, rfl, hdone.1, HM.out.low (grown_setRow _ _ _) (by omega) (by omega), hdone.2.1, HR.out.1, HR.out.2.1, HR.out.2.2⟩

set_option maxRecDepth 100000 in
set_option maxHeartbeats 8000000 in
theorem contq9 {b len cap : Nat} {a : Option Addr} {zs : List Int} {st : St} {w : World} (s : Sg) (ah at1 : Option Addr) (nh ch nt ct : Nat) (hda : s.data = []) (hcl : s.clm = []) (hty : s.typ = 9) (hne : st.1 = 0 → a ≠ none) (h : Aq w b a len cap zs st) :
    Calls Tryd.prog 40 #[.pointer (some ⟨b, 0, none⟩), .agg (sC s (.slice ah nh ch) (.slice at1 nt ct) nlQ nlQ)] w (ContQ b a len cap zs st (contp (shp s.typ) s) s (.slice ah nh ch) (.slice at1 nt ct) w) := by
  have D0 : Hid (Dq w _ b a len cap zs st (sC s (.slice ah nh ch) (.slice at1 nt ct) nlQ nlQ)) := Dq.start _ h
  have HSs : Hid (s.data = [] ∧ s.clm = []) := ⟨hda, hcl⟩
  have HNe : Hid (st.1 = 0 → a ≠ none) := hne
  have HLo : Hid (b < w.heap.size) := h.lt
  have HDt : Hid (isD s.typ = false) := by show _ = _; rw [hty]; decide
  have HK : Hid (shp s.typ = 17) := by show _ = _; rw [hty]; decide
  have e8 : (s.typ == 8) = false := by rw [hty]; rfl
  have e9 : (s.typ == 9) = true := by rw [hty]; rfl
  clear hty
  obtain ⟨P, hP⟩ : ∃ P, ContQ b a len cap zs st (contp (shp s.typ) s) s (.slice ah nh ch) (.slice at1 nt ct) w = P := ⟨_, rfl⟩
  have HP : Hid (ContQ b a len cap zs st (contp (shp s.typ) s) s (.slice ah nh ch) (.slice at1 nt ct) w = P) := hP
  rw [hP]
  obtain ⟨W0, hW0⟩ : ∃ x, ((w.alloc (.cells (sC s (.slice ah nh ch) (.slice at1 nt ct) nlQ nlQ) 28)).alloc (.cells zC 28)) = x := ⟨_, rfl⟩
  have HW0 : Hid (((w.alloc (.cells (sC s (.slice ah nh ch) (.slice at1 nt ct) nlQ nlQ) 28)).alloc (.cells zC 28)) = W0) := hW0
  have HS0 : Hid (W0.heap.size = w.heap.size + 2) := by show _ = _; rw [← hW0]; simp
  rw [hW0] at D0
  clear h hda hcl hne hP hW0
  obtain ⟨y0, y1, y2, y3, y4, y5, y6, y7, y8, y9, y10, y11, y12, y13⟩ := q14_cells D0.out.seg
  go_enter Tryd.func40, Tryd.ntmps40
  go_wp2_with fail
  rw [HW0.out]
  refine (datk_any _ _).mono ?_
  rintro e w' ⟨rfl, rfl⟩
  rw [HDt.out]
  go_wp2_with fail
  refine (numq_any D0.out.aq).mono ?_
  rintro e w1 ⟨v0, s1, rfl, ha, hg, hs, p0, q0⟩
  have hd := D0.out.step ha hg
  have z0 := hd.fz 9
  obtain ⟨x0, x1, x2, x3, x4, x5, x6, x7, x8, x9, x10, x11, x12, x13⟩ := q14_cells hd.seg
  have D1 : Hid (Dq w (w1.setCell ⟨w.heap.size, 9, none⟩ (.int .i64 v0)) b a len cap zs s1 (sC { s with rep := v0 } (.slice ah nh ch) (.slice at1 nt ct) nlQ nlQ)) := hd.put 9 _ _ rfl
  have R0 : Hid (numR zs st = (v0, s1)) := hs
  clear ha hg hs D0 hd y0 y1 y2 y3 y4 y5 y6 y7 y8 y9 y10 y11 y12 y13
  obtain ⟨y0, y1, y2, y3, y4, y5, y6, y7, y8, y9, y10, y11, y12, y13⟩ := q14_cells D1.out.seg
  go_wp2_with fail
  refine (wantq_any _ D1.out.aq).mono ?_
  rintro e w2 ⟨rfl, ha, hg⟩
  have D2 : Hid (Dq w w2 b a len cap zs (wst (decide (1 ≤ v0)) s1) (sC { s with rep := v0 } (.slice ah nh ch) (.slice at1 nt ct) nlQ nlQ)) := D1.out.step ha hg
  clear ha hg D1 x0 x1 x2 x3 x4 x5 x6 x7 x8 x9 x10 x11 x12 x13 y0 y1 y2 y3 y4 y5 y6 y7 y8 y9 y10 y11 y12 y13
  obtain ⟨y0, y1, y2, y3, y4, y5, y6, y7, y8, y9, y10, y11, y12, y13⟩ := q14_cells D2.out.seg
  have hstor : StorQ Tryd.prog 28 w2 (.pointer (some ⟨w.heap.size + 1, 0, none⟩)) (.agg (sC { s with rep := v0 } (.slice ah nh ch) (.slice at1 nt ct) nlQ nlQ)) := ⟨w.heap.size + 1, _, _, _, rfl, rfl, D2.out.res, rfl, size_sgq, by simp [Value.oneCell']⟩
  go_wp2_with fail
  have hdone := D2.out.done (T := sC { s with rep := v0 } (.slice ah nh ch) (.slice at1 nt ct) nlQ nlQ)
  have hlv := fun j => cell_of_row _ (w.heap.size + 1) j _ _ _ hdone.2.2
  refine bodyPost_ret (v := .agg (sC { s with rep := v0 } (.slice ah nh ch) (.slice at1 nt ct) nlQ nlQ)) (by simp [results, Tryd.results40, go_sem, hlv]) rfl ?_
  rw [← HP.out]
  refine ⟨{ s with rep := v0 }, none, 0, none, 0, _, ?_, hdone.1, ?_, hdone.2.1, ?_, rfl, fun h7 => numR_zero R0.out (wst_zero h7).1⟩
  · show _ = Ending.returned (.agg (sC _ _ _ (.slice none s.data.length 0) (.slice none s.clm.length 0)))
    rw [HSs.out.1, HSs.out.2]; rfl
  · show Mid _ _ _ (.slice none s.data.length 0) (.slice none s.clm.length 0)
    rw [HSs.out.1, HSs.out.2]
    exact mid_nil _ _ _ (by first | exact HSs.out.1 | rfl) (by first | exact HSs.out.2 | rfl)
  rw [HK.out]
  unfold contp
  rw [if_neg (by decide), if_neg (by decide), if_pos rfl]
  exact (numR_step R0.out (ok := decide (1 ≤ v0)) (lo := 1) (hi := mn) (fun _ => by simp [mn]; omega)).bind (Step.ret _)

set_option maxRecDepth 100000 in
set_option maxHeartbeats 8000000 in
theorem contq33 {b len cap : Nat} {a : Option Addr} {zs : List Int} {st : St} {w : World} (s : Sg) (ah at1 : Option Addr) (nh ch nt ct : Nat) (hda : s.data = []) (hcl : s.clm = []) (hty : s.typ = 12 ∨ s.typ = 14) (hne : st.1 = 0 → a ≠ none) (h : Aq w b a len cap zs st) :
    Calls Tryd.prog 40 #[.pointer (some ⟨b, 0, none⟩), .agg (sC s (.slice ah nh ch) (.slice at1 nt ct) nlQ nlQ)] w (ContQ b a len cap zs st (contp (shp s.typ) s) s (.slice ah nh ch) (.slice at1 nt ct) w) := by
  have D0 : Hid (Dq w _ b a len cap zs st (sC s (.slice ah nh ch) (.slice at1 nt ct) nlQ nlQ)) := Dq.start _ h
  have HSs : Hid (s.data = [] ∧ s.clm = []) := ⟨hda, hcl⟩
  have HNe : Hid (st.1 = 0 → a ≠ none) := hne
  have HLo : Hid (b < w.heap.size) := h.lt
  have HDt : Hid (isD s.typ = false) := by show _ = _; rcases hty with h | h <;> rw [h] <;> decide
  have HK : Hid (shp s.typ = 33) := by show _ = _; rcases hty with h | h <;> rw [h] <;> decide
  have e8 : (s.typ == 8) = false := by rcases hty with h | h <;> rw [h] <;> rfl
  have e9 : (s.typ == 9) = false := by rcases hty with h | h <;> rw [h] <;> rfl
  have HT2 : Hid (s.typ = 12 ∨ s.typ = 14) := hty
  clear hty
  obtain ⟨P, hP⟩ : ∃ P, ContQ b a len cap zs st (contp (shp s.typ) s) s (.slice ah nh ch) (.slice at1 nt ct) w = P := ⟨_, rfl⟩
  have HP : Hid (ContQ b a len cap zs st (contp (shp s.typ) s) s (.slice ah nh ch) (.slice at1 nt ct) w = P) := hP
  rw [hP]
  obtain ⟨W0, hW0⟩ : ∃ x, ((w.alloc (.cells (sC s (.slice ah nh ch) (.slice at1 nt ct) nlQ nlQ) 28)).alloc (.cells zC 28)) = x := ⟨_, rfl⟩
  have HW0 : Hid (((w.alloc (.cells (sC s (.slice ah nh ch) (.slice at1 nt ct) nlQ nlQ) 28)).alloc (.cells zC 28)) = W0) := hW0
  have HS0 : Hid (W0.heap.size = w.heap.size + 2) := by show _ = _; rw [← hW0]; simp
  rw [hW0] at D0
  clear h hda hcl hne hP hW0
  obtain ⟨y0, y1, y2, y3, y4, y5, y6, y7, y8, y9, y10, y11, y12, y13⟩ := q14_cells D0.out.seg
  go_enter Tryd.func40, Tryd.ntmps40
  go_wp2_with fail
  rw [HW0.out]
  refine (datk_any _ _).mono ?_
  rintro e w' ⟨rfl, rfl⟩
  rw [HDt.out]
  have e12 : ((s.typ == 12) = true) ∨ ((s.typ == 12) = false ∧ (s.typ == 14) = true) := by rcases HT2.out with h | h <;> rw [h] <;> decide
  rcases e12 with e12 | ⟨e12, e14⟩
  all_goals (
    go_wp2_with fail
    refine (octq_any D0.out.aq).mono ?_
    rintro e w1 ⟨v0, s1, rfl, ha, hg, hs, p0, q0, hm1, _⟩
    have hd := D0.out.step ha hg
    have z0 := hd.fz 13
    obtain ⟨x0, x1, x2, x3, x4, x5, x6, x7, x8, x9, x10, x11, x12, x13⟩ := q14_cells hd.seg
    have D1 : Hid (Dq w (w1.setCell ⟨w.heap.size, 13, none⟩ (.int .i64 v0)) b a len cap zs s1 (sC { s with rsn := v0 } (.slice ah nh ch) (.slice at1 nt ct) nlQ nlQ)) := hd.put 13 _ _ rfl
    have R0 : Hid (Step zs oct st v0 s1 ∧ (s1.1 = 0 → st.1 = 0)) := ⟨hs, hm1⟩
    clear ha hg hs hm1 D0 hd y0 y1 y2 y3 y4 y5 y6 y7 y8 y9 y10 y11 y12 y13
    obtain ⟨y0, y1, y2, y3, y4, y5, y6, y7, y8, y9, y10, y11, y12, y13⟩ := q14_cells D1.out.seg
    go_wp2_with fail
    refine (wantq_any _ D1.out.aq).mono ?_
    rintro e w2 ⟨rfl, ha, hg⟩
    have D2 : Hid (Dq w w2 b a len cap zs (wst (decide (v0 ≤ 5)) s1) (sC { s with rsn := v0 } (.slice ah nh ch) (.slice at1 nt ct) nlQ nlQ)) := D1.out.step ha hg
    clear ha hg D1 x0 x1 x2 x3 x4 x5 x6 x7 x8 x9 x10 x11 x12 x13 y0 y1 y2 y3 y4 y5 y6 y7 y8 y9 y10 y11 y12 y13
    obtain ⟨y0, y1, y2, y3, y4, y5, y6, y7, y8, y9, y10, y11, y12, y13⟩ := q14_cells D2.out.seg
    have hstor : StorQ Tryd.prog 28 w2 (.pointer (some ⟨w.heap.size + 1, 0, none⟩)) (.agg (sC { s with rsn := v0 } (.slice ah nh ch) (.slice at1 nt ct) nlQ nlQ)) := ⟨w.heap.size + 1, _, _, _, rfl, rfl, D2.out.res, rfl, size_sgq, by simp [Value.oneCell']⟩
    go_wp2_with fail
    have hdone := D2.out.done (T := sC { s with rsn := v0 } (.slice ah nh ch) (.slice at1 nt ct) nlQ nlQ)
    have hlv := fun j => cell_of_row _ (w.heap.size + 1) j _ _ _ hdone.2.2
    refine bodyPost_ret (v := .agg (sC { s with rsn := v0 } (.slice ah nh ch) (.slice at1 nt ct) nlQ nlQ)) (by simp [results, Tryd.results40, go_sem, hlv]) rfl ?_
    rw [← HP.out]
    refine ⟨{ s with rsn := v0 }, none, 0, none, 0, _, ?_, hdone.1, ?_, hdone.2.1, ?_, rfl, fun h7 => R0.out.2 (wst_zero h7).1⟩
    · show _ = Ending.returned (.agg (sC _ _ _ (.slice none s.data.length 0) (.slice none s.clm.length 0)))
      rw [HSs.out.1, HSs.out.2]; rfl
    · show Mid _ _ _ (.slice none s.data.length 0) (.slice none s.clm.length 0)
      rw [HSs.out.1, HSs.out.2]
      exact mid_nil _ _ _ (by first | exact HSs.out.1 | rfl) (by first | exact HSs.out.2 | rfl)
    rw [HK.out]
    unfold contp
    rw [if_neg (by decide), if_neg (by decide), if_neg (by decide), if_pos rfl]
    exact reason_step s R0.out.1)

set_option maxRecDepth 100000 in
set_option maxHeartbeats 8000000 in
theorem contq0 {b len cap : Nat} {a : Option Addr} {zs : List Int} {st : St} {w : World} (s : Sg) (ah at1 : Option Addr) (nh ch nt ct : Nat) (hda : s.data = []) (hcl : s.clm = []) (hty : isD s.typ = false) (h8 : s.typ ≠ 8) (h9 : s.typ ≠ 9) (h12 : s.typ ≠ 12) (h14 : s.typ ≠ 14) (hne : st.1 = 0 → a ≠ none) (h : Aq w b a len cap zs st) :
    Calls Tryd.prog 40 #[.pointer (some ⟨b, 0, none⟩), .agg (sC s (.slice ah nh ch) (.slice at1 nt ct) nlQ nlQ)] w (ContQ b a len cap zs st (contp (shp s.typ) s) s (.slice ah nh ch) (.slice at1 nt ct) w) := by
  have D0 : Hid (Dq w _ b a len cap zs st (sC s (.slice ah nh ch) (.slice at1 nt ct) nlQ nlQ)) := Dq.start _ h
  have HSs : Hid (s.data = [] ∧ s.clm = []) := ⟨hda, hcl⟩
  have HNe : Hid (st.1 = 0 → a ≠ none) := hne
  have HLo : Hid (b < w.heap.size) := h.lt
  have HDt : Hid (isD s.typ = false) := hty
  have HK : Hid (shp s.typ = 0 ∨ shp s.typ = 1) := shp_rest hty h8 h9 h12 h14
  have e8 : (s.typ == 8) = false := by simpa using h8
  have e9 : (s.typ == 9) = false := by simpa using h9
  have e12 : (s.typ == 12) = false := by simpa using h12
  have e14 : (s.typ == 14) = false := by simpa using h14
  clear hty h8 h9 h12 h14
  obtain ⟨P, hP⟩ : ∃ P, ContQ b a len cap zs st (contp (shp s.typ) s) s (.slice ah nh ch) (.slice at1 nt ct) w = P := ⟨_, rfl⟩
  have HP : Hid (ContQ b a len cap zs st (contp (shp s.typ) s) s (.slice ah nh ch) (.slice at1 nt ct) w = P) := hP
  rw [hP]
  obtain ⟨W0, hW0⟩ : ∃ x, ((w.alloc (.cells (sC s (.slice ah nh ch) (.slice at1 nt ct) nlQ nlQ) 28)).alloc (.cells zC 28)) = x := ⟨_, rfl⟩
  have HW0 : Hid (((w.alloc (.cells (sC s (.slice ah nh ch) (.slice at1 nt ct) nlQ nlQ) 28)).alloc (.cells zC 28)) = W0) := hW0
  have HS0 : Hid (W0.heap.size = w.heap.size + 2) := by show _ = _; rw [← hW0]; simp
  rw [hW0] at D0
  clear h hda hcl hne hP hW0
  obtain ⟨y0, y1, y2, y3, y4, y5, y6, y7, y8, y9, y10, y11, y12, y13⟩ := q14_cells D0.out.seg
  go_enter Tryd.func40, Tryd.ntmps40
  go_wp2_with fail
  rw [HW0.out]
  refine (datk_any _ _).mono ?_
  rintro e w' ⟨rfl, rfl⟩
  rw [HDt.out]
  have hstor : StorQ Tryd.prog 28 W0 (.pointer (some ⟨w.heap.size + 1, 0, none⟩)) (.agg (sC s (.slice ah nh ch) (.slice at1 nt ct) nlQ nlQ)) := ⟨w.heap.size + 1, _, _, _, rfl, rfl, D0.out.res, rfl, size_sgq, by simp [Value.oneCell']⟩
  go_wp2_with fail
  have hdone := D0.out.done (T := sC s (.slice ah nh ch) (.slice at1 nt ct) nlQ nlQ)
  have hlv := fun j => cell_of_row _ (w.heap.size + 1) j _ _ _ hdone.2.2
  refine bodyPost_ret (v := .agg (sC s (.slice ah nh ch) (.slice at1 nt ct) nlQ nlQ)) (by simp [results, Tryd.results40, go_sem, hlv]) rfl ?_
  rw [← HP.out]
  refine ⟨s, none, 0, none, 0, _, ?_, hdone.1, ?_, hdone.2.1, ?_, rfl, id⟩
  · show _ = Ending.returned (.agg (sC _ _ _ (.slice none s.data.length 0) (.slice none s.clm.length 0)))
    rw [HSs.out.1, HSs.out.2]; rfl
  · show Mid _ _ _ (.slice none s.data.length 0) (.slice none s.clm.length 0)
    rw [HSs.out.1, HSs.out.2]
    exact mid_nil _ _ _ (by first | exact HSs.out.1 | rfl) (by first | exact HSs.out.2 | rfl)
  rcases HK.out with h | h
  · rw [h]; exact Step.ret _
  · rw [h]; exact Step.ret _

/-- What a type has: any segment. -/
theorem contq_any {b len cap : Nat} {a : Option Addr} {zs : List Int} {st : St} {w : World} (s : Sg) (ah at1 : Option Addr) (nh ch nt ct : Nat) (hda : s.data = []) (hcl : s.clm = []) (hne : st.1 = 0 → a ≠ none) (h : Aq w b a len cap zs st) :
    Calls Tryd.prog 40 #[.pointer (some ⟨b, 0, none⟩), .agg (sC s (.slice ah nh ch) (.slice at1 nt ct) nlQ nlQ)] w (ContQ b a len cap zs st (contp (shp s.typ) s) s (.slice ah nh ch) (.slice at1 nt ct) w) := by
  by_cases hd : isD s.typ = true
  · by_cases hk : 1 ≤ s.typ ∧ s.typ ≤ 3
    · exact contq7 s ah at1 nh ch nt ct hda hcl hd hk hne h
    · exact contq3 s ah at1 nh ch nt ct hda hcl hd hk hne h
  · have hd' : isD s.typ = false := by simpa using hd
    by_cases h8 : s.typ = 8
    · exact contq8 s ah at1 nh ch nt ct hda hcl h8 hne h
    · by_cases h9 : s.typ = 9
      · exact contq9 s ah at1 nh ch nt ct hda hcl h9 hne h
      · by_cases h12 : s.typ = 12 ∨ s.typ = 14
        · exact contq33 s ah at1 nh ch nt ct hda hcl h12 hne h
        · exact contq0 s ah at1 nh ch nt ct hda hcl hd' h8 h9 (fun e => h12 (.inl e)) (fun e => h12 (.inr e)) hne h

end Go.Proofs.YtkkmoplijicmpabDoor
