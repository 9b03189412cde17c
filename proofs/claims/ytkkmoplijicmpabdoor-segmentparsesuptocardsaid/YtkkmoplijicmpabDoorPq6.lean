import Derived.Test.YtkkmoplijicmpabDoorPq5
namespace Go.Proofs.YtkkmoplijicmpabDoor
open Go.RowKit
set_option linter.unusedVariables false
set_option linter.unusedSimpArgs false
attribute [local go_sem ↓] wp_storeQ
attribute [local go_sem] pBlkQ_ptr pAggQ_agg

theorem numR_dead {zs : List Int} {st st1 : St} {v : Int} (h : numR zs st = (v, st1)) (h0 : st.1 ≠ 0) : v = 0 := by
  unfold numR at h
  rw [if_pos h0] at h
  simp only [Prod.mk.injEq] at h
  exact h.1.symm

/-- Where the loop over the claims stands. -/
def LpQ (w wr : World) (b : Nat) (a : Option Addr) (len cap : Nat) (zs : List Int) (s9 : St) (s5 : Sg) (hv tv : Value) (N k : Nat) (last : Int) : Prop :=
  ∃ (cl : List (Int × Int)) (ac : Option Addr) (cc : Nat) (st' : St), -1 ≤ last ∧ last ≤ 4611686018427500000 ∧ cl.length = k ∧ k ≤ N ∧ k ≤ 1000 ∧ Dq w wr b a len cap zs st' (sC s5 hv tv nlQ (.slice ac k cc)) ∧ wr.ownsRow (w.heap.size + 2) 37 2 (.slice ac k cc) k (cl.flatMap spc) ∧ (st'.1 = 0 → s9.1 = 0) ∧ (∀ (β : Type) (K : List (Int × Int) → Pr β), fin ((claimsp s5.low s5.upp N 0 []).bind K) zs s9 = fin ((claimsp s5.low s5.upp (N - k) (last + 1) cl).bind K) zs st')

set_option maxRecDepth 100000 in
set_option maxHeartbeats 32000000 in
theorem repq_any {b len cap : Nat} {a : Option Addr} {zs : List Int} {st : St} {w : World} (s : Sg) (ah at1 : Option Addr) (nh ch nt ct : Nat) (hda : s.data = []) (hcl : s.clm = []) (h : Aq w b a len cap zs st) :
    Calls Tryd.prog 70 #[.pointer (some ⟨b, 0, none⟩), .agg (sC s (.slice ah nh ch) (.slice at1 nt ct) nlQ nlQ)] w (ContQ b a len cap zs st (reportp s) s (.slice ah nh ch) (.slice at1 nt ct) w) := by
  obtain ⟨i0, hi, hz0, hz1, hz2⟩ := info_parts Tryd.info_span
  have D0 : Hid (Dq w _ b a len cap zs st (sC s (.slice ah nh ch) (.slice at1 nt ct) nlQ nlQ)) := Dq.start _ h
  have HSs : Hid (s.data = [] ∧ s.clm = []) := ⟨hda, hcl⟩
  have HLo : Hid (b < w.heap.size) := h.lt
  obtain ⟨P, hP⟩ : ∃ P, ContQ b a len cap zs st (reportp s) s (.slice ah nh ch) (.slice at1 nt ct) w = P := ⟨_, rfl⟩
  have HP : Hid (ContQ b a len cap zs st (reportp s) s (.slice ah nh ch) (.slice at1 nt ct) w = P) := hP
  rw [hP]
  clear h hda hcl hP
  go_enter Tryd.func70, Tryd.ntmps70
  go_wp2_with fail
  refine (numq_any D0.out.aq).mono ?_
  rintro e w1 ⟨v0, s1, rfl, ha, hg, hs, p0, q0⟩
  have hd := D0.out.step ha hg
  have z0 := hd.fz 9
  obtain ⟨x0, x1, x2, x3, x4, x5, x6, x7, x8, x9, x10, x11, x12, x13⟩ := q14_cells hd.seg
  have D1 : Hid (Dq w (w1.setCell ⟨w.heap.size, 9, none⟩ (.int .i64 v0)) b a len cap zs s1 (sC { s with rep := v0 } (.slice ah nh ch) (.slice at1 nt ct) nlQ nlQ)) := hd.put 9 _ _ rfl
  clear hd
  have R0 : Hid (numR zs st = (v0, s1)) := hs
  clear ha hg hs D0
  obtain ⟨y0, y1, y2, y3, y4, y5, y6, y7, y8, y9, y10, y11, y12, y13⟩ := q14_cells D1.out.seg
  go_wp2_with fail
  refine (wantq_any _ D1.out.aq).mono ?_
  rintro e w2 ⟨rfl, ha, hg⟩
  obtain ⟨okA, s2, hok, hst, ha4⟩ : ∃ (ok : Bool) (sx : St), (ok = true ↔ 1 ≤ v0 ∧ v0 ≤ mn) ∧ wst ok s1 = sx ∧ Aq w2 b a len cap zs sx := ⟨_, _, by simp [mn]; omega, rfl, ha⟩
  have D2 : Hid (Dq w w2 b a len cap zs s2 (sC { s with rep := v0 } (.slice ah nh ch) (.slice at1 nt ct) nlQ nlQ)) := D1.out.step ha4 hg
  have OA : Hid ((okA = true ↔ 1 ≤ v0 ∧ v0 ≤ mn) ∧ wst okA s1 = s2) := ⟨hok, hst⟩
  clear ha hg hok hst ha4 D1 y0 y1 y2 y3 y4 y5 y6 y7 y8 y9 y10 y11 y12 y13 x0 x1 x2 x3 x4 x5 x6 x7 x8 x9 x10 x11 x12 x13
  go_wp2_with fail
  refine (numq_any D2.out.aq).mono ?_
  rintro e w3 ⟨v1, s3, rfl, ha, hg, hs, p1, q1⟩
  have hd := D2.out.step ha hg
  have z1 := hd.fz 8
  obtain ⟨x0, x1, x2, x3, x4, x5, x6, x7, x8, x9, x10, x11, x12, x13⟩ := q14_cells hd.seg
  have D3 : Hid (Dq w (w3.setCell ⟨w.heap.size, 8, none⟩ (.int .i64 v1)) b a len cap zs s3 (sC { s with rep := v0, chk := v1 } (.slice ah nh ch) (.slice at1 nt ct) nlQ nlQ)) := hd.put 8 _ _ rfl
  clear hd
  have R1 : Hid (numR zs s2 = (v1, s3)) := hs
  clear ha hg hs D2
  go_wp2_with fail
  refine (numq_any D3.out.aq).mono ?_
  rintro e w4 ⟨v2, s4, rfl, ha, hg, hs, p2, q2⟩
  have hd := D3.out.step ha hg
  have z2 := hd.fz 10
  obtain ⟨x0, x1, x2, x3, x4, x5, x6, x7, x8, x9, x10, x11, x12, x13⟩ := q14_cells hd.seg
  have D4 : Hid (Dq w (w4.setCell ⟨w.heap.size, 10, none⟩ (.int .i64 v2)) b a len cap zs s4 (sC { s with rep := v0, chk := v1, upp := v2 } (.slice ah nh ch) (.slice at1 nt ct) nlQ nlQ)) := hd.put 10 _ _ rfl
  clear hd
  have R2 : Hid (numR zs s3 = (v2, s4)) := hs
  clear ha hg hs D3
  go_upto_region 5 with fail
  go_cut [3] from 24 to 33 (fun q wx => q = .pointer (some ⟨w.heap.size, 0, none⟩) ∧ Hid (∃ (ok : Bool) (sx : St), (ok = true ↔ 1 ≤ v2 ∧ v2 ≤ 65536) ∧ wst ok s4 = sx ∧ Dq w wx b a len cap zs sx (sC { s with rep := v0, chk := v1, upp := v2 } (.slice ah nh ch) (.slice at1 nt ct) nlQ nlQ) ∧ (w4.setCell ⟨w.heap.size, 10, none⟩ (.int .i64 v2)).grownBy wx (some b)))
  case first =>
    obtain ⟨y0, y1, y2, y3, y4, y5, y6, y7, y8, y9, y10, y11, y12, y13⟩ := q14_cells D4.out.seg
    go_wp2_with fail
    all_goals (
      refine (wantq_any _ D4.out.aq).mono ?_
      rintro e wq ⟨rfl, ha, hg⟩
      have HX : Hid (∃ (ok : Bool) (sx : St), (ok = true ↔ 1 ≤ v2 ∧ v2 ≤ 65536) ∧ wst ok s4 = sx ∧ Dq w wq b a len cap zs sx (sC { s with rep := v0, chk := v1, upp := v2 } (.slice ah nh ch) (.slice at1 nt ct) nlQ nlQ) ∧ (w4.setCell ⟨w.heap.size, 10, none⟩ (.int .i64 v2)).grownBy wq (some b)) := ⟨_, _, by first | (simp; done) | (simp; omega) | omega, rfl, D4.out.step ha hg, hg⟩
      clear ha hg y0 y1 y2 y3 y4 y5 y6 y7 y8 y9 y10 y11 y12 y13
      go_wp2_with fail
      go_meet
      exact ⟨rfl, HX⟩)
  case rest =>
  obtain ⟨rfl, HX⟩ := hcut
  obtain ⟨w5, hwq⟩ : ∃ x, x = wc := ⟨_, rfl⟩
  subst hwq
  obtain ⟨okB, s5, hok, hst, hd5, hgq⟩ := HX.out
  have D5 : Hid (Dq w w5 b a len cap zs s5 (sC { s with rep := v0, chk := v1, upp := v2 } (.slice ah nh ch) (.slice at1 nt ct) nlQ nlQ)) := hd5
  have OB : Hid ((okB = true ↔ 1 ≤ v2 ∧ v2 ≤ 65536) ∧ wst okB s4 = s5) := ⟨hok, hst⟩
  clear hok hst hd5 hgq HX D4 x0 x1 x2 x3 x4 x5 x6 x7 x8 x9 x10 x11 x12 x13
  go_wp2_with fail
  refine (numq_any D5.out.aq).mono ?_
  rintro e w6 ⟨v3, s6, rfl, ha, hg, hs, p3, q3⟩
  have hd := D5.out.step ha hg
  have z3 := hd.fz 11
  obtain ⟨x0, x1, x2, x3, x4, x5, x6, x7, x8, x9, x10, x11, x12, x13⟩ := q14_cells hd.seg
  have D6 : Hid (Dq w (w6.setCell ⟨w.heap.size, 11, none⟩ (.int .i64 v3)) b a len cap zs s6 (sC { s with rep := v0, chk := v1, upp := v2, low := v3 } (.slice ah nh ch) (.slice at1 nt ct) nlQ nlQ)) := hd.put 11 _ _ rfl
  clear hd
  have R3 : Hid (numR zs s5 = (v3, s6)) := hs
  clear ha hg hs D5
  obtain ⟨y0, y1, y2, y3, y4, y5, y6, y7, y8, y9, y10, y11, y12, y13⟩ := q14_cells D6.out.seg
  go_wp2_with fail
  refine (wantq_any _ D6.out.aq).mono ?_
  rintro e w7 ⟨rfl, ha, hg⟩
  obtain ⟨okC, s7, hok, hst, ha4⟩ : ∃ (ok : Bool) (sx : St), (ok = true ↔ 0 ≤ v3 ∧ v3 ≤ v2 - 1) ∧ wst ok s6 = sx ∧ Aq w7 b a len cap zs sx := ⟨_, _, by simp; omega, rfl, ha⟩
  have D7 : Hid (Dq w w7 b a len cap zs s7 (sC { s with rep := v0, chk := v1, upp := v2, low := v3 } (.slice ah nh ch) (.slice at1 nt ct) nlQ nlQ)) := D6.out.step ha4 hg
  have OC : Hid ((okC = true ↔ 0 ≤ v3 ∧ v3 ≤ v2 - 1) ∧ wst okC s6 = s7) := ⟨hok, hst⟩
  clear ha hg hok hst ha4 D6 y0 y1 y2 y3 y4 y5 y6 y7 y8 y9 y10 y11 y12 y13 x0 x1 x2 x3 x4 x5 x6 x7 x8 x9 x10 x11 x12 x13
  go_wp2_with fail
  refine (numq_any D7.out.aq).mono ?_
  rintro e w8 ⟨v4, s8, rfl, ha, hg, hs, p4, q4⟩
  have D8 : Hid (Dq w w8 b a len cap zs s8 (sC { s with rep := v0, chk := v1, upp := v2, low := v3 } (.slice ah nh ch) (.slice at1 nt ct) nlQ nlQ)) := D7.out.step ha hg
  have R4 : Hid (numR zs s7 = (v4, s8)) := hs
  clear ha hg hs D7
  go_upto_region 9 with fail
  go_cut [5] from 46 to 53 (fun q wx => q = .int .i64 v4 ∧ Hid (∃ (ok : Bool) (sx : St), (ok = true ↔ 1 ≤ v4 ∧ v4 ≤ 1000) ∧ wst ok s8 = sx ∧ Dq w wx b a len cap zs sx (sC { s with rep := v0, chk := v1, upp := v2, low := v3 } (.slice ah nh ch) (.slice at1 nt ct) nlQ nlQ) ∧ w8.grownBy wx (some b)))
  case first =>
    obtain ⟨y0, y1, y2, y3, y4, y5, y6, y7, y8, y9, y10, y11, y12, y13⟩ := q14_cells D8.out.seg
    go_wp2_with fail
    all_goals (
      refine (wantq_any _ D8.out.aq).mono ?_
      rintro e wq ⟨rfl, ha, hg⟩
      have HX : Hid (∃ (ok : Bool) (sx : St), (ok = true ↔ 1 ≤ v4 ∧ v4 ≤ 1000) ∧ wst ok s8 = sx ∧ Dq w wq b a len cap zs sx (sC { s with rep := v0, chk := v1, upp := v2, low := v3 } (.slice ah nh ch) (.slice at1 nt ct) nlQ nlQ) ∧ w8.grownBy wq (some b)) := ⟨_, _, by first | (simp; done) | (simp; omega) | omega, rfl, D8.out.step ha hg, hg⟩
      clear ha hg y0 y1 y2 y3 y4 y5 y6 y7 y8 y9 y10 y11 y12 y13
      go_wp2_with fail
      go_meet
      exact ⟨rfl, HX⟩)
  case rest =>
  obtain ⟨rfl, HX⟩ := hcut
  obtain ⟨w9, hwq⟩ : ∃ x, x = wc := ⟨_, rfl⟩
  subst hwq
  obtain ⟨okD, s9, hok, hst, hd5, hgq⟩ := HX.out
  have D9 : Hid (Dq w w9 b a len cap zs s9 (sC { s with rep := v0, chk := v1, upp := v2, low := v3 } (.slice ah nh ch) (.slice at1 nt ct) nlQ nlQ)) := hd5
  have OD : Hid ((okD = true ↔ 1 ≤ v4 ∧ v4 ≤ 1000) ∧ wst okD s8 = s9) := ⟨hok, hst⟩
  clear hok hst hd5 hgq HX D8 
  obtain ⟨N, hN⟩ : ∃ N : Nat, v4 = (N : Int) := ⟨v4.toNat, by omega⟩
  subst hN
  have HB : Hid (s9.1 = 0 → st.1 = 0 ∧ 1 ≤ (N : Int) ∧ (N : Int) ≤ 1000 ∧ 0 ≤ v3 ∧ v3 ≤ v2 - 1 ∧ v2 ≤ 65536) := fun h9 => by
    rw [← OD.out.2] at h9
    have h8 := wst_zero h9
    have h7 := numR_zero R4.out h8.1
    rw [← OC.out.2] at h7
    have h6 := wst_zero h7
    have h5 := numR_zero R3.out h6.1
    rw [← OB.out.2] at h5
    have h4 := wst_zero h5
    have h2 := numR_zero R1.out (numR_zero R2.out h4.1)
    rw [← OA.out.2] at h2
    have e1 := OD.out.1.mp h8.2
    have e2 := OC.out.1.mp h6.2
    have e3 := OB.out.1.mp h4.2
    exact ⟨numR_zero R0.out (wst_zero h2).1, e1.1, e1.2, e2.1, e2.2, e3.2⟩
  have HSt : Hid (∀ (cl : List (Int × Int)) (st' : St), Step zs (claimsp v3 v2 N 0 []) s9 cl st' → Step zs (reportp s) st { s with rep := v0, chk := v1, upp := v2, low := v3, clm := cl } st') := fun cl st' hq => by
    refine (numR_step R0.out (fun _ => OA.out.1)).bind ?_
    rw [OA.out.2]
    refine (numR_any R1.out p1 q1).bind ((numR_step R2.out (fun _ => OB.out.1)).bind ?_)
    rw [OB.out.2]
    refine (numR_step R3.out (fun _ => OC.out.1)).bind ?_
    rw [OC.out.2]
    refine (numR_step R4.out (fun _ => OD.out.1)).bind ?_
    rw [OD.out.2, Int.toNat_natCast]
    exact hq.bind (Step.ret _)
  clear R0 R1 R2 R3 R4 OA OB OC OD p0 q0 p1 q1 p4
  go_wp2_with fail
  go_loopw [6, 7] (fun q i wr => ∃ (k : Nat) (last : Int), i = .int .i64 k ∧ q = .int .i64 last ∧ LpQ w wr b a len cap zs s9 { s with rep := v0, chk := v1, upp := v2, low := v3 } (.slice ah nh ch) (.slice at1 nt ct) N k last) (fun _ i _ => N - (intOf i).toNat)
  case atStart => exact ⟨0, -1, rfl, rfl, [], none, 0, s9, by omega, by omega, rfl, by omega, by omega, D9.out, World.ownsRow_nil _ _ _ _, id, fun _ _ => rfl⟩
  case round =>
    obtain ⟨k, last, rfl, rfl, cl, ac, cc, st', hl0, hl1, hcl, hkN, hk1, hD, hown, hmo, hfin⟩ := hrel
    have E0 : Hid (Dq w wr b a len cap zs st' (sC { s with rep := v0, chk := v1, upp := v2, low := v3 } (.slice ah nh ch) (.slice at1 nt ct) nlQ (.slice ac k cc))) := hD
    have HO : Hid (wr.ownsRow (w.heap.size + 2) 37 2 (.slice ac k cc) k (cl.flatMap spc)) := hown
    have HMo : Hid (st'.1 = 0 → s9.1 = 0) := hmo
    have HF : Hid (∀ (β : Type) (K : List (Int × Int) → Pr β), fin ((claimsp v3 v2 N 0 []).bind K) zs s9 = fin ((claimsp v3 v2 (N - k) (last + 1) cl).bind K) zs st') := hfin
    have HL : Hid (cl.length = k) := hcl
    have c2 := hD.aq.cur.c2
    clear hD hown hmo hfin hcl D9
    obtain ⟨f, pp⟩ := st'
    simp only at c2
    by_cases hlt : k < N
    · have hlt' : (k : Int) < (N : Int) := by omega
      by_cases hf : f = 0
      · subst hf
        obtain ⟨_, b1, b2, b3, b4, b5⟩ := HB.out (HMo.out rfl)
        have hwu : IntKind.i64.wrap (v2 - v3) = v2 - v3 := by rw [IntKind.wrap_i64]; omega
        go_wp2_with fail
        refine (numq_any E0.out.aq).mono ?_
        rintro e u1 ⟨fr, t1, rfl, ha, hg, hs, pf, qf⟩
        have E1 : Hid (Dq w u1 b a len cap zs t1 (sC { s with rep := v0, chk := v1, upp := v2, low := v3 } (.slice ah nh ch) (.slice at1 nt ct) nlQ (.slice ac k cc))) := E0.out.step ha hg
        have RF : Hid (numR zs (0, pp) = (fr, t1)) := hs
        have G1 : Hid (wr.grownBy u1 (some b)) := hg
        clear ha hg hs E0 c2
        go_upto_region 15 with fail
        go_cut [8] from 68 to 81 (fun q wx => q = .int .i64 fr ∧ Hid (∃ (ok : Bool) (sx : St), (ok = true ↔ last + 1 ≤ fr ∧ fr ≤ v2 - v3 - 1) ∧ wst ok t1 = sx ∧ Dq w wx b a len cap zs sx (sC { s with rep := v0, chk := v1, upp := v2, low := v3 } (.slice ah nh ch) (.slice at1 nt ct) nlQ (.slice ac k cc)) ∧ u1.grownBy wx (some b)))
        case first =>
          obtain ⟨y0, y1, y2, y3, y4, y5, y6, y7, y8, y9, y10, y11, y12, y13⟩ := q14_cells E1.out.seg
          go_wp2_with fail
          all_goals (
            refine (wantq_any _ E1.out.aq).mono ?_
            rintro e wq ⟨rfl, ha, hg⟩
            have HX : Hid (∃ (ok : Bool) (sx : St), (ok = true ↔ last + 1 ≤ fr ∧ fr ≤ v2 - v3 - 1) ∧ wst ok t1 = sx ∧ Dq w wq b a len cap zs sx (sC { s with rep := v0, chk := v1, upp := v2, low := v3 } (.slice ah nh ch) (.slice at1 nt ct) nlQ (.slice ac k cc)) ∧ u1.grownBy wq (some b)) := ⟨_, _, by first | (simp; done) | (simp; omega) | omega, rfl, E1.out.step ha hg, hg⟩
            clear ha hg y0 y1 y2 y3 y4 y5 y6 y7 y8 y9 y10 y11 y12 y13
            go_wp2_with fail
            go_meet
            exact ⟨rfl, HX⟩)
        case rest =>
        obtain ⟨rfl, HX⟩ := hcut
        obtain ⟨u2, hwq⟩ : ∃ x, x = wc := ⟨_, rfl⟩
        subst hwq
        obtain ⟨okE, t2, hok, hst, hd5, hgq⟩ := HX.out
        have E2 : Hid (Dq w u2 b a len cap zs t2 (sC { s with rep := v0, chk := v1, upp := v2, low := v3 } (.slice ah nh ch) (.slice at1 nt ct) nlQ (.slice ac k cc))) := hd5
        have OE : Hid ((okE = true ↔ last + 1 ≤ fr ∧ fr ≤ v2 - v3 - 1) ∧ wst okE t1 = t2) := ⟨hok, hst⟩
        have G2 : Hid (wr.grownBy u2 (some b)) := grown_trans G1.out hgq
        clear hok hst hd5 hgq HX E1 G1
        go_wp2_with fail
        refine (numq_any E2.out.aq).mono ?_
        rintro e u3 ⟨m, t3, rfl, ha, hg, hs, pm, qm⟩
        have E3 : Hid (Dq w u3 b a len cap zs t3 (sC { s with rep := v0, chk := v1, upp := v2, low := v3 } (.slice ah nh ch) (.slice at1 nt ct) nlQ (.slice ac k cc))) := E2.out.step ha hg
        have RM : Hid (numR zs t2 = (m, t3)) := hs
        have G3 : Hid (wr.grownBy u3 (some b)) := grown_trans G2.out hg
        have hfm : fr ≤ 65536 ∨ m = 0 := by
          by_cases h2 : t2.1 = 0
          · left
            have h3 := h2
            rw [← OE.out.2] at h3
            have := OE.out.1.mp (wst_zero h3).2
            omega
          · right
            exact numR_dead hs h2
        clear ha hg hs E2 G2
        have hwf : IntKind.i64.wrap (v2 - v3 - fr) = v2 - v3 - fr := by rw [IntKind.wrap_i64]; omega
        have hwa : IntKind.i64.wrap (v3 + fr) = v3 + fr := by rw [IntKind.wrap_i64]; omega
        have hwb : IntKind.i64.wrap (v3 + fr + m) = v3 + fr + m := by rw [IntKind.wrap_i64]; omega
        have hwc : IntKind.i64.wrap (fr + m) = fr + m := by rw [IntKind.wrap_i64]; omega
        have HLast : Hid (-1 ≤ fr + m ∧ fr + m ≤ 4611686018427500000) := ⟨by omega, by omega⟩
        clear hfm
        go_upto_region 17 with fail
        go_cut [9] from 84 to 98 (fun q wx => q = .int .i64 m ∧ Hid (∃ (ok : Bool) (sx : St), (ok = true ↔ 1 ≤ m ∧ m ≤ v2 - (v3 + fr)) ∧ wst ok t3 = sx ∧ Dq w wx b a len cap zs sx (sC { s with rep := v0, chk := v1, upp := v2, low := v3 } (.slice ah nh ch) (.slice at1 nt ct) nlQ (.slice ac k cc)) ∧ u3.grownBy wx (some b)))
        case first =>
          obtain ⟨y0, y1, y2, y3, y4, y5, y6, y7, y8, y9, y10, y11, y12, y13⟩ := q14_cells E3.out.seg
          go_wp2_with fail
          all_goals (
            refine (wantq_any _ E3.out.aq).mono ?_
            rintro e wq ⟨rfl, ha, hg⟩
            have HX : Hid (∃ (ok : Bool) (sx : St), (ok = true ↔ 1 ≤ m ∧ m ≤ v2 - (v3 + fr)) ∧ wst ok t3 = sx ∧ Dq w wq b a len cap zs sx (sC { s with rep := v0, chk := v1, upp := v2, low := v3 } (.slice ah nh ch) (.slice at1 nt ct) nlQ (.slice ac k cc)) ∧ u3.grownBy wq (some b)) := ⟨_, _, by first | (simp; done) | (simp; omega) | omega, rfl, E3.out.step ha hg, hg⟩
            clear ha hg y0 y1 y2 y3 y4 y5 y6 y7 y8 y9 y10 y11 y12 y13
            go_wp2_with fail
            go_meet
            exact ⟨rfl, HX⟩)
        case rest =>
        obtain ⟨rfl, HX⟩ := hcut
        obtain ⟨u4, hwq⟩ : ∃ x, x = wc := ⟨_, rfl⟩
        subst hwq
        obtain ⟨okM, t4, hok, hst, hd5, hgq⟩ := HX.out
        have E4 : Hid (Dq w u4 b a len cap zs t4 (sC { s with rep := v0, chk := v1, upp := v2, low := v3 } (.slice ah nh ch) (.slice at1 nt ct) nlQ (.slice ac k cc))) := hd5
        have OM : Hid ((okM = true ↔ 1 ≤ m ∧ m ≤ v2 - (v3 + fr)) ∧ wst okM t3 = t4) := ⟨hok, hst⟩
        have G4 : Hid (wr.grownBy u4 (some b)) := grown_trans G3.out hgq
        clear hok hst hd5 hgq HX E3 G3
        have hok := OM.out.1
        have hst := OM.out.2
        have HF2 : Hid (∀ (β : Type) (K : List (Int × Int) → Pr β), fin ((claimsp v3 v2 N 0 []).bind K) zs s9 = fin ((claimsp v3 v2 (N - (k + 1)) (fr + m + 1) (cl ++ [(v3 + fr, v3 + fr + m)])).bind K) zs t4) := by
          have q1 := numR_step RF.out (fun _ => OE.out.1)
          rw [OE.out.2] at q1
          have q2 := numR_step RM.out (fun _ => hok)
          rw [hst] at q2
          have q3 := claimsp_step zs N k hlt v3 v2 (last + 1) cl HF.out q1 q2
          rw [show v3 + fr + m - v3 + 1 = fr + m + 1 by omega] at q3
          exact q3
        have HO4 : Hid (u4.ownsRow (w.heap.size + 2) 37 2 (.slice ac k cc) k (cl.flatMap spc)) := own_keep HO.out G4.out (fun j hj e => by have h1 := (HO.out.lt j hj).1; have h2 := HLo.out; simp at e; omega)
        have hsz4 : w.heap.size + 2 ≤ u4.heap.size := E4.out.size
        clear hok hst G4 OE OM RF RM
        obtain ⟨y0, y1, y2, y3, y4, y5, y6, y7, y8, y9, y10, y11, y12, y13⟩ := q14_cells E4.out.seg
        go_wp2_with (at_builtin; refine wpList_append_own_at _ rfl _ _ 26 rfl (w.heap.size + 2) 37 i0 (.agg #[.int .i64 0, .int .i64 0]) 2 16 Tryd.underlying26 hi hz0 hz1 hz2 rfl (by decide) _ _ _ rfl (HO4.out.alloc _) ⟨u4.heap.size, 0, none⟩ 1 1 [.int .i64 (v3 + fr), .int .i64 (v3 + fr + m)] rfl rfl ?c1 ?c2 ?c3 ?c4 ?c5 ?_)
        case c2 => first | exact ⟨rfl, rfl⟩ | (intro u hu; simp at hu; rcases hu with rfl | rfl <;> rfl)
        case c3 => unfold maxLen; omega
        case c4 => omega
        case c5 => first | omega | (simp; omega)
        intro v' u5 hown5 hgrow5 _ hat5
        obtain ⟨av', cc', hv'⟩ := own_shape hown5
        subst hv'
        have hd := (E4.out.other (row := none) (grown_alloc u4 (.cells #[.int .i64 (v3 + fr), .int .i64 (v3 + fr + m)] 37) none) (by simp)).other hgrow5 (fun j hj => (HO4.out.lt j hj).1)
        have z12 := hd.fz 12
        obtain ⟨x0, x1, x2, x3, x4, x5, x6, x7, x8, x9, x10, x11, x12, x13⟩ := q14_cells hd.seg
        have E5 : Hid (Dq w (u5.setCell ⟨w.heap.size, 12, none⟩ (.slice av' (k + 1) cc')) b a len cap zs t4 (sC { s with rep := v0, chk := v1, upp := v2, low := v3 } (.slice ah nh ch) (.slice at1 nt ct) nlQ (.slice av' (k + 1) cc'))) := hd.put 12 _ _ rfl
        have HO5 : Hid ((u5.setCell ⟨w.heap.size, 12, none⟩ (.slice av' (k + 1) cc')).ownsRow (w.heap.size + 2) 37 2 (.slice av' (k + 1) cc') (k + 1) ((cl ++ [(v3 + fr, v3 + fr + m)]).flatMap spc)) := by
          rw [List.flatMap_append]
          exact own_keep hown5 (grown_set _ _ _ _) (fun j hj e => by have := (hown5.lt j hj).1; simp at e; omega)
        clear hd hown5 hgrow5 hat5 E4 HO4 y0 y1 y2 y3 y4 y5 y6 y7 y8 y9 y10 y11 y12 y13
        have HRel : LpQ w (u5.setCell ⟨w.heap.size, 12, none⟩ (.slice av' (k + 1) cc')) b a len cap zs s9 { s with rep := v0, chk := v1, upp := v2, low := v3 } (.slice ah nh ch) (.slice at1 nt ct) N (k + 1) (fr + m) := ⟨cl ++ [(v3 + fr, v3 + fr + m)], av', cc', t4, HLast.out.1, HLast.out.2, by have := HL.out; simp; omega, by omega, by omega, E5.out, HO5.out, fun _ => HMo.out (by first | rfl | trivial), HF2.out⟩
        go_wp2
        go_roundw
        case rel =>
          first | exact ⟨k + 1, by omega, HRel⟩ | exact ⟨k + 1, fr + m, by go_num, rfl, HRel⟩ | exact ⟨k + 1, by go_num, HRel⟩
        case measure => simp [intOf]; omega
      · have hfb : (f == 0) = false := by simp [hf]
        have HEnd : Hid (Step zs (claimsp v3 v2 N 0 []) s9 cl (f, pp)) := fun β K => by
          rw [HF.out β K]
          simp [fin, hf]
        clear hf
        obtain ⟨y0, y1, y2, y3, y4, y5, y6, y7, y8, y9, y10, y11, y12, y13⟩ := q14_cells E0.out.seg
        have hstor : StorQ Tryd.prog 28 wr (.pointer (some ⟨w.heap.size + 1, 0, none⟩)) (.agg (sC { s with rep := v0, chk := v1, upp := v2, low := v3 } (.slice ah nh ch) (.slice at1 nt ct) nlQ (.slice ac k cc))) := ⟨w.heap.size + 1, _, _, _, rfl, rfl, E0.out.res, rfl, size_sgq, by simp [Value.oneCell']⟩
        go_wp2_with fail
        have hdone := E0.out.done (T := sC { s with rep := v0, chk := v1, upp := v2, low := v3 } (.slice ah nh ch) (.slice at1 nt ct) nlQ (.slice ac k cc))
        have hlv := fun j => cell_of_row _ (w.heap.size + 1) j _ _ _ hdone.2.2
        refine bodyPost_ret (v := .agg (sC { s with rep := v0, chk := v1, upp := v2, low := v3 } (.slice ah nh ch) (.slice at1 nt ct) nlQ (.slice ac k cc))) (by simp [results, Tryd.results70, go_sem, hlv]) rfl ?_
        rw [← HP.out]
        have hkl := HL.out
        subst hkl
        refine ⟨{ s with rep := v0, chk := v1, upp := v2, low := v3, clm := cl }, none, 0, ac, cc, (f, pp), ?_, hdone.1, ?_, hdone.2.1, HSt.out _ _ HEnd.out, rfl, fun h7 => (HB.out (HMo.out h7)).1⟩
        · show _ = Ending.returned (.agg (sC _ _ _ (.slice none s.data.length 0) _))
          rw [HSs.out.1]; rfl
        · show Mid _ _ _ (.slice none s.data.length 0) _
          rw [HSs.out.1]
          refine ⟨World.ownsRow_nil _ _ _ _, (fun z hz => by cases hz), by simp, own_base (own_keep HO.out (grown_setRow _ _ _) (fun j hj e => by have := (HO.out.lt j hj).1; simp at e; omega)) (by omega), hk1, .inl rfl⟩
    · have hlt' : ¬ (k : Int) < (N : Int) := by omega
      have HEnd : Hid (Step zs (claimsp v3 v2 N 0 []) s9 cl (f, pp)) := fun β K => by
        have h9 := HF.out β K
        rw [show N - k = 0 by omega] at h9
        exact h9
      obtain ⟨y0, y1, y2, y3, y4, y5, y6, y7, y8, y9, y10, y11, y12, y13⟩ := q14_cells E0.out.seg
      have hstor : StorQ Tryd.prog 28 wr (.pointer (some ⟨w.heap.size + 1, 0, none⟩)) (.agg (sC { s with rep := v0, chk := v1, upp := v2, low := v3 } (.slice ah nh ch) (.slice at1 nt ct) nlQ (.slice ac k cc))) := ⟨w.heap.size + 1, _, _, _, rfl, rfl, E0.out.res, rfl, size_sgq, by simp [Value.oneCell']⟩
      go_wp2_with fail
      have hdone := E0.out.done (T := sC { s with rep := v0, chk := v1, upp := v2, low := v3 } (.slice ah nh ch) (.slice at1 nt ct) nlQ (.slice ac k cc))
      have hlv := fun j => cell_of_row _ (w.heap.size + 1) j _ _ _ hdone.2.2
      refine bodyPost_ret (v := .agg (sC { s with rep := v0, chk := v1, upp := v2, low := v3 } (.slice ah nh ch) (.slice at1 nt ct) nlQ (.slice ac k cc))) (by simp [results, Tryd.results70, go_sem, hlv]) rfl ?_
      rw [← HP.out]
      have hkl := HL.out
      subst hkl
      refine ⟨{ s with rep := v0, chk := v1, upp := v2, low := v3, clm := cl }, none, 0, ac, cc, (f, pp), ?_, hdone.1, ?_, hdone.2.1, HSt.out _ _ HEnd.out, rfl, fun h7 => (HB.out (HMo.out h7)).1⟩
      · show _ = Ending.returned (.agg (sC _ _ _ (.slice none s.data.length 0) _))
        rw [HSs.out.1]; rfl
      · show Mid _ _ _ (.slice none s.data.length 0) _
        rw [HSs.out.1]
        refine ⟨World.ownsRow_nil _ _ _ _, (fun z hz => by cases hz), by simp, own_base (own_keep HO.out (grown_setRow _ _ _) (fun j hj e => by have := (HO.out.lt j hj).1; simp at e; omega)) (by omega), hk1, .inl rfl⟩

end Go.Proofs.YtkkmoplijicmpabDoor
