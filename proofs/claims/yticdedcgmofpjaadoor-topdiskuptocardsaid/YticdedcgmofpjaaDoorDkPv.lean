import Derived.Test.YticdedcgmofpjaaDoorDkPt
namespace Go.Proofs.YticdedcgmofpjaaDoor.K
open Go.RowKit
set_option linter.unusedVariables false
set_option linter.unusedSimpArgs false


set_option maxHeartbeats 16000000 in
set_option maxRecDepth 100000 in
theorem touch5 (w : World) (x : Nat) (F : Nat → Prop) (D : Dk) (B : Nat) (N : Int) (dn : Bool) (s s2 : ByteArray) (ad : Option Addr) (nd cd : Nat) (h : Pm w x F D) (hk : D.Ok B) (hB : B ≤ 1099511627776) :
    Calls Tryd.prog 9 #[.pointer (some ⟨x, 0, none⟩), .agg (toC 5 N dn s s2 ad nd cd)] w fun e w' => TP x F (fileD D s (fun i => cutF D.fs i N)) w e w' := by
  obtain ⟨R, hR⟩ : ∃ R, fileD D s (fun i => cutF D.fs i N) = R := ⟨_, rfl⟩
  rw [hR]
  obtain ⟨W, hW⟩ : ∃ W, w.alloc (.cells #[.int .i64 5, .int .i64 N, .bool dn, .string s, .string s2, .slice ad nd cd] 38) = W := ⟨_, rfl⟩
  obtain ⟨Tb, hTb⟩ : ∃ g, w.heap.size = g := ⟨_, rfl⟩
  have hbw : Below w.heap.size w W := by rw [← hW]; exact (Below.refl _ _).alloc (Nat.le_refl _) _
  have t0 : W.cell? ⟨Tb, 0, none⟩ = some (.int .i64 5) := by rw [← hW, ← hTb]; simp
  have t1 : W.cell? ⟨Tb, 1, none⟩ = some (.int .i64 N) := by rw [← hW, ← hTb]; simp
  have t2 : W.cell? ⟨Tb, 2, none⟩ = some (.bool dn) := by rw [← hW, ← hTb]; simp
  have t3 : W.cell? ⟨Tb, 3, none⟩ = some (.string s) := by rw [← hW, ← hTb]; simp
  have t4 : W.cell? ⟨Tb, 4, none⟩ = some (.string s2) := by rw [← hW, ← hTb]; simp
  have t5 : W.cell? ⟨Tb, 5, none⟩ = some (.slice ad nd cd) := by rw [← hW, ← hTb]; simp
  have hPW : Pm W x (fc F w) D := h.fc.below hbw
  have HRf := refused_any W x (fc F w) D B 5 N dn s s2 ad nd cd hPW hk hB
  unfold toC at HRf
  have nT : ∀ k, fc F w k → k ≠ Tb := fun k q e => by have := q.2; omega
  have HT : Hid (¬ fc F w Tb) := fun q => nT Tb q rfl
  have HP : Hid (Pm w x F D ∧ Pm W x (fc F w) D ∧ D.Ok B ∧ Below w.heap.size w W) := ⟨h, hPW, hk, hbw⟩
  have HRR : Hid (fileD D s (fun i => cutF D.fs i N) = R) := hR
  clear h hPW hk hbw nT hR
  unfold toC
  go_enter Tryd.func9, Tryd.ntmps9
  go_upto_region 2 with (go_at_call 31; refine HRf.mono ?_; rintro e w1 ⟨rfl, HB1⟩)
  clear hW hTb HRf
  have q0 := bel_cell HB1.out t0
  have q1 := bel_cell HB1.out t1
  have q3 := bel_cell HB1.out t3
  have q4 := bel_cell HB1.out t4
  have q5 := bel_cell HB1.out t5
  have HB2 : Hid (Below w.heap.size w w1) := HP.out.2.2.2.trans (HB1.out.mono HP.out.2.2.2.size)
  clear t0 t1 t2 t3 t4 t5
  have hP1 : Pm w1 x (fc F w) D := HP.out.2.1.below HB1.out
  have HTk := takes_any w1 x (fc F w) D B hP1 HP.out.2.2.1
  clear HB1 hP1

  obtain ⟨bA, hbA⟩ : ∃ b, actB D = b := ⟨_, rfl⟩
  obtain ⟨bD, hbD⟩ : ∃ b, (if actB D = true then D.dn else true) = b := ⟨_, rfl⟩
  rw [hbD, hbA] at HTk
  have HBB : Hid (actB D = bA ∧ (if actB D = true then D.dn else true) = bD) := ⟨hbA, hbD⟩
  clear hbA hbD
  by_cases c1 : D.dw = true
  · have e1 : refN D 5 s nd = 2 := by unfold refN; rw [if_pos c1]
    have HR2 : Hid (R = (D, 2)) := by show _ = _; rw [← HRR.out]; exact (by unfold fileD; rw [if_pos c1])
    rw [e1]
    clear HTk
    go_wp2
    go_ret
    rw [HR2.out]
    exact TP.same HB2.out rfl HP.out.1
  by_cases c2 : fnd D.fs s = none
  · have e1 : refN D 5 s nd = 3 := by unfold refN; rw [if_neg c1, if_neg (fun q => absurd q.1 (by decide)), if_pos ⟨by decide, c2⟩]
    have HR2 : Hid (R = (D, 3)) := by show _ = _; rw [← HRR.out]; exact (by unfold fileD; rw [if_neg c1, c2])
    rw [e1]
    clear HTk
    go_wp2
    go_ret
    rw [HR2.out]
    exact TP.same HB2.out rfl HP.out.1
  have e1 : refN D 5 s nd = 0 := by unfold refN; rw [if_neg c1, if_neg (fun q => absurd q.1 (by decide)), if_neg (fun q => c2 q.2)]
  rw [e1]
  obtain ⟨i, hi⟩ : ∃ i, fnd D.fs s = some i := by
    cases hf : fnd D.fs s with
    | none => exact absurd hf c2
    | some i => exact ⟨i, rfl⟩
  have HR2 : Hid (R = (actD D (cutF D.fs i N), actR D)) := by show _ = _; rw [← HRR.out]; unfold fileD; rw [if_neg c1, hi]
  have HI : Hid (fnd D.fs s = some i) := hi
  clear hi
  clear c1 c2 e1 HRR
  go_upto_region 5 with (go_at_call 32; refine HTk.mono ?_; rintro e V ⟨rfl, HV0⟩)
  clear HTk
  have HV : Hid (Pm V x (fc F w) (tkD D) ∧ Kd (fc F w) w V) := ⟨HV0.out.1, (Kd.below HB2.out).trans HV0.out.2.1⟩
  have v0 := HV0.out.2.1.cell q0 HT.out
  have v1 := HV0.out.2.1.cell q1 HT.out
  have v3 := HV0.out.2.1.cell q3 HT.out
  have v4 := HV0.out.2.1.cell q4 HT.out
  have v5 := HV0.out.2.1.cell q5 HT.out
  clear q0 q1 q3 q4 q5 HV0
  have HFn := pfind_any V x (fc F w) (tkD D) s B HV.out.1 (tk_ok HP.out.2.2.1) hB
  rw [tk_fs] at HFn
  obtain ⟨K, hK⟩ : ∃ K, fI D.fs s = K := ⟨_, rfl⟩
  have HK : Hid (fI D.fs s = K) := hK
  rw [hK] at HFn
  clear hK
  go_upto_region 6 with (go_at_call 18; refine HFn.mono ?_; rintro e w2 ⟨rfl, hw2⟩; rw [hw2]; clear hw2)
  clear HFn
  cases bD with
  | false =>
    have HRes : Hid (R = (tkD D, 2) ∧ bA = true) := by
      have h1 := HBB.out
      have hb : actB D = true := by
        by_cases e : actB D = true
        · exact e
        · rw [if_neg e] at h1; cases h1.2
      have hdn : D.dn = false := by rw [if_pos hb] at h1; exact h1.2
      refine ⟨?_, by rw [← h1.1]; exact hb⟩
      rw [HR2.out, act_not hb hdn]
      unfold actR; rw [if_pos hb]
    obtain rfl : bA = true := HRes.out.2
    go_wp2
    go_ret
    rw [HRes.out.1]
    exact TP.of HV.out.2 rfl (HV.out.1.mono (fun k h _ => .inl h)) (Kd.refl _ _)
  | true =>
    have HRes : Hid (∀ fs, actD D fs = (tkD D).fs' fs) := fun fs => act_does (by
      have h1 := HBB.out
      by_cases e : actB D = true
      · rw [if_pos e] at h1; exact .inr h1.2
      · exact .inl (by simpa using e))
    have HAc : Hid (actR D = if bA = true then 2 else 0) := by show _ = _; unfold actR; rw [HBB.out.1]
    have HOk : Hid ((tkD D).Ok B) := tk_ok HP.out.2.2.1
    clear HBB
    have hK2 : K = (i : Int) := by rw [← HK.out]; exact fI_some HI.out
    subst hK2
    have hz0 : ¬ (i : Int) < 0 := by omega
    obtain ⟨vn, vb, vs, L, hc⟩ := HV.out.1
    obtain ⟨n, hn⟩ : ∃ n, L.length = n := ⟨_, rfl⟩
    obtain ⟨p, hp⟩ : ∃ p, L[i]? = some p := ⟨_, List.getElem?_eq_getElem (by rw [← hc.len]; show i < (tkD D).fs.length; simp only [Dk.fs', tk_fs]; exact fnd_lt HI.out)⟩
    have hin : (i : Int) < (n : Int) := by have := (List.getElem?_eq_some_iff.mp hp).1; omega
    have hi0 : (0 : Int) ≤ (i : Int) := by omega
    obtain ⟨gN, cN, hvn, _, kN, zN⟩ := row_cell hc.rn (i := i) (u := .string p.1.nm) (by rw [List.getElem?_map, hp]; rfl)
    obtain ⟨gB, cB, hvb, _, kB, zB⟩ := row_cell hc.rb (i := i) (u := p.2) (by rw [List.getElem?_map, hp]; rfl)
    obtain ⟨gS, cS, hvs, _, kS, zS⟩ := row_cell hc.rs (i := i) (u := .int .i64 p.1.sf) (by rw [List.getElem?_map, hp]; rfl)
    rw [hn] at hvn hvb hvs
    subst hvn hvb hvs
    have c0 : V.cell? ⟨x, 0, none⟩ = some (.slice (some ⟨gN, 0, none⟩) n cN) := hc.c 0
    have c1 : V.cell? ⟨x, 1, none⟩ = some (.slice (some ⟨gB, 0, none⟩) n cB) := hc.c 1
    have c2 : V.cell? ⟨x, 2, none⟩ = some (.slice (some ⟨gS, 0, none⟩) n cS) := hc.c 2
    have nS : x ≠ gS := fun e => d_box hc.rs hc.box (by decide) (by rw [e]; rfl)
    have nN : x ≠ gN := fun e => d_box hc.rn hc.box (by decide) (by rw [e]; rfl)
    have nB : x ≠ gB := fun e => d_box hc.rb hc.box (by decide) (by rw [e]; rfl)
    have nBS : gB ≠ gS := fun e => d_apart hc.rb hc.rs (by decide) (g := gB) rfl (by rw [e]; rfl)
    have hpf := hc.file hp
    have hfS : fc F w gS := hc.fs gS rfl
    have hfN : fc F w gN := hc.fn gN rfl
    have hfB : fc F w gB := hc.fb gB rfl
    have nTS : Tb ≠ gS := fun e => HT.out (e ▸ hfS)
    have nTN : Tb ≠ gN := fun e => HT.out (e ▸ hfN)
    have nTB : Tb ≠ gB := fun e => HT.out (e ▸ hfB)
    have hfl : p.1.bs.length ≤ 1099511627776 := by have h8 := usd_get hpf; have h9 := HOk.out.used; simp only [Dk.fs', tk_fs] at h8 h9; omega
    obtain ⟨av, cv, hav⟩ := d_shape (hc.byt i p hp)
    obtain ⟨K, hKK⟩ : ∃ K, cutN p.1 N = K := ⟨_, rfl⟩
    have HK2 : Hid ((K : Int) = min (max N 0) (p.1.bs.length : Int)) := by show _ = _; rw [← hKK]; unfold cutN; omega
    have hby := hc.byt i p hp
    have zB' := zB i
    have hx1 : V.drew.cell? ⟨x, 1, none⟩ = some (.slice (some ⟨gB, 0, none⟩) n cB) ∧ V.drew.cell? ⟨Tb, 1, none⟩ = some (.int .i64 N) := ⟨c1, v1⟩
    have HR : ∀ (v' : Value) (V2 : World), V2 = V.drew.setCell ⟨gB, i, none⟩ v' → V.drew.ownsRow 0 5 1 v' (p.1.bs.take K).length ((p.1.bs.take K).map (Value.int .u8)) → v'.ownBlock = p.2.ownBlock → Hid (∃ a c, v' = .slice a K c ∧ V2.cell? ⟨gB, i, none⟩ = some v' ∧ (∃ y, V2.cell? ⟨gS, i, none⟩ = some y) ∧ V2.frozen? ⟨gS, i, none⟩ = false ∧ V2.cell? ⟨x, 1, none⟩ = some (.slice (some ⟨gB, 0, none⟩) n cB) ∧ V2.cell? ⟨x, 2, none⟩ = some (.slice (some ⟨gS, 0, none⟩) n cS) ∧ Pm ((V2.setCell ⟨gS, i, none⟩ (.int .i64 (K : Int))).drew) x (up (fc F w) V) ((tkD D).fs' (cutF D.fs i N)) ∧ Kd (fc F w) V ((V2.setCell ⟨gS, i, none⟩ (.int .i64 (K : Int))).drew)) := by
      intro v' V2 hV2 r1 r3
      have hKl : K ≤ p.1.bs.length := by have := HK2.out; omega
      have hlen : (p.1.bs.take K).length = K := by rw [List.length_take]; omega
      have h1 := (hc.same (w' := V.drew) (fun _ _ _ => rfl)).app hp r1 ⟨rfl, rfl, rfl, Nat.le_refl _, fun _ _ _ => rfl⟩ (fun k hk => .inl (by rw [← r3]; exact hk))
      rw [← hV2] at h1
      have hp2 : (L.set i (((⟨p.1.nm, p.1.bs.take K, p.1.sf⟩ : Fl), v') : Fv))[i]? = some (⟨p.1.nm, p.1.bs.take K, p.1.sf⟩, v') := by
        rw [List.getElem?_set_self (List.getElem?_eq_some_iff.mp hp).1]
      obtain ⟨a, c, hsh⟩ := d_shape r1
      rw [hlen] at hsh
      obtain ⟨g3, c3, hv3, _, kS3, zS3⟩ := row_cell h1.rs (i := i) (u := .int .i64 p.1.sf) (by rw [List.getElem?_map, hp2]; rfl)
      obtain ⟨rfl, _, _⟩ : gS = g3 ∧ _ ∧ _ := by simpa using hv3
      obtain ⟨g4, c4, hv4, _, kB4, _⟩ := row_cell h1.rb (i := i) (u := v') (by rw [List.getElem?_map, hp2]; rfl)
      obtain ⟨rfl, _, _⟩ : gB = g4 ∧ _ ∧ _ := by simpa using hv4
      have h2 := h1.saf hp2 (K : Int)
      rw [set_set'] at h2
      refine ⟨a, c, hsh, kB4, ⟨_, kS3⟩, zS3 _, h1.c 1, h1.c 2, ?_, ?_⟩
      · unfold cutF
        have hpf2 := hpf
        rw [tk_fs] at hpf2
        rw [setF_at hpf2, hKK]
        have h3 : ((tkD D).fs' ((tkD D).fs.set i ⟨p.1.nm, p.1.bs.take K, p.1.sf⟩)).fs.set i ⟨p.1.nm, p.1.bs.take K, (K : Int)⟩ = D.fs.set i ⟨p.1.nm, p.1.bs.take K, (K : Int)⟩ := by
          show ((tkD D).fs.set i _).set i _ = _
          rw [set_set', tk_fs]
        rw [h3] at h2
        exact ⟨_, _, _, _, h2.same (fun _ _ _ => rfl)⟩
      · rw [hV2]
        exact (((Kd.refl _ _).drew.trans (Kd.set hfB)).trans (Kd.set hfS)).drew
    obtain ⟨M, hM⟩ : ∃ M, (if N < 0 then 0 else N) = M := ⟨_, rfl⟩
    have hM0 : 0 ≤ M ∧ M = max N 0 := by rw [← hM]; split <;> omega
    have HM : Hid ((if N < 0 then 0 else N) = M) := hM
    have hcx : ∀ y, (V.drew.setCell ⟨gB, i, none⟩ y).cell? ⟨x, 1, none⟩ = some (.slice (some ⟨gB, 0, none⟩) n cB) ∧ (V.drew.setCell ⟨gB, i, none⟩ y).cell? ⟨Tb, 1, none⟩ = some (.int .i64 N) := fun y => ⟨set_cell hx1.1 nB, set_cell hx1.2 nTB⟩
    have HX : Hid (V.drew.cell? ⟨gB, i, none⟩ = some p.2 ∧ V.drew.frozen? ⟨gB, i, none⟩ = false) := ⟨kB, zB'⟩
    clear hM hc hp hn hpf hfS hfN hfB zN zB zS hfl kN kB kS zB' hav
    obtain ⟨_, ⟨hpn, hp0⟩ | ⟨gv, cv, cur, hpv, _⟩⟩ := id hby
    · have hK0 : K = 0 := by have := HK2.out; rw [hp0] at this; omega
      have hR := HR (.slice none 0 0) _ rfl (by rw [hK0]; exact World.ownsRow_nil _ _ _ _) (by rw [hpn])
      rw [hK0] at hR
      clear HR
      go_upto_region 25 with fail
      refine regP25N _ Tb x gB n cB i N M V hin HM.out (by omega) (by rw [← hpn]; exact HX.out.1) HX.out.2 hx1 hcx ?_
      obtain ⟨a, c, he, q1, ⟨y, q2⟩, q3, q5, q6, q4⟩ := hR.out
      obtain ⟨V2, hV2⟩ : ∃ V2, V.drew.setCell ⟨gB, i, none⟩ (.slice none 0 0) = V2 := ⟨_, rfl⟩
      rw [hV2] at q1 q2 q3 q4 q5 q6 ⊢
      have HW2 : Hid _ := q4
      clear hR he q4 hV2 hby hx1 hcx HX c0 c1 c2
      go_upto_region 26 with fail
      refine Code.wp_mono (fun _ _ _ h => calmD_le h) ?_
      go_region_held3 (fun U => U.cell? ⟨x, 2, none⟩ = some (.slice (some ⟨gS, 0, none⟩) n cS) ∧ U.cell? ⟨x, 1, none⟩ = some (.slice (some ⟨gB, 0, none⟩) n cB) ∧ U.cell? ⟨gB, i, none⟩ = some (.slice none 0 0))
        (first | exact ⟨q6, q5, q1⟩ | exact ⟨set_cell q6 nS, set_cell q5 nS, set_cell q1 nBS⟩)
        (fail)
      simp only [calmD]
      obtain ⟨V3, hV3⟩ : ∃ V3, (V2.setCell ⟨gS, i, none⟩ (.int .i64 (0))).drew = V3 := ⟨_, rfl⟩
      rw [show ((0 : Nat) : Int) = 0 from rfl] at HW2
      rw [hV3] at HW2 ⊢
      clear hV3
      have HF : Hid (TP x F R w (.returned (.int .i64 ((R.2 : Nat) : Int))) V3) := by
        rw [HR2.out, HRes.out]
        exact TP.of HV.out.2 rfl (HW2.out.1) (HW2.out.2)
      have HR3 : Hid (R.2 = actR D) := by show _ = _; rw [HR2.out]
      clear v0 v1 v3 v4 v5
      cases bA with
      | true =>
        go_wp2
        go_ret
        have h9 := HF.out
        rw [HR3.out, HAc.out] at h9
        exact h9
      | false =>
        go_wp2
        go_ret
        have h9 := HF.out
        rw [HR3.out, HAc.out] at h9
        exact h9
    · have hKl : K ≤ p.1.bs.length := by have := HK2.out; omega
      obtain ⟨m, hm0⟩ : ∃ m, p.1.bs.length = m := ⟨_, rfl⟩
      rw [hm0] at hpv
      have hcv : m ≤ cv := by
        obtain ⟨_, ⟨e, _⟩ | ⟨g', cap, cur', e, _, _, h5, _⟩⟩ := hby
        · rw [hpv] at e; cases e
        · rw [hpv] at e; cases e; rw [← hm0]; exact h5
      have hR := HR (.slice (some ⟨gv, 0, none⟩) K cv) _ rfl (by
        rw [hpv, ← hm0] at hby
        have h1 := own_shrink hby hKl
        rw [List.length_take, Nat.min_eq_left hKl, List.map_take]
        rw [Nat.mul_one] at h1
        exact h1) (by rw [hpv]; rfl)
      have hm : (if ((m : Nat) : Int) < M then ((m : Nat) : Int) else M) = (K : Int) := by
        have := HK2.out
        rw [hm0] at this
        rw [this]
        split <;> omega
      clear HR
      go_upto_region 25 with fail
      refine regP25S _ Tb x gB n cB i N M gv m cv K V (by omega) (by omega) hin HM.out hm (by rw [← hpv]; exact HX.out.1) HX.out.2 hx1 hcx ?_
      obtain ⟨a, c, he, q1, ⟨y, q2⟩, q3, q5, q6, q4⟩ := hR.out
      obtain ⟨V2, hV2⟩ : ∃ V2, V.drew.setCell ⟨gB, i, none⟩ (.slice (some ⟨gv, 0, none⟩) K cv) = V2 := ⟨_, rfl⟩
      rw [hV2] at q1 q2 q3 q4 q5 q6 ⊢
      have HW2 : Hid _ := q4
      clear hR he q4 hV2 hby hx1 hcx HX c0 c1 c2 hm
      go_upto_region 26 with fail
      refine Code.wp_mono (fun _ _ _ h => calmD_le h) ?_
      go_region_held3 (fun U => U.cell? ⟨x, 2, none⟩ = some (.slice (some ⟨gS, 0, none⟩) n cS) ∧ U.cell? ⟨x, 1, none⟩ = some (.slice (some ⟨gB, 0, none⟩) n cB) ∧ U.cell? ⟨gB, i, none⟩ = some (.slice (some ⟨gv, 0, none⟩) K cv))
        (first | exact ⟨q6, q5, q1⟩ | exact ⟨set_cell q6 nS, set_cell q5 nS, set_cell q1 nBS⟩)
        (fail)
      simp only [calmD]
      obtain ⟨V3, hV3⟩ : ∃ V3, (V2.setCell ⟨gS, i, none⟩ (.int .i64 ((K : Int)))).drew = V3 := ⟨_, rfl⟩
      rw [hV3] at HW2 ⊢
      clear hV3
      have HF : Hid (TP x F R w (.returned (.int .i64 ((R.2 : Nat) : Int))) V3) := by
        rw [HR2.out, HRes.out]
        exact TP.of HV.out.2 rfl (HW2.out.1) (HW2.out.2)
      have HR3 : Hid (R.2 = actR D) := by show _ = _; rw [HR2.out]
      clear v0 v1 v3 v4 v5
      cases bA with
      | true =>
        go_wp2
        go_ret
        have h9 := HF.out
        rw [HR3.out, HAc.out] at h9
        exact h9
      | false =>
        go_wp2
        go_ret
        have h9 := HF.out
        rw [HR3.out, HAc.out] at h9
        exact h9

end Go.Proofs.YticdedcgmofpjaaDoor.K
