import Derived.Test.YticdedcgmofpjaaDoorDkPr
namespace Go.Proofs.YticdedcgmofpjaaDoor.K
open Go.RowKit
set_option linter.unusedVariables false
set_option linter.unusedSimpArgs false

theorem tk_fs (D : Dk) : (tkD D).fs = D.fs := by unfold tkD; split <;> rfl
theorem tk_ok {D : Dk} {B : Nat} (h : D.Ok B) : (tkD D).Ok B := by
  unfold tkD
  split
  · exact ⟨h.fs, h.len, h.used, h.room, h.acts⟩
  · refine ⟨h.fs, h.len, h.used, h.room, ?_⟩
    rename_i hb
    have := h.acts
    show 0 ≤ (if D.arm = true then D.acts - 1 else D.acts) ∧ (if D.arm = true then D.acts - 1 else D.acts) ≤ _
    split
    · rename_i ha
      have h0 : ¬ D.acts = 0 := fun e => hb (by unfold actB; rw [ha, e]; rfl)
      omega
    · omega
theorem act_does {D : Dk} {fs : List Fl} (h : actB D = false ∨ D.dn = true) : actD D fs = (tkD D).fs' fs := by
  unfold actD tkD Dk.fs'
  rcases h with h | h
  · rw [h]; rfl
  · by_cases hb : actB D = true
    · rw [if_pos hb, if_pos hb, h]; rfl
    · rw [if_neg hb, if_neg hb]
theorem act_not {D : Dk} {fs : List Fl} (h : actB D = true) (h2 : D.dn = false) : actD D fs = tkD D := by
  unfold actD tkD
  rw [if_pos h, if_pos h, h2]; rfl
def TP (x : Nat) (F : Nat → Prop) (r : Dk × Nat) (w : World) (e : Ending) (w' : World) : Prop := e = .returned (.int .i64 (r.2 : Int)) ∧ Hid (Pm w' x (up F w) r.1 ∧ Kd F w w')
theorem Pm.fc {w : World} {x : Nat} {F : Nat → Prop} {D : Dk} (h : Pm w x F D) : Pm w x (fc F w) D := h.mono (fun k h1 h2 => ⟨h1, h2⟩)
theorem TP.of {x : Nat} {F : Nat → Prop} {r : Dk × Nat} {w V w' : World} {e : Ending} (hb : Kd (fc F w) w V) (he : e = .returned (.int .i64 (r.2 : Int))) (h1 : Pm w' x (up (fc F w) V) r.1) (h2 : Kd (fc F w) V w') : TP x F r w e w' :=
  ⟨he, h1.mono (fun k h _ => h.elim (fun q => .inl q.1) (fun q => .inr (Nat.le_trans hb.size q))), (hb.trans h2).mono (fun k _ h => h.1)⟩
theorem TP.same {x : Nat} {F : Nat → Prop} {D : Dk} {n : Nat} {w V : World} {e : Ending} (hb : Below w.heap.size w V) (he : e = .returned (.int .i64 (n : Int))) (h1 : Pm w x F D) : TP x F (D, n) w e V :=
  ⟨he, (h1.below hb).mono (fun k h _ => .inl h), Kd.below hb⟩
theorem lies_kd {F : Nat → Prop} {w V : World} {a : Option Addr} {zs : List Int} (h : Kd F w V) (hc : Lies .u8 w a zs) (hn : ∀ b off, zs ≠ [] → a = some ⟨b, off, none⟩ → ¬ F b) : Lies .u8 V a zs := by
  rcases hc with h0 | ⟨b, off, e, hc⟩
  · exact .inl h0
  · by_cases hz : zs = []
    · exact .inl hz
    · exact .inr ⟨b, off, e, fun i hi => h.cell (hc i hi) (hn b off hz e)⟩


set_option maxHeartbeats 16000000 in
set_option maxRecDepth 100000 in
theorem touch4 (w : World) (x : Nat) (F : Nat → Prop) (D : Dk) (B : Nat) (N : Int) (dn : Bool) (s s2 : ByteArray) (ad : Option Addr) (nd cd : Nat) (h : Pm w x F D) (hk : D.Ok B) (hB : B ≤ 1099511627776) :
    Calls Tryd.prog 9 #[.pointer (some ⟨x, 0, none⟩), .agg (toC 4 N dn s s2 ad nd cd)] w fun e w' => TP x F (fileD D s (fun i => D.fs.eraseIdx i)) w e w' := by
  obtain ⟨R, hR⟩ : ∃ R, fileD D s (fun i => D.fs.eraseIdx i) = R := ⟨_, rfl⟩
  rw [hR]
  obtain ⟨W, hW⟩ : ∃ W, w.alloc (.cells #[.int .i64 4, .int .i64 N, .bool dn, .string s, .string s2, .slice ad nd cd] 38) = W := ⟨_, rfl⟩
  obtain ⟨Tb, hTb⟩ : ∃ g, w.heap.size = g := ⟨_, rfl⟩
  have hbw : Below w.heap.size w W := by rw [← hW]; exact (Below.refl _ _).alloc (Nat.le_refl _) _
  have t0 : W.cell? ⟨Tb, 0, none⟩ = some (.int .i64 4) := by rw [← hW, ← hTb]; simp
  have t1 : W.cell? ⟨Tb, 1, none⟩ = some (.int .i64 N) := by rw [← hW, ← hTb]; simp
  have t2 : W.cell? ⟨Tb, 2, none⟩ = some (.bool dn) := by rw [← hW, ← hTb]; simp
  have t3 : W.cell? ⟨Tb, 3, none⟩ = some (.string s) := by rw [← hW, ← hTb]; simp
  have t4 : W.cell? ⟨Tb, 4, none⟩ = some (.string s2) := by rw [← hW, ← hTb]; simp
  have t5 : W.cell? ⟨Tb, 5, none⟩ = some (.slice ad nd cd) := by rw [← hW, ← hTb]; simp
  have hPW : Pm W x (fc F w) D := h.fc.below hbw
  have HRf := refused_any W x (fc F w) D B 4 N dn s s2 ad nd cd hPW hk hB
  unfold toC at HRf
  have nT : ∀ k, fc F w k → k ≠ Tb := fun k q e => by have := q.2; omega
  have HT : Hid (¬ fc F w Tb) := fun q => nT Tb q rfl
  have HP : Hid (Pm w x F D ∧ Pm W x (fc F w) D ∧ D.Ok B ∧ Below w.heap.size w W) := ⟨h, hPW, hk, hbw⟩
  have HRR : Hid (fileD D s (fun i => D.fs.eraseIdx i) = R) := hR
  clear h hPW hk hbw nT hR
  unfold toC
  go_enter Tryd.func9, Tryd.ntmps9
  go_upto_region 2 with (go_at_call 31; refine HRf.mono ?_; rintro e w1 ⟨rfl, HB1⟩)
  clear hW hTb HRf
  have q0 := bel_cell HB1.out t0
  have q1 := bel_cell HB1.out t1
  have q3 := bel_cell HB1.out t3
  have q4 := bel_cell HB1.out t4
  have q5 := bel_cell HB1.out t5
  have HB2 : Hid (Below w.heap.size w w1) := HP.out.2.2.2.trans (HB1.out.mono HP.out.2.2.2.size)
  clear t0 t1 t2 t3 t4 t5
  have hP1 : Pm w1 x (fc F w) D := HP.out.2.1.below HB1.out
  have HTk := takes_any w1 x (fc F w) D B hP1 HP.out.2.2.1
  clear HB1 hP1

  obtain ⟨bA, hbA⟩ : ∃ b, actB D = b := ⟨_, rfl⟩
  obtain ⟨bD, hbD⟩ : ∃ b, (if actB D = true then D.dn else true) = b := ⟨_, rfl⟩
  rw [hbD, hbA] at HTk
  have HBB : Hid (actB D = bA ∧ (if actB D = true then D.dn else true) = bD) := ⟨hbA, hbD⟩
  clear hbA hbD
  by_cases c1 : D.dw = true
  · have e1 : refN D 4 s nd = 2 := by unfold refN; rw [if_pos c1]
    have HR2 : Hid (R = (D, 2)) := by show _ = _; rw [← HRR.out]; exact (by unfold fileD; rw [if_pos c1])
    rw [e1]
    clear HTk
    go_wp2
    go_ret
    rw [HR2.out]
    exact TP.same HB2.out rfl HP.out.1
  by_cases c2 : fnd D.fs s = none
  · have e1 : refN D 4 s nd = 3 := by unfold refN; rw [if_neg c1, if_neg (fun q => absurd q.1 (by decide)), if_pos ⟨by decide, c2⟩]
    have HR2 : Hid (R = (D, 3)) := by show _ = _; rw [← HRR.out]; exact (by unfold fileD; rw [if_neg c1, c2])
    rw [e1]
    clear HTk
    go_wp2
    go_ret
    rw [HR2.out]
    exact TP.same HB2.out rfl HP.out.1
  have e1 : refN D 4 s nd = 0 := by unfold refN; rw [if_neg c1, if_neg (fun q => absurd q.1 (by decide)), if_neg (fun q => c2 q.2)]
  rw [e1]
  obtain ⟨i, hi⟩ : ∃ i, fnd D.fs s = some i := by
    cases hf : fnd D.fs s with
    | none => exact absurd hf c2
    | some i => exact ⟨i, rfl⟩
  have HR2 : Hid (R = (actD D (D.fs.eraseIdx i), actR D)) := by show _ = _; rw [← HRR.out]; unfold fileD; rw [if_neg c1, hi]
  have HI : Hid (fnd D.fs s = some i) := hi
  clear hi
  clear c1 c2 e1 HRR
  go_upto_region 5 with (go_at_call 32; refine HTk.mono ?_; rintro e V ⟨rfl, HV0⟩)
  clear HTk
  have HV : Hid (Pm V x (fc F w) (tkD D) ∧ Kd (fc F w) w V) := ⟨HV0.out.1, (Kd.below HB2.out).trans HV0.out.2.1⟩
  have v0 := HV0.out.2.1.cell q0 HT.out
  have v1 := HV0.out.2.1.cell q1 HT.out
  have v3 := HV0.out.2.1.cell q3 HT.out
  have v4 := HV0.out.2.1.cell q4 HT.out
  have v5 := HV0.out.2.1.cell q5 HT.out
  clear q0 q1 q3 q4 q5 HV0
  have HFn := pfind_any V x (fc F w) (tkD D) s B HV.out.1 (tk_ok HP.out.2.2.1) hB
  rw [tk_fs] at HFn
  obtain ⟨K, hK⟩ : ∃ K, fI D.fs s = K := ⟨_, rfl⟩
  have HK : Hid (fI D.fs s = K) := hK
  rw [hK] at HFn
  clear hK
  go_upto_region 6 with (go_at_call 18; refine HFn.mono ?_; rintro e w2 ⟨rfl, hw2⟩; rw [hw2]; clear hw2)
  clear HFn
  cases bD with
  | false =>
    have HRes : Hid (R = (tkD D, 2) ∧ bA = true) := by
      have h1 := HBB.out
      have hb : actB D = true := by
        by_cases e : actB D = true
        · exact e
        · rw [if_neg e] at h1; cases h1.2
      have hdn : D.dn = false := by rw [if_pos hb] at h1; exact h1.2
      refine ⟨?_, by rw [← h1.1]; exact hb⟩
      rw [HR2.out, act_not hb hdn]
      unfold actR; rw [if_pos hb]
    obtain rfl : bA = true := HRes.out.2
    go_wp2
    go_ret
    rw [HRes.out.1]
    exact TP.of HV.out.2 rfl (HV.out.1.mono (fun k h _ => .inl h)) (Kd.refl _ _)
  | true =>
    have HRes : Hid (∀ fs, actD D fs = (tkD D).fs' fs) := fun fs => act_does (by
      have h1 := HBB.out
      by_cases e : actB D = true
      · rw [if_pos e] at h1; exact .inr h1.2
      · exact .inl (by simpa using e))
    have HAc : Hid (actR D = if bA = true then 2 else 0) := by show _ = _; unfold actR; rw [HBB.out.1]
    have HOk : Hid ((tkD D).Ok B) := tk_ok HP.out.2.2.1
    clear HBB
    have hK2 : K = (i : Int) := by rw [← HK.out]; exact fI_some HI.out
    subst hK2
    have hz0 : ¬ (i : Int) < 0 := by omega
    have HA := away_any V x i (fc F w) (tkD D) B HV.out.1 HOk.out hB
    rw [tk_fs] at HA
    go_upto_region 27 with (go_at_call 33; refine HA.mono ?_; rintro e V2 ⟨⟨v9, rfl⟩, HW2⟩)
    clear HA
    have HF : Hid (TP x F R w (.returned (.int .i64 ((R.2 : Nat) : Int))) V2) := by
      rw [HR2.out, HRes.out]
      exact TP.of HV.out.2 rfl (HW2.out.1) (HW2.out.2)
    have HR3 : Hid (R.2 = actR D) := by show _ = _; rw [HR2.out]
    clear v0 v1 v3 v4 v5
    cases bA with
    | true =>
      go_wp2
      go_ret
      have h9 := HF.out
      rw [HR3.out, HAc.out] at h9
      exact h9
    | false =>
      go_wp2
      go_ret
      have h9 := HF.out
      rw [HR3.out, HAc.out] at h9
      exact h9


set_option maxHeartbeats 16000000 in
set_option maxRecDepth 100000 in
theorem touch2 (w : World) (x : Nat) (F : Nat → Prop) (D : Dk) (B : Nat) (N : Int) (dn : Bool) (s s2 : ByteArray) (ad : Option Addr) (nd cd : Nat) (h : Pm w x F D) (hk : D.Ok B) (hB : B ≤ 1099511627776) :
    Calls Tryd.prog 9 #[.pointer (some ⟨x, 0, none⟩), .agg (toC 2 N dn s s2 ad nd cd)] w fun e w' => TP x F (fileD D s (fun i => synF D.fs i)) w e w' := by
  obtain ⟨R, hR⟩ : ∃ R, fileD D s (fun i => synF D.fs i) = R := ⟨_, rfl⟩
  rw [hR]
  obtain ⟨W, hW⟩ : ∃ W, w.alloc (.cells #[.int .i64 2, .int .i64 N, .bool dn, .string s, .string s2, .slice ad nd cd] 38) = W := ⟨_, rfl⟩
  obtain ⟨Tb, hTb⟩ : ∃ g, w.heap.size = g := ⟨_, rfl⟩
  have hbw : Below w.heap.size w W := by rw [← hW]; exact (Below.refl _ _).alloc (Nat.le_refl _) _
  have t0 : W.cell? ⟨Tb, 0, none⟩ = some (.int .i64 2) := by rw [← hW, ← hTb]; simp
  have t1 : W.cell? ⟨Tb, 1, none⟩ = some (.int .i64 N) := by rw [← hW, ← hTb]; simp
  have t2 : W.cell? ⟨Tb, 2, none⟩ = some (.bool dn) := by rw [← hW, ← hTb]; simp
  have t3 : W.cell? ⟨Tb, 3, none⟩ = some (.string s) := by rw [← hW, ← hTb]; simp
  have t4 : W.cell? ⟨Tb, 4, none⟩ = some (.string s2) := by rw [← hW, ← hTb]; simp
  have t5 : W.cell? ⟨Tb, 5, none⟩ = some (.slice ad nd cd) := by rw [← hW, ← hTb]; simp
  have hPW : Pm W x (fc F w) D := h.fc.below hbw
  have HRf := refused_any W x (fc F w) D B 2 N dn s s2 ad nd cd hPW hk hB
  unfold toC at HRf
  have nT : ∀ k, fc F w k → k ≠ Tb := fun k q e => by have := q.2; omega
  have HT : Hid (¬ fc F w Tb) := fun q => nT Tb q rfl
  have HP : Hid (Pm w x F D ∧ Pm W x (fc F w) D ∧ D.Ok B ∧ Below w.heap.size w W) := ⟨h, hPW, hk, hbw⟩
  have HRR : Hid (fileD D s (fun i => synF D.fs i) = R) := hR
  clear h hPW hk hbw nT hR
  unfold toC
  go_enter Tryd.func9, Tryd.ntmps9
  go_upto_region 2 with (go_at_call 31; refine HRf.mono ?_; rintro e w1 ⟨rfl, HB1⟩)
  clear hW hTb HRf
  have q0 := bel_cell HB1.out t0
  have q1 := bel_cell HB1.out t1
  have q3 := bel_cell HB1.out t3
  have q4 := bel_cell HB1.out t4
  have q5 := bel_cell HB1.out t5
  have HB2 : Hid (Below w.heap.size w w1) := HP.out.2.2.2.trans (HB1.out.mono HP.out.2.2.2.size)
  clear t0 t1 t2 t3 t4 t5
  have hP1 : Pm w1 x (fc F w) D := HP.out.2.1.below HB1.out
  have HTk := takes_any w1 x (fc F w) D B hP1 HP.out.2.2.1
  clear HB1 hP1

  obtain ⟨bA, hbA⟩ : ∃ b, actB D = b := ⟨_, rfl⟩
  obtain ⟨bD, hbD⟩ : ∃ b, (if actB D = true then D.dn else true) = b := ⟨_, rfl⟩
  rw [hbD, hbA] at HTk
  have HBB : Hid (actB D = bA ∧ (if actB D = true then D.dn else true) = bD) := ⟨hbA, hbD⟩
  clear hbA hbD
  by_cases c1 : D.dw = true
  · have e1 : refN D 2 s nd = 2 := by unfold refN; rw [if_pos c1]
    have HR2 : Hid (R = (D, 2)) := by show _ = _; rw [← HRR.out]; exact (by unfold fileD; rw [if_pos c1])
    rw [e1]
    clear HTk
    go_wp2
    go_ret
    rw [HR2.out]
    exact TP.same HB2.out rfl HP.out.1
  by_cases c2 : fnd D.fs s = none
  · have e1 : refN D 2 s nd = 3 := by unfold refN; rw [if_neg c1, if_neg (fun q => absurd q.1 (by decide)), if_pos ⟨by decide, c2⟩]
    have HR2 : Hid (R = (D, 3)) := by show _ = _; rw [← HRR.out]; exact (by unfold fileD; rw [if_neg c1, c2])
    rw [e1]
    clear HTk
    go_wp2
    go_ret
    rw [HR2.out]
    exact TP.same HB2.out rfl HP.out.1
  have e1 : refN D 2 s nd = 0 := by unfold refN; rw [if_neg c1, if_neg (fun q => absurd q.1 (by decide)), if_neg (fun q => c2 q.2)]
  rw [e1]
  obtain ⟨i, hi⟩ : ∃ i, fnd D.fs s = some i := by
    cases hf : fnd D.fs s with
    | none => exact absurd hf c2
    | some i => exact ⟨i, rfl⟩
  have HR2 : Hid (R = (actD D (synF D.fs i), actR D)) := by show _ = _; rw [← HRR.out]; unfold fileD; rw [if_neg c1, hi]
  have HI : Hid (fnd D.fs s = some i) := hi
  clear hi
  clear c1 c2 e1 HRR
  go_upto_region 5 with (go_at_call 32; refine HTk.mono ?_; rintro e V ⟨rfl, HV0⟩)
  clear HTk
  have HV : Hid (Pm V x (fc F w) (tkD D) ∧ Kd (fc F w) w V) := ⟨HV0.out.1, (Kd.below HB2.out).trans HV0.out.2.1⟩
  have v0 := HV0.out.2.1.cell q0 HT.out
  have v1 := HV0.out.2.1.cell q1 HT.out
  have v3 := HV0.out.2.1.cell q3 HT.out
  have v4 := HV0.out.2.1.cell q4 HT.out
  have v5 := HV0.out.2.1.cell q5 HT.out
  clear q0 q1 q3 q4 q5 HV0
  have HFn := pfind_any V x (fc F w) (tkD D) s B HV.out.1 (tk_ok HP.out.2.2.1) hB
  rw [tk_fs] at HFn
  obtain ⟨K, hK⟩ : ∃ K, fI D.fs s = K := ⟨_, rfl⟩
  have HK : Hid (fI D.fs s = K) := hK
  rw [hK] at HFn
  clear hK
  go_upto_region 6 with (go_at_call 18; refine HFn.mono ?_; rintro e w2 ⟨rfl, hw2⟩; rw [hw2]; clear hw2)
  clear HFn
  cases bD with
  | false =>
    have HRes : Hid (R = (tkD D, 2) ∧ bA = true) := by
      have h1 := HBB.out
      have hb : actB D = true := by
        by_cases e : actB D = true
        · exact e
        · rw [if_neg e] at h1; cases h1.2
      have hdn : D.dn = false := by rw [if_pos hb] at h1; exact h1.2
      refine ⟨?_, by rw [← h1.1]; exact hb⟩
      rw [HR2.out, act_not hb hdn]
      unfold actR; rw [if_pos hb]
    obtain rfl : bA = true := HRes.out.2
    go_wp2
    go_ret
    rw [HRes.out.1]
    exact TP.of HV.out.2 rfl (HV.out.1.mono (fun k h _ => .inl h)) (Kd.refl _ _)
  | true =>
    have HRes : Hid (∀ fs, actD D fs = (tkD D).fs' fs) := fun fs => act_does (by
      have h1 := HBB.out
      by_cases e : actB D = true
      · rw [if_pos e] at h1; exact .inr h1.2
      · exact .inl (by simpa using e))
    have HAc : Hid (actR D = if bA = true then 2 else 0) := by show _ = _; unfold actR; rw [HBB.out.1]
    have HOk : Hid ((tkD D).Ok B) := tk_ok HP.out.2.2.1
    clear HBB
    have hK2 : K = (i : Int) := by rw [← HK.out]; exact fI_some HI.out
    subst hK2
    have hz0 : ¬ (i : Int) < 0 := by omega
    obtain ⟨vn, vb, vs, L, hc⟩ := HV.out.1
    obtain ⟨n, hn⟩ : ∃ n, L.length = n := ⟨_, rfl⟩
    obtain ⟨p, hp⟩ : ∃ p, L[i]? = some p := ⟨_, List.getElem?_eq_getElem (by rw [← hc.len]; show i < (tkD D).fs.length; simp only [Dk.fs', tk_fs]; exact fnd_lt HI.out)⟩
    have hin : (i : Int) < (n : Int) := by have := (List.getElem?_eq_some_iff.mp hp).1; omega
    have hi0 : (0 : Int) ≤ (i : Int) := by omega
    obtain ⟨gN, cN, hvn, _, kN, zN⟩ := row_cell hc.rn (i := i) (u := .string p.1.nm) (by rw [List.getElem?_map, hp]; rfl)
    obtain ⟨gB, cB, hvb, _, kB, zB⟩ := row_cell hc.rb (i := i) (u := p.2) (by rw [List.getElem?_map, hp]; rfl)
    obtain ⟨gS, cS, hvs, _, kS, zS⟩ := row_cell hc.rs (i := i) (u := .int .i64 p.1.sf) (by rw [List.getElem?_map, hp]; rfl)
    rw [hn] at hvn hvb hvs
    subst hvn hvb hvs
    have c0 : V.cell? ⟨x, 0, none⟩ = some (.slice (some ⟨gN, 0, none⟩) n cN) := hc.c 0
    have c1 : V.cell? ⟨x, 1, none⟩ = some (.slice (some ⟨gB, 0, none⟩) n cB) := hc.c 1
    have c2 : V.cell? ⟨x, 2, none⟩ = some (.slice (some ⟨gS, 0, none⟩) n cS) := hc.c 2
    have nS : x ≠ gS := fun e => d_box hc.rs hc.box (by decide) (by rw [e]; rfl)
    have nN : x ≠ gN := fun e => d_box hc.rn hc.box (by decide) (by rw [e]; rfl)
    have nB : x ≠ gB := fun e => d_box hc.rb hc.box (by decide) (by rw [e]; rfl)
    have nBS : gB ≠ gS := fun e => d_apart hc.rb hc.rs (by decide) (g := gB) rfl (by rw [e]; rfl)
    have hpf := hc.file hp
    have hfS : fc F w gS := hc.fs gS rfl
    have hfN : fc F w gN := hc.fn gN rfl
    have hfB : fc F w gB := hc.fb gB rfl
    have nTS : Tb ≠ gS := fun e => HT.out (e ▸ hfS)
    have nTN : Tb ≠ gN := fun e => HT.out (e ▸ hfN)
    have nTB : Tb ≠ gB := fun e => HT.out (e ▸ hfB)
    have hfl : p.1.bs.length ≤ 1099511627776 := by have h8 := usd_get hpf; have h9 := HOk.out.used; simp only [Dk.fs', tk_fs] at h8 h9; omega
    obtain ⟨av, cv, hav⟩ := d_shape (hc.byt i p hp)
    rw [hav] at kB
    obtain ⟨m, hm⟩ : ∃ m, p.1.bs.length = m := ⟨_, rfl⟩
    rw [hm] at kB
    have zS' := zS i
    have HC : Hid (Pc V x (fc F w) (tkD D) (.slice (some ⟨gN, 0, none⟩) n cN) (.slice (some ⟨gB, 0, none⟩) n cB) (.slice (some ⟨gS, 0, none⟩) n cS) L ∧ L[i]? = some p ∧ p.1.bs.length = m ∧ fc F w gS) := ⟨hc, hp, hm, hfS⟩
    clear hc hp hm hn hpf hfS hfN hfB hav zN zB zS hfl
    go_upto_region 16 with fail
    refine Code.wp_mono (fun _ _ _ h => calmD_le h) ?_
    go_region_held3 (fun U => U.cell? ⟨x, 2, none⟩ = some (.slice (some ⟨gS, 0, none⟩) n cS) ∧ U.cell? ⟨x, 1, none⟩ = some (.slice (some ⟨gB, 0, none⟩) n cB) ∧ U.cell? ⟨gB, i, none⟩ = some (.slice av m cv))
      (first | exact ⟨c2, c1, kB⟩ | exact ⟨set_cell c2 nS, set_cell c1 nS, set_cell kB nBS⟩)
      (fail)
    simp only [calmD]
    obtain ⟨V2, hV2⟩ : ∃ V2, (V.setCell ⟨gS, i, none⟩ (.int .i64 (m : Int))).drew = V2 := ⟨_, rfl⟩
    rw [hV2]
    have HW2 : Hid (Pm V2 x (up (fc F w) V) ((tkD D).fs' (synF D.fs i)) ∧ Kd (fc F w) V V2) := by
      obtain ⟨hc, hp, hm, hfS⟩ := HC.out
      have h1 := hc.saf hp (m : Int)
      have hpf := hc.file hp
      rw [tk_fs] at hpf
      have e9 : synF D.fs i = (tkD D).fs.set i ⟨p.1.nm, p.1.bs, (m : Int)⟩ := by unfold synF; rw [setF_at hpf, hm, tk_fs]
      rw [← hV2, e9]
      exact ⟨⟨_, _, _, _, (h1.same (w' := (V.setCell ⟨gS, i, none⟩ (.int .i64 (m : Int))).drew) (fun _ _ _ => rfl)).mono (fun k h _ => .inl h)⟩, (Kd.set hfS).drew⟩
    clear hV2 HC kB kN kS
    have HF : Hid (TP x F R w (.returned (.int .i64 ((R.2 : Nat) : Int))) V2) := by
      rw [HR2.out, HRes.out]
      exact TP.of HV.out.2 rfl (HW2.out.1) (HW2.out.2)
    have HR3 : Hid (R.2 = actR D) := by show _ = _; rw [HR2.out]
    clear v0 v1 v3 v4 v5 c0 c1 c2
    cases bA with
    | true =>
      go_wp2
      go_ret
      have h9 := HF.out
      rw [HR3.out, HAc.out] at h9
      exact h9
    | false =>
      go_wp2
      go_ret
      have h9 := HF.out
      rw [HR3.out, HAc.out] at h9
      exact h9

end Go.Proofs.YticdedcgmofpjaaDoor.K
