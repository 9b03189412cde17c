import Derived.Test.YtllhbhogfffedaaGreatDoorDkCl2
namespace Go.Proofs.YtllhbhogfffedaaGreatDoor.K
open Go.RowKit
attribute [local go_sem] Oper.semAt_some
set_option linter.unusedVariables false
set_option linter.unusedSimpArgs false

def namF (fs : List Fl) (i : Nat) (s : ByteArray) : List Fl := setF fs i (fun f => ⟨s, f.bs, f.sf⟩)
def renF (fs : List Fl) (i : Nat) (s : ByteArray) : List Fl := match fnd fs s with
  | some k => if k = i then namF fs i s else (namF fs i s).eraseIdx k
  | none => namF fs i s
theorem Dm.up {w w' : World} {x : Nat} {F : Nat → Prop} {D : Dk} (h : Dm w' x F D) : Dm w' x (up F w) D := h.mono (fun k h _ => .inl h)
set_option maxHeartbeats 8000000 in
theorem clRen_any (w : World) (Db Tb Ib d x i : Nat) (F : Nat → Prop) (D : Dk) (s : ByteArray) (B : Nat) (h : Dm w x F D) (hk : D.Ok B) (hB : B ≤ 1099511627776) (hkl : i < D.fs.length)
    (hD : w.cell? ⟨Db, 0, none⟩ = some (.pointer (some ⟨d, 0, none⟩))) (hd : w.cell? ⟨d, 0, none⟩ = some (.pointer (some ⟨x, 0, none⟩))) (hT : w.cell? ⟨Tb, 0, none⟩ = some (.string s)) (hI : w.cell? ⟨Ib, 0, none⟩ = some (.int .i64 (i : Int))) (nD : ¬ F Db) (nd : ¬ F d) (nT : ¬ F Tb) (nI : ¬ F Ib) :
    Calls Tryz.prog 84 #[.pointer (some ⟨Db, 0, none⟩), .pointer (some ⟨Tb, 0, none⟩), .pointer (some ⟨Ib, 0, none⟩)] w fun e w' => ClP x F D (renF D.fs i s) w e w' := by
  have hfn := find_any w.drew x F D s B (h.same (fun _ _ _ => rfl)) hk hB
  obtain ⟨vf, L, hc⟩ := h
  obtain ⟨p, hp⟩ : ∃ p, L[i]? = some p := ⟨_, List.getElem?_eq_getElem (by rw [hc.len] at hkl; exact hkl)⟩
  obtain ⟨gF, cf, hv, hFg, hgl, k0, k1, k2, kz⟩ := hc.at hp
  obtain ⟨n, hn⟩ : ∃ n, L.length = n := ⟨_, rfl⟩
  rw [hn] at hv
  subst hv
  have HC : Hid (Dc w x F D (.slice (some ⟨gF, 0, none⟩) n cf) L ∧ L[i]? = some p ∧ F gF ∧ L.length = n) := ⟨hc, hp, hFg, hn⟩
  have hin : (i : Int) < (n : Int) := by rw [hc.len, hn] at hkl; omega
  have hi0 : (0 : Int) ≤ (i : Int) := by omega
  have HNb : Hid (n ≤ 1099511627776) := by show n ≤ _; have := hk.len; have := hc.len; omega
  have c0 : w.cell? ⟨x, 0, none⟩ = some (.slice (some ⟨gF, 0, none⟩) n cf) := hc.c 0
  have z0 := kz (i * 3)
  have hgx : gF ≠ x := fun e => hc.rx (by rw [e]; rfl)
  have e1 : Db ≠ gF := fun e => nD (e ▸ hFg)
  have e2 : d ≠ gF := fun e => nd (e ▸ hFg)
  have e3 : Ib ≠ gF := fun e => nI (e ▸ hFg)
  have e4 : Tb ≠ gF := fun e => nT (e ▸ hFg)
  have HF : Hid ((¬ F Db) ∧ (¬ F d) ∧ (¬ F Ib) ∧ (¬ F Tb)) := ⟨nD, nd, nI, nT⟩
  have HS : Hid (∀ V : World, (∀ g, g ≠ gF → V.heap[g]? = w.heap[g]?) → V.cell? ⟨Db, 0, none⟩ = some (.pointer (some ⟨d, 0, none⟩)) ∧ V.cell? ⟨d, 0, none⟩ = some (.pointer (some ⟨x, 0, none⟩)) ∧ V.cell? ⟨Ib, 0, none⟩ = some (.int .i64 (i : Int)) ∧ V.cell? ⟨x, 0, none⟩ = some (.slice (some ⟨gF, 0, none⟩) n cf) ∧ V.cell? ⟨Tb, 0, none⟩ = some (.string s)) := fun V h2 =>
    ⟨(World.cell?_of_block (a := ⟨Db, 0, none⟩) (h2 _ e1)).trans hD, (World.cell?_of_block (a := ⟨d, 0, none⟩) (h2 _ e2)).trans hd, (World.cell?_of_block (a := ⟨Ib, 0, none⟩) (h2 _ e3)).trans hI, (World.cell?_of_block (a := ⟨x, 0, none⟩) (h2 _ (fun e => hgx e.symm))).trans c0, (World.cell?_of_block (a := ⟨Tb, 0, none⟩) (h2 _ e4)).trans hT⟩
  clear hc hp hn hk hkl nD nd nI nT k1 k2 kz hFg
  go_enter Tryz.func84, Tryz.ntmps84
  go_wp2_with fail
  go_region_held3 (fun V => V.cell? ⟨Db, 0, none⟩ = some (.pointer (some ⟨d, 0, none⟩)) ∧ V.cell? ⟨d, 0, none⟩ = some (.pointer (some ⟨x, 0, none⟩)) ∧ V.cell? ⟨Tb, 0, none⟩ = some (.string s))
    (first | exact ⟨hD, hd, hT⟩)
    (first
      | (go_at_call 59
         refine hfn.mono ?_
         rintro e w1 ⟨rfl, hw1⟩
         rw [hw1]
         clear hw1))
  clear hfn
  obtain ⟨V1, hV1⟩ : ∃ V, w.drew = V := ⟨_, rfl⟩
  rw [hV1]
  have y1 := (HS.out V1 (fun _ _ => by rw [← hV1]; rfl))
  have HV1 : Hid (∀ g : Nat, V1.heap[g]? = w.heap[g]?) := fun g => by rw [← hV1]; rfl
  have k0' : V1.cell? ⟨gF, i * 3, none⟩ = some (.string p.1.nm) := by rw [← hV1]; exact k0
  have z0' : V1.frozen? ⟨gF, i * 3, none⟩ = false := by rw [← hV1]; exact z0
  have HO1 : Hid (V1.os = w.os ∧ V1.tape = w.tape ∧ V1.output = w.output ∧ V1.heap.size = w.heap.size) := by rw [← hV1]; exact ⟨rfl, rfl, rfl, rfl⟩
  obtain ⟨y11, y12, y13, y14, y15⟩ := y1
  clear hV1 hD hd hT hI c0 k0 z0
  obtain ⟨K, hK⟩ : ∃ K, fI D.fs s = K := ⟨_, rfl⟩
  have HK : Hid (fI D.fs s = K) := hK
  rw [hK]
  clear hK
  go_wp2_with fail
  go_region_held3 (fun V => V.cell? ⟨Db, 0, none⟩ = some (.pointer (some ⟨d, 0, none⟩)) ∧ V.cell? ⟨d, 0, none⟩ = some (.pointer (some ⟨x, 0, none⟩)) ∧ V.cell? ⟨Ib, 0, none⟩ = some (.int .i64 (i : Int)) ∧ V.cell? ⟨x, 0, none⟩ = some (.slice (some ⟨gF, 0, none⟩) n cf) ∧ V.cell? ⟨Tb, 0, none⟩ = some (.string s))
    (first | exact ⟨y11, y12, y13, y14, y15⟩ | exact HS.out _ (fun g hg => (heap_setCell_other _ _ _ _ hg).trans (HV1.out g)))
    (fail)
  obtain ⟨V2, hV2⟩ : ∃ V, (V1.setCell ⟨gF, i * 3, none⟩ (.string s)).drew = V := ⟨_, rfl⟩
  rw [hV2]
  have HD2 : Hid (Dc V2 x F (D.fs' (namF D.fs i s)) (.slice (some ⟨gF, 0, none⟩) n cf) (L.set i (⟨s, p.1.bs, p.1.sf⟩, p.2)) ∧ Kd F w V2) := by
    obtain ⟨hc, hp, hFg, _⟩ := HC.out
    have hr : Dc (V1.setCell ⟨gF, i * 3, none⟩ (.string s)).drew x F (D.fs' (D.fs.set i ⟨s, p.1.bs, p.1.sf⟩)) (.slice (some ⟨gF, 0, none⟩) n cf) (L.set i (⟨s, p.1.bs, p.1.sf⟩, p.2)) := (hc.same (w' := V1.drew) (fun k _ _ => HV1.out k)).cellF hp (k := i * 3) (v := .string s) (q := ⟨s, p.1.bs, p.1.sf⟩) rfl (fcell_set0 _ hp)
    rw [hV2] at hr
    refine ⟨by unfold namF; rw [setF_at (hc.file hp)]; exact hr, ?_⟩
    have h1 : Kd F w V1.drew := ⟨HO1.out.1, HO1.out.2.1, HO1.out.2.2.1, by rw [show V1.drew.heap.size = V1.heap.size from rfl, HO1.out.2.2.2]; exact Nat.le_refl _, fun k _ _ => HV1.out k⟩
    rw [← hV2]
    exact (h1.trans (Kd.set hFg) : Kd F w (V1.drew.setCell ⟨gF, i * 3, none⟩ (.string s)))
  obtain ⟨x1, x2, x3, x4, x5⟩ := HS.out V2 (fun g hg => by rw [← hV2]; exact (heap_setCell_other _ _ _ _ hg).trans (HV1.out g))
  have HX2 : Hid (V2.cell? ⟨Db, 0, none⟩ = some (.pointer (some ⟨d, 0, none⟩)) ∧ V2.cell? ⟨d, 0, none⟩ = some (.pointer (some ⟨x, 0, none⟩))) := ⟨x1, x2⟩
  clear hV2 y11 y12 y13 y14 y15 k0' z0' x1 x2 x4 x5
  cases hf : fnd D.fs s with
  | none =>
    have hK2 : K = -1 := by rw [← HK.out]; exact fI_none hf
    subst hK2
    have HR : Hid (renF D.fs i s = namF D.fs i s) := by show _ = _; unfold renF; rw [hf]
    clear hf
    go_wp2
    refine bodyPost_end (v := .tuple #[]) (by simp [results, Tryz.results84, go_sem]) rfl ?_
    exact ⟨⟨_, rfl⟩, by rw [HR.out]; exact Dm.up ⟨_, _, HD2.out.1⟩, HD2.out.2⟩
  | some k =>
    have hK2 : K = (k : Int) := by rw [← HK.out]; exact fI_some hf
    subst hK2
    have hz : ¬ (k : Int) < 0 := by omega
    have hz' : (k : Int) ≥ 0 := by omega
    by_cases hki : k = i
    · have HR : Hid (renF D.fs i s = namF D.fs i s) := by show _ = _; unfold renF; rw [hf]; simp only [hki, if_true]
      subst hki
      clear hf
      go_wp2
      refine bodyPost_end (v := .tuple #[]) (by simp [results, Tryz.results84, go_sem]) rfl ?_
      exact ⟨⟨_, rfl⟩, by rw [HR.out]; exact Dm.up ⟨_, _, HD2.out.1⟩, HD2.out.2⟩
    · have HR : Hid (renF D.fs i s = (namF D.fs i s).eraseIdx k) := by show _ = _; unfold renF; rw [hf]; simp only [hki, if_false]
      have hne : ((k : Int) != (i : Int)) = true := by simp; omega
      have hne2 : ¬ (k : Int) = (i : Int) := by omega
      have HL : Hid (k < n) := by show k < n; have := fnd_lt hf; rw [HC.out.1.len, HC.out.2.2.2] at this; exact this
      clear hf hki
      go_wp2_with fail
      refine regRenD _ Db d x gF n cf k F (D.fs' (namF D.fs i s)) _ V2 HD2.out.1 HL.out HNb.out HX2.out.1 HX2.out.2 HF.out.1 HF.out.2.1 ?_
      intro u1 u2 w' hc' hk'
      refine bodyPost_end (v := .tuple #[]) (by simp [results, Tryz.results84, go_sem]) rfl ?_
      exact ⟨⟨_, rfl⟩, by rw [HR.out]; exact Dm.up ⟨_, _, hc'⟩, HD2.out.2.trans hk'⟩

def regCutSOps : Array Oper := #[⟨some 13, .move (.tmp 3), 111, "disk.go:192", #[], none⟩,
  ⟨some 14, .move (.tmp 3), 111, "disk.go:192", #[], none⟩,
  ⟨some 15, .nilCheck (.tmp 14), 0, "disk.go:192", #[⟨1, .data⟩], none⟩,
  ⟨some 16, .fieldAddr 75 (.tmp 15) 1, 0, "disk.go:192", #[⟨2, .data⟩], none⟩,
  ⟨some 17, .load 35 (.tmp 16), 35, "disk.go:192", #[⟨3, .data⟩], none⟩,
  ⟨some 18, .load 3 (.tmp 2), 3, "disk.go:192", #[], none⟩,
  ⟨some 19, .call { callee := Callee.builtin Builtin.max, args := #[.tmp 18, Operand.const (Value.int IntKind.i64 0)], argTypes := #[3, 3] }, 3, "disk.go:192", #[⟨5, .data⟩], none⟩,
  ⟨some 20, .move (.tmp 3), 111, "disk.go:192", #[], none⟩,
  ⟨some 21, .nilCheck (.tmp 20), 0, "disk.go:192", #[⟨7, .data⟩], none⟩,
  ⟨some 22, .fieldAddr 75 (.tmp 21) 1, 0, "disk.go:192", #[⟨8, .data⟩], none⟩,
  ⟨some 23, .load 35 (.tmp 22), 35, "disk.go:192", #[⟨9, .data⟩], none⟩,
  ⟨some 24, .call { callee := Callee.builtin Builtin.len, args := #[.tmp 23], argTypes := #[35] }, 3, "disk.go:192", #[⟨10, .data⟩], none⟩,
  ⟨some 25, .call { callee := Callee.builtin Builtin.min, args := #[.tmp 19, .tmp 24], argTypes := #[3, 3] }, 3, "disk.go:192", #[⟨6, .data⟩, ⟨11, .data⟩], none⟩,
  ⟨some 26, .slice 35 (.tmp 17) none (some (.tmp 25)) none, 35, "disk.go:192", #[⟨4, .data⟩, ⟨12, .data⟩], none⟩,
  ⟨some 27, .nilCheck (.tmp 13), 0, "disk.go:192", #[⟨0, .data⟩, ⟨0, .phase⟩, ⟨1, .phase⟩, ⟨2, .phase⟩, ⟨3, .phase⟩, ⟨4, .phase⟩, ⟨5, .phase⟩, ⟨6, .phase⟩, ⟨7, .phase⟩, ⟨8, .phase⟩, ⟨9, .phase⟩, ⟨10, .phase⟩, ⟨11, .phase⟩, ⟨12, .phase⟩, ⟨13, .phase⟩], none⟩,
  ⟨some 28, .fieldAddr 75 (.tmp 27) 1, 0, "disk.go:192", #[⟨14, .data⟩, ⟨0, .phase⟩, ⟨1, .phase⟩, ⟨2, .phase⟩, ⟨3, .phase⟩, ⟨4, .phase⟩, ⟨5, .phase⟩, ⟨6, .phase⟩, ⟨7, .phase⟩, ⟨8, .phase⟩, ⟨9, .phase⟩, ⟨10, .phase⟩, ⟨11, .phase⟩, ⟨12, .phase⟩, ⟨13, .phase⟩], none⟩,
  ⟨none, .store 35 (.tmp 28) (.tmp 26), 0, "disk.go:192", #[⟨15, .data⟩, ⟨13, .data⟩, ⟨0, .phase⟩, ⟨1, .phase⟩, ⟨2, .phase⟩, ⟨3, .phase⟩, ⟨4, .phase⟩, ⟨5, .phase⟩, ⟨6, .phase⟩, ⟨7, .phase⟩, ⟨8, .phase⟩, ⟨9, .phase⟩, ⟨10, .phase⟩, ⟨11, .phase⟩, ⟨12, .phase⟩, ⟨13, .phase⟩], none⟩]
set_option maxRecDepth 100000 in
set_option maxHeartbeats 4000000 in
theorem regCutS (Q : Exit → Act → World → Prop) (Sb gF i : Nat) (N M : Int) (gv nv cv k : Nat) {t0 t1 t4 t5 t6 t7 t8 t9 t10 t11 t12 t13 t14 t15 t16 t17 t18 t19 t20 t21 t22 t23 t24 t25 t26 t27 t28 t29 t30 t31 t32 t33 t34 t35 t36 : Value} (W : World)
    (hk0 : (0 : Int) ≤ (k : Int)) (hkc : (k : Int) ≤ (cv : Int)) (hM : (if N < 0 then 0 else N) = M) (hm : (if (nv : Int) < M then (nv : Int) else M) = (k : Int)) (hB : W.drew.cell? ⟨gF, i * 3 + 1, none⟩ = some (.slice (some ⟨gv, 0, none⟩) nv cv)) (hz : W.drew.frozen? ⟨gF, i * 3 + 1, none⟩ = false) (hS : W.drew.cell? ⟨Sb, 0, none⟩ = some (.int .i64 N)) (hcx : ∀ y, (W.drew.setCell ⟨gF, i * 3 + 1, none⟩ y).cell? ⟨Sb, 0, none⟩ = some (.int .i64 N))
    (h : Q .normal { tmps := (t0 :: t1 :: .pointer (some ⟨Sb, 0, none⟩) :: .pointer (some ⟨gF, i * 3, none⟩) :: t4 :: t5 :: t6 :: t7 :: t8 :: t9 :: t10 :: t11 :: t12 :: .pointer (some ⟨gF, i * 3, none⟩) :: .pointer (some ⟨gF, i * 3, none⟩) :: .pointer (some ⟨gF, i * 3, none⟩) :: .pointer (some ⟨gF, i * 3 + 1, none⟩) :: .slice (some ⟨gv, 0, none⟩) nv cv :: .int .i64 N :: .int .i64 M :: .pointer (some ⟨gF, i * 3, none⟩) :: .pointer (some ⟨gF, i * 3, none⟩) :: .pointer (some ⟨gF, i * 3 + 1, none⟩) :: .slice (some ⟨gv, 0, none⟩) nv cv :: .int .i64 ((nv : Nat) : Int) :: .int .i64 ((k : Nat) : Int) :: .slice (some ⟨gv, 0, none⟩) k cv :: .pointer (some ⟨gF, i * 3, none⟩) :: .pointer (some ⟨gF, i * 3 + 1, none⟩) :: t29 :: t30 :: t31 :: t32 :: t33 :: t34 :: t35 :: t36 :: []).toArray, defers := [] } (W.drew.setCell ⟨gF, i * 3 + 1, none⟩ (.slice (some ⟨gv, 0, none⟩) k cv))) :
    (Code.region 1 regCutSOps true).wp Tryz.prog Q { tmps := (t0 :: t1 :: .pointer (some ⟨Sb, 0, none⟩) :: .pointer (some ⟨gF, i * 3, none⟩) :: t4 :: t5 :: t6 :: t7 :: t8 :: t9 :: t10 :: t11 :: t12 :: t13 :: t14 :: t15 :: t16 :: t17 :: t18 :: t19 :: t20 :: t21 :: t22 :: t23 :: t24 :: t25 :: t26 :: t27 :: t28 :: t29 :: t30 :: t31 :: t32 :: t33 :: t34 :: t35 :: t36 :: []).toArray, defers := [] } W := by
  refine Code.wp_mono (fun _ _ _ h => calmD_le h) ?_
  have hp : ∀ c a a' w, calmD Q (.panic c) a w → calmD Q (.panic c) a' w := fun _ _ _ _ h => h
  refine wp_region_held (S := fun V => V.cell? ⟨Sb, 0, none⟩ = some (.int .i64 N)) (by kernel_rfl) ?_
  change wpAnyH _ _ _ _ _ _ _ _ W.drew
  refine wpAnyH_take (i := 0) (oi := ⟨some 13, .move (.tmp 3), 111, "disk.go:192", #[], none⟩) (v := .pointer (some ⟨gF, i * 3, none⟩)) rfl (by kernel_rfl) (by kernel_rfl) (by kernel_rfl) (fun _ _ _ h => hp _ _ _ _ h) (.inl ⟨by kernel_rfl, fun V hV => ?_⟩) hS ?_
  · have s0 := hV
    try obtain ⟨s1, s2⟩ := s0
    go_split_ands
    go_simp
    all_goals (first | assumption | skip)
  simp only [Act.put, List.setIfInBounds_toArray, List.set_cons_zero, List.set_cons_succ]
  refine wpAnyH_take (i := 1) (oi := ⟨some 14, .move (.tmp 3), 111, "disk.go:192", #[], none⟩) (v := .pointer (some ⟨gF, i * 3, none⟩)) rfl (by kernel_rfl) (by kernel_rfl) (by kernel_rfl) (fun _ _ _ h => hp _ _ _ _ h) (.inl ⟨by kernel_rfl, fun V hV => ?_⟩) hS ?_
  · have s0 := hV
    try obtain ⟨s1, s2⟩ := s0
    go_split_ands
    go_simp
    all_goals (first | assumption | skip)
  simp only [Act.put, List.setIfInBounds_toArray, List.set_cons_zero, List.set_cons_succ]
  refine wpAnyH_take (i := 2) (oi := ⟨some 15, .nilCheck (.tmp 14), 0, "disk.go:192", #[⟨1, .data⟩], none⟩) (v := .pointer (some ⟨gF, i * 3, none⟩)) rfl (by kernel_rfl) (by kernel_rfl) (by kernel_rfl) (fun _ _ _ h => hp _ _ _ _ h) (.inl ⟨by kernel_rfl, fun V hV => ?_⟩) hS ?_
  · have s0 := hV
    try obtain ⟨s1, s2⟩ := s0
    go_split_ands
    go_simp
    all_goals (first | assumption | skip)
  simp only [Act.put, List.setIfInBounds_toArray, List.set_cons_zero, List.set_cons_succ]
  refine wpAnyH_take (i := 3) (oi := ⟨some 16, .fieldAddr 75 (.tmp 15) 1, 0, "disk.go:192", #[⟨2, .data⟩], none⟩) (v := .pointer (some ⟨gF, i * 3 + 1, none⟩)) rfl (by kernel_rfl) (by kernel_rfl) (by kernel_rfl) (fun _ _ _ h => hp _ _ _ _ h) (.inl ⟨by kernel_rfl, fun V hV => ?_⟩) hS ?_
  · have s0 := hV
    try obtain ⟨s1, s2⟩ := s0
    go_split_ands
    go_simp
    all_goals (first | assumption | skip)
  simp only [Act.put, List.setIfInBounds_toArray, List.set_cons_zero, List.set_cons_succ]
  refine wpAnyH_take (i := 5) (oi := ⟨some 18, .load 3 (.tmp 2), 3, "disk.go:192", #[], none⟩) (v := .int .i64 N) rfl (by kernel_rfl) (by kernel_rfl) (by kernel_rfl) (fun _ _ _ h => hp _ _ _ _ h) (.inl ⟨by kernel_rfl, fun V hV => ?_⟩) hS ?_
  · have s0 := hV
    try obtain ⟨s1, s2⟩ := s0
    go_split_ands
    go_simp
    all_goals (first | assumption | skip)
  simp only [Act.put, List.setIfInBounds_toArray, List.set_cons_zero, List.set_cons_succ]
  refine wpAnyH_take (i := 6) (oi := ⟨some 19, .call { callee := Callee.builtin Builtin.max, args := #[.tmp 18, Operand.const (Value.int IntKind.i64 0)], argTypes := #[3, 3] }, 3, "disk.go:192", #[⟨5, .data⟩], none⟩) (v := .int .i64 M) rfl (by kernel_rfl) (by kernel_rfl) (by kernel_rfl) (fun _ _ _ h => hp _ _ _ _ h) (.inl ⟨by kernel_rfl, fun V hV => ?_⟩) hS ?_
  · have s0 := hV
    try obtain ⟨s1, s2⟩ := s0
    go_split_ands
    go_simp
    all_goals (first | assumption | skip)
  simp only [Act.put, List.setIfInBounds_toArray, List.set_cons_zero, List.set_cons_succ]
  refine wpAnyH_take (i := 7) (oi := ⟨some 20, .move (.tmp 3), 111, "disk.go:192", #[], none⟩) (v := .pointer (some ⟨gF, i * 3, none⟩)) rfl (by kernel_rfl) (by kernel_rfl) (by kernel_rfl) (fun _ _ _ h => hp _ _ _ _ h) (.inl ⟨by kernel_rfl, fun V hV => ?_⟩) hS ?_
  · have s0 := hV
    try obtain ⟨s1, s2⟩ := s0
    go_split_ands
    go_simp
    all_goals (first | assumption | skip)
  simp only [Act.put, List.setIfInBounds_toArray, List.set_cons_zero, List.set_cons_succ]
  refine wpAnyH_take (i := 8) (oi := ⟨some 21, .nilCheck (.tmp 20), 0, "disk.go:192", #[⟨7, .data⟩], none⟩) (v := .pointer (some ⟨gF, i * 3, none⟩)) rfl (by kernel_rfl) (by kernel_rfl) (by kernel_rfl) (fun _ _ _ h => hp _ _ _ _ h) (.inl ⟨by kernel_rfl, fun V hV => ?_⟩) hS ?_
  · have s0 := hV
    try obtain ⟨s1, s2⟩ := s0
    go_split_ands
    go_simp
    all_goals (first | assumption | skip)
  simp only [Act.put, List.setIfInBounds_toArray, List.set_cons_zero, List.set_cons_succ]
  refine wpAnyH_take (i := 9) (oi := ⟨some 22, .fieldAddr 75 (.tmp 21) 1, 0, "disk.go:192", #[⟨8, .data⟩], none⟩) (v := .pointer (some ⟨gF, i * 3 + 1, none⟩)) rfl (by kernel_rfl) (by kernel_rfl) (by kernel_rfl) (fun _ _ _ h => hp _ _ _ _ h) (.inl ⟨by kernel_rfl, fun V hV => ?_⟩) hS ?_
  · have s0 := hV
    try obtain ⟨s1, s2⟩ := s0
    go_split_ands
    go_simp
    all_goals (first | assumption | skip)
  simp only [Act.put, List.setIfInBounds_toArray, List.set_cons_zero, List.set_cons_succ]
  refine wpAnyH_ready (rs := [4, 10]) (by kernel_rfl) (by simp) ?_
  refine (AllReadyH.cons (o := ⟨some 17, .load 35 (.tmp 16), 35, "disk.go:192", #[⟨3, .data⟩], none⟩) rfl (fun K hK => ?_) (AllReadyH.cons (o := ⟨some 23, .load 35 (.tmp 22), 35, "disk.go:192", #[⟨9, .data⟩], none⟩) rfl (fun K hK => ?_) AllReadyH.nil))
  · go_simp
    refine hK.out _ _ hS (fun _ => ?_)
    clear hK K
    try simp only [Act.put, List.setIfInBounds_toArray, List.set_cons_zero, List.set_cons_succ]
    refine wpAnyH_ready (rs := [10]) (by kernel_rfl) (by simp) ?_
    refine (AllReadyH.cons (o := ⟨some 23, .load 35 (.tmp 22), 35, "disk.go:192", #[⟨9, .data⟩], none⟩) rfl (fun K hK => ?_) AllReadyH.nil)
    go_simp
    refine hK.out _ _ hS (fun _ => ?_)
    clear hK K
    try simp only [Act.put, List.setIfInBounds_toArray, List.set_cons_zero, List.set_cons_succ]
    refine wpAnyH_take (i := 11) (oi := ⟨some 24, .call { callee := Callee.builtin Builtin.len, args := #[.tmp 23], argTypes := #[35] }, 3, "disk.go:192", #[⟨10, .data⟩], none⟩) (v := .int .i64 ((nv : Nat) : Int)) rfl (by kernel_rfl) (by kernel_rfl) (by kernel_rfl) (fun _ _ _ h => hp _ _ _ _ h) (.inl ⟨by kernel_rfl, fun V hV => ?_⟩) hS ?_
    · have s0 := hV
      try obtain ⟨s1, s2⟩ := s0
      go_split_ands
      go_simp
      all_goals (first | assumption | skip)
    simp only [Act.put, List.setIfInBounds_toArray, List.set_cons_zero, List.set_cons_succ]
    refine wpAnyH_take (i := 12) (oi := ⟨some 25, .call { callee := Callee.builtin Builtin.min, args := #[.tmp 19, .tmp 24], argTypes := #[3, 3] }, 3, "disk.go:192", #[⟨6, .data⟩, ⟨11, .data⟩], none⟩) (v := .int .i64 ((k : Nat) : Int)) rfl (by kernel_rfl) (by kernel_rfl) (by kernel_rfl) (fun _ _ _ h => hp _ _ _ _ h) (.inl ⟨by kernel_rfl, fun V hV => ?_⟩) hS ?_
    · have s0 := hV
      try obtain ⟨s1, s2⟩ := s0
      go_split_ands
      go_simp
      all_goals (first | assumption | skip)
    simp only [Act.put, List.setIfInBounds_toArray, List.set_cons_zero, List.set_cons_succ]
    refine wpAnyH_take (i := 13) (oi := ⟨some 26, .slice 35 (.tmp 17) none (some (.tmp 25)) none, 35, "disk.go:192", #[⟨4, .data⟩, ⟨12, .data⟩], none⟩) (v := .slice (some ⟨gv, 0, none⟩) k cv) rfl (by kernel_rfl) (by kernel_rfl) (by kernel_rfl) (fun _ _ _ h => hp _ _ _ _ h) (.inl ⟨by kernel_rfl, fun V hV => ?_⟩) hS ?_
    · have s0 := hV
      try obtain ⟨s1, s2⟩ := s0
      go_split_ands
      go_simp
      all_goals (first | assumption | skip)
    simp only [Act.put, List.setIfInBounds_toArray, List.set_cons_zero, List.set_cons_succ]
    refine wpAnyH_take (i := 14) (oi := ⟨some 27, .nilCheck (.tmp 13), 0, "disk.go:192", #[⟨0, .data⟩, ⟨0, .phase⟩, ⟨1, .phase⟩, ⟨2, .phase⟩, ⟨3, .phase⟩, ⟨4, .phase⟩, ⟨5, .phase⟩, ⟨6, .phase⟩, ⟨7, .phase⟩, ⟨8, .phase⟩, ⟨9, .phase⟩, ⟨10, .phase⟩, ⟨11, .phase⟩, ⟨12, .phase⟩, ⟨13, .phase⟩], none⟩) (v := .pointer (some ⟨gF, i * 3, none⟩)) rfl (by kernel_rfl) (by kernel_rfl) (by kernel_rfl) (fun _ _ _ h => hp _ _ _ _ h) (.inl ⟨by kernel_rfl, fun V hV => ?_⟩) hS ?_
    · have s0 := hV
      try obtain ⟨s1, s2⟩ := s0
      go_split_ands
      go_simp
      all_goals (first | assumption | skip)
    simp only [Act.put, List.setIfInBounds_toArray, List.set_cons_zero, List.set_cons_succ]
    refine wpAnyH_take (i := 15) (oi := ⟨some 28, .fieldAddr 75 (.tmp 27) 1, 0, "disk.go:192", #[⟨14, .data⟩, ⟨0, .phase⟩, ⟨1, .phase⟩, ⟨2, .phase⟩, ⟨3, .phase⟩, ⟨4, .phase⟩, ⟨5, .phase⟩, ⟨6, .phase⟩, ⟨7, .phase⟩, ⟨8, .phase⟩, ⟨9, .phase⟩, ⟨10, .phase⟩, ⟨11, .phase⟩, ⟨12, .phase⟩, ⟨13, .phase⟩], none⟩) (v := .pointer (some ⟨gF, i * 3 + 1, none⟩)) rfl (by kernel_rfl) (by kernel_rfl) (by kernel_rfl) (fun _ _ _ h => hp _ _ _ _ h) (.inl ⟨by kernel_rfl, fun V hV => ?_⟩) hS ?_
    · have s0 := hV
      try obtain ⟨s1, s2⟩ := s0
      go_split_ands
      go_simp
      all_goals (first | assumption | skip)
    simp only [Act.put, List.setIfInBounds_toArray, List.set_cons_zero, List.set_cons_succ]
    refine wpAnyH_ready (rs := [16]) (by kernel_rfl) (by simp) ?_
    refine (AllReadyH.cons (o := ⟨none, .store 35 (.tmp 28) (.tmp 26), 0, "disk.go:192", #[⟨15, .data⟩, ⟨13, .data⟩, ⟨0, .phase⟩, ⟨1, .phase⟩, ⟨2, .phase⟩, ⟨3, .phase⟩, ⟨4, .phase⟩, ⟨5, .phase⟩, ⟨6, .phase⟩, ⟨7, .phase⟩, ⟨8, .phase⟩, ⟨9, .phase⟩, ⟨10, .phase⟩, ⟨11, .phase⟩, ⟨12, .phase⟩, ⟨13, .phase⟩], none⟩) rfl (fun K hK => ?_) AllReadyH.nil)
    go_simp
    refine hK.out _ _ (hcx _) (fun _ => ?_)
    clear hK K
    try simp only [Act.put, List.setIfInBounds_toArray, List.set_cons_zero, List.set_cons_succ]
    exact wpAnyH_done (Q := calmD Q) (by kernel_rfl) h _
  · go_simp
    refine hK.out _ _ hS (fun _ => ?_)
    clear hK K
    try simp only [Act.put, List.setIfInBounds_toArray, List.set_cons_zero, List.set_cons_succ]
    refine wpAnyH_take (i := 11) (oi := ⟨some 24, .call { callee := Callee.builtin Builtin.len, args := #[.tmp 23], argTypes := #[35] }, 3, "disk.go:192", #[⟨10, .data⟩], none⟩) (v := .int .i64 ((nv : Nat) : Int)) rfl (by kernel_rfl) (by kernel_rfl) (by kernel_rfl) (fun _ _ _ h => hp _ _ _ _ h) (.inl ⟨by kernel_rfl, fun V hV => ?_⟩) hS ?_
    · have s0 := hV
      try obtain ⟨s1, s2⟩ := s0
      go_split_ands
      go_simp
      all_goals (first | assumption | skip)
    simp only [Act.put, List.setIfInBounds_toArray, List.set_cons_zero, List.set_cons_succ]
    refine wpAnyH_take (i := 12) (oi := ⟨some 25, .call { callee := Callee.builtin Builtin.min, args := #[.tmp 19, .tmp 24], argTypes := #[3, 3] }, 3, "disk.go:192", #[⟨6, .data⟩, ⟨11, .data⟩], none⟩) (v := .int .i64 ((k : Nat) : Int)) rfl (by kernel_rfl) (by kernel_rfl) (by kernel_rfl) (fun _ _ _ h => hp _ _ _ _ h) (.inl ⟨by kernel_rfl, fun V hV => ?_⟩) hS ?_
    · have s0 := hV
      try obtain ⟨s1, s2⟩ := s0
      go_split_ands
      go_simp
      all_goals (first | assumption | skip)
    simp only [Act.put, List.setIfInBounds_toArray, List.set_cons_zero, List.set_cons_succ]
    refine wpAnyH_ready (rs := [4]) (by kernel_rfl) (by simp) ?_
    refine (AllReadyH.cons (o := ⟨some 17, .load 35 (.tmp 16), 35, "disk.go:192", #[⟨3, .data⟩], none⟩) rfl (fun K hK => ?_) AllReadyH.nil)
    go_simp
    refine hK.out _ _ hS (fun _ => ?_)
    clear hK K
    try simp only [Act.put, List.setIfInBounds_toArray, List.set_cons_zero, List.set_cons_succ]
    refine wpAnyH_take (i := 13) (oi := ⟨some 26, .slice 35 (.tmp 17) none (some (.tmp 25)) none, 35, "disk.go:192", #[⟨4, .data⟩, ⟨12, .data⟩], none⟩) (v := .slice (some ⟨gv, 0, none⟩) k cv) rfl (by kernel_rfl) (by kernel_rfl) (by kernel_rfl) (fun _ _ _ h => hp _ _ _ _ h) (.inl ⟨by kernel_rfl, fun V hV => ?_⟩) hS ?_
    · have s0 := hV
      try obtain ⟨s1, s2⟩ := s0
      go_split_ands
      go_simp
      all_goals (first | assumption | skip)
    simp only [Act.put, List.setIfInBounds_toArray, List.set_cons_zero, List.set_cons_succ]
    refine wpAnyH_take (i := 14) (oi := ⟨some 27, .nilCheck (.tmp 13), 0, "disk.go:192", #[⟨0, .data⟩, ⟨0, .phase⟩, ⟨1, .phase⟩, ⟨2, .phase⟩, ⟨3, .phase⟩, ⟨4, .phase⟩, ⟨5, .phase⟩, ⟨6, .phase⟩, ⟨7, .phase⟩, ⟨8, .phase⟩, ⟨9, .phase⟩, ⟨10, .phase⟩, ⟨11, .phase⟩, ⟨12, .phase⟩, ⟨13, .phase⟩], none⟩) (v := .pointer (some ⟨gF, i * 3, none⟩)) rfl (by kernel_rfl) (by kernel_rfl) (by kernel_rfl) (fun _ _ _ h => hp _ _ _ _ h) (.inl ⟨by kernel_rfl, fun V hV => ?_⟩) hS ?_
    · have s0 := hV
      try obtain ⟨s1, s2⟩ := s0
      go_split_ands
      go_simp
      all_goals (first | assumption | skip)
    simp only [Act.put, List.setIfInBounds_toArray, List.set_cons_zero, List.set_cons_succ]
    refine wpAnyH_take (i := 15) (oi := ⟨some 28, .fieldAddr 75 (.tmp 27) 1, 0, "disk.go:192", #[⟨14, .data⟩, ⟨0, .phase⟩, ⟨1, .phase⟩, ⟨2, .phase⟩, ⟨3, .phase⟩, ⟨4, .phase⟩, ⟨5, .phase⟩, ⟨6, .phase⟩, ⟨7, .phase⟩, ⟨8, .phase⟩, ⟨9, .phase⟩, ⟨10, .phase⟩, ⟨11, .phase⟩, ⟨12, .phase⟩, ⟨13, .phase⟩], none⟩) (v := .pointer (some ⟨gF, i * 3 + 1, none⟩)) rfl (by kernel_rfl) (by kernel_rfl) (by kernel_rfl) (fun _ _ _ h => hp _ _ _ _ h) (.inl ⟨by kernel_rfl, fun V hV => ?_⟩) hS ?_
    · have s0 := hV
      try obtain ⟨s1, s2⟩ := s0
      go_split_ands
      go_simp
      all_goals (first | assumption | skip)
    simp only [Act.put, List.setIfInBounds_toArray, List.set_cons_zero, List.set_cons_succ]
    refine wpAnyH_ready (rs := [16]) (by kernel_rfl) (by simp) ?_
    refine (AllReadyH.cons (o := ⟨none, .store 35 (.tmp 28) (.tmp 26), 0, "disk.go:192", #[⟨15, .data⟩, ⟨13, .data⟩, ⟨0, .phase⟩, ⟨1, .phase⟩, ⟨2, .phase⟩, ⟨3, .phase⟩, ⟨4, .phase⟩, ⟨5, .phase⟩, ⟨6, .phase⟩, ⟨7, .phase⟩, ⟨8, .phase⟩, ⟨9, .phase⟩, ⟨10, .phase⟩, ⟨11, .phase⟩, ⟨12, .phase⟩, ⟨13, .phase⟩], none⟩) rfl (fun K hK => ?_) AllReadyH.nil)
    go_simp
    refine hK.out _ _ (hcx _) (fun _ => ?_)
    clear hK K
    try simp only [Act.put, List.setIfInBounds_toArray, List.set_cons_zero, List.set_cons_succ]
    exact wpAnyH_done (Q := calmD Q) (by kernel_rfl) h _

def regCutNOps : Array Oper := #[⟨some 13, .move (.tmp 3), 111, "disk.go:192", #[], none⟩,
  ⟨some 14, .move (.tmp 3), 111, "disk.go:192", #[], none⟩,
  ⟨some 15, .nilCheck (.tmp 14), 0, "disk.go:192", #[⟨1, .data⟩], none⟩,
  ⟨some 16, .fieldAddr 75 (.tmp 15) 1, 0, "disk.go:192", #[⟨2, .data⟩], none⟩,
  ⟨some 17, .load 35 (.tmp 16), 35, "disk.go:192", #[⟨3, .data⟩], none⟩,
  ⟨some 18, .load 3 (.tmp 2), 3, "disk.go:192", #[], none⟩,
  ⟨some 19, .call { callee := Callee.builtin Builtin.max, args := #[.tmp 18, Operand.const (Value.int IntKind.i64 0)], argTypes := #[3, 3] }, 3, "disk.go:192", #[⟨5, .data⟩], none⟩,
  ⟨some 20, .move (.tmp 3), 111, "disk.go:192", #[], none⟩,
  ⟨some 21, .nilCheck (.tmp 20), 0, "disk.go:192", #[⟨7, .data⟩], none⟩,
  ⟨some 22, .fieldAddr 75 (.tmp 21) 1, 0, "disk.go:192", #[⟨8, .data⟩], none⟩,
  ⟨some 23, .load 35 (.tmp 22), 35, "disk.go:192", #[⟨9, .data⟩], none⟩,
  ⟨some 24, .call { callee := Callee.builtin Builtin.len, args := #[.tmp 23], argTypes := #[35] }, 3, "disk.go:192", #[⟨10, .data⟩], none⟩,
  ⟨some 25, .call { callee := Callee.builtin Builtin.min, args := #[.tmp 19, .tmp 24], argTypes := #[3, 3] }, 3, "disk.go:192", #[⟨6, .data⟩, ⟨11, .data⟩], none⟩,
  ⟨some 26, .slice 35 (.tmp 17) none (some (.tmp 25)) none, 35, "disk.go:192", #[⟨4, .data⟩, ⟨12, .data⟩], none⟩,
  ⟨some 27, .nilCheck (.tmp 13), 0, "disk.go:192", #[⟨0, .data⟩, ⟨0, .phase⟩, ⟨1, .phase⟩, ⟨2, .phase⟩, ⟨3, .phase⟩, ⟨4, .phase⟩, ⟨5, .phase⟩, ⟨6, .phase⟩, ⟨7, .phase⟩, ⟨8, .phase⟩, ⟨9, .phase⟩, ⟨10, .phase⟩, ⟨11, .phase⟩, ⟨12, .phase⟩, ⟨13, .phase⟩], none⟩,
  ⟨some 28, .fieldAddr 75 (.tmp 27) 1, 0, "disk.go:192", #[⟨14, .data⟩, ⟨0, .phase⟩, ⟨1, .phase⟩, ⟨2, .phase⟩, ⟨3, .phase⟩, ⟨4, .phase⟩, ⟨5, .phase⟩, ⟨6, .phase⟩, ⟨7, .phase⟩, ⟨8, .phase⟩, ⟨9, .phase⟩, ⟨10, .phase⟩, ⟨11, .phase⟩, ⟨12, .phase⟩, ⟨13, .phase⟩], none⟩,
  ⟨none, .store 35 (.tmp 28) (.tmp 26), 0, "disk.go:192", #[⟨15, .data⟩, ⟨13, .data⟩, ⟨0, .phase⟩, ⟨1, .phase⟩, ⟨2, .phase⟩, ⟨3, .phase⟩, ⟨4, .phase⟩, ⟨5, .phase⟩, ⟨6, .phase⟩, ⟨7, .phase⟩, ⟨8, .phase⟩, ⟨9, .phase⟩, ⟨10, .phase⟩, ⟨11, .phase⟩, ⟨12, .phase⟩, ⟨13, .phase⟩], none⟩]
set_option maxRecDepth 100000 in
set_option maxHeartbeats 4000000 in
theorem regCutN (Q : Exit → Act → World → Prop) (Sb gF i : Nat) (N M : Int) {t0 t1 t4 t5 t6 t7 t8 t9 t10 t11 t12 t13 t14 t15 t16 t17 t18 t19 t20 t21 t22 t23 t24 t25 t26 t27 t28 t29 t30 t31 t32 t33 t34 t35 t36 : Value} (W : World)
    (hM : (if N < 0 then 0 else N) = M) (hm : M ≤ 0 → M = 0) (hB : W.drew.cell? ⟨gF, i * 3 + 1, none⟩ = some (.slice none 0 0)) (hz : W.drew.frozen? ⟨gF, i * 3 + 1, none⟩ = false) (hS : W.drew.cell? ⟨Sb, 0, none⟩ = some (.int .i64 N)) (hcx : ∀ y, (W.drew.setCell ⟨gF, i * 3 + 1, none⟩ y).cell? ⟨Sb, 0, none⟩ = some (.int .i64 N))
    (h : Q .normal { tmps := (t0 :: t1 :: .pointer (some ⟨Sb, 0, none⟩) :: .pointer (some ⟨gF, i * 3, none⟩) :: t4 :: t5 :: t6 :: t7 :: t8 :: t9 :: t10 :: t11 :: t12 :: .pointer (some ⟨gF, i * 3, none⟩) :: .pointer (some ⟨gF, i * 3, none⟩) :: .pointer (some ⟨gF, i * 3, none⟩) :: .pointer (some ⟨gF, i * 3 + 1, none⟩) :: .slice none 0 0 :: .int .i64 N :: .int .i64 M :: .pointer (some ⟨gF, i * 3, none⟩) :: .pointer (some ⟨gF, i * 3, none⟩) :: .pointer (some ⟨gF, i * 3 + 1, none⟩) :: .slice none 0 0 :: .int .i64 0 :: .int .i64 0 :: .slice none 0 0 :: .pointer (some ⟨gF, i * 3, none⟩) :: .pointer (some ⟨gF, i * 3 + 1, none⟩) :: t29 :: t30 :: t31 :: t32 :: t33 :: t34 :: t35 :: t36 :: []).toArray, defers := [] } (W.drew.setCell ⟨gF, i * 3 + 1, none⟩ (.slice none 0 0))) :
    (Code.region 1 regCutNOps true).wp Tryz.prog Q { tmps := (t0 :: t1 :: .pointer (some ⟨Sb, 0, none⟩) :: .pointer (some ⟨gF, i * 3, none⟩) :: t4 :: t5 :: t6 :: t7 :: t8 :: t9 :: t10 :: t11 :: t12 :: t13 :: t14 :: t15 :: t16 :: t17 :: t18 :: t19 :: t20 :: t21 :: t22 :: t23 :: t24 :: t25 :: t26 :: t27 :: t28 :: t29 :: t30 :: t31 :: t32 :: t33 :: t34 :: t35 :: t36 :: []).toArray, defers := [] } W := by
  refine Code.wp_mono (fun _ _ _ h => calmD_le h) ?_
  have hp : ∀ c a a' w, calmD Q (.panic c) a w → calmD Q (.panic c) a' w := fun _ _ _ _ h => h
  refine wp_region_held (S := fun V => V.cell? ⟨Sb, 0, none⟩ = some (.int .i64 N)) (by kernel_rfl) ?_
  change wpAnyH _ _ _ _ _ _ _ _ W.drew
  refine wpAnyH_take (i := 0) (oi := ⟨some 13, .move (.tmp 3), 111, "disk.go:192", #[], none⟩) (v := .pointer (some ⟨gF, i * 3, none⟩)) rfl (by kernel_rfl) (by kernel_rfl) (by kernel_rfl) (fun _ _ _ h => hp _ _ _ _ h) (.inl ⟨by kernel_rfl, fun V hV => ?_⟩) hS ?_
  · have s0 := hV
    try obtain ⟨s1, s2⟩ := s0
    go_split_ands
    go_simp
    all_goals (first | assumption | skip)
  simp only [Act.put, List.setIfInBounds_toArray, List.set_cons_zero, List.set_cons_succ]
  refine wpAnyH_take (i := 1) (oi := ⟨some 14, .move (.tmp 3), 111, "disk.go:192", #[], none⟩) (v := .pointer (some ⟨gF, i * 3, none⟩)) rfl (by kernel_rfl) (by kernel_rfl) (by kernel_rfl) (fun _ _ _ h => hp _ _ _ _ h) (.inl ⟨by kernel_rfl, fun V hV => ?_⟩) hS ?_
  · have s0 := hV
    try obtain ⟨s1, s2⟩ := s0
    go_split_ands
    go_simp
    all_goals (first | assumption | skip)
  simp only [Act.put, List.setIfInBounds_toArray, List.set_cons_zero, List.set_cons_succ]
  refine wpAnyH_take (i := 2) (oi := ⟨some 15, .nilCheck (.tmp 14), 0, "disk.go:192", #[⟨1, .data⟩], none⟩) (v := .pointer (some ⟨gF, i * 3, none⟩)) rfl (by kernel_rfl) (by kernel_rfl) (by kernel_rfl) (fun _ _ _ h => hp _ _ _ _ h) (.inl ⟨by kernel_rfl, fun V hV => ?_⟩) hS ?_
  · have s0 := hV
    try obtain ⟨s1, s2⟩ := s0
    go_split_ands
    go_simp
    all_goals (first | assumption | skip)
  simp only [Act.put, List.setIfInBounds_toArray, List.set_cons_zero, List.set_cons_succ]
  refine wpAnyH_take (i := 3) (oi := ⟨some 16, .fieldAddr 75 (.tmp 15) 1, 0, "disk.go:192", #[⟨2, .data⟩], none⟩) (v := .pointer (some ⟨gF, i * 3 + 1, none⟩)) rfl (by kernel_rfl) (by kernel_rfl) (by kernel_rfl) (fun _ _ _ h => hp _ _ _ _ h) (.inl ⟨by kernel_rfl, fun V hV => ?_⟩) hS ?_
  · have s0 := hV
    try obtain ⟨s1, s2⟩ := s0
    go_split_ands
    go_simp
    all_goals (first | assumption | skip)
  simp only [Act.put, List.setIfInBounds_toArray, List.set_cons_zero, List.set_cons_succ]
  refine wpAnyH_take (i := 5) (oi := ⟨some 18, .load 3 (.tmp 2), 3, "disk.go:192", #[], none⟩) (v := .int .i64 N) rfl (by kernel_rfl) (by kernel_rfl) (by kernel_rfl) (fun _ _ _ h => hp _ _ _ _ h) (.inl ⟨by kernel_rfl, fun V hV => ?_⟩) hS ?_
  · have s0 := hV
    try obtain ⟨s1, s2⟩ := s0
    go_split_ands
    go_simp
    all_goals (first | assumption | skip)
  simp only [Act.put, List.setIfInBounds_toArray, List.set_cons_zero, List.set_cons_succ]
  refine wpAnyH_take (i := 6) (oi := ⟨some 19, .call { callee := Callee.builtin Builtin.max, args := #[.tmp 18, Operand.const (Value.int IntKind.i64 0)], argTypes := #[3, 3] }, 3, "disk.go:192", #[⟨5, .data⟩], none⟩) (v := .int .i64 M) rfl (by kernel_rfl) (by kernel_rfl) (by kernel_rfl) (fun _ _ _ h => hp _ _ _ _ h) (.inl ⟨by kernel_rfl, fun V hV => ?_⟩) hS ?_
  · have s0 := hV
    try obtain ⟨s1, s2⟩ := s0
    go_split_ands
    go_simp
    all_goals (first | assumption | skip)
  simp only [Act.put, List.setIfInBounds_toArray, List.set_cons_zero, List.set_cons_succ]
  refine wpAnyH_take (i := 7) (oi := ⟨some 20, .move (.tmp 3), 111, "disk.go:192", #[], none⟩) (v := .pointer (some ⟨gF, i * 3, none⟩)) rfl (by kernel_rfl) (by kernel_rfl) (by kernel_rfl) (fun _ _ _ h => hp _ _ _ _ h) (.inl ⟨by kernel_rfl, fun V hV => ?_⟩) hS ?_
  · have s0 := hV
    try obtain ⟨s1, s2⟩ := s0
    go_split_ands
    go_simp
    all_goals (first | assumption | skip)
  simp only [Act.put, List.setIfInBounds_toArray, List.set_cons_zero, List.set_cons_succ]
  refine wpAnyH_take (i := 8) (oi := ⟨some 21, .nilCheck (.tmp 20), 0, "disk.go:192", #[⟨7, .data⟩], none⟩) (v := .pointer (some ⟨gF, i * 3, none⟩)) rfl (by kernel_rfl) (by kernel_rfl) (by kernel_rfl) (fun _ _ _ h => hp _ _ _ _ h) (.inl ⟨by kernel_rfl, fun V hV => ?_⟩) hS ?_
  · have s0 := hV
    try obtain ⟨s1, s2⟩ := s0
    go_split_ands
    go_simp
    all_goals (first | assumption | skip)
  simp only [Act.put, List.setIfInBounds_toArray, List.set_cons_zero, List.set_cons_succ]
  refine wpAnyH_take (i := 9) (oi := ⟨some 22, .fieldAddr 75 (.tmp 21) 1, 0, "disk.go:192", #[⟨8, .data⟩], none⟩) (v := .pointer (some ⟨gF, i * 3 + 1, none⟩)) rfl (by kernel_rfl) (by kernel_rfl) (by kernel_rfl) (fun _ _ _ h => hp _ _ _ _ h) (.inl ⟨by kernel_rfl, fun V hV => ?_⟩) hS ?_
  · have s0 := hV
    try obtain ⟨s1, s2⟩ := s0
    go_split_ands
    go_simp
    all_goals (first | assumption | skip)
  simp only [Act.put, List.setIfInBounds_toArray, List.set_cons_zero, List.set_cons_succ]
  refine wpAnyH_ready (rs := [4, 10]) (by kernel_rfl) (by simp) ?_
  refine (AllReadyH.cons (o := ⟨some 17, .load 35 (.tmp 16), 35, "disk.go:192", #[⟨3, .data⟩], none⟩) rfl (fun K hK => ?_) (AllReadyH.cons (o := ⟨some 23, .load 35 (.tmp 22), 35, "disk.go:192", #[⟨9, .data⟩], none⟩) rfl (fun K hK => ?_) AllReadyH.nil))
  · go_simp
    refine hK.out _ _ hS (fun _ => ?_)
    clear hK K
    try simp only [Act.put, List.setIfInBounds_toArray, List.set_cons_zero, List.set_cons_succ]
    refine wpAnyH_ready (rs := [10]) (by kernel_rfl) (by simp) ?_
    refine (AllReadyH.cons (o := ⟨some 23, .load 35 (.tmp 22), 35, "disk.go:192", #[⟨9, .data⟩], none⟩) rfl (fun K hK => ?_) AllReadyH.nil)
    go_simp
    refine hK.out _ _ hS (fun _ => ?_)
    clear hK K
    try simp only [Act.put, List.setIfInBounds_toArray, List.set_cons_zero, List.set_cons_succ]
    refine wpAnyH_take (i := 11) (oi := ⟨some 24, .call { callee := Callee.builtin Builtin.len, args := #[.tmp 23], argTypes := #[35] }, 3, "disk.go:192", #[⟨10, .data⟩], none⟩) (v := .int .i64 0) rfl (by kernel_rfl) (by kernel_rfl) (by kernel_rfl) (fun _ _ _ h => hp _ _ _ _ h) (.inl ⟨by kernel_rfl, fun V hV => ?_⟩) hS ?_
    · have s0 := hV
      try obtain ⟨s1, s2⟩ := s0
      go_split_ands
      go_simp
      all_goals (first | assumption | skip)
    simp only [Act.put, List.setIfInBounds_toArray, List.set_cons_zero, List.set_cons_succ]
    refine wpAnyH_take (i := 12) (oi := ⟨some 25, .call { callee := Callee.builtin Builtin.min, args := #[.tmp 19, .tmp 24], argTypes := #[3, 3] }, 3, "disk.go:192", #[⟨6, .data⟩, ⟨11, .data⟩], none⟩) (v := .int .i64 0) rfl (by kernel_rfl) (by kernel_rfl) (by kernel_rfl) (fun _ _ _ h => hp _ _ _ _ h) (.inl ⟨by kernel_rfl, fun V hV => ?_⟩) hS ?_
    · have s0 := hV
      try obtain ⟨s1, s2⟩ := s0
      go_split_ands
      go_simp
      all_goals (first | assumption | skip)
    simp only [Act.put, List.setIfInBounds_toArray, List.set_cons_zero, List.set_cons_succ]
    refine wpAnyH_take (i := 13) (oi := ⟨some 26, .slice 35 (.tmp 17) none (some (.tmp 25)) none, 35, "disk.go:192", #[⟨4, .data⟩, ⟨12, .data⟩], none⟩) (v := .slice none 0 0) rfl (by kernel_rfl) (by kernel_rfl) (by kernel_rfl) (fun _ _ _ h => hp _ _ _ _ h) (.inl ⟨by kernel_rfl, fun V hV => ?_⟩) hS ?_
    · have s0 := hV
      try obtain ⟨s1, s2⟩ := s0
      go_split_ands
      go_simp
      all_goals (first | assumption | skip)
    simp only [Act.put, List.setIfInBounds_toArray, List.set_cons_zero, List.set_cons_succ]
    refine wpAnyH_take (i := 14) (oi := ⟨some 27, .nilCheck (.tmp 13), 0, "disk.go:192", #[⟨0, .data⟩, ⟨0, .phase⟩, ⟨1, .phase⟩, ⟨2, .phase⟩, ⟨3, .phase⟩, ⟨4, .phase⟩, ⟨5, .phase⟩, ⟨6, .phase⟩, ⟨7, .phase⟩, ⟨8, .phase⟩, ⟨9, .phase⟩, ⟨10, .phase⟩, ⟨11, .phase⟩, ⟨12, .phase⟩, ⟨13, .phase⟩], none⟩) (v := .pointer (some ⟨gF, i * 3, none⟩)) rfl (by kernel_rfl) (by kernel_rfl) (by kernel_rfl) (fun _ _ _ h => hp _ _ _ _ h) (.inl ⟨by kernel_rfl, fun V hV => ?_⟩) hS ?_
    · have s0 := hV
      try obtain ⟨s1, s2⟩ := s0
      go_split_ands
      go_simp
      all_goals (first | assumption | skip)
    simp only [Act.put, List.setIfInBounds_toArray, List.set_cons_zero, List.set_cons_succ]
    refine wpAnyH_take (i := 15) (oi := ⟨some 28, .fieldAddr 75 (.tmp 27) 1, 0, "disk.go:192", #[⟨14, .data⟩, ⟨0, .phase⟩, ⟨1, .phase⟩, ⟨2, .phase⟩, ⟨3, .phase⟩, ⟨4, .phase⟩, ⟨5, .phase⟩, ⟨6, .phase⟩, ⟨7, .phase⟩, ⟨8, .phase⟩, ⟨9, .phase⟩, ⟨10, .phase⟩, ⟨11, .phase⟩, ⟨12, .phase⟩, ⟨13, .phase⟩], none⟩) (v := .pointer (some ⟨gF, i * 3 + 1, none⟩)) rfl (by kernel_rfl) (by kernel_rfl) (by kernel_rfl) (fun _ _ _ h => hp _ _ _ _ h) (.inl ⟨by kernel_rfl, fun V hV => ?_⟩) hS ?_
    · have s0 := hV
      try obtain ⟨s1, s2⟩ := s0
      go_split_ands
      go_simp
      all_goals (first | assumption | skip)
    simp only [Act.put, List.setIfInBounds_toArray, List.set_cons_zero, List.set_cons_succ]
    refine wpAnyH_ready (rs := [16]) (by kernel_rfl) (by simp) ?_
    refine (AllReadyH.cons (o := ⟨none, .store 35 (.tmp 28) (.tmp 26), 0, "disk.go:192", #[⟨15, .data⟩, ⟨13, .data⟩, ⟨0, .phase⟩, ⟨1, .phase⟩, ⟨2, .phase⟩, ⟨3, .phase⟩, ⟨4, .phase⟩, ⟨5, .phase⟩, ⟨6, .phase⟩, ⟨7, .phase⟩, ⟨8, .phase⟩, ⟨9, .phase⟩, ⟨10, .phase⟩, ⟨11, .phase⟩, ⟨12, .phase⟩, ⟨13, .phase⟩], none⟩) rfl (fun K hK => ?_) AllReadyH.nil)
    go_simp
    refine hK.out _ _ (hcx _) (fun _ => ?_)
    clear hK K
    try simp only [Act.put, List.setIfInBounds_toArray, List.set_cons_zero, List.set_cons_succ]
    exact wpAnyH_done (Q := calmD Q) (by kernel_rfl) h _
  · go_simp
    refine hK.out _ _ hS (fun _ => ?_)
    clear hK K
    try simp only [Act.put, List.setIfInBounds_toArray, List.set_cons_zero, List.set_cons_succ]
    refine wpAnyH_take (i := 11) (oi := ⟨some 24, .call { callee := Callee.builtin Builtin.len, args := #[.tmp 23], argTypes := #[35] }, 3, "disk.go:192", #[⟨10, .data⟩], none⟩) (v := .int .i64 0) rfl (by kernel_rfl) (by kernel_rfl) (by kernel_rfl) (fun _ _ _ h => hp _ _ _ _ h) (.inl ⟨by kernel_rfl, fun V hV => ?_⟩) hS ?_
    · have s0 := hV
      try obtain ⟨s1, s2⟩ := s0
      go_split_ands
      go_simp
      all_goals (first | assumption | skip)
    simp only [Act.put, List.setIfInBounds_toArray, List.set_cons_zero, List.set_cons_succ]
    refine wpAnyH_take (i := 12) (oi := ⟨some 25, .call { callee := Callee.builtin Builtin.min, args := #[.tmp 19, .tmp 24], argTypes := #[3, 3] }, 3, "disk.go:192", #[⟨6, .data⟩, ⟨11, .data⟩], none⟩) (v := .int .i64 0) rfl (by kernel_rfl) (by kernel_rfl) (by kernel_rfl) (fun _ _ _ h => hp _ _ _ _ h) (.inl ⟨by kernel_rfl, fun V hV => ?_⟩) hS ?_
    · have s0 := hV
      try obtain ⟨s1, s2⟩ := s0
      go_split_ands
      go_simp
      all_goals (first | assumption | skip)
    simp only [Act.put, List.setIfInBounds_toArray, List.set_cons_zero, List.set_cons_succ]
    refine wpAnyH_ready (rs := [4]) (by kernel_rfl) (by simp) ?_
    refine (AllReadyH.cons (o := ⟨some 17, .load 35 (.tmp 16), 35, "disk.go:192", #[⟨3, .data⟩], none⟩) rfl (fun K hK => ?_) AllReadyH.nil)
    go_simp
    refine hK.out _ _ hS (fun _ => ?_)
    clear hK K
    try simp only [Act.put, List.setIfInBounds_toArray, List.set_cons_zero, List.set_cons_succ]
    refine wpAnyH_take (i := 13) (oi := ⟨some 26, .slice 35 (.tmp 17) none (some (.tmp 25)) none, 35, "disk.go:192", #[⟨4, .data⟩, ⟨12, .data⟩], none⟩) (v := .slice none 0 0) rfl (by kernel_rfl) (by kernel_rfl) (by kernel_rfl) (fun _ _ _ h => hp _ _ _ _ h) (.inl ⟨by kernel_rfl, fun V hV => ?_⟩) hS ?_
    · have s0 := hV
      try obtain ⟨s1, s2⟩ := s0
      go_split_ands
      go_simp
      all_goals (first | assumption | skip)
    simp only [Act.put, List.setIfInBounds_toArray, List.set_cons_zero, List.set_cons_succ]
    refine wpAnyH_take (i := 14) (oi := ⟨some 27, .nilCheck (.tmp 13), 0, "disk.go:192", #[⟨0, .data⟩, ⟨0, .phase⟩, ⟨1, .phase⟩, ⟨2, .phase⟩, ⟨3, .phase⟩, ⟨4, .phase⟩, ⟨5, .phase⟩, ⟨6, .phase⟩, ⟨7, .phase⟩, ⟨8, .phase⟩, ⟨9, .phase⟩, ⟨10, .phase⟩, ⟨11, .phase⟩, ⟨12, .phase⟩, ⟨13, .phase⟩], none⟩) (v := .pointer (some ⟨gF, i * 3, none⟩)) rfl (by kernel_rfl) (by kernel_rfl) (by kernel_rfl) (fun _ _ _ h => hp _ _ _ _ h) (.inl ⟨by kernel_rfl, fun V hV => ?_⟩) hS ?_
    · have s0 := hV
      try obtain ⟨s1, s2⟩ := s0
      go_split_ands
      go_simp
      all_goals (first | assumption | skip)
    simp only [Act.put, List.setIfInBounds_toArray, List.set_cons_zero, List.set_cons_succ]
    refine wpAnyH_take (i := 15) (oi := ⟨some 28, .fieldAddr 75 (.tmp 27) 1, 0, "disk.go:192", #[⟨14, .data⟩, ⟨0, .phase⟩, ⟨1, .phase⟩, ⟨2, .phase⟩, ⟨3, .phase⟩, ⟨4, .phase⟩, ⟨5, .phase⟩, ⟨6, .phase⟩, ⟨7, .phase⟩, ⟨8, .phase⟩, ⟨9, .phase⟩, ⟨10, .phase⟩, ⟨11, .phase⟩, ⟨12, .phase⟩, ⟨13, .phase⟩], none⟩) (v := .pointer (some ⟨gF, i * 3 + 1, none⟩)) rfl (by kernel_rfl) (by kernel_rfl) (by kernel_rfl) (fun _ _ _ h => hp _ _ _ _ h) (.inl ⟨by kernel_rfl, fun V hV => ?_⟩) hS ?_
    · have s0 := hV
      try obtain ⟨s1, s2⟩ := s0
      go_split_ands
      go_simp
      all_goals (first | assumption | skip)
    simp only [Act.put, List.setIfInBounds_toArray, List.set_cons_zero, List.set_cons_succ]
    refine wpAnyH_ready (rs := [16]) (by kernel_rfl) (by simp) ?_
    refine (AllReadyH.cons (o := ⟨none, .store 35 (.tmp 28) (.tmp 26), 0, "disk.go:192", #[⟨15, .data⟩, ⟨13, .data⟩, ⟨0, .phase⟩, ⟨1, .phase⟩, ⟨2, .phase⟩, ⟨3, .phase⟩, ⟨4, .phase⟩, ⟨5, .phase⟩, ⟨6, .phase⟩, ⟨7, .phase⟩, ⟨8, .phase⟩, ⟨9, .phase⟩, ⟨10, .phase⟩, ⟨11, .phase⟩, ⟨12, .phase⟩, ⟨13, .phase⟩], none⟩) rfl (fun K hK => ?_) AllReadyH.nil)
    go_simp
    refine hK.out _ _ (hcx _) (fun _ => ?_)
    clear hK K
    try simp only [Act.put, List.setIfInBounds_toArray, List.set_cons_zero, List.set_cons_succ]
    exact wpAnyH_done (Q := calmD Q) (by kernel_rfl) h _

end Go.Proofs.YtllhbhogfffedaaGreatDoor.K
