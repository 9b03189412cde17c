import Derived.Test.YtllhbhogfffedaaGreatDoorDkRem
namespace Go.Proofs.YtllhbhogfffedaaGreatDoor.K
open Go.RowKit
attribute [local go_sem] Oper.semAt_some
set_option linter.unusedVariables false
set_option linter.unusedSimpArgs false

/-- What the rest of the row holds. -/
theorem Dc.rest {W : World} {x gF n cf k : Nat} {F : Nat → Prop} {D : Dk} {L : List Fv} (h : Dc W x F D (.slice (some ⟨gF, 0, none⟩) n cf) L) (hk : k < n) :
    ((L.drop (k + 1)).flatMap fcell).length = (n - (k + 1)) * 3 ∧ (∀ j u, ((L.drop (k + 1)).flatMap fcell)[j]? = some u → W.drew.cell? ((⟨gF, (k + 1) * 3, none⟩ : Addr).add j) = some u) ∧ (∀ u ∈ (L.drop (k + 1)).flatMap fcell, u.oneCell' = true) ∧
      (∀ j, j < ((L.drop (k + 1)).flatMap fcell).length → (W.drew.cell? ⟨gF, k * 3 + j, none⟩).isSome = true ∧ W.drew.frozen? ⟨gF, k * 3 + j, none⟩ = false) ∧ n ≤ cf := by
  obtain rfl : L.length = n := by obtain ⟨a, c, e⟩ := d_shape h.row; simp only [Value.slice.injEq] at e; exact e.2.1.symm
  have hl : ((L.drop (k + 1)).flatMap fcell).length = (L.length - (k + 1)) * 3 := by rw [fcell_len, List.length_drop]
  have hrow : W.drew.ownsRow 0 75 3 (.slice (some ⟨gF, 0, none⟩) L.length cf) L.length (L.flatMap fcell) := h.row
  have hll := fcell_len L
  refine ⟨hl, fun j u hj => ?_, fun u hu => ?_, fun j hj => ⟨?_, World.ownsRow.frozenAt hrow _⟩, ?_⟩
  · have hj' : j < (L.length - (k + 1)) * 3 := by rw [← hl]; exact (List.getElem?_eq_some_iff.mp hj).1
    rw [← fcell_drop, List.getElem?_drop] at hj
    have e2 : (⟨gF, (k + 1) * 3, none⟩ : Addr).add j = ⟨gF, (k + 1) * 3 + j, none⟩ := by unfold Addr.add; split <;> simp_all
    rw [e2]
    exact (World.ownsRow.cellAt hrow _ (by omega)).trans hj
  · obtain ⟨p, hp, hu'⟩ := List.mem_flatMap.mp hu
    obtain ⟨i, hi⟩ := List.getElem?_of_mem (List.mem_of_mem_drop hp)
    obtain ⟨a, c, e⟩ := d_shape (h.byt i p hi)
    simp only [fcell, List.mem_cons, List.not_mem_nil, or_false] at hu'
    rcases hu' with rfl | rfl | rfl
    · rfl
    · rw [e]; rfl
    · rfl
  · rw [World.ownsRow.cellAt hrow _ (by omega)]
    rw [List.getElem?_eq_getElem (by omega)]
    rfl
  · obtain ⟨_, ⟨e, _⟩ | ⟨g', cap, cur, e, _, _, h5, _⟩⟩ := h.row
    · cases e
    · cases e; exact h5
theorem kd_rem {W : World} {gF x o : Nat} {F : Nat → Prop} {vs : List Value} {y : Value} (hg : F gF) (hx : F x) : Kd F W ((W.drew.setCells gF o vs).setCell ⟨x, 0, none⟩ y) := by
  obtain ⟨h1, h2, h3⟩ := setCells_out gF vs o W.drew
  refine ⟨h1, h2, h3, ?_, fun k hk hn => ?_⟩
  · have h5 : ((W.drew.setCells gF o vs).setCell ⟨x, 0, none⟩ y).heap.size = (W.drew.setCells gF o vs).heap.size := by simp [World.setCell]
    rw [h5, setCells_size]
    exact Nat.le_refl _
  · exact (heap_setCell_other _ _ _ _ (fun e => hn (by rw [show k = x from e]; exact hx))).trans (setCells_other _ _ _ W.drew k (fun e => hn (e ▸ hg)))

set_option maxRecDepth 100000 in
set_option maxHeartbeats 4000000 in
theorem regRemD (Q : Exit → Act → World → Prop) (Db Ib d x gF n cf k : Nat) (F : Nat → Prop) (D : Dk) (L : List Fv) {t2 t3 t4 t5 t6 t7 t8 t9 t10 t11 t12 t13 t14 t15 t16 t17 t18 t19 t20 t21 t22 t23 t24 t25 t26 t27 : Value} (W : World)
    (hc : Dc W x F D (.slice (some ⟨gF, 0, none⟩) n cf) L) (hk : k < n) (hn : n ≤ 1099511627776) (hD : W.cell? ⟨Db, 0, none⟩ = some (.pointer (some ⟨d, 0, none⟩))) (hd : W.cell? ⟨d, 0, none⟩ = some (.pointer (some ⟨x, 0, none⟩))) (nD : ¬ F Db) (nd : ¬ F d) (hI : W.cell? ⟨Ib, 0, none⟩ = some (.int .i64 (k : Int))) (nI : ¬ F Ib) 
    (h : ∀ u1 u2 w', Dc w' x F (D.fs' (D.fs.eraseIdx k)) (.slice (some ⟨gF, 0, none⟩) (n - 1) cf) (L.eraseIdx k) → Kd F W w' → Q .normal { tmps := (.pointer (some ⟨Db, 0, none⟩) :: .pointer (some ⟨Ib, 0, none⟩) :: .pointer (some ⟨d, 0, none⟩) :: .pointer (some ⟨d, 0, none⟩) :: .pointer (some ⟨d, 0, none⟩) :: .pointer (some ⟨x, 0, none⟩) :: .pointer (some ⟨d, 0, none⟩) :: .pointer (some ⟨d, 0, none⟩) :: .pointer (some ⟨d, 0, none⟩) :: .pointer (some ⟨x, 0, none⟩) :: .pointer (some ⟨x, 0, none⟩) :: .pointer (some ⟨x, 0, none⟩) :: .slice (some ⟨gF, 0, none⟩) n cf :: .int .i64 (k : Int) :: .slice (some ⟨gF, 0, none⟩) k cf :: .pointer (some ⟨d, 0, none⟩) :: .pointer (some ⟨d, 0, none⟩) :: .pointer (some ⟨d, 0, none⟩) :: .pointer (some ⟨x, 0, none⟩) :: .pointer (some ⟨x, 0, none⟩) :: .pointer (some ⟨x, 0, none⟩) :: .slice (some ⟨gF, 0, none⟩) n cf :: .int .i64 (k : Int) :: .int .i64 ((k : Int) + 1) :: u1 :: u2 :: .pointer (some ⟨x, 0, none⟩) :: .pointer (some ⟨x, 0, none⟩) :: []).toArray, defers := [] } w') :
    (Code.region 0 regRemAOps true).wp Tryz.prog Q { tmps := (.pointer (some ⟨Db, 0, none⟩) :: .pointer (some ⟨Ib, 0, none⟩) :: t2 :: t3 :: t4 :: t5 :: t6 :: t7 :: t8 :: t9 :: t10 :: t11 :: t12 :: t13 :: t14 :: t15 :: t16 :: t17 :: t18 :: t19 :: t20 :: t21 :: t22 :: t23 :: t24 :: t25 :: t26 :: t27 :: []).toArray, defers := [] } W := by
  obtain ⟨q1, q2, q3, q4, q5⟩ := hc.rest hk
  have hFg : F gF := hc.fr gF rfl
  have hgx : gF ≠ x := fun e => hc.rx (by rw [e]; rfl)
  have hwk : IntKind.i64.wrap ((k : Int) + 1) = (k : Int) + 1 := by rw [IntKind.wrap_i64]; omega
  have cel : ∀ (b : Nat) (v : Value) (V : World), W.cell? ⟨b, 0, none⟩ = some v → ¬ F b → (∀ g, g ≠ gF → g ≠ x → V.heap[g]? = W.heap[g]?) → V.cell? ⟨b, 0, none⟩ = some v := fun b v V hv hb hV => (World.cell?_of_block (a := ⟨b, 0, none⟩) (hV b (fun e => hb (e ▸ hFg)) (fun e => hb (e ▸ hc.fx)))).trans hv
  have hcv : ∀ V : World, (∀ g, g ≠ gF → g ≠ x → V.heap[g]? = W.heap[g]?) → V.cell? ⟨Db, 0, none⟩ = some (.pointer (some ⟨d, 0, none⟩)) ∧ V.cell? ⟨d, 0, none⟩ = some (.pointer (some ⟨x, 0, none⟩)) ∧ V.cell? ⟨Ib, 0, none⟩ = some (.int .i64 (k : Int)) := fun V hV => ⟨cel Db _ V hD nD hV, cel d _ V hd nd hV, cel Ib _ V hI nI hV⟩
  have hres := Dc.rem (hc.same (w' := W.drew) (fun _ _ _ => rfl)) hk
  by_cases hcf : cf = k + 1
  · obtain rfl : k + 1 = cf := hcf.symm
    obtain rfl : k + 1 = n := by omega
    have hnil : (L.drop (k + 1)).flatMap fcell = [] := by
      have := hc.nf
      rw [List.drop_of_length_le (by omega)]; rfl
    rw [hnil] at hres
    refine regRemB Q Db Ib d x gF k (bxD (.slice (some ⟨gF, 0, none⟩) (k + 1) (k + 1)) D) W (by omega) hwk hc.box rfl hgx hcv (fun y => hcv _ (fun g h1 h2 => (heap_setCell_other _ _ _ _ h2).trans (setCells_other _ _ _ W.drew g h1))) ?_
    exact h _ _ _ hres (kd_rem hFg hc.fx)
  · have e9 : k + (n - (k + 1)) = n - 1 := by omega
    refine regRemA Q Db Ib d x gF k (bxD (.slice (some ⟨gF, 0, none⟩) n cf) D) n cf ((L.drop (k + 1)).flatMap fcell) W (by omega) (by omega) (by omega) (by omega) hcf q1 q2 q3 q4 (by omega) hwk hc.box rfl hgx hcv (fun y => hcv _ (fun g h1 h2 => (heap_setCell_other _ _ _ _ h2).trans (setCells_other _ _ _ W.drew g h1))) ?_
    rw [e9]
    exact h _ _ _ hres (kd_rem hFg hc.fx)

set_option maxRecDepth 100000 in
set_option maxHeartbeats 4000000 in
theorem regRenD (Q : Exit → Act → World → Prop) (Db d x gF n cf k : Nat) (F : Nat → Prop) (D : Dk) (L : List Fv) {t1 t2 t4 t5 t6 t7 t8 t9 t10 t11 t12 t13 t14 t15 t16 t17 t18 t19 t20 t21 t22 t23 t24 t25 t26 t27 t28 t29 t30 t31 t32 t33 t34 t35 t36 t37 t38 t39 t40 t41 t42 t43 t44 t45 t46 t47 t48 t49 t50 t51 t52 t53 : Value} (W : World)
    (hc : Dc W x F D (.slice (some ⟨gF, 0, none⟩) n cf) L) (hk : k < n) (hn : n ≤ 1099511627776) (hD : W.cell? ⟨Db, 0, none⟩ = some (.pointer (some ⟨d, 0, none⟩))) (hd : W.cell? ⟨d, 0, none⟩ = some (.pointer (some ⟨x, 0, none⟩))) (nD : ¬ F Db) (nd : ¬ F d) 
    (h : ∀ u1 u2 w', Dc w' x F (D.fs' (D.fs.eraseIdx k)) (.slice (some ⟨gF, 0, none⟩) (n - 1) cf) (L.eraseIdx k) → Kd F W w' → Q .normal { tmps := (.pointer (some ⟨Db, 0, none⟩) :: t1 :: t2 :: .int .i64 (k : Int) :: t4 :: t5 :: t6 :: t7 :: t8 :: t9 :: t10 :: t11 :: t12 :: t13 :: t14 :: t15 :: t16 :: t17 :: t18 :: t19 :: t20 :: t21 :: t22 :: t23 :: t24 :: t25 :: t26 :: t27 :: .pointer (some ⟨d, 0, none⟩) :: .pointer (some ⟨d, 0, none⟩) :: .pointer (some ⟨d, 0, none⟩) :: .pointer (some ⟨x, 0, none⟩) :: .pointer (some ⟨d, 0, none⟩) :: .pointer (some ⟨d, 0, none⟩) :: .pointer (some ⟨d, 0, none⟩) :: .pointer (some ⟨x, 0, none⟩) :: .pointer (some ⟨x, 0, none⟩) :: .pointer (some ⟨x, 0, none⟩) :: .slice (some ⟨gF, 0, none⟩) n cf :: .int .i64 (k : Int) :: .slice (some ⟨gF, 0, none⟩) k cf :: .pointer (some ⟨d, 0, none⟩) :: .pointer (some ⟨d, 0, none⟩) :: .pointer (some ⟨d, 0, none⟩) :: .pointer (some ⟨x, 0, none⟩) :: .pointer (some ⟨x, 0, none⟩) :: .pointer (some ⟨x, 0, none⟩) :: .slice (some ⟨gF, 0, none⟩) n cf :: .int .i64 (k : Int) :: .int .i64 ((k : Int) + 1) :: u1 :: u2 :: .pointer (some ⟨x, 0, none⟩) :: .pointer (some ⟨x, 0, none⟩) :: []).toArray, defers := [] } w') :
    (Code.region 3 regRenAOps true).wp Tryz.prog Q { tmps := (.pointer (some ⟨Db, 0, none⟩) :: t1 :: t2 :: .int .i64 (k : Int) :: t4 :: t5 :: t6 :: t7 :: t8 :: t9 :: t10 :: t11 :: t12 :: t13 :: t14 :: t15 :: t16 :: t17 :: t18 :: t19 :: t20 :: t21 :: t22 :: t23 :: t24 :: t25 :: t26 :: t27 :: t28 :: t29 :: t30 :: t31 :: t32 :: t33 :: t34 :: t35 :: t36 :: t37 :: t38 :: t39 :: t40 :: t41 :: t42 :: t43 :: t44 :: t45 :: t46 :: t47 :: t48 :: t49 :: t50 :: t51 :: t52 :: t53 :: []).toArray, defers := [] } W := by
  obtain ⟨q1, q2, q3, q4, q5⟩ := hc.rest hk
  have hFg : F gF := hc.fr gF rfl
  have hgx : gF ≠ x := fun e => hc.rx (by rw [e]; rfl)
  have hwk : IntKind.i64.wrap ((k : Int) + 1) = (k : Int) + 1 := by rw [IntKind.wrap_i64]; omega
  have cel : ∀ (b : Nat) (v : Value) (V : World), W.cell? ⟨b, 0, none⟩ = some v → ¬ F b → (∀ g, g ≠ gF → g ≠ x → V.heap[g]? = W.heap[g]?) → V.cell? ⟨b, 0, none⟩ = some v := fun b v V hv hb hV => (World.cell?_of_block (a := ⟨b, 0, none⟩) (hV b (fun e => hb (e ▸ hFg)) (fun e => hb (e ▸ hc.fx)))).trans hv
  have hcv : ∀ V : World, (∀ g, g ≠ gF → g ≠ x → V.heap[g]? = W.heap[g]?) → V.cell? ⟨Db, 0, none⟩ = some (.pointer (some ⟨d, 0, none⟩)) ∧ V.cell? ⟨d, 0, none⟩ = some (.pointer (some ⟨x, 0, none⟩)) := fun V hV => ⟨cel Db _ V hD nD hV, cel d _ V hd nd hV⟩
  have hres := Dc.rem (hc.same (w' := W.drew) (fun _ _ _ => rfl)) hk
  by_cases hcf : cf = k + 1
  · obtain rfl : k + 1 = cf := hcf.symm
    obtain rfl : k + 1 = n := by omega
    have hnil : (L.drop (k + 1)).flatMap fcell = [] := by
      have := hc.nf
      rw [List.drop_of_length_le (by omega)]; rfl
    rw [hnil] at hres
    refine regRenB Q Db d x gF k (bxD (.slice (some ⟨gF, 0, none⟩) (k + 1) (k + 1)) D) W (by omega) hwk hc.box rfl hgx hcv (fun y => hcv _ (fun g h1 h2 => (heap_setCell_other _ _ _ _ h2).trans (setCells_other _ _ _ W.drew g h1))) ?_
    exact h _ _ _ hres (kd_rem hFg hc.fx)
  · have e9 : k + (n - (k + 1)) = n - 1 := by omega
    refine regRenA Q Db d x gF k (bxD (.slice (some ⟨gF, 0, none⟩) n cf) D) n cf ((L.drop (k + 1)).flatMap fcell) W (by omega) (by omega) (by omega) (by omega) hcf q1 q2 q3 q4 (by omega) hwk hc.box rfl hgx hcv (fun y => hcv _ (fun g h1 h2 => (heap_setCell_other _ _ _ _ h2).trans (setCells_other _ _ _ W.drew g h1))) ?_
    rw [e9]
    exact h _ _ _ hres (kd_rem hFg hc.fx)


set_option maxHeartbeats 4000000 in
theorem clRem_any (w : World) (Db Ib d x k : Nat) (F : Nat → Prop) (D : Dk) (B : Nat) (h : Dm w x F D) (hk : D.Ok B) (hB : B ≤ 1099511627776) (hkl : k < D.fs.length)
    (hD : w.cell? ⟨Db, 0, none⟩ = some (.pointer (some ⟨d, 0, none⟩))) (hd : w.cell? ⟨d, 0, none⟩ = some (.pointer (some ⟨x, 0, none⟩))) (hI : w.cell? ⟨Ib, 0, none⟩ = some (.int .i64 (k : Int))) (nD : ¬ F Db) (nd : ¬ F d) (nI : ¬ F Ib) :
    Calls Tryz.prog 101 #[.pointer (some ⟨Db, 0, none⟩), .pointer (some ⟨Ib, 0, none⟩)] w fun e w' => ClP x F D (D.fs.eraseIdx k) w e w' := by
  obtain ⟨vf, L, hc⟩ := h
  obtain ⟨gF, cf, hv⟩ := d_some hc.row (by have := hc.len; omega)
  obtain ⟨n, hn⟩ : ∃ n, L.length = n := ⟨_, rfl⟩
  rw [hn] at hv
  subst hv
  have HC : Hid (Dc w x F D (.slice (some ⟨gF, 0, none⟩) n cf) L) := hc
  have HL : Hid (k < n ∧ n ≤ 1099511627776) := ⟨by rw [← hn, ← hc.len]; exact hkl, by have := hk.len; have := hc.len; omega⟩
  have HX : Hid ((w.cell? ⟨Db, 0, none⟩ = some (.pointer (some ⟨d, 0, none⟩))) ∧ (w.cell? ⟨d, 0, none⟩ = some (.pointer (some ⟨x, 0, none⟩))) ∧ (w.cell? ⟨Ib, 0, none⟩ = some (.int .i64 (k : Int))) ∧ (¬ F Db) ∧ (¬ F d) ∧ (¬ F Ib)) := ⟨hD, hd, hI, nD, nd, nI⟩
  clear hc hn hk hkl hD hd hI nD nd nI
  go_enter Tryz.func101, Tryz.ntmps101
  go_wp2_with fail
  refine regRemD _ Db Ib d x gF n cf k F D L w HC.out HL.out.1 HL.out.2 HX.out.1 HX.out.2.1 HX.out.2.2.2.1 HX.out.2.2.2.2.1 HX.out.2.2.1 HX.out.2.2.2.2.2 ?_
  intro u1 u2 w' hc' hk'
  refine bodyPost_end (v := .tuple #[]) (by simp [results, Tryz.results101, go_sem]) rfl ?_
  exact ⟨⟨_, rfl⟩, ⟨_, _, hc'.mono (fun k h _ => .inl h)⟩, hk'⟩

def setF (fs : List Fl) (i : Nat) (g : Fl → Fl) : List Fl := match fs[i]? with | some f => fs.set i (g f) | none => fs
theorem setF_at {fs : List Fl} {i : Nat} {g : Fl → Fl} {f : Fl} (h : fs[i]? = some f) : setF fs i g = fs.set i (g f) := by unfold setF; rw [h]
def synF (fs : List Fl) (i : Nat) : List Fl := setF fs i (fun f => ⟨f.nm, f.bs, (f.bs.length : Int)⟩)
set_option maxHeartbeats 4000000 in
theorem clSyn_any (w : World) (Db Ib d x i : Nat) (F : Nat → Prop) (D : Dk) (B : Nat) (h : Dm w x F D) (hk : D.Ok B) (hB : B ≤ 1099511627776) (hkl : i < D.fs.length)
    (hD : w.cell? ⟨Db, 0, none⟩ = some (.pointer (some ⟨d, 0, none⟩))) (hd : w.cell? ⟨d, 0, none⟩ = some (.pointer (some ⟨x, 0, none⟩))) (hI : w.cell? ⟨Ib, 0, none⟩ = some (.int .i64 (i : Int))) (nD : ¬ F Db) (nd : ¬ F d) (nI : ¬ F Ib) :
    Calls Tryz.prog 60 #[.pointer (some ⟨Db, 0, none⟩), .pointer (some ⟨Ib, 0, none⟩)] w fun e w' => ClP x F D (synF D.fs i) w e w' := by
  obtain ⟨vf, L, hc⟩ := h
  obtain ⟨p, hp⟩ : ∃ p, L[i]? = some p := ⟨_, List.getElem?_eq_getElem (by rw [hc.len] at hkl; exact hkl)⟩
  obtain ⟨gF, cf, hv, hFg, hgl, k0, k1, k2, kz⟩ := hc.at hp
  obtain ⟨n, hn⟩ : ∃ n, L.length = n := ⟨_, rfl⟩
  rw [hn] at hv
  subst hv
  obtain ⟨av, cv, hav⟩ := d_shape (hc.byt i p hp)
  obtain ⟨m, hm⟩ : ∃ m, p.1.bs.length = m := ⟨_, rfl⟩
  rw [hav, hm] at k1
  have HC : Hid (Dc w x F D (.slice (some ⟨gF, 0, none⟩) n cf) L ∧ L[i]? = some p ∧ p.1.bs.length = m ∧ F gF) := ⟨hc, hp, hm, hFg⟩
  have hin : (i : Int) < (n : Int) := by rw [hc.len, hn] at hkl; omega
  have hi0 : (0 : Int) ≤ (i : Int) := by omega
  have c0 : w.cell? ⟨x, 0, none⟩ = some (.slice (some ⟨gF, 0, none⟩) n cf) := hc.c 0
  have z2 := kz (i * 3 + 2)
  have HF : Hid ((¬ F Db) ∧ (¬ F d) ∧ (¬ F Ib)) := ⟨nD, nd, nI⟩
  have hgx : gF ≠ x := fun e => hc.rx (by rw [e]; rfl)
  have e1 : Db ≠ gF := fun e => nD (e ▸ hFg)
  have e2 : d ≠ gF := fun e => nd (e ▸ hFg)
  have e3 : Ib ≠ gF := fun e => nI (e ▸ hFg)
  have HS : Hid (∀ V : World, (∀ j, j ≠ i * 3 + 2 → V.cell? ⟨gF, j, none⟩ = w.cell? ⟨gF, j, none⟩) → (∀ g, g ≠ gF → V.heap[g]? = w.heap[g]?) → V.cell? ⟨Db, 0, none⟩ = some (.pointer (some ⟨d, 0, none⟩)) ∧ V.cell? ⟨d, 0, none⟩ = some (.pointer (some ⟨x, 0, none⟩)) ∧ V.cell? ⟨Ib, 0, none⟩ = some (.int .i64 (i : Int)) ∧ V.cell? ⟨x, 0, none⟩ = some (.slice (some ⟨gF, 0, none⟩) n cf) ∧ V.cell? ⟨gF, i * 3 + 1, none⟩ = some (.slice av m cv)) := fun V h1 h2 =>
    ⟨(World.cell?_of_block (a := ⟨Db, 0, none⟩) (h2 _ e1)).trans hD, (World.cell?_of_block (a := ⟨d, 0, none⟩) (h2 _ e2)).trans hd, (World.cell?_of_block (a := ⟨Ib, 0, none⟩) (h2 _ e3)).trans hI, (World.cell?_of_block (a := ⟨x, 0, none⟩) (h2 _ (fun e => hgx e.symm))).trans c0, (h1 _ (by omega)).trans k1⟩
  clear hc hp hav hm hn hk hkl nD nd nI k0 kz hFg
  go_enter Tryz.func60, Tryz.ntmps60
  go_wp2_with fail
  go_region_held3 (fun V => V.cell? ⟨Db, 0, none⟩ = some (.pointer (some ⟨d, 0, none⟩)) ∧ V.cell? ⟨d, 0, none⟩ = some (.pointer (some ⟨x, 0, none⟩)) ∧ V.cell? ⟨Ib, 0, none⟩ = some (.int .i64 (i : Int)) ∧ V.cell? ⟨x, 0, none⟩ = some (.slice (some ⟨gF, 0, none⟩) n cf) ∧ V.cell? ⟨gF, i * 3 + 1, none⟩ = some (.slice av m cv))
    (first | exact HS.out _ (fun _ _ => rfl) (fun _ _ => rfl) | exact HS.out _ (fun j hj => World.cell?_setCell_other _ _ _ _ (by simp [hj])) (fun g hg => heap_setCell_other _ _ _ _ hg))
    (fail)
  refine bodyPost_end (v := .tuple #[]) (by simp [results, Tryz.results60, go_sem]) rfl ?_
  obtain ⟨hc, hp, hm, hFg⟩ := HC.out
  have hr := (hc.same (w' := w.drew) (fun _ _ _ => rfl)).cellF hp (k := i * 3 + 2) (v := .int .i64 (m : Int)) (q := ⟨p.1.nm, p.1.bs, (m : Int)⟩) rfl (fcell_set2 _ hp)
  refine ⟨⟨_, rfl⟩, ?_, (Kd.refl F w).drew.trans (Kd.set hFg)⟩
  unfold synF
  rw [setF_at (hc.file hp), hm]
  exact ⟨_, _, hr.mono (fun k h _ => .inl h)⟩

end Go.Proofs.YtllhbhogfffedaaGreatDoor.K
