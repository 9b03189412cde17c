import Derived.Test.YticdedcgmofpjaaDoorDkUpd
namespace Go.Proofs.YticdedcgmofpjaaDoor.K
open Go.RowKit
set_option linter.unusedVariables false
set_option linter.unusedSimpArgs false

theorem Dc.cur {W : World} {x gF nf cf : Nat} {F : Nat → Prop} {D : Dk} {L : List Fv} (h : Dc W x F D (.slice (some ⟨gF, 0, none⟩) nf cf) L) : ∃ cur, W.heap[gF]? = some (.cells cur 66 (0, 0)) := by
  obtain ⟨_, ⟨e, _⟩ | ⟨g, cap, cur, e, _, hh, _⟩⟩ := h.row
  · cases e
  · cases e; exact ⟨cur, hh⟩
theorem Dc.nf {W : World} {x nf cf : Nat} {a : Option Addr} {F : Nat → Prop} {D : Dk} {L : List Fv} (h : Dc W x F D (.slice a nf cf) L) : nf = L.length := by
  obtain ⟨a, c, e⟩ := d_shape h.row
  simp only [Value.slice.injEq] at e
  exact e.2.1
theorem set_cell {V : World} {g j k i : Nat} {v u : Value} (h : V.cell? ⟨k, i, none⟩ = some v) (hne : k ≠ g) : (V.setCell ⟨g, j, none⟩ u).cell? ⟨k, i, none⟩ = some v :=
  (World.cell?_of_block (a := ⟨k, i, none⟩) (heap_setCell_other _ _ _ _ hne)).trans h
theorem grown_cell {V w' : World} {row : Option Nat} {k i : Nat} {v : Value} (h : V.cell? ⟨k, i, none⟩ = some v) (hg : V.grownBy w' row) (hne : row ≠ some k) : w'.cell? ⟨k, i, none⟩ = some v :=
  (World.cell?_of_block (a := ⟨k, i, none⟩) (hg.block k (World.block_lt_of_cell? V ⟨k, i, none⟩ h) (fun e => hne e.symm))).trans h

set_option maxRecDepth 100000 in
set_option maxHeartbeats 4000000 in
theorem regAppD (Q : Exit → Act → World → Prop) (Db Bb d x gF nf cf i : Nat) (F : Nat → Prop) (D : Dk) (L : List Fv) (p : Fv) (ab : Option Addr) (nb cb : Nat) (zs : List Int) {t1 t4 t5 t6 t7 t8 t9 t10 t11 t12 t13 t14 t15 t16 t17 t18 t19 t20 t21 t22 t23 t24 t25 t26 t27 t28 t29 t30 t31 t32 t33 t34 t35 t36 t37 t38 t39 t40 t41 t42 t43 t44 t45 t46 t47 t48 t49 t50 t51 t52 t53 t54 t55 t56 t57 t58 t59 : Value} (W : World)
    (hc : Dc W x F D (.slice (some ⟨gF, 0, none⟩) nf cf) L) (hp : L[i]? = some p) (hD : W.cell? ⟨Db, 0, none⟩ = some (.pointer (some ⟨d, 0, none⟩))) (hd : W.cell? ⟨d, 0, none⟩ = some (.pointer (some ⟨x, 0, none⟩))) (hBb : W.cell? ⟨Bb, 0, none⟩ = some (.slice ab nb cb)) (nD : ¬ F Db) (nd : ¬ F d) (nB : ¬ F Bb)
    (hl : zs.length = nb) (hz : Lies .u8 W ab zs) (hnn : ab = none → nb = 0 ∧ cb = 0) (hb : p.1.bs.length + nb ≤ 140737488355328)
    (h : ∀ v' w', Dc w' x (up F W) (D.fs' (D.fs.set i ⟨p.1.nm, p.1.bs ++ zs, p.1.sf⟩)) (.slice (some ⟨gF, 0, none⟩) nf cf) (L.set i (⟨p.1.nm, p.1.bs ++ zs, p.1.sf⟩, v')) → Kd F W w' → Q .normal { tmps := (.pointer (some ⟨Db, 0, none⟩) :: t1 :: .pointer (some ⟨Bb, 0, none⟩) :: .int .i64 (i : Int) :: t4 :: t5 :: t6 :: t7 :: t8 :: t9 :: t10 :: t11 :: t12 :: t13 :: t14 :: t15 :: t16 :: t17 :: t18 :: t19 :: t20 :: t21 :: t22 :: t23 :: t24 :: t25 :: t26 :: t27 :: t28 :: t29 :: t30 :: t31 :: t32 :: t33 :: t34 :: t35 :: t36 :: .pointer (some ⟨d, 0, none⟩) :: .pointer (some ⟨d, 0, none⟩) :: .pointer (some ⟨d, 0, none⟩) :: .pointer (some ⟨x, 0, none⟩) :: .pointer (some ⟨x, 0, none⟩) :: .pointer (some ⟨x, 0, none⟩) :: .slice (some ⟨gF, 0, none⟩) nf cf :: .int .i64 (i : Int) :: .pointer (some ⟨d, 0, none⟩) :: .pointer (some ⟨d, 0, none⟩) :: .pointer (some ⟨d, 0, none⟩) :: .pointer (some ⟨x, 0, none⟩) :: .pointer (some ⟨x, 0, none⟩) :: .pointer (some ⟨x, 0, none⟩) :: .slice (some ⟨gF, 0, none⟩) nf cf :: .int .i64 (i : Int) :: .pointer (some ⟨gF, i * 3, none⟩) :: .pointer (some ⟨gF, i * 3 + 1, none⟩) :: p.2 :: .slice ab nb cb :: v' :: .pointer (some ⟨gF, i * 3, none⟩) :: .pointer (some ⟨gF, i * 3 + 1, none⟩) :: []).toArray, defers := [] } w') :
    (Code.region 4 regAppOps true).wp Tryd.prog Q { tmps := (.pointer (some ⟨Db, 0, none⟩) :: t1 :: .pointer (some ⟨Bb, 0, none⟩) :: .int .i64 (i : Int) :: t4 :: t5 :: t6 :: t7 :: t8 :: t9 :: t10 :: t11 :: t12 :: t13 :: t14 :: t15 :: t16 :: t17 :: t18 :: t19 :: t20 :: t21 :: t22 :: t23 :: t24 :: t25 :: t26 :: t27 :: t28 :: t29 :: t30 :: t31 :: t32 :: t33 :: t34 :: t35 :: t36 :: t37 :: t38 :: t39 :: t40 :: t41 :: t42 :: t43 :: t44 :: t45 :: t46 :: t47 :: t48 :: t49 :: t50 :: t51 :: t52 :: t53 :: t54 :: t55 :: t56 :: t57 :: t58 :: t59 :: []).toArray, defers := [] } W := by
  obtain ⟨cur, hcur⟩ := hc.cur
  obtain ⟨g', cap', hv', hFg, hgl, k0, k1, k2, kz⟩ := hc.at hp
  obtain ⟨rfl, _, rfl⟩ : gF = g' ∧ nf = L.length ∧ cf = cap' := by simpa using hv'
  have hby := hc.byt i p hp
  obtain ⟨av, cv, hav⟩ := d_shape hby
  obtain ⟨⟨nm, bs, sf⟩, pv⟩ := p
  simp only at hav
  subst hav
  have hnf := hc.nf
  have hbF : ∀ g, (Value.slice av bs.length cv).ownBlock = some g → F g := fun g hg => hc.fb i _ g hp hg
  have hx1 : W.cell? ⟨x, 0, none⟩ = some (.slice (some ⟨gF, 0, none⟩) nf cf) := hc.c 0
  have hbx := hc.bx hp
  have hgx : gF ≠ x := fun e => hc.rx (by rw [e]; rfl)
  have hr2 : ∀ {V : World}, W.drew.grownBy V (Value.slice av bs.length cv).ownBlock → W.grownBy V (Value.slice av bs.length cv).ownBlock := fun h => ⟨h.os, h.tape, h.output, h.size, h.block⟩
  have hcv : ∀ V, W.drew.grownBy V (Value.slice av bs.length cv).ownBlock → V.cell? ⟨Db, 0, none⟩ = some (.pointer (some ⟨d, 0, none⟩)) ∧ V.cell? ⟨d, 0, none⟩ = some (.pointer (some ⟨x, 0, none⟩)) ∧ V.cell? ⟨x, 0, none⟩ = some (.slice (some ⟨gF, 0, none⟩) nf cf) ∧ V.cell? ⟨Bb, 0, none⟩ = some (.slice ab nb cb) := fun V hV =>
    ⟨grown_cell hD (hr2 hV) (fun e => nD (hbF _ e)), grown_cell hd (hr2 hV) (fun e => nd (hbF _ e)), grown_cell hx1 (hr2 hV) hbx, grown_cell hBb (hr2 hV) (fun e => nB (hbF _ e))⟩
  refine regApp Q Db Bb d x gF nf cf i av bs.length cv bs.length ab nb cb zs cur (bs.map (Value.int .u8)) W hby (by have := (List.getElem?_eq_some_iff.mp hp).1; omega) hl hz hnn hb hcur ((cell_of_row _ _ (i * 3 + 1) _ _ _ hcur).symm.trans k1) (hc.rb hp rfl) hcv (fun V hV y => ?_) ?_
  · obtain ⟨q1, q2, q3, q4⟩ := hcv V hV
    exact ⟨set_cell q1 (fun e => nD (e ▸ hFg)), set_cell q2 (fun e => nd (e ▸ hFg)), set_cell q3 (fun e => hgx e.symm), set_cell q4 (fun e => nB (e ▸ hFg))⟩
  · intro v' w' r1 r2 r3 r4
    refine h v' _ (hc.app hp (bs := bs ++ zs) (by rw [List.length_append, List.map_append, hl]; exact r1) (hr2 r2) r3) ((Kd.grown (hr2 r2) (fun g hg => hbF g hg)).trans (Kd.set hFg))

set_option maxRecDepth 100000 in
set_option maxHeartbeats 4000000 in
theorem regNewD (Q : Exit → Act → World → Prop) (Db Nb d x : Nat) (s : ByteArray) (F : Nat → Prop) (D : Dk) (L : List Fv) (af : Option Addr) (nf cf : Nat) {t2 t3 t4 t5 t6 t7 t8 t9 t10 t11 t12 t13 t14 t15 t16 t17 t18 t19 t20 t21 t22 t23 t24 t25 t26 t27 t28 t29 t30 t31 t32 t33 t34 t35 t36 t37 t38 t39 t40 t41 t42 t43 t44 t45 t46 t47 t48 t49 t50 t51 t52 t53 t54 t55 t56 t57 t58 t59 : Value} (W : World)
    (hc : Dc W x F D (.slice af nf cf) L) (hD : W.cell? ⟨Db, 0, none⟩ = some (.pointer (some ⟨d, 0, none⟩))) (hd : W.cell? ⟨d, 0, none⟩ = some (.pointer (some ⟨x, 0, none⟩))) (hN : W.cell? ⟨Nb, 0, none⟩ = some (.string s)) (nD : ¬ F Db) (nd : ¬ F d) (nN : ¬ F Nb) (hn : nf ≤ 1099511627776)
    (h : ∀ v' w', Dc w' x (up F W) (D.fs' (D.fs ++ [⟨s, [], 0⟩])) v' (L ++ [(⟨s, [], 0⟩, .slice none 0 0)]) → Kd F W w' → Q .normal { tmps := (.pointer (some ⟨Db, 0, none⟩) :: .pointer (some ⟨Nb, 0, none⟩) :: t2 :: t3 :: t4 :: t5 :: t6 :: t7 :: t8 :: t9 :: t10 :: t11 :: t12 :: t13 :: t14 :: t15 :: t16 :: t17 :: t18 :: t19 :: .pointer (some ⟨d, 0, none⟩) :: .pointer (some ⟨d, 0, none⟩) :: .pointer (some ⟨d, 0, none⟩) :: .pointer (some ⟨x, 0, none⟩) :: .pointer (some ⟨d, 0, none⟩) :: .pointer (some ⟨d, 0, none⟩) :: .pointer (some ⟨d, 0, none⟩) :: .pointer (some ⟨x, 0, none⟩) :: .pointer (some ⟨x, 0, none⟩) :: .pointer (some ⟨x, 0, none⟩) :: .slice af nf cf :: .string s :: .agg #[.string s, .slice none 0 0, .int .i64 0] :: .slice (some ⟨W.heap.size, 0, none⟩) 1 1 :: v' :: .pointer (some ⟨x, 0, none⟩) :: .pointer (some ⟨x, 0, none⟩) :: t37 :: t38 :: t39 :: t40 :: t41 :: t42 :: t43 :: t44 :: t45 :: t46 :: t47 :: t48 :: t49 :: t50 :: t51 :: t52 :: t53 :: t54 :: t55 :: t56 :: t57 :: t58 :: t59 :: []).toArray, defers := [] } w') :
    (Code.region 3 regNewOps true).wp Tryd.prog Q { tmps := (.pointer (some ⟨Db, 0, none⟩) :: .pointer (some ⟨Nb, 0, none⟩) :: t2 :: t3 :: t4 :: t5 :: t6 :: t7 :: t8 :: t9 :: t10 :: t11 :: t12 :: t13 :: t14 :: t15 :: t16 :: t17 :: t18 :: t19 :: t20 :: t21 :: t22 :: t23 :: t24 :: t25 :: t26 :: t27 :: t28 :: t29 :: t30 :: t31 :: t32 :: t33 :: t34 :: t35 :: t36 :: t37 :: t38 :: t39 :: t40 :: t41 :: t42 :: t43 :: t44 :: t45 :: t46 :: t47 :: t48 :: t49 :: t50 :: t51 :: t52 :: t53 :: t54 :: t55 :: t56 :: t57 :: t58 :: t59 :: []).toArray, defers := [] } W := by
  have hnf := hc.nf
  subst hnf
  have hrF : ∀ g, (Value.slice af L.length cf).ownBlock = some g → F g := fun g hg => hc.fr g hg
  have hr2 : ∀ {V : World}, W.drew.grownBy V (Value.slice af L.length cf).ownBlock → W.grownBy V (Value.slice af L.length cf).ownBlock := fun h => ⟨h.os, h.tape, h.output, h.size, h.block⟩
  have hcv : ∀ V, W.drew.grownBy V (Value.slice af L.length cf).ownBlock → V.cell? ⟨Db, 0, none⟩ = some (.pointer (some ⟨d, 0, none⟩)) ∧ V.cell? ⟨d, 0, none⟩ = some (.pointer (some ⟨x, 0, none⟩)) ∧ V.cell? ⟨Nb, 0, none⟩ = some (.string s) := fun V hV =>
    ⟨grown_cell hD (hr2 hV) (fun e => nD (hrF _ e)), grown_cell hd (hr2 hV) (fun e => nd (hrF _ e)), grown_cell hN (hr2 hV) (fun e => nN (hrF _ e))⟩
  refine regNew Q Db Nb d x s af L.length cf L.length (bxD (.slice af L.length cf) D) (L.flatMap fcell) W hc.row (by omega) hc.box rfl hc.rx hcv (fun V hV y => ?_) ?_
  · obtain ⟨q1, q2, q3⟩ := hcv V hV
    exact ⟨set_cell q1 (fun e => nD (e ▸ hc.fx)), set_cell q2 (fun e => nd (e ▸ hc.fx)), set_cell q3 (fun e => nN (e ▸ hc.fx))⟩
  · intro v' w' r1 r2 r3 r4
    exact h v' _ (hc.new r1 (hr2 r2) r3) ((Kd.grown (hr2 r2) hrF).trans (Kd.set hc.fx))

end Go.Proofs.YticdedcgmofpjaaDoor.K
