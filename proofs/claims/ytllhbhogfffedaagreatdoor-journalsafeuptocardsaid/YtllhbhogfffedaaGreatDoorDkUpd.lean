import Derived.Test.YtllhbhogfffedaaGreatDoorDkReg
namespace Go.Proofs.YtllhbhogfffedaaGreatDoor.K
open Go.RowKit
set_option linter.unusedVariables false
set_option linter.unusedSimpArgs false

/-! ## What becomes of a disk in memory when one of its cells is written -/
theorem fcell_set0 : ∀ {L : List Fv} {i : Nat} {p : Fv} (s : ByteArray), L[i]? = some p → (L.flatMap fcell).set (i * 3) (.string s) = (L.set i (⟨s, p.1.bs, p.1.sf⟩, p.2)).flatMap fcell
  | q :: r, 0, p, s, h => by simp at h; subst h; simp [fcell]
  | q :: r, i + 1, p, s, h => by
    have ih := fcell_set0 (L := r) (i := i) (p := p) s (by simpa using h)
    rw [List.set_cons_succ, List.flatMap_cons, List.flatMap_cons, ← ih, show (i + 1) * 3 = (fcell q).length + i * 3 by simp [fcell]; omega, List.set_append_right _ _ (by omega)]
    congr 2; omega
theorem fcell_set1 : ∀ {L : List Fv} {i : Nat} {p : Fv} (bs : List Int) (v : Value), L[i]? = some p → (L.flatMap fcell).set (i * 3 + 1) v = (L.set i (⟨p.1.nm, bs, p.1.sf⟩, v)).flatMap fcell
  | q :: r, 0, p, s, v, h => by simp at h; subst h; simp [fcell]
  | q :: r, i + 1, p, s, v, h => by
    have ih := fcell_set1 (L := r) (i := i) (p := p) s v (by simpa using h)
    rw [List.set_cons_succ, List.flatMap_cons, List.flatMap_cons, ← ih, show (i + 1) * 3 + 1 = (fcell q).length + (i * 3 + 1) by simp [fcell]; omega, List.set_append_right _ _ (by omega)]
    congr 2; omega
theorem fcell_set2 : ∀ {L : List Fv} {i : Nat} {p : Fv} (z : Int), L[i]? = some p → (L.flatMap fcell).set (i * 3 + 2) (.int .i64 z) = (L.set i (⟨p.1.nm, p.1.bs, z⟩, p.2)).flatMap fcell
  | q :: r, 0, p, s, h => by simp at h; subst h; simp [fcell]
  | q :: r, i + 1, p, s, h => by
    have ih := fcell_set2 (L := r) (i := i) (p := p) s (by simpa using h)
    rw [List.set_cons_succ, List.flatMap_cons, List.flatMap_cons, ← ih, show (i + 1) * 3 + 2 = (fcell q).length + (i * 3 + 2) by simp [fcell]; omega, List.set_append_right _ _ (by omega)]
    congr 2; omega
theorem set_get {α : Type} {l : List α} {i j : Nat} {x y : α} (h : (l.set i x)[j]? = some y) : (j = i ∧ y = x) ∨ (j ≠ i ∧ l[j]? = some y) := by
  rw [List.getElem?_set] at h
  by_cases e : i = j
  · rw [if_pos e] at h
    split at h
    · cases h; exact .inl ⟨e.symm, rfl⟩
    · cases h
  · rw [if_neg e] at h; exact .inr ⟨fun q => e q.symm, h⟩
def up (F : Nat → Prop) (w : World) : Nat → Prop := fun g => F g ∨ w.heap.size ≤ g
/-- What a disk is with other files. -/
def Dk.fs' (D : Dk) (fs : List Fl) : Dk := { D with fs := fs }
section
variable {W w' : World} {x gF nf cf i : Nat} {F : Nat → Prop} {D : Dk} {vf : Value} {L : List Fv} {p : Fv}
theorem Dc.bx (h : Dc W x F D vf L) (hp : L[i]? = some p) : p.2.ownBlock ≠ some x := d_box (h.byt i p hp) h.box (by decide)
theorem Dc.rx (h : Dc W x F D vf L) : vf.ownBlock ≠ some x := d_box h.row h.box (by decide)
theorem Dc.rb (h : Dc W x F D vf L) (hp : L[i]? = some p) {g : Nat} (hg : vf.ownBlock = some g) : p.2.ownBlock ≠ some g := d_apart h.row (h.byt i p hp) (by decide) hg
/-- A file's bytes, in a row that has grown or is new. -/
theorem Dc.app (h : Dc W x F D (.slice (some ⟨gF, 0, none⟩) nf cf) L) (hp : L[i]? = some p) {v' : Value} {bs : List Int} (r1 : w'.ownsRow 0 5 1 v' bs.length (bs.map (Value.int .u8))) (r2 : W.grownBy w' p.2.ownBlock) (r3 : v'.ownBlock = p.2.ownBlock ∨ ∃ g, v'.ownBlock = some g ∧ W.heap.size ≤ g) :
    Dc (w'.setCell ⟨gF, i * 3 + 1, none⟩ v') x (up F W) (D.fs' (D.fs.set i ⟨p.1.nm, bs, p.1.sf⟩)) (.slice (some ⟨gF, 0, none⟩) nf cf) (L.set i (⟨p.1.nm, bs, p.1.sf⟩, v')) := by
  obtain rfl : L.length = nf := by obtain ⟨a, c, e⟩ := d_shape h.row; simp only [Value.slice.injEq] at e; exact e.2.1.symm
  have hgx : gF ≠ x := fun e => h.rx (by rw [e]; rfl)
  have hgl : gF < W.heap.size := (d_lt h.row gF rfl).2
  have hrow : w'.ownsRow 0 75 3 (.slice (some ⟨gF, 0, none⟩) L.length cf) L.length (L.flatMap fcell) := d_blk h.row (fun g hg => r2.block g (d_lt h.row g hg).2 (fun e => h.rb hp hg e.symm))
  have hset : ∀ g, g ≠ gF → (w'.setCell ⟨gF, i * 3 + 1, none⟩ v').heap[g]? = w'.heap[g]? := fun g hg => heap_setCell_other _ _ _ _ hg
  have hbj : ∀ (j : Nat) q, L[j]? = some q → ∀ g, q.2.ownBlock = some g → g ≠ gF := fun j q hq g hg e => h.rb hq rfl (by rw [← e]; exact hg)
  have hv'g : ∀ g, v'.ownBlock = some g → g ≠ gF := fun g hg e => d_apart hrow r1 (by decide) (g := gF) rfl (by rw [← e]; exact hg)
  refine ⟨by rw [List.map_set]; simp only [Dk.fs', h.map], ?_, ?_, fun j q hq => ?_, fun j k q u g hj hk hg1 hg2 => ?_, .inl h.fx, fun g hg => .inl (h.fr g hg), fun j q g hj hg => ?_⟩
  · exact (hset x (fun e => hgx e.symm)).trans ((r2.block x h.xlt (fun e => h.bx hp e.symm)).trans h.box)
  · have h1 := World.ownsRow.stored hrow (i * 3 + 1) v'
    rw [List.length_set, ← fcell_set1 bs v' hp]
    exact h1.1
  · rcases set_get hq with ⟨rfl, rfl⟩ | ⟨hne, hq'⟩
    · exact d_blk r1 (fun g hg => hset g (hv'g g hg))
    · refine d_blk (h.byt j q hq') (fun g hg => (hset g (hbj j q hq' g hg)).trans (r2.block g (d_lt (h.byt j q hq') g hg).2 (fun e => hne (h.dis j i q p g hq' hp hg e.symm))))
  · have new : ∀ (j : Nat) q, j ≠ i → L[j]? = some q → q.2.ownBlock = some g → v'.ownBlock = some g → False := fun j q hji hq hg hg' => by
      rcases r3 with e | ⟨g', e, hl⟩
      · exact hji (h.dis j i q p g hq hp hg (e ▸ hg'))
      · have e2 : g' = g := Option.some.inj (e.symm.trans hg')
        have := (d_lt (h.byt j q hq) g hg).2
        omega
    rcases set_get hj with ⟨rfl, rfl⟩ | ⟨hne, hj'⟩
    · rcases set_get hk with ⟨rfl, rfl⟩ | ⟨hne2, hk'⟩
      · rfl
      · exact (new k u hne2 hk' hg2 hg1).elim
    · rcases set_get hk with ⟨rfl, rfl⟩ | ⟨hne2, hk'⟩
      · exact (new j q hne hj' hg1 hg2).elim
      · exact h.dis j k q u g hj' hk' hg1 hg2
  · rcases set_get hj with ⟨rfl, rfl⟩ | ⟨hne, hj'⟩
    · rcases r3 with e | ⟨g', e, hl⟩
      · exact .inl (h.fb j p g hp (e ▸ hg))
      · have e2 : g' = g := Option.some.inj (e.symm.trans hg)
        exact .inr (by omega)
    · exact .inl (h.fb j q g hj' hg)
/-- A file more. -/
theorem Dc.new (h : Dc W x F D vf L) {v' : Value} {s : ByteArray} (r1 : w'.ownsRow 0 75 3 v' (L.length + 1) (L.flatMap fcell ++ [.string s, .slice none 0 0, .int .i64 0])) (r2 : W.grownBy w' vf.ownBlock) (r3 : v'.ownBlock = vf.ownBlock ∨ ∃ g, v'.ownBlock = some g ∧ W.heap.size ≤ g) :
    Dc (w'.setCell ⟨x, 0, none⟩ v') x (up F W) (D.fs' (D.fs ++ [⟨s, [], 0⟩])) v' (L ++ [(⟨s, [], 0⟩, .slice none 0 0)]) := by
  have hB : w'.heap[x]? = _ := (r2.block x h.xlt (fun e => h.rx e.symm)).trans h.box
  have hv : v'.ownBlock ≠ some x := d_box r1 hB (by decide)
  have hset : ∀ g, g ≠ x → (w'.setCell ⟨x, 0, none⟩ v').heap[g]? = w'.heap[g]? := fun g hg => heap_setCell_other _ _ _ _ hg
  have last : ∀ (j : Nat) q, (L ++ [((⟨s, [], 0⟩ : Fl), Value.slice none 0 0)])[j]? = some q → L[j]? = some q ∨ q = (⟨s, [], 0⟩, .slice none 0 0) := fun j q hq => by
    rcases Nat.lt_or_ge j L.length with e | e
    · rw [List.getElem?_append_left e] at hq; exact .inl hq
    · rw [List.getElem?_append_right e] at hq
      rcases Nat.eq_zero_or_pos (j - L.length) with e2 | e2
      · rw [e2] at hq; simp at hq; exact .inr hq.symm
      · rw [List.getElem?_eq_none (by simp; omega)] at hq; cases hq
  refine ⟨by rw [List.map_append, h.map]; rfl, ?_, ?_, fun j q hq => ?_, fun j k q u g hj hk hg1 hg2 => ?_, .inl h.fx, fun g hg => ?_, fun j q g hj hg => ?_⟩
  · exact heap_setCell_same w' x 0 _ _ _ hB
  · rw [List.length_append, List.flatMap_append]
    exact d_blk r1 (fun g hg => hset g (fun e => hv (by rw [← e]; exact hg)))
  · rcases last j q hq with hq' | rfl
    · exact d_blk (h.byt j q hq') (fun g hg => (hset g (fun e => h.bx hq' (by rw [← e]; exact hg))).trans (r2.block g (d_lt (h.byt j q hq') g hg).2 (fun e => h.rb hq' e.symm hg)))
    · exact World.ownsRow_nil _ _ _ _
  · rcases last j q hj with hj' | rfl
    · rcases last k u hk with hk' | rfl
      · exact h.dis j k q u g hj' hk' hg1 hg2
      · cases hg2
    · cases hg1
  · rcases r3 with e | ⟨g', e, hl⟩
    · exact .inl (h.fr g (e ▸ hg))
    · have e2 : g' = g := Option.some.inj (e.symm.trans hg)
      exact .inr (by omega)
  · rcases last j q hj with hj' | rfl
    · exact .inl (h.fb j q g hj' hg)
    · cases hg
/-- One of the box's other cells. -/
theorem Dc.boxed (h : Dc W x F D vf L) {D' : Dk} (hf : D'.fs = D.fs) (hB : w'.heap[x]? = some (.cells (bxD vf D') 85 (0, 0))) (hs : ∀ k, k ≠ x → w'.heap[k]? = W.heap[k]?) : Dc w' x F D' vf L :=
  ⟨by rw [h.map, hf], hB, d_blk h.row (fun g hg => hs g (fun e => h.rx (by rw [← e]; exact hg))), fun i p hp => d_blk (h.byt i p hp) (fun g hg => hs g (fun e => h.bx hp (by rw [← e]; exact hg))), h.dis, h.fx, h.fr, h.fb⟩
/-- A file's name or how much of it is safe. -/
theorem Dc.cellF (h : Dc W x F D (.slice (some ⟨gF, 0, none⟩) nf cf) L) (hp : L[i]? = some p) {k : Nat} {v : Value} {q : Fl} (hq : q.bs = p.1.bs) (hs : (L.flatMap fcell).set k v = (L.set i (q, p.2)).flatMap fcell) :
    Dc (W.setCell ⟨gF, k, none⟩ v) x F (D.fs' (D.fs.set i q)) (.slice (some ⟨gF, 0, none⟩) nf cf) (L.set i (q, p.2)) := by
  obtain rfl : L.length = nf := by obtain ⟨a, c, e⟩ := d_shape h.row; simp only [Value.slice.injEq] at e; exact e.2.1.symm
  have hgx : gF ≠ x := fun e => h.rx (by rw [e]; rfl)
  have hset : ∀ g, g ≠ gF → (W.setCell ⟨gF, k, none⟩ v).heap[g]? = W.heap[g]? := fun g hg => heap_setCell_other _ _ _ _ hg
  have hbj : ∀ (j : Nat) q, L[j]? = some q → ∀ g, q.2.ownBlock = some g → g ≠ gF := fun j q hq g hg e => h.rb hq rfl (by rw [← e]; exact hg)
  refine ⟨by rw [List.map_set]; simp only [Dk.fs', h.map], (hset x (fun e => hgx e.symm)).trans h.box, ?_, fun j u hu => ?_, fun j k' u u' g hj hk hg1 hg2 => ?_, h.fx, h.fr, fun j u g hj hg => ?_⟩
  · rw [List.length_set, ← hs]; exact (World.ownsRow.stored h.row k v).1
  · rcases set_get hu with ⟨rfl, rfl⟩ | ⟨hne, hu'⟩
    · simp only [hq]; exact d_blk (h.byt j p hp) (fun g hg => hset g (hbj j p hp g hg))
    · exact d_blk (h.byt j u hu') (fun g hg => hset g (hbj j u hu' g hg))
  · rcases set_get hj with ⟨rfl, rfl⟩ | ⟨hne, hj'⟩
    · rcases set_get hk with ⟨rfl, rfl⟩ | ⟨hne2, hk'⟩
      · rfl
      · exact h.dis j k' p u' g hp hk' hg1 hg2
    · rcases set_get hk with ⟨rfl, rfl⟩ | ⟨hne2, hk'⟩
      · exact h.dis j k' u p g hj' hp hg1 hg2
      · exact h.dis j k' u u' g hj' hk' hg1 hg2
  · rcases set_get hj with ⟨rfl, rfl⟩ | ⟨hne, hj'⟩
    · exact h.fb j p g hp hg
    · exact h.fb j u g hj' hg
end

end Go.Proofs.YtllhbhogfffedaaGreatDoor.K

namespace Go.Proofs.YtllhbhogfffedaaGreatDoor.K
open Go.RowKit
set_option linter.unusedVariables false
set_option linter.unusedSimpArgs false

theorem Dc.cur {W : World} {x gF nf cf : Nat} {F : Nat → Prop} {D : Dk} {L : List Fv} (h : Dc W x F D (.slice (some ⟨gF, 0, none⟩) nf cf) L) : ∃ cur, W.heap[gF]? = some (.cells cur 75 (0, 0)) := by
  obtain ⟨_, ⟨e, _⟩ | ⟨g, cap, cur, e, _, hh, _⟩⟩ := h.row
  · cases e
  · cases e; exact ⟨cur, hh⟩
theorem Dc.nf {W : World} {x nf cf : Nat} {a : Option Addr} {F : Nat → Prop} {D : Dk} {L : List Fv} (h : Dc W x F D (.slice a nf cf) L) : nf = L.length := by
  obtain ⟨a, c, e⟩ := d_shape h.row
  simp only [Value.slice.injEq] at e
  exact e.2.1
theorem set_cell {V : World} {g j k i : Nat} {v u : Value} (h : V.cell? ⟨k, i, none⟩ = some v) (hne : k ≠ g) : (V.setCell ⟨g, j, none⟩ u).cell? ⟨k, i, none⟩ = some v :=
  (World.cell?_of_block (a := ⟨k, i, none⟩) (heap_setCell_other _ _ _ _ hne)).trans h
theorem grown_cell {V w' : World} {row : Option Nat} {k i : Nat} {v : Value} (h : V.cell? ⟨k, i, none⟩ = some v) (hg : V.grownBy w' row) (hne : row ≠ some k) : w'.cell? ⟨k, i, none⟩ = some v :=
  (World.cell?_of_block (a := ⟨k, i, none⟩) (hg.block k (World.block_lt_of_cell? V ⟨k, i, none⟩ h) (fun e => hne e.symm))).trans h

set_option maxRecDepth 100000 in
set_option maxHeartbeats 4000000 in
theorem regAppD (Q : Exit → Act → World → Prop) (Db Bb d x gF nf cf i : Nat) (F : Nat → Prop) (D : Dk) (L : List Fv) (p : Fv) (ab : Option Addr) (nb cb : Nat) (zs : List Int) {t1 t4 t5 t6 t7 t8 t9 t10 t11 t12 t13 t14 t15 t16 t17 t18 t19 t20 t21 t22 t23 t24 t25 t26 t27 t28 t29 t30 t31 t32 t33 t34 t35 t36 t37 t38 t39 t40 t41 t42 t43 t44 t45 t46 t47 t48 t49 t50 t51 t52 t53 t54 t55 t56 t57 t58 t59 : Value} (W : World)
    (hc : Dc W x F D (.slice (some ⟨gF, 0, none⟩) nf cf) L) (hp : L[i]? = some p) (hD : W.cell? ⟨Db, 0, none⟩ = some (.pointer (some ⟨d, 0, none⟩))) (hd : W.cell? ⟨d, 0, none⟩ = some (.pointer (some ⟨x, 0, none⟩))) (hBb : W.cell? ⟨Bb, 0, none⟩ = some (.slice ab nb cb)) (nD : ¬ F Db) (nd : ¬ F d) (nB : ¬ F Bb)
    (hl : zs.length = nb) (hz : Lies .u8 W ab zs) (hnn : ab = none → nb = 0 ∧ cb = 0) (hb : p.1.bs.length + nb ≤ 140737488355328)
    (h : ∀ v' w', Dc w' x (up F W) (D.fs' (D.fs.set i ⟨p.1.nm, p.1.bs ++ zs, p.1.sf⟩)) (.slice (some ⟨gF, 0, none⟩) nf cf) (L.set i (⟨p.1.nm, p.1.bs ++ zs, p.1.sf⟩, v')) → Kd F W w' → Q .normal { tmps := (.pointer (some ⟨Db, 0, none⟩) :: t1 :: .pointer (some ⟨Bb, 0, none⟩) :: .int .i64 (i : Int) :: t4 :: t5 :: t6 :: t7 :: t8 :: t9 :: t10 :: t11 :: t12 :: t13 :: t14 :: t15 :: t16 :: t17 :: t18 :: t19 :: t20 :: t21 :: t22 :: t23 :: t24 :: t25 :: t26 :: t27 :: t28 :: t29 :: t30 :: t31 :: t32 :: t33 :: t34 :: t35 :: t36 :: .pointer (some ⟨d, 0, none⟩) :: .pointer (some ⟨d, 0, none⟩) :: .pointer (some ⟨d, 0, none⟩) :: .pointer (some ⟨x, 0, none⟩) :: .pointer (some ⟨x, 0, none⟩) :: .pointer (some ⟨x, 0, none⟩) :: .slice (some ⟨gF, 0, none⟩) nf cf :: .int .i64 (i : Int) :: .pointer (some ⟨d, 0, none⟩) :: .pointer (some ⟨d, 0, none⟩) :: .pointer (some ⟨d, 0, none⟩) :: .pointer (some ⟨x, 0, none⟩) :: .pointer (some ⟨x, 0, none⟩) :: .pointer (some ⟨x, 0, none⟩) :: .slice (some ⟨gF, 0, none⟩) nf cf :: .int .i64 (i : Int) :: .pointer (some ⟨gF, i * 3, none⟩) :: .pointer (some ⟨gF, i * 3 + 1, none⟩) :: p.2 :: .slice ab nb cb :: v' :: .pointer (some ⟨gF, i * 3, none⟩) :: .pointer (some ⟨gF, i * 3 + 1, none⟩) :: []).toArray, defers := [] } w') :
    (Code.region 4 regAppOps true).wp Tryz.prog Q { tmps := (.pointer (some ⟨Db, 0, none⟩) :: t1 :: .pointer (some ⟨Bb, 0, none⟩) :: .int .i64 (i : Int) :: t4 :: t5 :: t6 :: t7 :: t8 :: t9 :: t10 :: t11 :: t12 :: t13 :: t14 :: t15 :: t16 :: t17 :: t18 :: t19 :: t20 :: t21 :: t22 :: t23 :: t24 :: t25 :: t26 :: t27 :: t28 :: t29 :: t30 :: t31 :: t32 :: t33 :: t34 :: t35 :: t36 :: t37 :: t38 :: t39 :: t40 :: t41 :: t42 :: t43 :: t44 :: t45 :: t46 :: t47 :: t48 :: t49 :: t50 :: t51 :: t52 :: t53 :: t54 :: t55 :: t56 :: t57 :: t58 :: t59 :: []).toArray, defers := [] } W := by
  obtain ⟨cur, hcur⟩ := hc.cur
  obtain ⟨g', cap', hv', hFg, hgl, k0, k1, k2, kz⟩ := hc.at hp
  obtain ⟨rfl, _, rfl⟩ : gF = g' ∧ nf = L.length ∧ cf = cap' := by simpa using hv'
  have hby := hc.byt i p hp
  obtain ⟨av, cv, hav⟩ := d_shape hby
  obtain ⟨⟨nm, bs, sf⟩, pv⟩ := p
  simp only at hav
  subst hav
  have hnf := hc.nf
  have hbF : ∀ g, (Value.slice av bs.length cv).ownBlock = some g → F g := fun g hg => hc.fb i _ g hp hg
  have hx1 : W.cell? ⟨x, 0, none⟩ = some (.slice (some ⟨gF, 0, none⟩) nf cf) := hc.c 0
  have hbx := hc.bx hp
  have hgx : gF ≠ x := fun e => hc.rx (by rw [e]; rfl)
  have hr2 : ∀ {V : World}, W.drew.grownBy V (Value.slice av bs.length cv).ownBlock → W.grownBy V (Value.slice av bs.length cv).ownBlock := fun h => ⟨h.os, h.tape, h.output, h.size, h.block⟩
  have hcv : ∀ V, W.drew.grownBy V (Value.slice av bs.length cv).ownBlock → V.cell? ⟨Db, 0, none⟩ = some (.pointer (some ⟨d, 0, none⟩)) ∧ V.cell? ⟨d, 0, none⟩ = some (.pointer (some ⟨x, 0, none⟩)) ∧ V.cell? ⟨x, 0, none⟩ = some (.slice (some ⟨gF, 0, none⟩) nf cf) ∧ V.cell? ⟨Bb, 0, none⟩ = some (.slice ab nb cb) := fun V hV =>
    ⟨grown_cell hD (hr2 hV) (fun e => nD (hbF _ e)), grown_cell hd (hr2 hV) (fun e => nd (hbF _ e)), grown_cell hx1 (hr2 hV) hbx, grown_cell hBb (hr2 hV) (fun e => nB (hbF _ e))⟩
  refine regApp Q Db Bb d x gF nf cf i av bs.length cv bs.length ab nb cb zs cur (bs.map (Value.int .u8)) W hby (by have := (List.getElem?_eq_some_iff.mp hp).1; omega) hl hz hnn hb hcur ((cell_of_row _ _ (i * 3 + 1) _ _ _ hcur).symm.trans k1) (hc.rb hp rfl) hcv (fun V hV y => ?_) ?_
  · obtain ⟨q1, q2, q3, q4⟩ := hcv V hV
    exact ⟨set_cell q1 (fun e => nD (e ▸ hFg)), set_cell q2 (fun e => nd (e ▸ hFg)), set_cell q3 (fun e => hgx e.symm), set_cell q4 (fun e => nB (e ▸ hFg))⟩
  · intro v' w' r1 r2 r3 r4
    refine h v' _ (hc.app hp (bs := bs ++ zs) (by rw [List.length_append, List.map_append, hl]; exact r1) (hr2 r2) r3) ((Kd.grown (hr2 r2) (fun g hg => hbF g hg)).trans (Kd.set hFg))

set_option maxRecDepth 100000 in
set_option maxHeartbeats 4000000 in
theorem regNewD (Q : Exit → Act → World → Prop) (Db Nb d x : Nat) (s : ByteArray) (F : Nat → Prop) (D : Dk) (L : List Fv) (af : Option Addr) (nf cf : Nat) {t2 t3 t4 t5 t6 t7 t8 t9 t10 t11 t12 t13 t14 t15 t16 t17 t18 t19 t20 t21 t22 t23 t24 t25 t26 t27 t28 t29 t30 t31 t32 t33 t34 t35 t36 t37 t38 t39 t40 t41 t42 t43 t44 t45 t46 t47 t48 t49 t50 t51 t52 t53 t54 t55 t56 t57 t58 t59 : Value} (W : World)
    (hc : Dc W x F D (.slice af nf cf) L) (hD : W.cell? ⟨Db, 0, none⟩ = some (.pointer (some ⟨d, 0, none⟩))) (hd : W.cell? ⟨d, 0, none⟩ = some (.pointer (some ⟨x, 0, none⟩))) (hN : W.cell? ⟨Nb, 0, none⟩ = some (.string s)) (nD : ¬ F Db) (nd : ¬ F d) (nN : ¬ F Nb) (hn : nf ≤ 1099511627776)
    (h : ∀ v' w', Dc w' x (up F W) (D.fs' (D.fs ++ [⟨s, [], 0⟩])) v' (L ++ [(⟨s, [], 0⟩, .slice none 0 0)]) → Kd F W w' → Q .normal { tmps := (.pointer (some ⟨Db, 0, none⟩) :: .pointer (some ⟨Nb, 0, none⟩) :: t2 :: t3 :: t4 :: t5 :: t6 :: t7 :: t8 :: t9 :: t10 :: t11 :: t12 :: t13 :: t14 :: t15 :: t16 :: t17 :: t18 :: t19 :: .pointer (some ⟨d, 0, none⟩) :: .pointer (some ⟨d, 0, none⟩) :: .pointer (some ⟨d, 0, none⟩) :: .pointer (some ⟨x, 0, none⟩) :: .pointer (some ⟨d, 0, none⟩) :: .pointer (some ⟨d, 0, none⟩) :: .pointer (some ⟨d, 0, none⟩) :: .pointer (some ⟨x, 0, none⟩) :: .pointer (some ⟨x, 0, none⟩) :: .pointer (some ⟨x, 0, none⟩) :: .slice af nf cf :: .string s :: .agg #[.string s, .slice none 0 0, .int .i64 0] :: .slice (some ⟨W.heap.size, 0, none⟩) 1 1 :: v' :: .pointer (some ⟨x, 0, none⟩) :: .pointer (some ⟨x, 0, none⟩) :: t37 :: t38 :: t39 :: t40 :: t41 :: t42 :: t43 :: t44 :: t45 :: t46 :: t47 :: t48 :: t49 :: t50 :: t51 :: t52 :: t53 :: t54 :: t55 :: t56 :: t57 :: t58 :: t59 :: []).toArray, defers := [] } w') :
    (Code.region 3 regNewOps true).wp Tryz.prog Q { tmps := (.pointer (some ⟨Db, 0, none⟩) :: .pointer (some ⟨Nb, 0, none⟩) :: t2 :: t3 :: t4 :: t5 :: t6 :: t7 :: t8 :: t9 :: t10 :: t11 :: t12 :: t13 :: t14 :: t15 :: t16 :: t17 :: t18 :: t19 :: t20 :: t21 :: t22 :: t23 :: t24 :: t25 :: t26 :: t27 :: t28 :: t29 :: t30 :: t31 :: t32 :: t33 :: t34 :: t35 :: t36 :: t37 :: t38 :: t39 :: t40 :: t41 :: t42 :: t43 :: t44 :: t45 :: t46 :: t47 :: t48 :: t49 :: t50 :: t51 :: t52 :: t53 :: t54 :: t55 :: t56 :: t57 :: t58 :: t59 :: []).toArray, defers := [] } W := by
  have hnf := hc.nf
  subst hnf
  have hrF : ∀ g, (Value.slice af L.length cf).ownBlock = some g → F g := fun g hg => hc.fr g hg
  have hr2 : ∀ {V : World}, W.drew.grownBy V (Value.slice af L.length cf).ownBlock → W.grownBy V (Value.slice af L.length cf).ownBlock := fun h => ⟨h.os, h.tape, h.output, h.size, h.block⟩
  have hcv : ∀ V, W.drew.grownBy V (Value.slice af L.length cf).ownBlock → V.cell? ⟨Db, 0, none⟩ = some (.pointer (some ⟨d, 0, none⟩)) ∧ V.cell? ⟨d, 0, none⟩ = some (.pointer (some ⟨x, 0, none⟩)) ∧ V.cell? ⟨Nb, 0, none⟩ = some (.string s) := fun V hV =>
    ⟨grown_cell hD (hr2 hV) (fun e => nD (hrF _ e)), grown_cell hd (hr2 hV) (fun e => nd (hrF _ e)), grown_cell hN (hr2 hV) (fun e => nN (hrF _ e))⟩
  refine regNew Q Db Nb d x s af L.length cf L.length (bxD (.slice af L.length cf) D) (L.flatMap fcell) W hc.row (by omega) hc.box rfl hc.rx hcv (fun V hV y => ?_) ?_
  · obtain ⟨q1, q2, q3⟩ := hcv V hV
    exact ⟨set_cell q1 (fun e => nD (e ▸ hc.fx)), set_cell q2 (fun e => nd (e ▸ hc.fx)), set_cell q3 (fun e => nN (e ▸ hc.fx))⟩
  · intro v' w' r1 r2 r3 r4
    exact h v' _ (hc.new r1 (hr2 r2) r3) ((Kd.grown (hr2 r2) hrF).trans (Kd.set hc.fx))

end Go.Proofs.YtllhbhogfffedaaGreatDoor.K

namespace Go.Proofs.YtllhbhogfffedaaGreatDoor.K
open Go.RowKit
set_option linter.unusedVariables false
set_option linter.unusedSimpArgs false

/-! ## The closures: what each does to the files -/
def addF (fs : List Fl) (s : ByteArray) (zs : List Int) : List Fl :=
  match fnd fs s with
  | some i => match fs[i]? with
    | some f => fs.set i ⟨f.nm, f.bs ++ zs, f.sf⟩
    | none => fs
  | none => fs ++ [⟨s, zs, 0⟩]
theorem addF_old {fs : List Fl} {s : ByteArray} {zs : List Int} {i : Nat} {f : Fl} (h : fnd fs s = some i) (hf : fs[i]? = some f) : addF fs s zs = fs.set i ⟨f.nm, f.bs ++ zs, f.sf⟩ := by unfold addF; rw [h]; simp only [hf]
theorem addF_new {fs : List Fl} {s : ByteArray} {zs : List Int} (h : fnd fs s = none) : addF fs s zs = fs ++ [⟨s, zs, 0⟩] := by unfold addF; rw [h]
/-- What a closure of an act leaves. -/
def ClP (x : Nat) (F : Nat → Prop) (D : Dk) (fs : List Fl) (w : World) (e : Ending) (w' : World) : Prop := (∃ v, e = .returned v) ∧ Dm w' x (up F w) (D.fs' fs) ∧ Kd F w w'
theorem Kd.upTrans {F : Nat → Prop} {a b c : World} (h : Kd F a b) (h' : Kd (up F a) b c) : Kd F a c :=
  ⟨h'.os.trans h.os, h'.tape.trans h.tape, h'.output.trans h.output, Nat.le_trans h.size h'.size, fun k hk hn => (h'.same k (Nat.lt_of_lt_of_le hk h.size) (fun e => e.elim hn (fun q => by omega))).trans (h.same k hk hn)⟩
set_option maxHeartbeats 4000000 in
theorem clApp_any (w : World) (Db Nb Bb d x : Nat) (F : Nat → Prop) (D : Dk) (s : ByteArray) (ab : Option Addr) (nb cb : Nat) (zs : List Int) (B : Nat) (h : Dm w x F D) (hk : D.Ok B) (hB : B ≤ 1099511627776)
    (hD : w.cell? ⟨Db, 0, none⟩ = some (.pointer (some ⟨d, 0, none⟩))) (hd : w.cell? ⟨d, 0, none⟩ = some (.pointer (some ⟨x, 0, none⟩))) (hN : w.cell? ⟨Nb, 0, none⟩ = some (.string s)) (hBb : w.cell? ⟨Bb, 0, none⟩ = some (.slice ab nb cb))
    (nD : ¬ F Db) (nd : ¬ F d) (nN : ¬ F Nb) (nB : ¬ F Bb) (hl : zs.length = nb) (hz : Lies .u8 w ab zs) (hzF : ∀ b off, zs ≠ [] → ab = some ⟨b, off, none⟩ → ¬ F b) (hnn : ab = none → nb = 0 ∧ cb = 0) (hnb : nb ≤ 1099511627776) :
    Calls Tryz.prog 58 #[.pointer (some ⟨Db, 0, none⟩), .pointer (some ⟨Nb, 0, none⟩), .pointer (some ⟨Bb, 0, none⟩)] w fun e w' => ClP x F D (addF D.fs s zs) w e w' := by
  have hfn := fun V (hV : Dm V x F D) => find_any V x F D s B hV hk hB
  obtain ⟨vf, L, hc⟩ := h
  obtain ⟨af, cf, hv⟩ := d_shape hc.row
  obtain ⟨n, hn⟩ : ∃ n, L.length = n := ⟨_, rfl⟩
  have hnb2 : n ≤ 1099511627776 := by have := hk.len; have := hc.len; omega
  rw [hn] at hv
  subst hv
  have HC : Hid (Dc w x F D (.slice af n cf) L) := hc
  have HN : Hid (L.length = n) := hn
  have HK : Hid (D.Ok B) := hk
  have HF : Hid ((¬ F Db) ∧ (¬ F d) ∧ (¬ F Nb) ∧ (¬ F Bb)) := ⟨nD, nd, nN, nB⟩
  have HFn := hfn w.drew ⟨_, _, hc.same (fun _ _ _ => rfl)⟩
  have c0 : w.cell? ⟨x, 0, none⟩ = some (.slice af n cf) := hc.c 0
  have HX : Hid ((w.cell? ⟨Db, 0, none⟩ = some (.pointer (some ⟨d, 0, none⟩))) ∧ w.cell? ⟨d, 0, none⟩ = some (.pointer (some ⟨x, 0, none⟩)) ∧ w.cell? ⟨Nb, 0, none⟩ = some (.string s) ∧ w.cell? ⟨Bb, 0, none⟩ = some (.slice ab nb cb)) := ⟨hD, hd, hN, hBb⟩
  have HZ : Hid (zs.length = nb ∧ Lies .u8 w ab zs ∧ (∀ b off, zs ≠ [] → ab = some ⟨b, off, none⟩ → ¬ F b) ∧ (ab = none → nb = 0 ∧ cb = 0)) := ⟨hl, hz, hzF, hnn⟩
  clear hc hn hk nD nd nN nB hl hz hzF hnn hfn
  go_enter Tryz.func58, Tryz.ntmps58
  go_wp2_with fail
  go_region_held3 (fun V => V.cell? ⟨Db, 0, none⟩ = some (.pointer (some ⟨d, 0, none⟩)) ∧ V.cell? ⟨d, 0, none⟩ = some (.pointer (some ⟨x, 0, none⟩)) ∧ V.cell? ⟨Nb, 0, none⟩ = some (.string s))
    (first | exact ⟨hD, hd, hN⟩)
    (first
      | (go_at_call 59
         refine HFn.mono ?_
         rintro e w1 ⟨rfl, hw1⟩
         rw [hw1]
         clear hw1))
  clear HFn
  obtain ⟨V, hV⟩ : ∃ V, w.drew = V := ⟨_, rfl⟩
  rw [hV]
  have HC1 : Hid (Dc V x F D (.slice af n cf) L) := by rw [← hV]; exact HC.out.same (fun _ _ _ => rfl)
  have HKd : Hid (Kd F w V ∧ V.heap.size = w.heap.size) := by rw [← hV]; exact ⟨(Kd.refl _ _).drew, rfl⟩
  have HX1 : Hid ((V.cell? ⟨Db, 0, none⟩ = some (.pointer (some ⟨d, 0, none⟩))) ∧ V.cell? ⟨d, 0, none⟩ = some (.pointer (some ⟨x, 0, none⟩)) ∧ V.cell? ⟨Nb, 0, none⟩ = some (.string s) ∧ V.cell? ⟨Bb, 0, none⟩ = some (.slice ab nb cb)) := by rw [← hV]; exact HX.out
  have HZ1 : Hid (Lies .u8 V ab zs) := by rw [← hV]; exact HZ.out.2.1
  clear hV HC HX hD hd hN hBb c0
  cases hf : fnd D.fs s with
  | some i =>
    have HI : Hid (fnd D.fs s = some i) := hf
    rw [fI_some hf]
    have hz0 : ¬ (i : Int) < 0 := by omega
    obtain ⟨p, hp⟩ : ∃ p, L[i]? = some p := ⟨_, List.getElem?_eq_getElem (by have := fnd_lt hf; rw [HC1.out.len] at this; exact this)⟩
    have HP : Hid (L[i]? = some p) := hp
    obtain ⟨gF, cap, hv, _⟩ := HC1.out.at hp
    obtain ⟨rfl, hnl, rfl⟩ : af = some ⟨gF, 0, none⟩ ∧ n = L.length ∧ cf = cap := by simpa using hv
    clear hf hp hv hnl
    go_wp2_with fail
    refine regAppD _ Db Bb d x gF n cf i F D L p ab nb cb zs V HC1.out HP.out HX1.out.1 HX1.out.2.1 HX1.out.2.2.2 HF.out.1 HF.out.2.1 HF.out.2.2.2 HZ.out.1 HZ1.out HZ.out.2.2.2 (by have h1 := usd_get (HC1.out.file HP.out); have := HK.out.used; omega) ?_
    intro v' w' hc' hk'
    refine bodyPost_end (v := .tuple #[]) (by simp [results, Tryz.results58, go_sem]) rfl ?_
    refine ⟨⟨_, rfl⟩, ?_, HKd.out.1.trans hk'⟩
    rw [addF_old HI.out (HC1.out.file HP.out)]
    exact ⟨_, _, hc'.mono (fun k h _ => h.imp id (fun e => by have := HKd.out.2; omega))⟩
  | none =>
    rw [fI_none hf]
    have HI : Hid (fnd D.fs s = none) := hf
    clear hf
    have c0 : V.cell? ⟨x, 0, none⟩ = some (.slice af n cf) := HC1.out.c 0
    obtain ⟨hD, hd, _, _⟩ := HX1.out
    go_wp2_with fail
    refine regNewD _ Db Nb d x s F D L af n cf V HC1.out HX1.out.1 HX1.out.2.1 HX1.out.2.2.1 HF.out.1 HF.out.2.1 HF.out.2.2.1 hnb2 ?_
    intro v1 w1 hc1 hk1
    have HC2 : Hid (Dc w1 x (up F V) (D.fs' (D.fs ++ [⟨s, [], 0⟩])) v1 (L ++ [(⟨s, [], 0⟩, .slice none 0 0)])) := hc1
    have HK1 : Hid (Kd F V w1) := hk1
    have HX2 : Hid ((w1.cell? ⟨Db, 0, none⟩ = some (.pointer (some ⟨d, 0, none⟩))) ∧ w1.cell? ⟨d, 0, none⟩ = some (.pointer (some ⟨x, 0, none⟩)) ∧ w1.cell? ⟨Bb, 0, none⟩ = some (.slice ab nb cb)) := ⟨hk1.cell HX1.out.1 HF.out.1, hk1.cell HX1.out.2.1 HF.out.2.1, hk1.cell HX1.out.2.2.2 HF.out.2.2.2⟩
    have HP : Hid ((L ++ [((⟨s, [], 0⟩ : Fl), Value.slice none 0 0)])[n]? = some (⟨s, [], 0⟩, .slice none 0 0)) := by show _ = _; rw [List.getElem?_append_right (by have := HN.out; omega), HN.out]; simp
    have HZ2 : Hid (Lies .u8 w1 ab zs) := by
      rcases HZ1.out with h0 | ⟨b, off, e, hc⟩
      · exact .inl h0
      · by_cases h0 : zs = []
        · exact .inl h0
        · exact .inr ⟨b, off, e, fun j hj => hk1.cell (hc j hj) (HZ.out.2.2.1 b off h0 e)⟩
    obtain ⟨gF, cap, hv, _⟩ := hc1.at HP.out
    have hv2 : v1 = .slice (some ⟨gF, 0, none⟩) (n + 1) cap := by rw [hv, List.length_append, HN.out]; rfl
    have nU : ∀ k, k < V.heap.size → ¬ F k → ¬ up F V k := fun k hk hn e => e.elim hn (fun q => by omega)
    have HU : Hid ((¬ up F V Db) ∧ (¬ up F V d) ∧ (¬ up F V Bb)) := ⟨nU _ (World.block_lt_of_cell? V ⟨Db, 0, none⟩ HX1.out.1) HF.out.1, nU _ (World.block_lt_of_cell? V ⟨d, 0, none⟩ HX1.out.2.1) HF.out.2.1, nU _ (World.block_lt_of_cell? V ⟨Bb, 0, none⟩ HX1.out.2.2.2) HF.out.2.2.2⟩
    subst hv2
    clear hv hc1 hk1 hD hd c0 nU
    go_wp2_with fail
    refine regAppD _ Db Bb d x gF (n + 1) cap n (up F V) (D.fs' (D.fs ++ [⟨s, [], 0⟩])) _ (⟨s, [], 0⟩, .slice none 0 0) ab nb cb zs w1 HC2.out HP.out HX2.out.1 HX2.out.2.1 HX2.out.2.2 HU.out.1 HU.out.2.1 HU.out.2.2 HZ.out.1 HZ2.out HZ.out.2.2.2 (by simp; omega) ?_
    intro v' w' hc' hk'
    refine bodyPost_end (v := .tuple #[]) (by simp [results, Tryz.results58, go_sem]) rfl ?_
    have hfs : (D.fs ++ [(⟨s, [], 0⟩ : Fl)]).set n ⟨s, zs, 0⟩ = D.fs ++ [⟨s, zs, 0⟩] := by
      have hln : n = D.fs.length := by rw [HC1.out.len]; exact HN.out.symm
      rw [hln, List.set_append_right _ _ (Nat.le_refl _)]; simp
    refine ⟨⟨_, rfl⟩, ?_, HKd.out.1.trans (HK1.out.upTrans hk')⟩
    rw [addF_new HI.out, ← hfs]
    have hs := HK1.out.size
    refine ⟨_, _, hc'.mono (fun k h _ => ?_)⟩
    rcases h with (h | h) | h
    · exact .inl h
    · exact .inr (by have := HKd.out.2; omega)
    · exact .inr (by have := HKd.out.2; omega)

end Go.Proofs.YtllhbhogfffedaaGreatDoor.K
