import Derived.Test.YticdedcgmofpjaaDoorDkReg
namespace Go.Proofs.YticdedcgmofpjaaDoor.K
open Go.RowKit
set_option linter.unusedVariables false
set_option linter.unusedSimpArgs false

/-! ## What becomes of a disk in memory when one of its cells is written -/
theorem fcell_set0 : ∀ {L : List Fv} {i : Nat} {p : Fv} (s : ByteArray), L[i]? = some p → (L.flatMap fcell).set (i * 3) (.string s) = (L.set i (⟨s, p.1.bs, p.1.sf⟩, p.2)).flatMap fcell
  | q :: r, 0, p, s, h => by simp at h; subst h; simp [fcell]
  | q :: r, i + 1, p, s, h => by
    have ih := fcell_set0 (L := r) (i := i) (p := p) s (by simpa using h)
    rw [List.set_cons_succ, List.flatMap_cons, List.flatMap_cons, ← ih, show (i + 1) * 3 = (fcell q).length + i * 3 by simp [fcell]; omega, List.set_append_right _ _ (by omega)]
    congr 2; omega
theorem fcell_set1 : ∀ {L : List Fv} {i : Nat} {p : Fv} (bs : List Int) (v : Value), L[i]? = some p → (L.flatMap fcell).set (i * 3 + 1) v = (L.set i (⟨p.1.nm, bs, p.1.sf⟩, v)).flatMap fcell
  | q :: r, 0, p, s, v, h => by simp at h; subst h; simp [fcell]
  | q :: r, i + 1, p, s, v, h => by
    have ih := fcell_set1 (L := r) (i := i) (p := p) s v (by simpa using h)
    rw [List.set_cons_succ, List.flatMap_cons, List.flatMap_cons, ← ih, show (i + 1) * 3 + 1 = (fcell q).length + (i * 3 + 1) by simp [fcell]; omega, List.set_append_right _ _ (by omega)]
    congr 2; omega
theorem fcell_set2 : ∀ {L : List Fv} {i : Nat} {p : Fv} (z : Int), L[i]? = some p → (L.flatMap fcell).set (i * 3 + 2) (.int .i64 z) = (L.set i (⟨p.1.nm, p.1.bs, z⟩, p.2)).flatMap fcell
  | q :: r, 0, p, s, h => by simp at h; subst h; simp [fcell]
  | q :: r, i + 1, p, s, h => by
    have ih := fcell_set2 (L := r) (i := i) (p := p) s (by simpa using h)
    rw [List.set_cons_succ, List.flatMap_cons, List.flatMap_cons, ← ih, show (i + 1) * 3 + 2 = (fcell q).length + (i * 3 + 2) by simp [fcell]; omega, List.set_append_right _ _ (by omega)]
    congr 2; omega
theorem set_get {α : Type} {l : List α} {i j : Nat} {x y : α} (h : (l.set i x)[j]? = some y) : (j = i ∧ y = x) ∨ (j ≠ i ∧ l[j]? = some y) := by
  rw [List.getElem?_set] at h
  by_cases e : i = j
  · rw [if_pos e] at h
    split at h
    · cases h; exact .inl ⟨e.symm, rfl⟩
    · cases h
  · rw [if_neg e] at h; exact .inr ⟨fun q => e q.symm, h⟩
def up (F : Nat → Prop) (w : World) : Nat → Prop := fun g => F g ∨ w.heap.size ≤ g
/-- What a disk is with other files. -/
def Dk.fs' (D : Dk) (fs : List Fl) : Dk := { D with fs := fs }
section
variable {W w' : World} {x gF nf cf i : Nat} {F : Nat → Prop} {D : Dk} {vf : Value} {L : List Fv} {p : Fv}
theorem Dc.bx (h : Dc W x F D vf L) (hp : L[i]? = some p) : p.2.ownBlock ≠ some x := d_box (h.byt i p hp) h.box (by decide)
theorem Dc.rx (h : Dc W x F D vf L) : vf.ownBlock ≠ some x := d_box h.row h.box (by decide)
theorem Dc.rb (h : Dc W x F D vf L) (hp : L[i]? = some p) {g : Nat} (hg : vf.ownBlock = some g) : p.2.ownBlock ≠ some g := d_apart h.row (h.byt i p hp) (by decide) hg
/-- A file's bytes, in a row that has grown or is new. -/
theorem Dc.app (h : Dc W x F D (.slice (some ⟨gF, 0, none⟩) nf cf) L) (hp : L[i]? = some p) {v' : Value} {bs : List Int} (r1 : w'.ownsRow 0 5 1 v' bs.length (bs.map (Value.int .u8))) (r2 : W.grownBy w' p.2.ownBlock) (r3 : v'.ownBlock = p.2.ownBlock ∨ ∃ g, v'.ownBlock = some g ∧ W.heap.size ≤ g) :
    Dc (w'.setCell ⟨gF, i * 3 + 1, none⟩ v') x (up F W) (D.fs' (D.fs.set i ⟨p.1.nm, bs, p.1.sf⟩)) (.slice (some ⟨gF, 0, none⟩) nf cf) (L.set i (⟨p.1.nm, bs, p.1.sf⟩, v')) := by
  obtain rfl : L.length = nf := by obtain ⟨a, c, e⟩ := d_shape h.row; simp only [Value.slice.injEq] at e; exact e.2.1.symm
  have hgx : gF ≠ x := fun e => h.rx (by rw [e]; rfl)
  have hgl : gF < W.heap.size := (d_lt h.row gF rfl).2
  have hrow : w'.ownsRow 0 66 3 (.slice (some ⟨gF, 0, none⟩) L.length cf) L.length (L.flatMap fcell) := d_blk h.row (fun g hg => r2.block g (d_lt h.row g hg).2 (fun e => h.rb hp hg e.symm))
  have hset : ∀ g, g ≠ gF → (w'.setCell ⟨gF, i * 3 + 1, none⟩ v').heap[g]? = w'.heap[g]? := fun g hg => heap_setCell_other _ _ _ _ hg
  have hbj : ∀ (j : Nat) q, L[j]? = some q → ∀ g, q.2.ownBlock = some g → g ≠ gF := fun j q hq g hg e => h.rb hq rfl (by rw [← e]; exact hg)
  have hv'g : ∀ g, v'.ownBlock = some g → g ≠ gF := fun g hg e => d_apart hrow r1 (by decide) (g := gF) rfl (by rw [← e]; exact hg)
  refine ⟨by rw [List.map_set]; simp only [Dk.fs', h.map], ?_, ?_, fun j q hq => ?_, fun j k q u g hj hk hg1 hg2 => ?_, .inl h.fx, fun g hg => .inl (h.fr g hg), fun j q g hj hg => ?_⟩
  · exact (hset x (fun e => hgx e.symm)).trans ((r2.block x h.xlt (fun e => h.bx hp e.symm)).trans h.box)
  · have h1 := World.ownsRow.stored hrow (i * 3 + 1) v'
    rw [List.length_set, ← fcell_set1 bs v' hp]
    exact h1.1
  · rcases set_get hq with ⟨rfl, rfl⟩ | ⟨hne, hq'⟩
    · exact d_blk r1 (fun g hg => hset g (hv'g g hg))
    · refine d_blk (h.byt j q hq') (fun g hg => (hset g (hbj j q hq' g hg)).trans (r2.block g (d_lt (h.byt j q hq') g hg).2 (fun e => hne (h.dis j i q p g hq' hp hg e.symm))))
  · have new : ∀ (j : Nat) q, j ≠ i → L[j]? = some q → q.2.ownBlock = some g → v'.ownBlock = some g → False := fun j q hji hq hg hg' => by
      rcases r3 with e | ⟨g', e, hl⟩
      · exact hji (h.dis j i q p g hq hp hg (e ▸ hg'))
      · have e2 : g' = g := Option.some.inj (e.symm.trans hg')
        have := (d_lt (h.byt j q hq) g hg).2
        omega
    rcases set_get hj with ⟨rfl, rfl⟩ | ⟨hne, hj'⟩
    · rcases set_get hk with ⟨rfl, rfl⟩ | ⟨hne2, hk'⟩
      · rfl
      · exact (new k u hne2 hk' hg2 hg1).elim
    · rcases set_get hk with ⟨rfl, rfl⟩ | ⟨hne2, hk'⟩
      · exact (new j q hne hj' hg1 hg2).elim
      · exact h.dis j k q u g hj' hk' hg1 hg2
  · rcases set_get hj with ⟨rfl, rfl⟩ | ⟨hne, hj'⟩
    · rcases r3 with e | ⟨g', e, hl⟩
      · exact .inl (h.fb j p g hp (e ▸ hg))
      · have e2 : g' = g := Option.some.inj (e.symm.trans hg)
        exact .inr (by omega)
    · exact .inl (h.fb j q g hj' hg)
/-- A file more. -/
theorem Dc.new (h : Dc W x F D vf L) {v' : Value} {s : ByteArray} (r1 : w'.ownsRow 0 66 3 v' (L.length + 1) (L.flatMap fcell ++ [.string s, .slice none 0 0, .int .i64 0])) (r2 : W.grownBy w' vf.ownBlock) (r3 : v'.ownBlock = vf.ownBlock ∨ ∃ g, v'.ownBlock = some g ∧ W.heap.size ≤ g) :
    Dc (w'.setCell ⟨x, 0, none⟩ v') x (up F W) (D.fs' (D.fs ++ [⟨s, [], 0⟩])) v' (L ++ [(⟨s, [], 0⟩, .slice none 0 0)]) := by
  have hB : w'.heap[x]? = _ := (r2.block x h.xlt (fun e => h.rx e.symm)).trans h.box
  have hv : v'.ownBlock ≠ some x := d_box r1 hB (by decide)
  have hset : ∀ g, g ≠ x → (w'.setCell ⟨x, 0, none⟩ v').heap[g]? = w'.heap[g]? := fun g hg => heap_setCell_other _ _ _ _ hg
  have last : ∀ (j : Nat) q, (L ++ [((⟨s, [], 0⟩ : Fl), Value.slice none 0 0)])[j]? = some q → L[j]? = some q ∨ q = (⟨s, [], 0⟩, .slice none 0 0) := fun j q hq => by
    rcases Nat.lt_or_ge j L.length with e | e
    · rw [List.getElem?_append_left e] at hq; exact .inl hq
    · rw [List.getElem?_append_right e] at hq
      rcases Nat.eq_zero_or_pos (j - L.length) with e2 | e2
      · rw [e2] at hq; simp at hq; exact .inr hq.symm
      · rw [List.getElem?_eq_none (by simp; omega)] at hq; cases hq
  refine ⟨by rw [List.map_append, h.map]; rfl, ?_, ?_, fun j q hq => ?_, fun j k q u g hj hk hg1 hg2 => ?_, .inl h.fx, fun g hg => ?_, fun j q g hj hg => ?_⟩
  · exact heap_setCell_same w' x 0 _ _ _ hB
  · rw [List.length_append, List.flatMap_append]
    exact d_blk r1 (fun g hg => hset g (fun e => hv (by rw [← e]; exact hg)))
  · rcases last j q hq with hq' | rfl
    · exact d_blk (h.byt j q hq') (fun g hg => (hset g (fun e => h.bx hq' (by rw [← e]; exact hg))).trans (r2.block g (d_lt (h.byt j q hq') g hg).2 (fun e => h.rb hq' e.symm hg)))
    · exact World.ownsRow_nil _ _ _ _
  · rcases last j q hj with hj' | rfl
    · rcases last k u hk with hk' | rfl
      · exact h.dis j k q u g hj' hk' hg1 hg2
      · cases hg2
    · cases hg1
  · rcases r3 with e | ⟨g', e, hl⟩
    · exact .inl (h.fr g (e ▸ hg))
    · have e2 : g' = g := Option.some.inj (e.symm.trans hg)
      exact .inr (by omega)
  · rcases last j q hj with hj' | rfl
    · exact .inl (h.fb j q g hj' hg)
    · cases hg
/-- One of the box's other cells. -/
theorem Dc.boxed (h : Dc W x F D vf L) {D' : Dk} (hf : D'.fs = D.fs) (hB : w'.heap[x]? = some (.cells (bxD vf D') 58 (0, 0))) (hs : ∀ k, k ≠ x → w'.heap[k]? = W.heap[k]?) : Dc w' x F D' vf L :=
  ⟨by rw [h.map, hf], hB, d_blk h.row (fun g hg => hs g (fun e => h.rx (by rw [← e]; exact hg))), fun i p hp => d_blk (h.byt i p hp) (fun g hg => hs g (fun e => h.bx hp (by rw [← e]; exact hg))), h.dis, h.fx, h.fr, h.fb⟩
/-- A file's name or how much of it is safe. -/
theorem Dc.cellF (h : Dc W x F D (.slice (some ⟨gF, 0, none⟩) nf cf) L) (hp : L[i]? = some p) {k : Nat} {v : Value} {q : Fl} (hq : q.bs = p.1.bs) (hs : (L.flatMap fcell).set k v = (L.set i (q, p.2)).flatMap fcell) :
    Dc (W.setCell ⟨gF, k, none⟩ v) x F (D.fs' (D.fs.set i q)) (.slice (some ⟨gF, 0, none⟩) nf cf) (L.set i (q, p.2)) := by
  obtain rfl : L.length = nf := by obtain ⟨a, c, e⟩ := d_shape h.row; simp only [Value.slice.injEq] at e; exact e.2.1.symm
  have hgx : gF ≠ x := fun e => h.rx (by rw [e]; rfl)
  have hset : ∀ g, g ≠ gF → (W.setCell ⟨gF, k, none⟩ v).heap[g]? = W.heap[g]? := fun g hg => heap_setCell_other _ _ _ _ hg
  have hbj : ∀ (j : Nat) q, L[j]? = some q → ∀ g, q.2.ownBlock = some g → g ≠ gF := fun j q hq g hg e => h.rb hq rfl (by rw [← e]; exact hg)
  refine ⟨by rw [List.map_set]; simp only [Dk.fs', h.map], (hset x (fun e => hgx e.symm)).trans h.box, ?_, fun j u hu => ?_, fun j k' u u' g hj hk hg1 hg2 => ?_, h.fx, h.fr, fun j u g hj hg => ?_⟩
  · rw [List.length_set, ← hs]; exact (World.ownsRow.stored h.row k v).1
  · rcases set_get hu with ⟨rfl, rfl⟩ | ⟨hne, hu'⟩
    · simp only [hq]; exact d_blk (h.byt j p hp) (fun g hg => hset g (hbj j p hp g hg))
    · exact d_blk (h.byt j u hu') (fun g hg => hset g (hbj j u hu' g hg))
  · rcases set_get hj with ⟨rfl, rfl⟩ | ⟨hne, hj'⟩
    · rcases set_get hk with ⟨rfl, rfl⟩ | ⟨hne2, hk'⟩
      · rfl
      · exact h.dis j k' p u' g hp hk' hg1 hg2
    · rcases set_get hk with ⟨rfl, rfl⟩ | ⟨hne2, hk'⟩
      · exact h.dis j k' u p g hj' hp hg1 hg2
      · exact h.dis j k' u u' g hj' hk' hg1 hg2
  · rcases set_get hj with ⟨rfl, rfl⟩ | ⟨hne, hj'⟩
    · exact h.fb j p g hp hg
    · exact h.fb j u g hj' hg
end

end Go.Proofs.YticdedcgmofpjaaDoor.K
