import Derived.Test.YtdfdaambfihjaaaDoorLnM
namespace Go.Proofs.YtdfdaambfihjaaaDoor.L
open Go.RowKit
set_option linter.unusedVariables false
set_option linter.unusedSimpArgs false

/-! ## A line: three queues in one block -/
structure Qd where
  v : Value
  f : Nat
  Z : List Value
  L : List Sv
structure Qk (w : World) (q : Qd) (M : Nat) : Prop where
  len : q.Z.length = q.f * 14
  row : w.ownsRow 0 37 14 q.v (q.f + q.L.length) (q.Z ++ seg q.L)
  sl : ∀ y ∈ q.L, y.Sl
  small : q.f + q.L.length ≤ M
def bx (q : Nat → Qd) : Array Value := #[(q 0).v, .int .i64 (q 0).f, (q 1).v, .int .i64 (q 1).f, (q 2).v, .int .i64 (q 2).f]
def upq (q : Nat → Qd) (i : Nat) (d : Qd) : Nat → Qd := fun j => if j = i then d else q j
theorem upq_same (q : Nat → Qd) (i : Nat) (d : Qd) : upq q i d i = d := by simp [upq]
theorem upq_other (q : Nat → Qd) {i j : Nat} (d : Qd) (h : j ≠ i) : upq q i d j = q j := by simp [upq, h]
theorem three {i : Nat} (h : i < 3) : i = 0 ∨ i = 1 ∨ i = 2 := by omega
theorem bx_v (q : Nat → Qd) {i : Nat} (h : i < 3) : (bx q)[i * 2]? = some (q i).v := by
  rcases three h with rfl | rfl | rfl <;> rfl
theorem bx_f (q : Nat → Qd) {i : Nat} (h : i < 3) : (bx q)[i * 2 + 1]? = some (.int .i64 (q i).f) := by
  rcases three h with rfl | rfl | rfl <;> rfl
theorem bx_set (q : Nat → Qd) {i : Nat} (h : i < 3) (d : Qd) : ((bx q).setIfInBounds (i * 2) d.v).setIfInBounds (i * 2 + 1) (.int .i64 d.f) = bx (upq q i d) := by
  rcases three h with rfl | rfl | rfl <;> simp [bx, upq]
theorem bx_set0 (q : Nat → Qd) {i : Nat} (h : i < 3) (d : Qd) (hf : d.f = (q i).f) : (bx q).setIfInBounds (i * 2) d.v = bx (upq q i d) := by
  rw [← bx_set q h d, hf]
  exact (set_self (by rw [Array.getElem?_setIfInBounds_ne (by omega)]; exact bx_f q h)).symm
/-- Whose blocks a line's are. -/
def Fq (x : Nat) (q : Nat → Qd) (g : Nat) : Prop := g = x ∨ ∃ i, i < 3 ∧ (q i).v.ownBlock = some g
structure Ln (w : World) (x : Nat) (q : Nat → Qd) (M : Nat) : Prop where
  box : w.heap[x]? = some (.cells (bx q) 72 (0, 0))
  k : ∀ i, i < 3 → Qk w (q i) M
  ap : ∀ i j g, i < 3 → j < 3 → i ≠ j → (q i).v.ownBlock = some g → (q j).v.ownBlock ≠ some g
theorem Ln.lt {w : World} {x M : Nat} {q : Nat → Qd} (h : Ln w x q M) {g : Nat} (hg : Fq x q g) : g < w.heap.size := by
  rcases hg with rfl | ⟨i, hi, hg⟩
  · exact (Array.getElem?_eq_some_iff.1 h.box).1
  · exact ((h.k i hi).row.lt g hg).2
theorem Ln.keep {S : Nat → Prop} {w w' : World} {x M : Nat} {q : Nat → Qd} (h : Ln w x q M) (hk : Kl S w w') (hn : ∀ g, Fq x q g → ¬ S g) : Ln w' x q M :=
  ⟨(hk.block x (h.lt (.inl rfl)) (hn x (.inl rfl))).trans h.box, fun i hi => ⟨(h.k i hi).len, hk.own (h.k i hi).row (fun g hg => hn g (.inr ⟨i, hi, hg⟩)), (h.k i hi).sl, (h.k i hi).small⟩, h.ap⟩
theorem Ln.mono {w : World} {x M M' : Nat} {q : Nat → Qd} (h : Ln w x q M) (hm : M ≤ M') : Ln w x q M' := ⟨h.box, fun i hi => ⟨(h.k i hi).len, (h.k i hi).row, (h.k i hi).sl, Nat.le_trans (h.k i hi).small hm⟩, h.ap⟩
/-- One queue of a line was touched. -/
theorem Ln.step {S : Nat → Prop} {w w' : World} {x M M' i : Nat} {q : Nat → Qd} {d : Qd} (h : Ln w x q M) (hi : i < 3) (hM : M ≤ M') (hb : w'.heap[x]? = some (.cells (bx (upq q i d)) 72 (0, 0))) (hd : Qk w' d M') (hat : ∀ g, d.v.ownBlock = some g → (q i).v.ownBlock = some g ∨ w.heap.size ≤ g)
    (hk : Kl S w w') (hn : ∀ j g, j < 3 → j ≠ i → (q j).v.ownBlock = some g → ¬ S g) : Ln w' x (upq q i d) M' ∧ (∀ g, Fq x (upq q i d) g → Fq x q g ∨ w.heap.size ≤ g) := by
  refine ⟨⟨hb, fun j hj => ?_, fun j l g hj hl hjl hg hg2 => ?_⟩, fun g hg => ?_⟩
  · by_cases e : j = i
    · subst e; rw [upq_same]; exact hd
    · rw [upq_other q d e]
      have k := h.k j hj
      exact ⟨k.len, hk.own k.row (fun g hg => hn j g hj e hg), k.sl, Nat.le_trans k.small hM⟩
  · by_cases e : j = i
    · subst e
      rw [upq_same] at hg
      rw [upq_other q d (fun e => hjl e.symm)] at hg2
      rcases hat g hg with e1 | e1
      · exact h.ap j l g hj hl hjl e1 hg2
      · have := ((h.k l hl).row.lt g hg2).2; omega
    · rw [upq_other q d e] at hg
      by_cases e2 : l = i
      · subst e2
        rw [upq_same] at hg2
        rcases hat g hg2 with e1 | e1
        · exact h.ap l j g hl hj (fun e => hjl e.symm) e1 hg
        · have := ((h.k j hj).row.lt g hg).2; omega
      · rw [upq_other q d e2] at hg2
        exact h.ap j l g hj hl hjl hg hg2
  · rcases hg with rfl | ⟨j, hj, hg⟩
    · exact .inl (.inl rfl)
    · by_cases e : j = i
      · subst e
        rw [upq_same] at hg
        rcases hat g hg with e1 | e1
        · exact .inl (.inr ⟨j, hj, e1⟩)
        · exact .inr e1
      · rw [upq_other q d e] at hg
        exact .inl (.inr ⟨j, hj, hg⟩)

theorem ln_ty : 37 ≠ 72 := by decide
/-- A queue of a line: how many wait. -/
theorem lcount {w : World} {x M i : Nat} {q : Nat → Qd} (h : Ln w x q M) (hi : i < 3) (hM : M ≤ 68719476736) :
    Calls Tryd.prog 34 #[.pointer (some ⟨x, i * 2, none⟩)] w fun e w' => e = .returned (.int .i64 ((q i).L.length : Nat)) ∧ Below w.heap.size w w' := by
  have k := h.k i hi
  obtain ⟨a, c, hv⟩ := own_sl k.row
  have := count_any w x (i * 2) ((q i).f + (q i).L.length) c (q i).f a (by rw [cell_of_row _ _ _ _ _ _ h.box, bx_v q hi, hv]) (by rw [cell_of_row _ _ _ _ _ _ h.box, bx_f q hi]) (by omega) (by have := k.small; omega)
  rwa [Nat.add_sub_cancel_left] at this
theorem lput {w : World} {x M i : Nat} {q : Nat → Qd} (h : Ln w x q M) (hi : i < 3) (hM : M ≤ 68719476736) (y : Sv) (hy : y.Sl) :
    Calls Tryd.prog 42 #[.pointer (some ⟨x, i * 2, none⟩), .agg (svC y.s y.hv y.tv y.dv y.cv)] w fun e w' => (∃ u, e = .returned u) ∧ ∃ v', Ln w' x (upq q i ⟨v', (q i).f, (q i).Z, (q i).L ++ [y]⟩) (M + 1) ∧ (∀ g, Fq x (upq q i ⟨v', (q i).f, (q i).Z, (q i).L ++ [y]⟩) g → Fq x q g ∨ w.heap.size ≤ g) ∧ Kl (Fq x q) w w' := by
  have k := h.k i hi
  refine (qput_any w x (i * 2) _ _ _ y _ _ h.box ln_ty (bx_v q hi) k.row hy.one (by have := k.small; omega)).mono ?_
  rintro e w' ⟨hu, v', b, r, a, kl⟩
  have h3 : seg [y] = y.L := by simp [seg]
  have hsl : ∀ z ∈ (q i).L ++ [y], z.Sl := fun z hz => by
    rcases List.mem_append.mp hz with hz | hz
    · exact k.sl z hz
    · simp at hz; subst hz; exact hy
  have hn : ∀ j g, j < 3 → j ≠ i → (q j).v.ownBlock = some g → ¬ (g = x ∨ (q i).v.ownBlock = some g) := fun j g hj hji hg e => by
    rcases e with rfl | e
    · exact own_hp (h.k j hj).row h.box ln_ty hg
    · exact h.ap i j g hi hj (fun e => hji e.symm) e hg
  obtain ⟨s1, s2⟩ := h.step (d := ⟨v', (q i).f, (q i).Z, (q i).L ++ [y]⟩) (M' := M + 1) hi (by omega) (by rw [b, ← bx_set0 q hi ⟨v', (q i).f, (q i).Z, (q i).L ++ [y]⟩ rfl]) ⟨k.len, by rw [List.length_append, seg_app, h3, ← List.append_assoc]; exact r, hsl, by have := k.small; simp; omega⟩ a kl hn
  exact ⟨hu, v', s1, s2, kl.mono (fun g _ e => e.elim .inl (fun e => .inr ⟨i, hi, e⟩))⟩
theorem ltake {w : World} {x M i : Nat} {q : Nat → Qd} (h : Ln w x q M) (hi : i < 3) (hM : M ≤ 68719476736) (ov : Value) (O : List Sv) (N : Nat) (ho : w.ownsRow 0 37 14 ov N (seg O)) (hN : N ≤ 68719476736) (hap : ∀ j g, j < 3 → (q j).v.ownBlock = some g → ov.ownBlock ≠ some g) (most : Nat) (hm : most ≤ 1152921504606846976) :
    Calls Tryd.prog 27 #[.pointer (some ⟨x, i * 2, none⟩), ov, .int .i64 most] w fun e w' => ∃ ov' d, e = .returned ov' ∧ d.L = (q i).L.drop most ∧ Ln w' x (upq q i d) M ∧ (∀ g, Fq x (upq q i d) g → Fq x q g ∨ w.heap.size ≤ g) ∧ w'.ownsRow 0 37 14 ov' (N + ((q i).L.take most).length) (seg (O ++ (q i).L.take most)) ∧ (∀ g, ov'.ownBlock = some g → ov.ownBlock = some g ∨ w.heap.size ≤ g) ∧ (∀ j g, j < 3 → (upq q i d j).v.ownBlock = some g → ov'.ownBlock ≠ some g) ∧ Kl (fun g => Fq x q g ∨ ov.ownBlock = some g) w w' := by
  have k := h.k i hi
  have e0 : seg (q i).L = seg ((q i).L.take most) ++ seg ((q i).L.drop most) := by rw [← seg_app, List.take_append_drop]
  have hl : (q i).L.length = ((q i).L.take most).length + ((q i).L.drop most).length := by simp; omega
  have hr := k.row
  rw [e0, hl] at hr
  refine (qtake_any w x (i * 2) (q i).f ((q i).L.take most).length ((q i).L.drop most).length N most (q i).v ov (q i).Z (seg ((q i).L.take most)) (seg ((q i).L.drop most)) (seg O) _ _ h.box ln_ty (bx_v q hi) (bx_f q hi) k.len (seg_len _) hr ho (fun g hg => hap i g hi hg) (seg_one (fun y hy => (k.sl y (List.mem_of_mem_take hy)).one)) (seg_one (fun y hy => (k.sl y (List.mem_of_mem_drop hy)).one)) (by rw [← hl]; have := k.small; omega) hN (by rw [← hl]; simp) hm).mono ?_
  rintro e w' ⟨v', ov', f', Z', rfl, hle, c1, c2, c3, c4, c5, c6, c7, c8⟩
  have hn : ∀ j g, j < 3 → j ≠ i → (q j).v.ownBlock = some g → ¬ (g = x ∨ (q i).v.ownBlock = some g ∨ ov.ownBlock = some g) := fun j g hj hji hg e => by
    rcases e with rfl | e | e
    · exact own_hp (h.k j hj).row h.box ln_ty hg
    · exact h.ap i j g hi hj (fun e => hji e.symm) e hg
    · exact hap j g hj hg e
  obtain ⟨s1, s2⟩ := h.step (d := ⟨v', f', Z', (q i).L.drop most⟩) (M' := M) hi (by omega) (by rw [c2, bx_set q hi ⟨v', f', Z', (q i).L.drop most⟩]) ⟨c1, c3, fun z hz => k.sl z (List.mem_of_mem_drop hz), by have := k.small; simp only; omega⟩ c5 c8 hn
  · refine ⟨ov', ⟨v', f', Z', (q i).L.drop most⟩, rfl, rfl, s1, s2, by rw [seg_app]; exact c4, c6, fun j g hj hg hg2 => ?_, c8.mono (fun g _ e => ?_)⟩
    · by_cases e : j = i
      · subst e
        rw [upq_same] at hg
        exact c7 g hg hg2
      · rw [upq_other q _ e] at hg
        rcases c6 g hg2 with e1 | e1
        · exact hap j g hj hg e1
        · have := ((h.k j hj).row.lt g hg).2; omega
    · rcases e with e | e | e
      · exact .inl (.inl e)
      · exact .inl (.inr ⟨i, hi, e⟩)
      · exact .inr e
theorem ldrop {w : World} {x M i bs ba : Nat} {q : Nat → Qd} (h : Ln w x q M) (hi : i < 3) (hM : M ≤ 68719476736) (S1 S2 : Int) (all : Bool) (k0 : w.cell? ⟨bs, 0, none⟩ = some (.int .i64 S1)) (k1 : w.cell? ⟨bs, 1, none⟩ = some (.int .i64 S2)) (k2 : w.cell? ⟨ba, 0, none⟩ = some (.bool all)) (hbs : ¬ Fq x q bs) (hba : ¬ Fq x q ba) :
    Calls Tryd.prog 33 #[.pointer (some ⟨x, i * 2, none⟩), fnM bs ba] w fun e w' => e = .returned (.int .i64 (((q i).L.length - (kp S1 S2 all (q i).L).length : Nat) : Int)) ∧ ∃ d : Qd, d.L = kp S1 S2 all (q i).L ∧ Ln w' x (upq q i d) M ∧ (∀ g, Fq x (upq q i d) g → Fq x q g ∨ w.heap.size ≤ g) ∧ Kl (Fq x q) w w' := by
  have k := h.k i hi
  refine (qdrop_any w x (i * 2) (q i).f (q i).L.length bs ba (q i).v (q i).Z (q i).L S1 S2 all _ _ h.box ln_ty (bx_v q hi) (bx_f q hi) k.len k.row rfl k.sl (by have := k.small; omega) k0 k1 k2 (fun e => hbs (.inr ⟨i, hi, e⟩)) (fun e => hba (.inr ⟨i, hi, e⟩)) (fun e => hbs (.inl e)) (fun e => hba (.inl e))).mono ?_
  rintro e w' ⟨rfl, v', f', Z', hle, c1, c2, c3, c4, c5⟩
  have hkl : (kp S1 S2 all (q i).L).length ≤ (q i).L.length := List.length_filter_le _ _
  have hn : ∀ j g, j < 3 → j ≠ i → (q j).v.ownBlock = some g → ¬ (g = x ∨ (q i).v.ownBlock = some g) := fun j g hj hji hg e => by
    rcases e with rfl | e
    · exact own_hp (h.k j hj).row h.box ln_ty hg
    · exact h.ap i j g hi hj (fun e => hji e.symm) e hg
  obtain ⟨s1, s2⟩ := h.step (d := ⟨v', f', Z', kp S1 S2 all (q i).L⟩) (M' := M) hi (by omega) (by rw [c2, bx_set q hi ⟨v', f', Z', kp S1 S2 all (q i).L⟩]) ⟨c1, c3, fun z hz => k.sl z (List.mem_filter.mp hz).1, by have := k.small; simp only; omega⟩ c4 c5 hn
  · exact ⟨rfl, _, rfl, s1, s2, c5.mono (fun g _ e => e.elim .inl (fun e => .inr ⟨i, hi, e⟩))⟩

end Go.Proofs.YtdfdaambfihjaaaDoor.L
