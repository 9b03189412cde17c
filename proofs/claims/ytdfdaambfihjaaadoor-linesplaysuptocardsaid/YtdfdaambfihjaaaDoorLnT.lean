import Derived.Test.YtdfdaambfihjaaaDoorLnK
namespace Go.Proofs.YtdfdaambfihjaaaDoor.L
open Go.RowKit
set_option linter.unusedVariables false
set_option linter.unusedSimpArgs false

theorem clear_any (w : World) (g f n cap N c : Nat) (ad : Addr) (Z A B : List Value) (h : w.ownsRow 0 37 14 (.slice (some ⟨g, 0, none⟩) N cap) N (Z ++ (A ++ B))) (hZ : Z.length = f * 14) (hA : A.length = n * 14) (had : 0 < n → ad = ⟨g, f * 14, none⟩) :
    ∃ w2 Z2, (∀ ty, (Builtin.clear_ #[30] ty #[.slice (some ad) n c]).run Tryd.prog w = .ok (.tuple #[]) w2) ∧ w2.ownsRow 0 37 14 (.slice (some ⟨g, 0, none⟩) N cap) N (Z2 ++ B) ∧ Z2.length = (f + n) * 14 ∧ w.grownBy w2 (some g) := by
  rcases Nat.eq_zero_or_pos n with rfl | hn
  · refine ⟨w, Z, fun ty => ?_, ?_, by rw [hZ]; omega, ⟨rfl, rfl, rfl, Nat.le_refl _, fun _ _ _ => rfl⟩⟩
    · simp [Builtin.clear_, run_underlying Tryd.underlying30]
    · obtain rfl : A = [] := List.eq_nil_of_length_eq_zero (by omega)
      exact h
  · rw [had hn]
    have hx : ∀ j, j < n * 14 → f * 14 + j < (Z ++ (A ++ B)).length := fun j hj => by rw [List.length_append, List.length_append, hZ, hA]; omega
    refine ⟨w.setCells g (f * 14) (zrow n), Z ++ zrow n, fun ty => clear_run w g (f * 14) n c hn (fun j hj => (own_in h (hx j hj)).1) (fun j hj => (own_in h (hx j hj)).2) ty, ?_, by rw [List.length_append, zrow_len, hZ]; omega, grown_cells _ _ _ _⟩
    rw [List.append_assoc]
    exact own_clear h hZ hA

theorem set_self {cs : Array Value} {o : Nat} {v : Value} (h : cs[o]? = some v) : cs.setIfInBounds o v = cs := by
  apply Array.ext_getElem?
  intro i
  rw [Array.getElem?_setIfInBounds]
  split
  · next e => subst e; rw [h]; have := (Array.getElem?_eq_some_iff.1 h).1; simp [this]
  · rfl
theorem set_swap (cs : Array Value) (o : Nat) (a b c : Value) : ((cs.setIfInBounds (o + 1) a).setIfInBounds o b).setIfInBounds (o + 1) c = (cs.setIfInBounds o b).setIfInBounds (o + 1) c := by
  apply Array.ext_getElem?
  intro i
  simp only [Array.getElem?_setIfInBounds, Array.size_setIfInBounds]
  by_cases h : o + 1 = i
  · subst h; simp
  · simp [h]
/-- What take does. -/
structure QT (w w' : World) (x o n r N : Nat) (v ov v' ov' : Value) (cs : Array Value) (t : TypeId) (A B os : List Value) (f' : Nat) (Z' : List Value) : Prop where
  len : Z'.length = f' * 14
  box : w'.heap[x]? = some (.cells ((cs.setIfInBounds o v').setIfInBounds (o + 1) (.int .i64 f')) t (0, 0))
  row : w'.ownsRow 0 37 14 v' (f' + r) (Z' ++ B)
  out : w'.ownsRow 0 37 14 ov' (N + n) (os ++ A)
  atv : ∀ g, v'.ownBlock = some g → v.ownBlock = some g ∨ w.heap.size ≤ g
  ato : ∀ g, ov'.ownBlock = some g → ov.ownBlock = some g ∨ w.heap.size ≤ g
  apart : ∀ g, v'.ownBlock = some g → ov'.ownBlock ≠ some g
  kl : Kl (fun g => g = x ∨ v.ownBlock = some g ∨ ov.ownBlock = some g) w w'

set_option maxRecDepth 100000 in
set_option maxHeartbeats 8000000 in
theorem qtake_any (w : World) (x o f n r N : Nat) (M : Int) (v ov : Value) (Z A B os : List Value) (cs : Array Value) (t : TypeId) (hb : w.heap[x]? = some (.cells cs t (0, 0))) (ht : 37 ≠ t) (hv : cs[o]? = some v) (hf : cs[o + 1]? = some (.int .i64 f)) (hZ : Z.length = f * 14) (hA : A.length = n * 14) (hr : w.ownsRow 0 37 14 v (f + (n + r)) (Z ++ (A ++ B)))
    (ho : w.ownsRow 0 37 14 ov N os) (hap : ∀ g, v.ownBlock = some g → ov.ownBlock ≠ some g) (hA1 : ∀ u ∈ A, u.oneCell' = true) (hB1 : ∀ u ∈ B, u.oneCell' = true) (hn : f + (n + r) ≤ 68719476736) (hN : N ≤ 68719476736) (hM : max 0 (min M ((n + r : Nat) : Int)) = (n : Int)) :
    Calls Tryd.prog 27 #[.pointer (some ⟨x, o, none⟩), ov, .int .i64 M] w fun e w' => ∃ v' ov' f' Z', e = .returned ov' ∧ f' ≤ f + n ∧ QT w w' x o n r N v ov v' ov' cs t A B os f' Z' := by
  obtain ⟨i0, hi, hz0, hz1, hz2⟩ := info_parts seg_info
  obtain ⟨oa, oc, rfl⟩ := own_sl ho
  have hxl := (Array.getElem?_eq_some_iff.1 hb).1
  have c0 : w.cell? ⟨x, o, none⟩ = some v := (cell_of_row _ _ _ _ _ _ hb).trans hv
  have c1 : w.cell? ⟨x, o + 1, none⟩ = some (.int .i64 f) := (cell_of_row _ _ _ _ _ _ hb).trans hf
  have ho1 : o + 1 < cs.size := (Array.getElem?_eq_some_iff.1 hf).1
  have hnx : v.ownBlock ≠ some x := own_hp hr hb ht
  have hox : (Value.slice oa N oc).ownBlock ≠ some x := own_hp ho hb ht
  have m1 : max 0 (min M ((n + r : Nat) : Int)) = (n : Int) := hM
  have hBl : B.length = r * 14 := by have := hr.1; simp only [List.length_append, hZ, hA] at this; omega
  have hr0 := hr
  obtain ⟨_, ⟨rfl, h0⟩ | ⟨g, cap, cur, rfl, _, hg, hnc, hcm, hcz, hcur⟩⟩ := hr0
  · obtain rfl : f = 0 := by omega
    obtain rfl : n = 0 := by omega
    obtain rfl : r = 0 := by omega
    obtain rfl : A = [] := List.eq_nil_of_length_eq_zero (by omega)
    obtain rfl : B = [] := List.eq_nil_of_length_eq_zero (by omega)
    obtain rfl : Z = [] := List.eq_nil_of_length_eq_zero (by omega)
    have hco := count_any w x o 0 0 0 none c0 c1 (by omega) (by omega)
    have HB : Hid (w.heap[x]? = some (.cells cs t (0, 0)) ∧ x < w.heap.size ∧ cs[o]? = some (.slice none 0 0)) := ⟨hb, hxl, hv⟩
    have HO : Hid (w.ownsRow 0 37 14 (.slice oa N oc) N os) := ho
    have HNx : Hid ((Value.slice oa N oc).ownBlock ≠ some x) := hox
    have mm : max (0 : Int) (min M 0) = 0 := by omega
    clear m1 hb hv hf hr ho hap hnx hox hZ hA hA1 hB1 hBl hxl
    go_enter Tryd.func27, Tryd.ntmps27
    go_wp2_with fail
    refine hco.mono ?_
    rintro e w1 ⟨rfl, hb1⟩
    have c01 := cell_below c0 hb1
    have c11 := cell_below c1 hb1
    have hx1 : w1.heap[x]? = some (.cells cs t (0, 0)) := (hb1.block x HB.out.2.1).trans HB.out.1
    have f11 : w1.frozen? ⟨x, o + 1, none⟩ = false := frozen_of_row _ _ _ _ _ hx1
    have HO1 : Hid (w1.ownsRow 0 37 14 (.slice oa N oc) N os) := own_blk HO.out (fun k hk => hb1.block k (HO.out.lt k hk).2)
    have HB1 : Hid (Below w.heap.size w w1 ∧ w1.heap[x]? = some (.cells cs t (0, 0))) := ⟨hb1, hx1⟩
    clear c0 c1 hb1 hco hx1
    go_wp2_with fail
    go_quiet (fail)
    have hcl : ∀ (ty : TypeId) (W : World), (Builtin.clear_ #[30] ty #[.slice none 0 0]).run Tryd.prog W = .ok (.tuple #[]) W := fun ty W => by simp [Builtin.clear_, run_underlying Tryd.underlying30]
    obtain ⟨W4, hW4⟩ : ∃ W, (w1.drewN nq).setCell ⟨x, o + 1, none⟩ (.int .i64 0) = W := ⟨_, rfl⟩
    have HW4 : Hid ((w1.drewN nq).setCell ⟨x, o + 1, none⟩ (.int .i64 0) = W4) := hW4
    have hb4 : W4.heap[x]? = some (.cells (cs.setIfInBounds (o + 1) (.int .i64 0)) t (0, 0)) := by rw [← hW4]; exact heap_setCell_same _ _ _ _ _ _ HB1.out.2
    have g4 : w1.grownBy W4 (some x) := by rw [← hW4]; have h := grown_set (w1.drewN nq) x (o + 1) (.int .i64 0); exact ⟨h.os, h.tape, h.output, h.size, h.block⟩
    have c04 : W4.cell? ⟨x, o, none⟩ = some (.slice none 0 0) := by rw [cell_of_row _ _ _ _ _ _ hb4, Array.getElem?_setIfInBounds_ne (by omega)]; exact HB.out.2.2
    have c14 : W4.cell? ⟨x, o + 1, none⟩ = some (.int .i64 0) := by rw [cell_of_row _ _ _ _ _ _ hb4]; simp [ho1]
    have HC4 : Hid (W4.cell? ⟨x, o + 1, none⟩ = some (.int .i64 0)) := c14
    have hc4 := count_any W4.drew x o 0 0 0 none c04 c14 (by omega) (by omega)
    have HE : Hid (∀ U : World, Below W4.heap.size W4 U → QT w U x o 0 0 N (.slice none 0 0) (.slice oa N oc) (.slice none 0 0) (.slice oa N oc) cs t [] [] os 0 []) := fun U hU => by
      have hx4 := (Array.getElem?_eq_some_iff.1 hb4).1
      have o4 : W4.ownsRow 0 37 14 (.slice oa N oc) N os := own_blk HO1.out (fun k hk => grown_blk g4 (HO1.out.lt k hk).2 (fun e => HNx.out (by rw [hk]; exact e.symm)))
      refine ⟨rfl, ?_, World.ownsRow_nil _ _ _ _, ?_, fun k hk => (by cases hk), fun k hk => .inl hk, fun k hk => (by cases hk), ?_⟩
      · rw [set_self (v := .slice none 0 0) HB.out.2.2]; exact (hU.block x hx4).trans hb4
      · rw [List.append_nil]; exact own_blk o4 (fun k hk => hU.block k (o4.lt k hk).2)
      · exact Kl.below ((Kl.of_below HB1.out.1).grown g4 (fun k hk => .inl (.inl (by simpa using hk.symm)))) hU
    clear hW4 hb4 g4 c04 c14
    go_wp2_with (at_builtin; refine wpList_append_own_none rfl _ _ 30 rfl 0 37 i0 14 Tryd.underlying30 hi (.slice oa N oc) N os rfl HO1.out rfl ?_)
    rw [HW4.out]
    go_region_held3 (fun V => V.cell? ⟨x, o + 1, none⟩ = some (.int .i64 0))
      (first | exact HC4.out | exact HU.out)
      (first
        | (go_at_call 34
           refine hc4.mono ?_
           rintro e U ⟨rfl, hbU⟩
           have HU : Hid (U.cell? ⟨x, o + 1, none⟩ = some (.int .i64 0)) := cell_below (w := W4.drew) HC4.out hbU
           have HBU : Hid (Below W4.heap.size W4 U) := ⟨hbU.os, hbU.tape, hbU.output, hbU.size, hbU.block⟩
           clear hbU))
    all_goals (
      go_wp2
      go_ret
      exact ⟨_, _, 0, [], rfl, by omega, HE.out _ HBU.out⟩)
  · obtain ⟨Q, hQ⟩ : ∃ Q, f + (n + r) = Q := ⟨_, rfl⟩
    obtain ⟨q, hq⟩ : ∃ q, n + r = q := ⟨_, rfl⟩
    have hqf : Q - f = q := by omega
    rw [hQ] at c0 hr hnc hn
    rw [hq] at m1
    have hco := count_any w x o Q cap f (some ⟨g, 0, none⟩) c0 c1 (by omega) (by omega)
    rw [hqf] at hco
    have HB : Hid (w.heap[x]? = some (.cells cs t (0, 0)) ∧ x < w.heap.size ∧ g ≠ x ∧ (Value.slice oa N oc).ownBlock ≠ some x ∧ g < w.heap.size ∧ (Value.slice oa N oc).ownBlock ≠ some g) := ⟨hb, hxl, fun e => hnx (by rw [← e]; rfl), hox, (hr.lt g rfl).2, hap g rfl⟩
    have HR : Hid (w.ownsRow 0 37 14 (.slice (some ⟨g, 0, none⟩) Q cap) Q (Z ++ (A ++ B))) := hr
    have HO : Hid (w.ownsRow 0 37 14 (.slice oa N oc) N os) := ho
    have HL : Hid (Z.length = f * 14 ∧ A.length = n * 14 ∧ B.length = r * 14 ∧ f + (n + r) = Q ∧ n + r = q ∧ (∀ u ∈ A, u.oneCell' = true) ∧ (∀ u ∈ B, u.oneCell' = true)) := ⟨hZ, hA, hBl, hQ, hq, hA1, hB1⟩
    obtain ⟨ad, had⟩ : ∃ ad, (if cap = f then some (⟨g, 0, none⟩ : Addr) else some ⟨g, f * 14, none⟩) = some ad := by split <;> exact ⟨_, rfl⟩
    have HAd : Hid (0 < n → ad = ⟨g, f * 14, none⟩) := fun h => by rw [if_neg (by omega)] at had; cases had; rfl
    obtain ⟨F, hF⟩ : ∃ F, f + n = F := ⟨_, rfl⟩
    have HF : Hid (f + n = F) := hF
    have hw1 : (f : Int) + (n : Int) = (F : Int) := by omega
    have hw2 : IntKind.i64.wrap (F : Int) = (F : Int) := by rw [IntKind.wrap_i64]; omega
    have l1 : (f : Int) ≤ (F : Int) := by omega
    have l2 : (F : Int) ≤ (cap : Int) := by omega
    have l3 : 0 ≤ (f : Int) := by omega
    have l4 : F - f = n := by omega
    have l5 : n ≤ 68719476736 := by omega
    have l6 : F + r = Q := by omega
    clear hF hb hv hf hr ho hap hnx hox hg hcz hcur hZ hA hA1 hB1 hBl hQ hq hxl hqf hM
    go_enter Tryd.func27, Tryd.ntmps27
    go_wp2_with fail
    refine hco.mono ?_
    rintro e w1 ⟨rfl, hb1⟩
    have c01 := cell_below c0 hb1
    have c11 := cell_below c1 hb1
    have HB1 : Hid (Below w.heap.size w w1) := hb1
    clear c0 c1 hb1 hco
    go_wp2_with fail
    go_quiet (fail)
    try rw [l4]
    have HR1 : Hid (w1.ownsRow 0 37 14 (.slice (some ⟨g, 0, none⟩) Q cap) Q (Z ++ (A ++ B))) := own_blk HR.out (fun k hk => HB1.out.block k (HR.out.lt k hk).2)
    have HO1 : Hid (w1.ownsRow 0 37 14 (.slice oa N oc) N os) := own_blk HO.out (fun k hk => HB1.out.block k (HO.out.lt k hk).2)
    have HC : Hid (∀ j u, A[j]? = some u → w1.cell? (ad.add j) = some u) := fun j u h => by
      have hj := (List.getElem?_eq_some_iff.mp h).1
      have hl := HL.out
      rw [HAd.out (by omega), addr_add]
      have := HR1.out.cells (g := g) rfl (f * 14 + j) u (by rw [List.getElem?_append_right (by omega), hl.1, Nat.add_sub_cancel_left, List.getElem?_append_left hj]; exact h)
      rwa [addr_add, Nat.zero_add] at this
    go_wp2_with (at_builtin; (refine wpList_append_own_at _ rfl _ _ 30 rfl 0 37 i0 _ 14 176 Tryd.underlying30 hi hz0 hz1 hz2 rfl (by decide) (.slice oa N oc) N os rfl HO1.out ad n (cap - f) A (by first | rfl | (simp [Act.eval]; done) | (simp [Act.eval]; omega)) HL.out.2.1 HC.out HL.out.2.2.2.2.2.1 (by unfold maxLen; omega) (by omega) (by simp) ?_))
    intro v' w2 hown2 hgrow2 hx2 hat2
    have ga : w1.grownBy w2 (Value.slice oa N oc).ownBlock := ⟨hgrow2.os, hgrow2.tape, hgrow2.output, hgrow2.size, hgrow2.block⟩
    have HR2 : w2.ownsRow 0 37 14 (.slice (some ⟨g, 0, none⟩) Q cap) Q (Z ++ (A ++ B)) := own_blk HR1.out (fun k hk => grown_blk ga (HR1.out.lt k hk).2 (fun e => HB.out.2.2.2.2.2 (by simp only [Value.ownBlock, Option.some.injEq] at hk; rw [hk]; exact e)))
    obtain ⟨w3, Z3, hcl, ho3, hz3, hg3⟩ := clear_any w2 g f n cap Q (cap - f) ad Z A B HR2 HL.out.1 HL.out.2.1 HAd.out
    have hbw : w1.heap[x]? = some (.cells cs t (0, 0)) := (HB1.out.block x HB.out.2.1).trans HB.out.1
    have hb3 : w3.heap[x]? = some (.cells cs t (0, 0)) := (grown_blk hg3 (Nat.lt_of_lt_of_le (Array.getElem?_eq_some_iff.1 hbw).1 ga.size) (fun e => HB.out.2.2.1 (by simpa using e))).trans ((grown_blk ga (Array.getElem?_eq_some_iff.1 hbw).1 HB.out.2.2.2.1).trans hbw)
    have c13 : w3.cell? ⟨x, o + 1, none⟩ = some (.int .i64 f) := (World.cell?_of_block (a := ⟨x, o + 1, none⟩) (hb3.trans hbw.symm)).trans c11
    have f13 : w3.frozen? ⟨x, o + 1, none⟩ = false := frozen_of_row _ _ _ _ _ hb3
    obtain ⟨W4, hW4⟩ : ∃ W, w3.setCell ⟨x, o + 1, none⟩ (.int .i64 (F : Int)) = W := ⟨_, rfl⟩
    have HW4 : Hid (w3.setCell ⟨x, o + 1, none⟩ (.int .i64 (F : Int)) = W4) := hW4
    have hb4 : W4.heap[x]? = some (.cells (cs.setIfInBounds (o + 1) (.int .i64 F)) t (0, 0)) := by rw [← hW4]; exact heap_setCell_same _ _ _ _ _ _ hb3
    have g4 : w3.grownBy W4 (some x) := by rw [← hW4]; exact grown_set _ _ _ _
    have c04 : W4.cell? ⟨x, o, none⟩ = some (.slice (some ⟨g, 0, none⟩) Q cap) := by
      rw [cell_of_row _ _ _ _ _ _ hb4, Array.getElem?_setIfInBounds_ne (by omega), ← cell_of_row _ _ o _ _ _ hbw]; exact c01
    have c14 : W4.cell? ⟨x, o + 1, none⟩ = some (.int .i64 F) := by rw [cell_of_row _ _ _ _ _ _ hb4]; simp [ho1]
    have HE : Hid (∀ U : World, Below W4.heap.size W4 U → U.heap[x]? = some (.cells (cs.setIfInBounds (o + 1) (.int .i64 F)) t (0, 0)) ∧ U.ownsRow 0 37 14 (.slice (some ⟨g, 0, none⟩) Q cap) Q (Z3 ++ B) ∧ U.ownsRow 0 37 14 v' (N + n) (os ++ A) ∧ Kl (fun k => k = x ∨ (Value.slice (some ⟨g, 0, none⟩) Q cap).ownBlock = some k ∨ (Value.slice oa N oc).ownBlock = some k) w U ∧ (∀ k, v'.ownBlock = some k → (Value.slice oa N oc).ownBlock = some k ∨ w.heap.size ≤ k) ∧ (∀ k, v'.ownBlock = some k → k < U.heap.size ∧ k ≠ g)) := fun U hU => by
      have hx4 := (Array.getElem?_eq_some_iff.1 hb4).1
      have hgo : ∀ k, v'.ownBlock = some k → k ≠ g := fun k hk e => by
        subst e
        rcases hat2 with e | e
        · exact HB.out.2.2.2.2.2 (by rw [← e]; exact hk)
        · rw [hk] at e
          simp at e
          have := HB1.out.size
          have := HB.out.2.2.2.2.1
          omega
      have o2 : w3.ownsRow 0 37 14 v' (N + n) (os ++ A) := own_blk hown2 (fun k hk => grown_blk hg3 (hown2.lt k hk).2 (fun e => hgo k hk (by simpa using e.symm)))
      have o4 : W4.ownsRow 0 37 14 v' (N + n) (os ++ A) := own_blk o2 (fun k hk => grown_blk g4 (o2.lt k hk).2 (fun e => own_hp o2 hb3 ht (by rw [hk, ← e])))
      have r4 : W4.ownsRow 0 37 14 (.slice (some ⟨g, 0, none⟩) Q cap) Q (Z3 ++ B) := own_blk ho3 (fun k hk => grown_blk g4 (ho3.lt k hk).2 (fun e => own_hp ho3 hb3 ht (by rw [hk, ← e])))
      refine ⟨(hU.block x hx4).trans hb4, own_blk r4 (fun k hk => hU.block k (r4.lt k hk).2), own_blk o4 (fun k hk => hU.block k (o4.lt k hk).2), ?_, fun k hk => ?_, fun k hk => ⟨Nat.lt_of_lt_of_le (o4.lt k hk).2 hU.size, hgo k hk⟩⟩
      · refine Kl.below ((((Kl.of_below HB1.out).grown ga (fun k hk => .inl (.inr (.inr hk)))).grown hg3 (fun k hk => .inl (.inr (.inl hk)))).grown g4 (fun k hk => .inl (.inl (by simpa using hk.symm)))) hU
      · rcases hat2 with e | e
        · exact .inl (e ▸ hk)
        · rw [hk] at e
          simp at e
          have := HB1.out.size
          exact .inr (by omega)
    obtain ⟨va, vc, hv'⟩ := own_sl hown2
    subst hv'
    have hz3' : Hid (Z3.length = F * 14 ∧ (cs[o]? = some (.slice (some ⟨g, 0, none⟩) Q cap))) := ⟨by rw [← HF.out]; exact hz3, by rw [← cell_of_row _ _ o _ _ _ hbw]; exact c01⟩
    have hc4 := count_any W4.drew x o Q cap F (some ⟨g, 0, none⟩) c04 c14 (by omega) (by omega)
    rw [show Q - F = r by omega] at hc4
    have HC4 : Hid (W4.cell? ⟨x, o + 1, none⟩ = some (.int .i64 F)) := c14
    clear hown2 hgrow2 hx2 hat2 ga HR2 ho3 hg3 hb3 hbw hW4 hb4 g4 c01 c11 HC HO1 HR1 hz3
    by_cases hgt : r < F
    · have hgt' : (r : Int) < (F : Int) := by omega
      go_wp2_with fail
      rw [HW4.out]
      go_region_held3 (fun V => V.cell? ⟨x, o + 1, none⟩ = some (.int .i64 F))
        (first | exact HC4.out | exact HU.out)
        (first
          | (go_at_call 34
             refine hc4.mono ?_
             rintro e U ⟨rfl, hbU⟩
             have HU : Hid (U.cell? ⟨x, o + 1, none⟩ = some (.int .i64 F)) := cell_below (w := W4.drew) HC4.out hbU
             have HBU : Hid (Below W4.heap.size W4 U) := ⟨hbU.os, hbU.tape, hbU.output, hbU.size, hbU.block⟩
             clear hbU))
      all_goals (
        go_wp2_with fail
        obtain ⟨e1, e2, e3, e4, e5, e6⟩ := HE.out _ HBU.out
        have hp := qpack_any U x o F r (.slice (some ⟨g, 0, none⟩) Q cap) Z3 B _ t e1 ht (by rw [Array.getElem?_setIfInBounds_ne (by omega)]; exact hz3'.out.2) (by simp [ho1]) hz3'.out.1 (by rw [l6]; exact e2) HL.out.2.2.2.2.2.2 (by omega)
        refine hp.mono ?_
        rintro e U2 ⟨⟨u, rfl⟩, v2, h2⟩
        have HF2 : Hid (QT w U2 x o n r N (.slice (some ⟨g, 0, none⟩) (f + (n + r)) cap) (.slice oa N oc) v2 (.slice va (N + n) vc) cs t A B os 0 []) := by
          refine ⟨rfl, ?_, by rw [Nat.zero_add]; exact h2.row, own_blk e3 (fun k hk => h2.kl.block k (e3.lt k hk).2 (fun e => ?_)), fun k hk => ?_, e5, fun k hk e => ?_, ?_⟩
          · rw [← set_swap]; exact h2.box
          · rcases e with e | e
            · exact own_hp e3 e1 ht (by rw [hk, e])
            · exact (e6 k hk).2 (by simpa [Value.ownBlock] using e.symm)
          · rcases h2.at' k hk with e | e
            · rw [HL.out.2.2.2.1]; exact .inl e
            · exact .inr (Nat.le_trans e4.size e)
          · rcases h2.at' k hk with e' | e'
            · exact (e6 k e).2 (by simpa [Value.ownBlock] using e'.symm)
            · have := (e6 k e).1; omega
          · rw [HL.out.2.2.2.1]
            exact e4.then h2.kl (fun k hk e => e.elim .inl (fun e => .inr (.inl e)))
        clear h2 e1 e2 e3 e4 e5 e6 hp
        go_wp2
        go_ret
        exact ⟨_, _, 0, [], rfl, by omega, HF2.out⟩)
    · have hgt' : ¬ (r : Int) < (F : Int) := by omega
      go_wp2_with fail
      rw [HW4.out]
      go_region_held3 (fun V => V.cell? ⟨x, o + 1, none⟩ = some (.int .i64 F))
        (first | exact HC4.out | exact HU.out)
        (first
          | (go_at_call 34
             refine hc4.mono ?_
             rintro e U ⟨rfl, hbU⟩
             have HU : Hid (U.cell? ⟨x, o + 1, none⟩ = some (.int .i64 F)) := cell_below (w := W4.drew) HC4.out hbU
             have HBU : Hid (Below W4.heap.size W4 U) := ⟨hbU.os, hbU.tape, hbU.output, hbU.size, hbU.block⟩
             clear hbU))
      all_goals (
        go_wp2
        go_ret
        obtain ⟨e1, e2, e3, e4, e5, e6⟩ := HE.out _ HBU.out
        refine ⟨_, _, F, Z3, rfl, by have := HF.out; omega, hz3'.out.1, ?_, ?_, e3, fun k hk => .inl (by rw [HL.out.2.2.2.1]; exact hk), e5, fun k hk e => (e6 k e).2 (by simpa [Value.ownBlock] using hk.symm), ?_⟩
        · rw [set_self (v := .slice (some ⟨g, 0, none⟩) Q cap) hz3'.out.2]; exact e1
        · rw [l6]; exact e2
        · rw [HL.out.2.2.2.1]; exact e4)

end Go.Proofs.YtdfdaambfihjaaaDoor.L
