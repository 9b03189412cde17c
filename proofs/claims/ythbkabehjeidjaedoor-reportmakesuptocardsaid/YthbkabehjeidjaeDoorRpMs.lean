import Derived.Test.YthbkabehjeidjaeDoorRpU
import Derived.Test.YthbkabehjeidjaeDoorRpO
namespace Go.Proofs.YthbkabehjeidjaeDoor
open Go.RowKit
set_option linter.unusedVariables false
set_option linter.unusedSimpArgs false

theorem lent_row {w : World} {base g n : Nat} {l : List (Int × Int)} (h : C.SOwn w base (.slice (some ⟨g, 0, none⟩) (n + 2) (n + 2)) (C.mkL l)) (hn : l.length = n) : C.SOwn w base (.slice (some ⟨g, 0, none⟩) n (n + 2)) l := by
  subst hn
  obtain ⟨h1, ⟨q, _⟩ | ⟨g', cap, cur, hv, hg, hh, hc, hm, hz, ht⟩⟩ := h
  · cases q
  · simp only [Value.slice.injEq, Option.some.injEq, Addr.mk.injEq, and_true] at hv
    obtain ⟨rfl, _, rfl⟩ := hv
    refine ⟨C.spc_len l, .inr ⟨g, l.length + 2, cur, rfl, hg, hh, by omega, hm, hz, ?_⟩⟩
    have e := congrArg (List.take (l.length * 2)) ht
    rw [List.take_take] at e
    have e2 : min (l.length * 2) ((C.mkL l).length * 2) = l.length * 2 := by unfold C.mkL; simp
    rw [e2] at e
    rw [e]
    unfold C.mkL
    rw [List.flatMap_append, List.take_append_of_le_length (by rw [C.spc_len]; exact Nat.le_refl _), List.take_of_length_le (by rw [C.spc_len]; exact Nat.le_refl _)]
theorem mkL_set (l : List (Int × Int)) (k : Nat) (p : Int × Int) (hk : k < l.length) : (C.mkL l).set k p = C.mkL (l.set k p) := by
  unfold C.mkL
  rw [List.set_append_left _ _ hk]
theorem mkL_length (l : List (Int × Int)) : (C.mkL l).length = l.length + 2 := by unfold C.mkL; simp
theorem set_self {α : Type} {l : List α} {i : Nat} {x : α} (h : l[i]? = some x) : l.set i x = l := by
  apply List.ext_getElem?
  intro j
  rw [List.getElem?_set]
  by_cases e : i = j
  · subst e
    have := (List.getElem?_eq_some_iff.mp h).1
    rw [if_pos rfl, if_pos this, h]
  · simp [e]
theorem put_to {W : World} {base g cap n k : Nat} {L : List (Int × Int)} {p : Int × Int} (h : C.SOwn W base (.slice (some ⟨g, 0, none⟩) n cap) L) (hk : L[k]? = some p) (b : Int) : C.SOwn (W.setCell ⟨g, k * 2 + 1, none⟩ (.int .i64 b)) base (.slice (some ⟨g, 0, none⟩) n cap) (L.set k (p.1, b)) := by
  have hn := h.len2
  subst hn
  have h1 := (World.ownsRow.stored h (k * 2 + 1) (.int .i64 b)).1
  obtain ⟨q1, q2⟩ := C.spc_get L k p hk
  have e := C.spc_put2 L k p.1 b
  rw [set_self q1] at e
  rw [e] at h1
  unfold C.SOwn
  rw [List.length_set]
  exact h1
/-- Whose each block is, where no two rows share one. -/
theorem own_tags (vs : List Value) (hd : ∀ (i j : Nat) v u g, vs[i]? = some v → vs[j]? = some u → v.ownBlock = some g → u.ownBlock = some g → i = j) :
    ∃ own : Nat → Nat, (∀ (j : Nat) v g, vs[j]? = some v → v.ownBlock = some g → own g = 10 + j) ∧ (∀ g, (∀ (j : Nat) v, vs[j]? = some v → v.ownBlock ≠ some g) → own g = 0) := by
  classical
  refine ⟨fun g => if h : ∃ j : Nat, ∃ v, vs[j]? = some v ∧ v.ownBlock = some g then 10 + Classical.choose h else 0, fun j v g hj hg => ?_, fun g hg => ?_⟩
  · have h : ∃ j : Nat, ∃ v, vs[j]? = some v ∧ v.ownBlock = some g := ⟨j, v, hj, hg⟩
    show (if h : ∃ j : Nat, ∃ v, vs[j]? = some v ∧ v.ownBlock = some g then 10 + Classical.choose h else 0) = 10 + j
    rw [dif_pos h]
    obtain ⟨u, hu, hug⟩ := Classical.choose_spec h
    rw [hd _ _ _ _ g hu hj hug hg]
  · show (if h : ∃ j : Nat, ∃ v, vs[j]? = some v ∧ v.ownBlock = some g then 10 + Classical.choose h else 0) = 0
    rw [dif_neg]
    rintro ⟨j, v, hj, hv⟩
    exact hg j v hj hv
/-- Rows of spans in one list: Owned. -/
theorem owned_list {w : World} {B pr gl : Nat} {vs : List Value} {Cs : Nat → List (Int × Int)} (hbx : w.heap[pr]? = some (.cells #[.slice none 0 0, .slice (some ⟨gl, 0, none⟩) vs.length vs.length, .slice none 0 0] 73 (0, 0)))
    (hgl : w.heap[gl]? = some (.cells vs.toArray 26 (0, 0))) (hd : ∀ (i j : Nat) v u g, vs[i]? = some v → vs[j]? = some u → v.ownBlock = some g → u.ownBlock = some g → i = j)
    (ho : ∀ (j : Nat) v, vs[j]? = some v → C.SOwn w B v (Cs j)) (h1 : ∀ (j : Nat) v, vs[j]? = some v → v.ownBlock ≠ some pr) (h2 : ∀ (j : Nat) v, vs[j]? = some v → v.ownBlock ≠ some gl) (hl : vs.length ≤ 1048576) (hc : ∀ j, (Cs j).length ≤ 1048600) (hB : B ≤ w.heap.size) :
    Calls Tryd.prog 30 #[.pointer (some ⟨pr, 0, none⟩)] w fun e w' => e = .returned (.bool true) ∧ Below B w w' := by
  obtain ⟨own, hown, hzero⟩ := own_tags vs hd
  refine (C.ownedRows_spans pr (some ⟨gl, 0, none⟩) vs.length own vs Cs w hbx (hzero pr h1) ⟨fun j v _ hv => own_low5 (ho j v hv) (Nat.zero_le _), fun j v g _ hv hg => hown j v g hv hg⟩ (.inr ⟨gl, 0, rfl, hzero gl h2, fun i v hv => ?_⟩) hl hc).mono ?_
  · rw [Nat.zero_add, cell_of_row _ _ _ _ _ _ hgl, ← hv, List.getElem?_toArray]
  · rintro e w' ⟨rfl, hk⟩
    refine ⟨rfl, hk.os, hk.tape, hk.output, hk.size, fun g hg => ?_⟩
    exact hk.block g (by omega) (hzero g (fun j v hv hgb => by have := ((ho j v hv).lt g hgb).1; omega))

/-- What an answer of Missing is, in a later world: between which blocks it lies. -/
structure Ms (w : World) (lo hi : Nat) (a : Option Addr) (n c : Nat) (u : List (Int × Int)) : Prop where
  len : u.length = n
  few : n ≤ 2000
  own : C.SOwn w lo (.slice a n c) u
  hi : ∀ g, (Value.slice a n c).ownBlock = some g → g < hi
theorem Ms.of {l u : List (Int × Int)} {f t er : Int} {w w' : World} {v : Value} (hs : C.SOwn w' w.heap.size v u) (hm : C.MR l f t u er) : ∃ a n c, v = .slice a n c ∧ Ms w' w.heap.size w'.heap.size a n c u := by
  obtain ⟨a, c, rfl⟩ := hs.shape
  exact ⟨a, _, c, rfl, rfl, hm.len, hs, fun g hg => (hs.lt g hg).2⟩
theorem Ms.below {w w' : World} {lo hi n c : Nat} {a : Option Addr} {u : List (Int × Int)} (h : Ms w lo hi a n c u) (hb : Below w.heap.size w w') : Ms w' lo hi a n c u :=
  ⟨h.len, h.few, h.own.blk2 (fun g hg => hb.block g (h.own.lt g hg).2), h.hi⟩
theorem Ms.same {w w' : World} {lo hi n c : Nat} {a : Option Addr} {u : List (Int × Int)} (h : Ms w lo hi a n c u) (hb : ∀ g, lo ≤ g → g < hi → w'.heap[g]? = w.heap[g]?) : Ms w' lo hi a n c u :=
  ⟨h.len, h.few, h.own.blk2 (fun g hg => hb g (h.own.lt g hg).1 (h.hi g hg)), h.hi⟩
theorem Ms.cin {w : World} {lo hi n c : Nat} {a : Option Addr} {u : List (Int × Int)} (h : Ms w lo hi a n c u) : CIn w (.slice a n c) u := cin_own h.own (by have := h.len; have := h.few; omega)
theorem five_apart {x y z v : Value} {x0 x1 y1 z1 v0 v1 G n c : Nat} (hx : ∀ g, x.ownBlock = some g → x0 ≤ g ∧ g < x1) (hy : ∀ g, y.ownBlock = some g → x1 ≤ g ∧ g < y1) (hz : ∀ g, z.ownBlock = some g → y1 ≤ g ∧ g < z1) (hv : ∀ g, v.ownBlock = some g → v0 ≤ g ∧ g < v1) (ho : G < x0 ∧ x0 ≤ x1 ∧ x1 ≤ y1 ∧ y1 ≤ z1 ∧ z1 ≤ v0) :
    ∀ (i j : Nat) a b g, [x, y, z, v, Value.slice (some ⟨G, 0, none⟩) n c][i]? = some a → [x, y, z, v, Value.slice (some ⟨G, 0, none⟩) n c][j]? = some b → a.ownBlock = some g → b.ownBlock = some g → i = j := by
  have key : ∀ (i : Nat) a g, [x, y, z, v, Value.slice (some ⟨G, 0, none⟩) n c][i]? = some a → a.ownBlock = some g → (i = 0 ∧ x0 ≤ g ∧ g < x1) ∨ (i = 1 ∧ x1 ≤ g ∧ g < y1) ∨ (i = 2 ∧ y1 ≤ g ∧ g < z1) ∨ (i = 3 ∧ v0 ≤ g ∧ g < v1) ∨ (i = 4 ∧ g = G) := by
    intro i a g hi hg
    match i, hi with
    | 0, hi => cases hi; exact .inl ⟨rfl, hx g hg⟩
    | 1, hi => cases hi; exact .inr (.inl ⟨rfl, hy g hg⟩)
    | 2, hi => cases hi; exact .inr (.inr (.inl ⟨rfl, hz g hg⟩))
    | 3, hi => cases hi; exact .inr (.inr (.inr (.inl ⟨rfl, hv g hg⟩)))
    | 4, hi => cases hi; cases hg; exact .inr (.inr (.inr (.inr ⟨rfl, rfl⟩)))
    | i + 5, hi => simp at hi
  intro i j a b g hi hj hga hgb
  have h1 := key i a g hi hga
  have h2 := key j b g hj hgb
  omega
theorem set_last {l : List (Int × Int)} (h : l ≠ []) : ∃ p, l[l.length - 1]? = some p := ⟨l[l.length - 1]'(by have := List.length_pos_iff.mpr h; omega), List.getElem?_eq_getElem _⟩

set_option maxRecDepth 100000 in
set_option maxHeartbeats 16000000 in
theorem missing_walk (a0 a1 : Option Addr) (n0 n1 c0 c1 : Nat) (l m : List (Int × Int)) (lo up : Int) (W : World) (hT : Tab W) (h1 : C.Ls W (.slice a0 n0 c0) l) (h2 : C.Ls W (.slice a1 n1 c1) m) (hn0 : l.length = n0) (hl : n0 ≤ 1048576) :
    Calls Tryd.prog 6 #[.slice a0 n0 c0, .int .i64 lo, .int .i64 up, .slice a1 n1 c1] W fun e W' => e = .returned (.bool true) ∧ Below W.heap.size W W' := by
  have HL : Hid (C.Ls W (.slice a0 n0 c0) l) := h1
  have HM : Hid (C.Ls W (.slice a1 n1 c1) m) := h2
  have HN0 : Hid (l.length = n0) := hn0
  have hA := awake5_any W hT
  clear h1 h2 hT hn0
  go_enter Tryd.func6, Tryd.ntmps6
  go_wp2_with fail
  refine hA.mono ?_
  rintro e w1 ⟨rfl, hb1⟩
  have HB1 : Hid (Below W.heap.size W w1) := hb1
  have hR1 := C.refmissing_any lo up (HL.out.below hb1)
  clear hA hb1
  go_wp2_with fail
  refine hR1.mono ?_
  rintro e w2 ⟨v2, u2, e2, rfl, hs2, hm2, hb2⟩
  obtain ⟨ax2, nx2, cx2, rfl, hM2⟩ := Ms.of hs2 hm2
  have HB2 : Hid (Below W.heap.size W w2) := HB1.out.trans (hb2.mono HB1.out.size)
  have HM2 : Hid (Ms w2 w1.heap.size w2.heap.size ax2 nx2 cx2 u2) := hM2
  have HE2 : Hid (C.MR l lo up u2 e2) := hm2
  have hR2 := C.refmissing_any lo up (HM.out.below HB2.out)
  clear hR1 hs2 hm2 hb2 hM2
  go_wp2_with fail
  refine hR2.mono ?_
  rintro e w3 ⟨v3, u3, e3, rfl, hs3, hm3, hb3⟩
  obtain ⟨ax3, nx3, cx3, rfl, hM3⟩ := Ms.of hs3 hm3
  have HB3 : Hid (Below W.heap.size W w3) := HB2.out.trans (hb3.mono HB2.out.size)
  have HM2' : Hid (Ms w3 w1.heap.size w2.heap.size ax2 nx2 cx2 u2) := HM2.out.below hb3
  have HM3 : Hid (Ms w3 w2.heap.size w3.heap.size ax3 nx3 cx3 u3) := hM3
  have HE3 : Hid (C.MR m lo up u3 e3) := hm3
  have hLt := C.lentSpans_any (HL.out.below HB3.out) (by have := HN0.out; omega)
  rw [HN0.out] at hLt
  clear hR2 hs3 hm3 hb3 hM3 HM2
  go_wp2_with fail
  refine hLt.mono ?_
  rintro e w4 ⟨rfl, hs4, hb4⟩
  obtain ⟨G, hG⟩ : ∃ G, w3.heap.size = G := ⟨_, rfl⟩
  rw [hG] at hs4 ⊢
  have HG : Hid (w3.heap.size = G ∧ G < w4.heap.size) := ⟨hG, ((hs4.lt G rfl).2)⟩
  have HB4 : Hid (Below W.heap.size W w4) := HB3.out.trans (hb4.mono HB3.out.size)
  have HMa : Hid (Ms w4 w1.heap.size w2.heap.size ax2 nx2 cx2 u2 ∧ Ms w4 w2.heap.size w3.heap.size ax3 nx3 cx3 u3) := ⟨HM2'.out.below hb4, HM3.out.below hb4⟩
  have HS4 : Hid (C.SOwn w4 G (.slice (some ⟨G, 0, none⟩) (n0 + 2) (n0 + 2)) (C.mkL l)) := hs4
  have hM1 := C.missing_any lo up ((lent_row hs4 HN0.out).ls (by have := HN0.out; omega))
  clear hLt hs4 hb4 HM2' HM3 hG
  go_wp2_with fail
  refine hM1.mono ?_
  rintro e w5 ⟨v5, u5, e5, rfl, hs5, hm5, hb5⟩
  obtain ⟨ax5, nx5, cx5, rfl, hM5⟩ := Ms.of hs5 hm5
  obtain ⟨hu, he⟩ := hm5.uniq HE2.out
  subst hu he
  have HB5 : Hid (Below W.heap.size W w5) := HB4.out.trans (hb5.mono HB4.out.size)
  have HMb : Hid (Ms w5 w1.heap.size w2.heap.size ax2 nx2 cx2 u5 ∧ Ms w5 w2.heap.size w3.heap.size ax3 nx3 cx3 u3 ∧ Ms w5 w4.heap.size w5.heap.size ax5 nx5 cx5 u5) := ⟨HMa.out.1.below hb5, HMa.out.2.below hb5, hM5⟩
  have HS5 : Hid (C.SOwn w5 G (.slice (some ⟨G, 0, none⟩) (n0 + 2) (n0 + 2)) (C.mkL l)) := HS4.out.blk2 (fun g hg => hb5.block g (HS4.out.lt g hg).2)
  have HZ5 : Hid (w4.heap.size ≤ w5.heap.size) := hb5.size
  have hM2 := C.missing_any lo up (HM.out.below HB5.out)
  clear hM1 hs5 hm5 hb5 hM5 HMa HS4
  go_wp2_with fail
  refine hM2.mono ?_
  rintro e w6 ⟨v6, u6, e6, rfl, hs6, hm6, hb6⟩
  obtain ⟨ax6, nx6, cx6, rfl, hM6⟩ := Ms.of hs6 hm6
  obtain ⟨hu, he⟩ := hm6.uniq HE3.out
  subst hu he
  have HB6 : Hid (Below W.heap.size W w6) := HB5.out.trans (hb6.mono HB5.out.size)
  have HMc : Hid (Ms w6 w1.heap.size w2.heap.size ax2 nx2 cx2 u5 ∧ Ms w6 w2.heap.size w3.heap.size ax3 nx3 cx3 u6 ∧ Ms w6 w4.heap.size w5.heap.size ax5 nx5 cx5 u5 ∧ Ms w6 w5.heap.size w6.heap.size ax6 nx6 cx6 u6) := ⟨HMb.out.1.below hb6, HMb.out.2.1.below hb6, HMb.out.2.2.below hb6, hM6⟩
  have HS6 : Hid (C.SOwn w6 G (.slice (some ⟨G, 0, none⟩) (n0 + 2) (n0 + 2)) (C.mkL l)) := HS5.out.blk2 (fun g hg => hb6.block g (HS5.out.lt g hg).2)
  have HZ6 : Hid (w5.heap.size ≤ w6.heap.size) := hb6.size
  have hM3 := C.missing_any lo up ((lent_row HS6.out HN0.out).ls (by have := HN0.out; omega))
  clear hM2 hs6 hm6 hb6 hM6 HMb HS5
  go_wp2_with fail
  refine hM3.mono ?_
  rintro e w7 ⟨v7, u7, e7, rfl, hs7, hm7, hb7⟩
  obtain ⟨ax7, nx7, cx7, rfl, hM7⟩ := Ms.of hs7 hm7
  obtain ⟨hu, he⟩ := hm7.uniq HE2.out
  subst hu he
  have HB7 : Hid (Below W.heap.size W w7) := HB6.out.trans (hb7.mono HB6.out.size)
  have HMd : Hid (Ms w7 w1.heap.size w2.heap.size ax2 nx2 cx2 u7 ∧ Ms w7 w2.heap.size w3.heap.size ax3 nx3 cx3 u6 ∧ Ms w7 w4.heap.size w5.heap.size ax5 nx5 cx5 u7 ∧ Ms w7 w5.heap.size w6.heap.size ax6 nx6 cx6 u6 ∧ Ms w7 w6.heap.size w7.heap.size ax7 nx7 cx7 u7) := ⟨HMc.out.1.below hb7, HMc.out.2.1.below hb7, HMc.out.2.2.1.below hb7, HMc.out.2.2.2.below hb7, hM7⟩
  have HS7 : Hid (C.SOwn w7 G (.slice (some ⟨G, 0, none⟩) (n0 + 2) (n0 + 2)) (C.mkL l)) := HS6.out.blk2 (fun g hg => hb7.block g (HS6.out.lt g hg).2)
  have HZ7 : Hid (w6.heap.size ≤ w7.heap.size) := hb7.size
  have hQ1 := sameSpans_gen _ _ _ _ w7 HMd.out.2.2.1.cin HMd.out.1.cin
  clear hM3 hs7 hm7 hb7 hM7 HMc HS6
  go_wp2_with fail
  refine hQ1.mono ?_
  rintro e w8 ⟨q8, rfl, hq8, hb8⟩
  obtain rfl : q8 = true := hq8 (by trivial)
  have hQ2 := sameSpans_gen _ _ _ _ w8 (HMd.out.2.2.2.1.below hb8).cin (HMd.out.2.1.below hb8).cin
  have HB8 : Hid (Below w7.heap.size w7 w8) := hb8
  clear hQ1 hq8 hb8
  go_wp2_with fail
  refine hQ2.mono ?_
  rintro e w9 ⟨q9, rfl, hq9, hb9⟩
  obtain rfl : q9 = true := hq9 (by trivial)
  have HB9 : Hid (Below w7.heap.size w7 w9) := HB8.out.trans (hb9.mono HB8.out.size)
  have hQ3 := sameSpans_gen _ _ _ _ w9 (HMd.out.2.2.2.2.below HB9.out).cin (HMd.out.1.below HB9.out).cin
  clear hQ2 hq9 hb9 HB8
  go_wp2_with fail
  refine hQ3.mono ?_
  rintro e w10 ⟨q10, rfl, hq10, hb10⟩
  obtain rfl : q10 = true := hq10 (by trivial)
  have HB10 : Hid (Below w7.heap.size w7 w10) := HB9.out.trans (hb10.mono HB9.out.size)
  have hKp := C.keptSpans_any (c0 := 0) (HL.out.below (HB7.out.trans (HB10.out.mono HB7.out.size))) (by have := HN0.out; omega) (by rw [HN0.out]; exact HS7.out.blk2 (fun g hg => HB10.out.block g (HS7.out.lt g hg).2))
  rw [HN0.out] at hKp
  clear hQ3 hq10 hb10 HB9
  go_wp2_with fail
  refine hKp.mono ?_
  rintro e w11 ⟨rfl, hb11⟩
  have HB11 : Hid (Below w7.heap.size w7 w11) := HB10.out.trans (hb11.mono HB10.out.size)
  have HS11 : Hid (C.SOwn w11 G (.slice (some ⟨G, 0, none⟩) (n0 + 2) (n0 + 2)) (C.mkL l)) := HS7.out.blk2 (fun g hg => HB11.out.block g (HS7.out.lt g hg).2)
  have HM11 : Hid (Ms w11 w4.heap.size w5.heap.size ax5 nx5 cx5 u7 ∧ Ms w11 w5.heap.size w6.heap.size ax6 nx6 cx6 u6 ∧ Ms w11 w6.heap.size w7.heap.size ax7 nx7 cx7 u7) := ⟨HMd.out.2.2.1.below HB11.out, HMd.out.2.2.2.1.below HB11.out, HMd.out.2.2.2.2.below HB11.out⟩
  have HBW : Hid (Below W.heap.size W w11) := HB7.out.trans (HB11.out.mono HB7.out.size)
  have HZ : Hid (W.heap.size ≤ G ∧ G < w4.heap.size ∧ w4.heap.size ≤ w5.heap.size ∧ w5.heap.size ≤ w6.heap.size ∧ w6.heap.size ≤ w7.heap.size ∧ w7.heap.size ≤ w11.heap.size) := ⟨by have := HB3.out.size; have := HG.out.1; omega, HG.out.2, HZ5.out, HZ6.out, HZ7.out, HB11.out.size⟩
  clear hKp hb11 HB10 HB11 HS7 HMd HB1 HB2 HB3 HB4 HB5 HB6 HB7 HE2 HE3 HG HZ5 HZ6 HZ7 HL HM
  by_cases hz : n0 = 0
  · subst hz
    obtain ⟨w12, hw12⟩ : ∃ x, x = w11 := ⟨_, rfl⟩
    have HU12 : Hid (C.SOwn w12 G (.slice (some ⟨G, 0, none⟩) 0 (0 + 2)) l) := by rw [hw12]; exact lent_row HS11.out HN0.out
    have HM12 : Hid (Ms w12 w4.heap.size w5.heap.size ax5 nx5 cx5 u7 ∧ Ms w12 w5.heap.size w6.heap.size ax6 nx6 cx6 u6 ∧ Ms w12 w6.heap.size w7.heap.size ax7 nx7 cx7 u7) := by rw [hw12]; exact HM11.out
    have HB12 : Hid (Below W.heap.size W w12 ∧ w12.heap.size = w11.heap.size) := by rw [hw12]; exact ⟨HBW.out, rfl⟩
    obtain ⟨l2, hl2⟩ : ∃ x, l = x := ⟨_, rfl⟩
    have HL2 : Hid (l2.length = 0) := by rw [← hl2]; exact HN0.out
    rw [hl2] at HU12
    subst hw12
    clear HS11 HM11 HBW hl2 HN0
    have hR3 := C.refmissing_any lo up (HU12.out.ls (by have := HL2.out; omega))
    go_wp2_with fail
    refine hR3.mono ?_
    rintro e w13 ⟨v13, u13, e13, rfl, hs13, hm13, hb13⟩
    obtain ⟨ax13, nx13, cx13, rfl, hM13⟩ := Ms.of hs13 hm13
    have HB13 : Hid (Below w12.heap.size w12 w13) := hb13
    have HE13 : Hid (C.MR l2 lo up u13 e13) := hm13
    have HM13 : Hid (Ms w13 w12.heap.size w13.heap.size ax13 nx13 cx13 u13) := hM13
    have hM4 := C.missing_any lo up ((HU12.out.blk2 (fun g hg => hb13.block g (HU12.out.lt g hg).2)).ls (by have := HL2.out; omega))
    clear hR3 hs13 hm13 hb13 hM13
    go_wp2_with fail
    refine hM4.mono ?_
    rintro e w14 ⟨v14, u14, e14, rfl, hs14, hm14, hb14⟩
    obtain ⟨ax14, nx14, cx14, rfl, hM14⟩ := Ms.of hs14 hm14
    obtain ⟨hu, he⟩ := hm14.uniq HE13.out
    subst hu he
    have HB14 : Hid (Below w12.heap.size w12 w14) := HB13.out.trans (hb14.mono HB13.out.size)
    have HM14 : Hid (Ms w14 w13.heap.size w14.heap.size ax14 nx14 cx14 u14) := hM14
    have HZ14 : Hid (w12.heap.size ≤ w13.heap.size ∧ w13.heap.size ≤ w14.heap.size) := ⟨HB13.out.size, hb14.size⟩
    have hQ4 := sameSpans_gen _ _ _ _ w14 hM14.cin (HM13.out.below hb14).cin
    clear hM4 hs14 hm14 hb14 hM14 HE13 HB13 HM13
    go_wp2_with fail
    refine hQ4.mono ?_
    rintro e w15 ⟨q15, rfl, hq15, hb15⟩
    obtain rfl : q15 = true := hq15 (by trivial)
    have HB15 : Hid (Below w12.heap.size w12 w15) := HB14.out.trans (hb15.mono HB14.out.size)
    have HM15 : Hid (Ms w15 w13.heap.size w14.heap.size ax14 nx14 cx14 u14) := HM14.out.below hb15
    have HZ15 : Hid (w14.heap.size ≤ w15.heap.size) := hb15.size
    obtain ⟨V, hV⟩ : ∃ V, (w15.alloc (.cells #[.slice ax5 nx5 cx5, .slice ax6 nx6 cx6, .slice ax7 nx7 cx7, .slice ax14 nx14 cx14, .slice (some ⟨G, 0, none⟩) 0 (0 + 2)] 26)).alloc (.cells #[.slice none 0 0, .slice (some ⟨w15.heap.size, 0, none⟩) 5 5, .slice none 0 0] 73) = V := ⟨_, rfl⟩
    have HVe : Hid (_ = V) := hV
    have hOw : Calls Tryd.prog 30 #[.pointer (some ⟨w15.heap.size + 1, 0, none⟩)] V fun e w' => e = .returned (.bool true) ∧ Below G V w' := by
      have hb : Below w15.heap.size w15 V := by rw [← hV]; exact ((Below.refl _ _).alloc (Nat.le_refl _) _).alloc (by simp) _
      have hz := HZ.out
      have hz2 := HZ14.out
      have hz3 := HZ15.out
      have hz4 := HB12.out.2
      have hx := ((HM12.out.1.below HB15.out).below hb)
      have hy := ((HM12.out.2.1.below HB15.out).below hb)
      have hzz := ((HM12.out.2.2.below HB15.out).below hb)
      have hv := HM15.out.below hb
      have hu := HU12.out.blk2 (w' := V) (fun g hg => (hb.block g (by have := (HU12.out.lt g hg).2; omega)).trans (HB15.out.block g (HU12.out.lt g hg).2))
      have hug : (Value.slice (some ⟨G, 0, none⟩) 0 (0 + 2)).ownBlock = some G := rfl
      refine owned_list (B := G) (gl := w15.heap.size) (vs := [.slice ax5 nx5 cx5, .slice ax6 nx6 cx6, .slice ax7 nx7 cx7, .slice ax14 nx14 cx14, .slice (some ⟨G, 0, none⟩) 0 (0 + 2)]) (Cs := fun j => [u7, u6, u7, u14, l2].getD j []) ?_ ?_ ?_ ?_ ?_ ?_ (by simp) ?_ ?_
      · rw [← hV]
        have := al_new (w15.alloc (.cells #[.slice ax5 nx5 cx5, .slice ax6 nx6 cx6, .slice ax7 nx7 cx7, .slice ax14 nx14 cx14, .slice (some ⟨G, 0, none⟩) 0 (0 + 2)] 26)) (.cells #[.slice none 0 0, .slice (some ⟨w15.heap.size, 0, none⟩) 5 5, .slice none 0 0] 73)
        rw [World.size_alloc] at this
        exact this
      · rw [← hV]; exact al_old (al_new _ _)
      · exact five_apart (fun g hg => (⟨(hx.own.lt g hg).1, hx.hi g hg⟩ : _ ∧ _)) (fun g hg => (⟨(hy.own.lt g hg).1, hy.hi g hg⟩ : _ ∧ _)) (fun g hg => (⟨(hzz.own.lt g hg).1, hzz.hi g hg⟩ : _ ∧ _)) (fun g hg => (⟨(hv.own.lt g hg).1, hv.hi g hg⟩ : _ ∧ _)) (by omega)
      · intro j v hj
        match j, hj with
        | 0, hj => cases hj; exact own_low5 hx.own (by omega)
        | 1, hj => cases hj; exact own_low5 hy.own (by omega)
        | 2, hj => cases hj; exact own_low5 hzz.own (by omega)
        | 3, hj => cases hj; exact own_low5 hv.own (by omega)
        | 4, hj => cases hj; exact hu
      · intro j v hj
        match j, hj with
        | 0, hj => cases hj; intro e; have := hx.hi _ e; omega
        | 1, hj => cases hj; intro e; have := hy.hi _ e; omega
        | 2, hj => cases hj; intro e; have := hzz.hi _ e; omega
        | 3, hj => cases hj; intro e; have := hv.hi _ e; omega
        | 4, hj => cases hj; intro e; have e' : G = w15.heap.size + 1 := Option.some.inj e; omega
      · intro j v hj
        match j, hj with
        | 0, hj => cases hj; intro e; have := hx.hi _ e; omega
        | 1, hj => cases hj; intro e; have := hy.hi _ e; omega
        | 2, hj => cases hj; intro e; have := hzz.hi _ e; omega
        | 3, hj => cases hj; intro e; have := hv.hi _ e; omega
        | 4, hj => cases hj; intro e; have e' : G = w15.heap.size := Option.some.inj e; omega
      · intro j
        have q1 := hx.len; have q2 := hx.few; have q3 := hy.len; have q4 := hy.few; have q5 := hv.len; have q6 := hv.few; have q7 := HL2.out
        match j with
        | 0 => show u7.length ≤ _; omega
        | 1 => show u6.length ≤ _; omega
        | 2 => show u7.length ≤ _; omega
        | 3 => show u14.length ≤ _; omega
        | 4 => show l2.length ≤ _; omega
        | j + 5 => show ([] : List (Int × Int)).length ≤ _; simp
      · have := hb.size; omega
    have HFin : Hid (Below W.heap.size W V ∧ W.heap.size ≤ G) := by
      have hb : Below w15.heap.size w15 V := by rw [← hV]; exact ((Below.refl _ _).alloc (Nat.le_refl _) _).alloc (by simp) _
      have h1 := HB12.out.1.trans (HB15.out.mono HB12.out.1.size)
      exact ⟨h1.trans (hb.mono h1.size), HZ.out.1⟩
    clear hQ4 hq15 hb15 hV HB14 HM14 HM15 HM12 HU12 HZ HZ14 HZ15 HB15 HB12 HL2
    go_wp2_with fail
    rw [HVe.out]
    refine hOw.mono ?_
    rintro e w16 ⟨rfl, hb16⟩
    have HB16 : Hid (Below W.heap.size W w16) := HFin.out.1.trans (hb16.mono HFin.out.2)
    clear hOw hb16
    go_wp2
    go_ret
    exact ⟨rfl, HB16.out⟩

  · have hz1 : 0 < n0 := by omega
    have hz2 : (0 : Int) < (n0 : Int) := by omega
    obtain ⟨p, hp⟩ := set_last (l := l) (fun e => by have := HN0.out; rw [e] at this; simp at this; omega)
    rw [HN0.out] at hp
    obtain ⟨k, hk⟩ : ∃ k, n0 = k + 1 := ⟨n0 - 1, by omega⟩
    subst hk
    rw [Nat.add_sub_cancel] at hp
    obtain ⟨x0, x1, x2, x3⟩ := HS11.out.cells2 (C.mkL_at hp)
    have hwk : IntKind.i64.wrap ((k : Int) + 1 - 1) = (k : Int) := by rw [IntKind.wrap_i64]; omega
    have hwk2 : IntKind.i64.wrap (((k + 1 : Nat) : Int) - 1) = (k : Int) := by rw [IntKind.wrap_i64]; omega
    have hkk : (k : Int) < (k : Int) + 1 := by omega
    obtain ⟨b, hb⟩ : ∃ b, IntKind.i64.wrap (p.2 + 1) = b := ⟨_, rfl⟩
    obtain ⟨l2, hl2⟩ : ∃ x, l.set k (p.1, b) = x := ⟨_, rfl⟩
    have HL2 : Hid (l2.length = k + 1) := by show _ = _; rw [← hl2, List.length_set]; exact HN0.out
    obtain ⟨w12, hw12⟩ : ∃ x, w11.setCell ⟨G, k * 2 + 1, none⟩ (.int .i64 b) = x := ⟨_, rfl⟩
    have HWe : Hid (w11.setCell ⟨G, k * 2 + 1, none⟩ (.int .i64 b) = w12) := hw12
    have HU12 : Hid (C.SOwn w12 G (.slice (some ⟨G, 0, none⟩) (k + 1) (k + 1 + 2)) l2) := by
      have := put_to HS11.out (C.mkL_at hp) b
      rw [mkL_set _ _ _ (by have := HN0.out; omega), hl2, hw12] at this
      exact lent_row this HL2.out
    have HM12 : Hid (Ms w12 w4.heap.size w5.heap.size ax5 nx5 cx5 u7 ∧ Ms w12 w5.heap.size w6.heap.size ax6 nx6 cx6 u6 ∧ Ms w12 w6.heap.size w7.heap.size ax7 nx7 cx7 u7) := by
      have hz := HZ.out
      have hs : ∀ g, G < g → w12.heap[g]? = w11.heap[g]? := fun g hg => by rw [← hw12]; exact Below.heap_setCell _ _ _ _ (by show g ≠ G; omega)
      exact ⟨HM11.out.1.same (fun g h1 h2 => hs g (by omega)), HM11.out.2.1.same (fun g h1 h2 => hs g (by omega)), HM11.out.2.2.same (fun g h1 h2 => hs g (by omega))⟩
    have HB12 : Hid (Below W.heap.size W w12 ∧ w12.heap.size = w11.heap.size) := by rw [← hw12]; exact ⟨HBW.out.setCell (by have := HZ.out; show _ ≤ G; omega) _, by simp⟩
    clear HS11 HM11 HBW hl2 HN0 hw12 hp
    have hR3 := C.refmissing_any lo up (HU12.out.ls (by have := HL2.out; omega))
    go_wp2_with fail
    rw [HWe.out]
    refine hR3.mono ?_
    rintro e w13 ⟨v13, u13, e13, rfl, hs13, hm13, hb13⟩
    obtain ⟨ax13, nx13, cx13, rfl, hM13⟩ := Ms.of hs13 hm13
    have HB13 : Hid (Below w12.heap.size w12 w13) := hb13
    have HE13 : Hid (C.MR l2 lo up u13 e13) := hm13
    have HM13 : Hid (Ms w13 w12.heap.size w13.heap.size ax13 nx13 cx13 u13) := hM13
    have hM4 := C.missing_any lo up ((HU12.out.blk2 (fun g hg => hb13.block g (HU12.out.lt g hg).2)).ls (by have := HL2.out; omega))
    clear hR3 hs13 hm13 hb13 hM13
    go_wp2_with fail
    refine hM4.mono ?_
    rintro e w14 ⟨v14, u14, e14, rfl, hs14, hm14, hb14⟩
    obtain ⟨ax14, nx14, cx14, rfl, hM14⟩ := Ms.of hs14 hm14
    obtain ⟨hu, he⟩ := hm14.uniq HE13.out
    subst hu he
    have HB14 : Hid (Below w12.heap.size w12 w14) := HB13.out.trans (hb14.mono HB13.out.size)
    have HM14 : Hid (Ms w14 w13.heap.size w14.heap.size ax14 nx14 cx14 u14) := hM14
    have HZ14 : Hid (w12.heap.size ≤ w13.heap.size ∧ w13.heap.size ≤ w14.heap.size) := ⟨HB13.out.size, hb14.size⟩
    have hQ4 := sameSpans_gen _ _ _ _ w14 hM14.cin (HM13.out.below hb14).cin
    clear hM4 hs14 hm14 hb14 hM14 HE13 HB13 HM13
    go_wp2_with fail
    refine hQ4.mono ?_
    rintro e w15 ⟨q15, rfl, hq15, hb15⟩
    obtain rfl : q15 = true := hq15 (by trivial)
    have HB15 : Hid (Below w12.heap.size w12 w15) := HB14.out.trans (hb15.mono HB14.out.size)
    have HM15 : Hid (Ms w15 w13.heap.size w14.heap.size ax14 nx14 cx14 u14) := HM14.out.below hb15
    have HZ15 : Hid (w14.heap.size ≤ w15.heap.size) := hb15.size
    obtain ⟨V, hV⟩ : ∃ V, (w15.alloc (.cells #[.slice ax5 nx5 cx5, .slice ax6 nx6 cx6, .slice ax7 nx7 cx7, .slice ax14 nx14 cx14, .slice (some ⟨G, 0, none⟩) (k + 1) ((k + 1) + 2)] 26)).alloc (.cells #[.slice none 0 0, .slice (some ⟨w15.heap.size, 0, none⟩) 5 5, .slice none 0 0] 73) = V := ⟨_, rfl⟩
    have HVe : Hid (_ = V) := hV
    have hOw : Calls Tryd.prog 30 #[.pointer (some ⟨w15.heap.size + 1, 0, none⟩)] V fun e w' => e = .returned (.bool true) ∧ Below G V w' := by
      have hb : Below w15.heap.size w15 V := by rw [← hV]; exact ((Below.refl _ _).alloc (Nat.le_refl _) _).alloc (by simp) _
      have hz := HZ.out
      have hz2 := HZ14.out
      have hz3 := HZ15.out
      have hz4 := HB12.out.2
      have hx := ((HM12.out.1.below HB15.out).below hb)
      have hy := ((HM12.out.2.1.below HB15.out).below hb)
      have hzz := ((HM12.out.2.2.below HB15.out).below hb)
      have hv := HM15.out.below hb
      have hu := HU12.out.blk2 (w' := V) (fun g hg => (hb.block g (by have := (HU12.out.lt g hg).2; omega)).trans (HB15.out.block g (HU12.out.lt g hg).2))
      have hug : (Value.slice (some ⟨G, 0, none⟩) (k + 1) ((k + 1) + 2)).ownBlock = some G := rfl
      refine owned_list (B := G) (gl := w15.heap.size) (vs := [.slice ax5 nx5 cx5, .slice ax6 nx6 cx6, .slice ax7 nx7 cx7, .slice ax14 nx14 cx14, .slice (some ⟨G, 0, none⟩) (k + 1) ((k + 1) + 2)]) (Cs := fun j => [u7, u6, u7, u14, l2].getD j []) ?_ ?_ ?_ ?_ ?_ ?_ (by simp) ?_ ?_
      · rw [← hV]
        have := al_new (w15.alloc (.cells #[.slice ax5 nx5 cx5, .slice ax6 nx6 cx6, .slice ax7 nx7 cx7, .slice ax14 nx14 cx14, .slice (some ⟨G, 0, none⟩) (k + 1) ((k + 1) + 2)] 26)) (.cells #[.slice none 0 0, .slice (some ⟨w15.heap.size, 0, none⟩) 5 5, .slice none 0 0] 73)
        rw [World.size_alloc] at this
        exact this
      · rw [← hV]; exact al_old (al_new _ _)
      · exact five_apart (fun g hg => (⟨(hx.own.lt g hg).1, hx.hi g hg⟩ : _ ∧ _)) (fun g hg => (⟨(hy.own.lt g hg).1, hy.hi g hg⟩ : _ ∧ _)) (fun g hg => (⟨(hzz.own.lt g hg).1, hzz.hi g hg⟩ : _ ∧ _)) (fun g hg => (⟨(hv.own.lt g hg).1, hv.hi g hg⟩ : _ ∧ _)) (by omega)
      · intro j v hj
        match j, hj with
        | 0, hj => cases hj; exact own_low5 hx.own (by omega)
        | 1, hj => cases hj; exact own_low5 hy.own (by omega)
        | 2, hj => cases hj; exact own_low5 hzz.own (by omega)
        | 3, hj => cases hj; exact own_low5 hv.own (by omega)
        | 4, hj => cases hj; exact hu
      · intro j v hj
        match j, hj with
        | 0, hj => cases hj; intro e; have := hx.hi _ e; omega
        | 1, hj => cases hj; intro e; have := hy.hi _ e; omega
        | 2, hj => cases hj; intro e; have := hzz.hi _ e; omega
        | 3, hj => cases hj; intro e; have := hv.hi _ e; omega
        | 4, hj => cases hj; intro e; have e' : G = w15.heap.size + 1 := Option.some.inj e; omega
      · intro j v hj
        match j, hj with
        | 0, hj => cases hj; intro e; have := hx.hi _ e; omega
        | 1, hj => cases hj; intro e; have := hy.hi _ e; omega
        | 2, hj => cases hj; intro e; have := hzz.hi _ e; omega
        | 3, hj => cases hj; intro e; have := hv.hi _ e; omega
        | 4, hj => cases hj; intro e; have e' : G = w15.heap.size := Option.some.inj e; omega
      · intro j
        have q1 := hx.len; have q2 := hx.few; have q3 := hy.len; have q4 := hy.few; have q5 := hv.len; have q6 := hv.few; have q7 := HL2.out
        match j with
        | 0 => show u7.length ≤ _; omega
        | 1 => show u6.length ≤ _; omega
        | 2 => show u7.length ≤ _; omega
        | 3 => show u14.length ≤ _; omega
        | 4 => show l2.length ≤ _; omega
        | j + 5 => show ([] : List (Int × Int)).length ≤ _; simp
      · have := hb.size; omega
    have HFin : Hid (Below W.heap.size W V ∧ W.heap.size ≤ G) := by
      have hb : Below w15.heap.size w15 V := by rw [← hV]; exact ((Below.refl _ _).alloc (Nat.le_refl _) _).alloc (by simp) _
      have h1 := HB12.out.1.trans (HB15.out.mono HB12.out.1.size)
      exact ⟨h1.trans (hb.mono h1.size), HZ.out.1⟩
    clear hQ4 hq15 hb15 hV HB14 HM14 HM15 HM12 HU12 HZ HZ14 HZ15 HB15 HB12 HL2
    go_wp2_with fail
    rw [HVe.out]
    refine hOw.mono ?_
    rintro e w16 ⟨rfl, hb16⟩
    have HB16 : Hid (Below W.heap.size W w16) := HFin.out.1.trans (hb16.mono HFin.out.2)
    clear hOw hb16
    go_wp2
    go_ret
    exact ⟨rfl, HB16.out⟩


end Go.Proofs.YthbkabehjeidjaeDoor
