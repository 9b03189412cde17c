import Derived.Test.YtnclfoljfnfglaiTmWs
import Derived.ArgAppend
import Derived.OwnWalk
namespace Go.Proofs.Ytnclfoljfnfglai
open Go.RowKit Go.Maps
set_option linter.unusedVariables false

/-! ## Rows of keys that are written over and grow -/
theorem KR.nlen {w : World} {base g n cap : Nat} {l : List Kx} (h : KR w base (.slice (Option.some ⟨g, 0, none⟩) n cap) l) : n = l.length := by
  obtain ⟨_, ⟨e, _⟩ | ⟨g', cap', cur, e, _⟩⟩ := h
  · cases e
  · cases e; rfl
theorem KR.setK {w : World} {base g n cap i : Nat} {l : List Kx} (h : KR w base (.slice (Option.some ⟨g, 0, none⟩) n cap) l) (hi : i < l.length) (y : Kx) : KR (w.setCells g (i * 5) (kV y)) base (.slice (Option.some ⟨g, 0, none⟩) n cap) (l.set i y) := by
  have hn0 := h.nlen
  obtain ⟨h1, ⟨e, _⟩ | ⟨g', cap', cur, e, hb, hg, hn, hm, hs, ht⟩⟩ := h
  · cases e
  · simp only [Value.slice.injEq, Option.some.injEq, Addr.mk.injEq, and_true] at e
    obtain ⟨rfl, _, rfl⟩ := e
    have hh := heap_setCells (kV y) (i * 5) w cur hg
    have hk5 : (kV y).length = 5 := rfl
    have h5 : l.length * 5 ≤ cap * 5 := Nat.mul_le_mul_right 5 hn
    have hcl : cur.toList.length = cap * 5 := by simpa using hs
    have hd2 : (l.set i y).length = l.length := by simp
    refine ⟨by rw [kv_len], .inr ⟨g, cap, _, by rw [hd2, hn0], hb, hh, by rw [hd2]; exact hn, hm, by rw [setMany_size]; exact hs, ?_⟩⟩
    rw [hd2, setMany_list _ _ _ (by rw [hk5, hs]; omega), kv_split _ _ _ hi, ← ht, hk5]
    have f1 : (cur.toList.take (i * 5) ++ kV y).length = i * 5 + 5 := by rw [List.length_append, hk5, List.length_take, hcl]; omega
    rw [List.take_append, List.take_of_length_le (by rw [f1]; omega), f1, List.take_take, Nat.min_eq_left (by omega), List.drop_take]
theorem KR.there {w : World} {base g n cap i : Nat} {l : List Kx} (h : KR w base (.slice (Option.some ⟨g, 0, none⟩) n cap) l) (hi : i < l.length) : w.there g (i * 5) 5 := by
  obtain ⟨_, ⟨e, _⟩ | ⟨g', cap', cur, e, hb, hg, hn, hm, hs, ht⟩⟩ := h
  · cases e
  · simp only [Value.slice.injEq, Option.some.injEq, Addr.mk.injEq, and_true] at e
    obtain ⟨rfl, _, rfl⟩ := e
    have h5 : l.length * 5 ≤ cap * 5 := Nat.mul_le_mul_right 5 hn
    intro j hj
    refine ⟨?_, by simp [World.frozen?, hg]⟩
    rw [cell_of_row _ g (i * 5 + j) cur _ _ hg]
    rw [Array.getElem?_eq_getElem (by omega)]
    rfl
theorem KR.stOk {w : World} {base g n cap i : Nat} {l : List Kx} (h : KR w base (.slice (Option.some ⟨g, 0, none⟩) n cap) l) (hi : i < l.length) (x : Kx) : StOk w (.pointer (Option.some ⟨g, i * 5, none⟩)) (kA x) := ⟨g, i * 5, x, rfl, rfl, h.there hi⟩

/-- A key is put behind the keys of a row: in place, or in a new block: what lay there stays. -/
theorem wpl_append_key (w : World) {ops : Array Oper} {rest : List Oper} {o : Oper} {a : Act} {Q : Exit → Act → World → Prop} (hgd : o.guard = none) (s x : Operand)
    (ho : o.op = .call { callee := .builtin .append, args := #[s, x], argTypes := #[58, 58] })
    (v : Value) (l : List Kx) (hs : a.eval s = v) (hown : KR w 0 v l) (ad : Addr) (c : Nat) (y : Kx) (hx : a.eval x = .slice (some ad) 1 c) (hnews : ∀ j u, (kV y)[j]? = some u → w.cell? (ad.add j) = some u) (hl : l.length < 2199023255652)
    (h : ∀ v' w', KR w' 0 v' (l ++ [y]) → w.grownBy w' v.ownBlock → (v'.ownBlock = v.ownBlock ∨ ∃ g, v'.ownBlock = some g ∧ w.heap.size ≤ g) → (∀ g q, v.ownBlock = some g → q < l.length * 5 → w'.cell? ⟨g, q, none⟩ = w.cell? ⟨g, q, none⟩) → wpList Try.prog ops Q rest (a.put o.dst v') w') :
    wpList Try.prog ops Q (o :: rest) a w := by
  obtain ⟨i0, hi0, hz0, hz1, hz2⟩ := info_parts Try.pinfo_key
  have h1c : ∀ u ∈ kV y, u.oneCell' = true := by
    intro u hu
    simp [kV] at hu
    rcases hu with rfl | rfl | rfl | rfl | rfl <;> rfl
  have hap : ∀ {w' : World} {base : Nat} {v' : Value}, w'.ownsRow base 51 5 v' (l.length + 1) (l.flatMap kV ++ kV y) → KR w' 0 v' (l ++ [y]) := fun {w' base v'} hh => by
    have h2 : KR w' base v' (l ++ [y]) := KR.app (w := w') hh
    exact h2.base (Nat.zero_le _)
  have hgro : ∀ (ao : Option Addr) (cap : Nat), v = .slice ao l.length cap → (ao = none → l.length = 0 ∧ cap = 0) → (∀ b, ao = some b → ∀ j u, (l.flatMap kV)[j]? = some u → w.cell? (b.add j) = some u) → cap < l.length + 1 → wpList Try.prog ops Q (o :: rest) a w := fun ao cap hv hnone holds hfull => by
    refine wpList_append_grows w hgd s x 58 ho 51 i0 (.agg #[.int .i64 0, .int .i64 0, .int .i64 0, .int .i64 0, .int .i64 0]) 5 40 Try.underlying58 hi0 hz0 hz1 hz2 rfl (by decide) ao l.length cap (l.flatMap kV) (hs.trans hv) hnone (kv_len l) holds ad 1 c (kV y) hx rfl hnews h1c hfull (by unfold maxLen; omega) (by omega) ?_
    intro v' w' hown' hgrow
    refine h v' w' (hap hown') ⟨hgrow.os, hgrow.tape, hgrow.output, hgrow.size, fun j hj _ => hgrow.block j hj (by simp)⟩ ?_ ?_
    · have hk : KR w' w.heap.size v' (l ++ [y]) := KR.app (w := w') hown'
      obtain ⟨g, cap', e, hg, _⟩ := hk.some (by simp)
      exact .inr ⟨g, by rw [e]; rfl, hg⟩
    · intro g q hg _
      have hlt := (World.ownsRow.lt hown g hg).2
      exact World.cell?_of_block (a := ⟨g, q, none⟩) (hgrow.block g hlt (by simp))
  obtain ⟨ao, cap, hv⟩ := hown.shape
  by_cases hn0 : 0 < l.length
  · obtain ⟨g, cap', e, _, hgl, hcl⟩ := hown.some hn0
    have hv2 : v = .slice (some ⟨g, 0, none⟩) l.length cap' := e
    by_cases hfit : l.length + 1 ≤ cap'
    · have hown2 : w.ownsRow 0 51 5 (.slice (some ⟨g, 0, none⟩) l.length cap') l.length (l.flatMap kV) := by rw [← hv2]; exact hown
      refine wpList_append_fits w hgd s x 58 ho 0 51 i0 5 Try.underlying58 hi0 hz1 g l.length cap' (l.flatMap kV) (hs.trans hv2) hown2 ad 1 c (kV y) hx rfl hnews h1c hfit ?_
      intro w' hown' hgrow
      refine h _ w' (hap hown') (by rw [hv2]; exact hgrow) (.inl (by rw [hv2]; rfl)) ?_
      intro g' q hg' hq
      have eg : g' = g := by rw [hv2] at hg'; exact (Option.some.inj hg').symm
      subst eg
      rw [World.ownsRow.cellAt hown' q (by omega), World.ownsRow.cellAt hown2 q (by omega), List.getElem?_append_left (by rw [kv_len]; exact hq)]
    · refine hgro (some ⟨g, 0, none⟩) cap' hv2 (fun e => by cases e) ?_ (by omega)
      intro b hb j u hj
      cases hb
      have hown2 : w.ownsRow 0 51 5 (.slice (some ⟨g, 0, none⟩) l.length cap') l.length (l.flatMap kV) := by rw [← hv2]; exact hown
      exact World.ownsRow.cells hown2 rfl j u hj
  · have hl0 : l = [] := List.eq_nil_of_length_eq_zero (by omega)
    obtain ⟨_, ⟨e, _⟩ | ⟨g, cap', cur, e, _, hgh, _⟩⟩ := hown
    · exact hgro none 0 (by rw [e, hl0]; rfl) (fun _ => ⟨by omega, rfl⟩) (fun b hb => by cases hb) (by omega)
    · have hown' : KR w 0 v l := ⟨by rw [kv_len], .inr ⟨g, cap', cur, e, by omega, hgh, by assumption⟩⟩
      have hown2 : w.ownsRow 0 51 5 (.slice (some ⟨g, 0, none⟩) l.length cap') l.length (l.flatMap kV) := by rw [← e]; exact hown'
      by_cases hfit : l.length + 1 ≤ cap'
      · refine wpList_append_fits w hgd s x 58 ho 0 51 i0 5 Try.underlying58 hi0 hz1 g l.length cap' (l.flatMap kV) (hs.trans e) hown2 ad 1 c (kV y) hx rfl hnews h1c hfit ?_
        intro w' hown3 hgrow
        refine h _ w' (hap hown3) (by rw [e]; exact hgrow) (.inl (by rw [e]; rfl)) ?_
        intro g' q hg' hq
        omega
      · refine hgro (some ⟨g, 0, none⟩) cap' e (fun e => by cases e) ?_ (by omega)
        intro b hb j u hj
        rw [hl0] at hj
        simp at hj

/-! ## Marks -/
def mkK (i : Nat) : Kx := (-1 - (i : Int), 0, 0, 0, 0)
theorem mkK_kW {i : Nat} (h : i < 4398046511104) : kW (mkK i) := ⟨kI_of (by simp only [mkK]; omega), kI_of (by simp [mkK]), kI_of (by simp [mkK]), kI_of (by simp [mkK]), kI_of (by simp [mkK])⟩
/-- So many marks can be read there; whose block it is. -/
def KI (own : Nat → Nat) (w : World) (t : Nat) (v : Value) (n : Nat) (y : Kx) : Prop := ∃ a c, v = .slice a n c ∧ (n = 0 ∨ ∃ g, a = some ⟨g, 0, none⟩ ∧ g < w.heap.size ∧ own g = t ∧ ∀ q, q < n → w.cell? ⟨g, q * 5, none⟩ = some (.int .i64 y.1) ∧ w.cell? ⟨g, q * 5 + 1, none⟩ = some (.int .i64 y.2.1) ∧ w.cell? ⟨g, q * 5 + 2, none⟩ = some (.int .i64 y.2.2.1) ∧ w.cell? ⟨g, q * 5 + 3, none⟩ = some (.int .i64 y.2.2.2.1) ∧ w.cell? ⟨g, q * 5 + 4, none⟩ = some (.int .i64 y.2.2.2.2))
section
variable {own own' : Nat → Nat} {w w' : World} {S : Nat → Prop} {t n : Nat} {v : Value} {y : Kx}
theorem KI.cells (h : KI own w t v n y) (hc : ∀ g q, g < w.heap.size → own g = t → q < n * 5 → w'.cell? ⟨g, q, none⟩ = w.cell? ⟨g, q, none⟩) (hs : w.heap.size ≤ w'.heap.size) (ho : ∀ g, g < w.heap.size → own' g = own g) : KI own' w' t v n y := by
  obtain ⟨a, c, rfl, h0 | ⟨g, rfl, hg, ht, hq⟩⟩ := h
  · exact ⟨a, c, rfl, .inl h0⟩
  · refine ⟨_, c, rfl, .inr ⟨g, rfl, by omega, (ho g hg).trans ht, fun q hqn => ?_⟩⟩
    obtain ⟨q0, q1, q2, q3, q4⟩ := hq q hqn
    exact ⟨(hc g _ hg ht (by omega)).trans q0, (hc g _ hg ht (by omega)).trans q1, (hc g _ hg ht (by omega)).trans q2, (hc g _ hg ht (by omega)).trans q3, (hc g _ hg ht (by omega)).trans q4⟩
theorem KI.keep (h : KI own w t v n y) (hk : Kq S w w') (ho : ∀ g, g < w.heap.size → own' g = own g) (hS : ∀ g, S g → g < w.heap.size → own g ≠ t) : KI own' w' t v n y :=
  h.cells (fun g q hg ht _ => World.cell?_of_block (a := ⟨g, q, none⟩) (hk.block g hg (fun e => hS g e hg ht))) hk.size ho
theorem KI.grown {row : Option Nat} {M : Nat} (h : KI own w t v n y) (hg : w.grownBy w' row) (hc : ∀ g q, row = some g → q < M * 5 → w'.cell? ⟨g, q, none⟩ = w.cell? ⟨g, q, none⟩) (hn : n ≤ M) (ho : ∀ g, g < w.heap.size → own' g = own g) : KI own' w' t v n y :=
  h.cells (fun g q hgl ht hq => by
    by_cases e : row = some g
    · exact hc g q e (by omega)
    · exact World.cell?_of_block (a := ⟨g, q, none⟩) (hg.block g hgl (fun e2 => e e2.symm))) hg.size ho
theorem ki_of (h : KR w 0 v (List.replicate n y)) (ht : ∀ g, v.ownBlock = some g → own g = t) : KI own w t v n y := by
  obtain ⟨a, c, e⟩ := h.shape
  rw [List.length_replicate] at e
  refine ⟨a, c, e, ?_⟩
  by_cases hn : n = 0
  · exact .inl hn
  · obtain ⟨g, cap, e2, _, hg, _⟩ := h.some (by simp; omega)
    rw [List.length_replicate] at e2
    have h2 := h
    rw [e2] at h2
    have e3 : a = some ⟨g, 0, none⟩ := by rw [e] at e2; simpa using (Value.slice.inj e2).1
    refine .inr ⟨g, e3, hg, ht g (by rw [e2]; rfl), fun q hq => ?_⟩
    exact h2.cells (by rw [List.getElem?_replicate, if_pos hq])
end

/-! ## The lists that came out, written over -/
structure Lw (own : Nat → Nat) (w : World) (pw : Nat) (vo : Value) (os : List Value) (Cs : Nat → List Kx) : Prop where
  bx : w.cell? ⟨pw, 4, none⟩ = some vo
  lt : pw < w.heap.size
  opw : own pw = 6
  ro : VR w vo os
  too : ∀ g, vo.ownBlock = some g → own g = 7
  kr : ∀ (j : Nat) v, os[j]? = some v → KR w 0 v (Cs j)
  tko : ∀ (j : Nat) v g, os[j]? = some v → v.ownBlock = some g → own g = 10 + j
theorem Wo.toLw {own : Nat → Nat} {w : World} {pw : Nat} {T : Bool → Tbl} {vo vw : Value} {os ws : List Value} {ls ms : List (List Kx)} (h : Wo own w pw T vo vw os ws ls ms) : Lw own w pw vo os (fun j => (ls[j]?).getD []) := by
  have hbx := h.box
  refine ⟨by simp [World.cell?, hbx], h.ltw, h.opw, h.ro, h.too, fun j v hj => ?_, h.tko⟩
  obtain ⟨l, hl⟩ : ∃ l, ls[j]? = some l := ⟨_, List.getElem?_eq_getElem (by rw [← h.lo]; exact (List.getElem?_eq_some_iff.mp hj).1)⟩
  rw [hl]
  exact h.ko j v l hj hl
theorem Lw.store {own : Nat → Nat} {w : World} {pw : Nat} {vo : Value} {os : List Value} {Cs : Nat → List Kx} (h : Lw own w pw vo os Cs) {j k g n cap : Nat} (hj : os[j]? = some (.slice (some ⟨g, 0, none⟩) n cap)) (hk : k < (Cs j).length) (y : Kx) :
    Lw own (w.setCells g (k * 5) (kV y)) pw vo os (fun q => if q = j then (Cs j).set k y else Cs q) := by
  have K1 : Kq (· = g) w (w.setCells g (k * 5) (kV y)) := kq_setCells _ _ _
  have ht : own g = 10 + j := h.tko j _ g hj rfl
  refine ⟨(World.cell?_of_block (a := ⟨pw, 4, none⟩) (K1.block pw h.lt (fun e => by have e' : pw = g := e; have := h.opw; rw [e'] at this; omega))).trans h.bx, Nat.lt_of_lt_of_le h.lt K1.size, h.opw, h.ro.keep K1 (fun g' hg' e => by have e' : g' = g := e; have := h.too g' hg'; rw [e'] at this; omega), h.too, fun q v hq => ?_, h.tko⟩
  by_cases e : q = j
  · subst e
    rw [if_pos rfl]
    rw [hj] at hq
    cases hq
    exact (h.kr q _ hj).setK hk y
  · rw [if_neg e]
    exact (h.kr q v hq).keep K1 (fun g' hg' e2 => by
      have e' : g' = g := e2
      have := h.tko q v g' hq hg'
      rw [e', ht] at this
      omega)

/-! ## The lists that grow -/
structure Lg (own : Nat → Nat) (w : World) (pw : Nat) (vo : Value) (os : List Value) (len : Nat → Nat) (c : Nat) (vL : Value) (VL : List Value) : Prop where
  bx : w.cell? ⟨pw, 4, none⟩ = some vo
  lt : pw < w.heap.size
  opw : own pw = 6
  ro : VR w vo os
  too : ∀ g, vo.ownBlock = some g → own g = 7
  kr : ∀ (j : Nat) v, c ≤ j → os[j]? = some v → KR w 0 v (List.replicate (len j) (mkK j))
  tko : ∀ (j : Nat) v g, c ≤ j → os[j]? = some v → v.ownBlock = some g → own g = 10 + j
  vl : VR w vL VL
  tvl : ∀ g, vL.ownBlock = some g → own g = 5
  ki : ∀ (p : Nat) u, VL[p]? = some u → ∃ n, n < 2199023255652 ∧ KI own w (10 + p / 2) u n (mkK (p / 2))
section
variable {own own' : Nat → Nat} {w w' : World} {pw : Nat} {vo vL : Value} {os VL : List Value} {len : Nat → Nat} {c : Nat} {S : Nat → Prop}
theorem Lg.keep (h : Lg own w pw vo os len c vL VL) (hk : Kq S w w') (ho : ∀ g, g < w.heap.size → own' g = own g) (t : Nat) (hS : ∀ g, S g → g < w.heap.size → own g = t) (h6 : t ≠ 6) (h7 : t ≠ 7) (h5 : t ≠ 5) (hc : ∀ j, c ≤ j → t ≠ 10 + j) (hp : ∀ p, p < VL.length → t ≠ 10 + p / 2) : Lg own' w' pw vo os len c vL VL := by
  have hne : ∀ t', t ≠ t' → ∀ g, S g → g < w.heap.size → own g ≠ t' := fun t' h1 g h2 h3 e => h1 ((hS g h2 h3).symm.trans e)
  refine ⟨(World.cell?_of_block (a := ⟨pw, 4, none⟩) (hk.block pw h.lt (fun e => hne 6 h6 pw e h.lt h.opw))).trans h.bx, Nat.lt_of_lt_of_le h.lt hk.size, (ho pw h.lt).trans h.opw, Wo.kV h.ro hk 7 h.too (hne 7 h7), fun g hg => (ho g (World.ownsRow.lt h.ro g hg).2).trans (h.too g hg), fun j v hj hv => Wo.kK (h.kr j v hj hv) hk (10 + j) (h.tko j v · hj hv) (hne _ (hc j hj)), fun j v g hj hv hg => (ho g (World.ownsRow.lt (h.kr j v hj hv) g hg).2).trans (h.tko j v g hj hv hg), Wo.kV h.vl hk 5 h.tvl (hne 5 h5), fun g hg => (ho g (World.ownsRow.lt h.vl g hg).2).trans (h.tvl g hg), fun p u hu => ?_⟩
  obtain ⟨n, hn, hki⟩ := h.ki p u hu
  exact ⟨n, hn, hki.keep hk ho (hne _ (hp p (List.getElem?_eq_some_iff.mp hu).1))⟩
theorem Lg.next (h : Lg own w pw vo os len c vL VL) : Lg own w pw vo os len (c + 1) vL VL := ⟨h.bx, h.lt, h.opw, h.ro, h.too, fun j v hj => h.kr j v (by omega), fun j v g hj => h.tko j v g (by omega), h.vl, h.tvl, h.ki⟩
theorem Lg.push {w6 : World} {v6 u1 u2 : Value} {i n1 n2 : Nat} (h : Lg own w pw vo os len c vL VL) (hg : w.grownBy w6 vL.ownBlock) (hv6 : VR w6 v6 (VL ++ [u1, u2])) (hl6 : v6.ownBlock = vL.ownBlock ∨ ∃ g, v6.ownBlock = some g ∧ w.heap.size ≤ g) (hi : VL.length = 2 * i)
    (k1 : KI own w (10 + i) u1 n1 (mkK i)) (m1 : n1 < 2199023255652) (k2 : KI own w (10 + i) u2 n2 (mkK i)) (m2 : n2 < 2199023255652) :
    Lg (fun g => if g < w.heap.size then own g else 5) w6 pw vo os len c v6 (VL ++ [u1, u2]) := by
  have ho : ∀ g, g < w.heap.size → (if g < w.heap.size then own g else 5) = own g := fun g hg => if_pos hg
  have hk : Kq (fun g => vL.ownBlock = some g) w w6 := (Kq.refl _ w).grown hg (fun g hg => .inl hg)
  have hne : ∀ t', t' ≠ 5 → ∀ g, vL.ownBlock = some g → g < w.heap.size → own g ≠ t' := fun t' h1 g h2 h3 e => h1 (e.symm.trans (h.tvl g h2))
  refine ⟨(World.cell?_of_block (a := ⟨pw, 4, none⟩) (hk.block pw h.lt (fun e => hne 6 (by omega) pw e h.lt h.opw))).trans h.bx, Nat.lt_of_lt_of_le h.lt hk.size, (ho pw h.lt).trans h.opw, Wo.kV h.ro hk 7 h.too (hne 7 (by omega)), fun g hg => (ho g (World.ownsRow.lt h.ro g hg).2).trans (h.too g hg), fun j v hj hv => Wo.kK (h.kr j v hj hv) hk (10 + j) (h.tko j v · hj hv) (hne _ (by omega)), fun j v g hj hv hg => (ho g (World.ownsRow.lt (h.kr j v hj hv) g hg).2).trans (h.tko j v g hj hv hg), hv6, fun g hg => ?_, fun p u hu => ?_⟩
  · show (if g < w.heap.size then own g else 5) = 5
    rcases hl6 with q | ⟨g', q, q2⟩
    · rw [ho g (World.ownsRow.lt h.vl g (q ▸ hg)).2]; exact h.tvl g (q ▸ hg)
    · have e2 : g' = g := Option.some.inj (q.symm.trans hg)
      rw [if_neg (by omega)]
  · rcases Nat.lt_or_ge p VL.length with q | q
    · rw [List.getElem?_append_left q] at hu
      obtain ⟨n, hn, hki⟩ := h.ki p u hu
      exact ⟨n, hn, hki.keep hk ho (hne _ (by omega))⟩
    · rw [List.getElem?_append_right q] at hu
      have hp2 := (List.getElem?_eq_some_iff.mp hu).1
      simp at hp2
      have e : p = 2 * i ∨ p = 2 * i + 1 := by omega
      rcases e with rfl | rfl
      · rw [hi, Nat.sub_self] at hu
        simp at hu
        subst hu
        rw [show 2 * i / 2 = i by omega]
        exact ⟨n1, m1, k1.keep hk ho (hne _ (by omega))⟩
      · rw [hi, show 2 * i + 1 - 2 * i = 1 by omega] at hu
        simp at hu
        subst hu
        rw [show (2 * i + 1) / 2 = i by omega]
        exact ⟨n2, m2, k2.keep hk ho (hne _ (by omega))⟩
end

end Go.Proofs.Ytnclfoljfnfglai
