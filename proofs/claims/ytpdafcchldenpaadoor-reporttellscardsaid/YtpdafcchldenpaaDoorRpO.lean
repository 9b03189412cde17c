import Derived.Test.YtpdafcchldenpaaDoorRfg
import Derived.Maps.AppendAt
namespace Go.Proofs.YtpdafcchldenpaaDoor.C
open Go.RowKit Go.Shelf
set_option linter.unusedVariables false

/-! ## lanternlaw02.ownedSpans: rows of spans, each in a block of its own -/
theorem spc_put2 : ∀ (L : List Sp) (k : Nat) (a b : Int), ((L.flatMap spc).set (k * 2) (.int .i64 a)).set (k * 2 + 1) (.int .i64 b) = (L.set k (a, b)).flatMap spc
  | [], k, a, b => by simp
  | s :: r, 0, a, b => by simp [spc]
  | s :: r, k + 1, a, b => by
    have := spc_put2 r k a b
    rw [List.flatMap_cons, List.set_cons_succ, List.flatMap_cons, ← this]
    rw [List.set_append_right _ _ (by simp [spc]; omega), List.set_append_right _ _ (by simp [spc]; omega)]
    congr 1
    simp only [spc, List.length_cons, List.length_nil]
    rw [show (k + 1) * 2 - (0 + 1 + 1) = k * 2 from by omega, show (k + 1) * 2 + 1 - (0 + 1 + 1) = k * 2 + 1 from by omega]

theorem SOwn.len2 {W : World} {base n cap : Nat} {a : Option Addr} {L : List Sp} (h : SOwn W base (.slice a n cap) L) : L.length = n := by
  obtain ⟨a', c', hv⟩ := h.shape
  simp only [Value.slice.injEq] at hv; exact hv.2.1.symm
theorem SOwn.put2 {W : World} {base g cap n k : Nat} {L : List Sp} (h : SOwn W base (.slice (some ⟨g, 0, none⟩) n cap) L) (a b : Int) : SOwn ((W.setCell ⟨g, k * 2, none⟩ (.int .i64 a)).setCell ⟨g, k * 2 + 1, none⟩ (.int .i64 b)) base (.slice (some ⟨g, 0, none⟩) n cap) (L.set k (a, b)) := by
  have hn := h.len2
  subst hn
  have h1 := (World.ownsRow.stored h (k * 2) (.int .i64 a)).1
  have h2 := (World.ownsRow.stored h1 (k * 2 + 1) (.int .i64 b)).1
  rw [spc_put2] at h2
  unfold SOwn
  rw [List.length_set]
  exact h2
theorem SOwn.cells2 {W : World} {base g cap n k : Nat} {L : List Sp} {p : Sp} (h : SOwn W base (.slice (some ⟨g, 0, none⟩) n cap) L) (hk : L[k]? = some p) : W.cell? ⟨g, k * 2, none⟩ = some (.int .i64 p.1) ∧ W.cell? ⟨g, k * 2 + 1, none⟩ = some (.int .i64 p.2) ∧ W.frozen? ⟨g, k * 2, none⟩ = false ∧ W.frozen? ⟨g, k * 2 + 1, none⟩ = false := by
  have hn := h.len2
  subst hn
  have hkl : k < L.length := (List.getElem?_eq_some_iff.mp hk).1
  obtain ⟨q1, q2⟩ := spc_get L k p hk
  exact ⟨(World.ownsRow.cellAt h _ (by omega)).trans q1, (World.ownsRow.cellAt h _ (by omega)).trans q2, World.ownsRow.frozenAt h _, World.ownsRow.frozenAt h _⟩
theorem SOwn.some2 {w : World} {base : Nat} {v : Value} {l : List Sp} (h : SOwn w base v l) (hn : 0 < l.length) : ∃ g cap, v = .slice (some ⟨g, 0, none⟩) l.length cap := own_some h hn
theorem SOwn.blk2 {w w' : World} {base : Nat} {v : Value} {l : List Sp} (h : SOwn w base v l) (hb : ∀ g, v.ownBlock = some g → w'.heap[g]? = w.heap[g]?) : SOwn w' base v l := by
  obtain ⟨h1, h2⟩ := h
  refine ⟨h1, ?_⟩
  rcases h2 with h2 | ⟨g, cap, cur, rfl, hg, hh, r⟩
  · exact .inl h2
  · exact .inr ⟨g, cap, cur, rfl, hg, (hb g rfl).trans hh, r⟩

/-- What is nobody's stays. -/
structure Kt (own : Nat → Nat) (w w' : World) : Prop where
  os : w'.os = w.os
  tape : w'.tape = w.tape
  output : w'.output = w.output
  size : w.heap.size ≤ w'.heap.size
  block : ∀ g, g < w.heap.size → own g = 0 → w'.heap[g]? = w.heap[g]?
theorem Kt.refl (own : Nat → Nat) (w : World) : Kt own w w := ⟨rfl, rfl, rfl, Nat.le_refl _, fun _ _ _ => rfl⟩
theorem Kt.grown {own : Nat → Nat} {w0 w w' : World} {row : Option Nat} (h : Kt own w0 w) (hg : w.grownBy w' row) (hr : ∀ k, row = some k → k < w0.heap.size → own k ≠ 0) : Kt own w0 w' :=
  ⟨hg.os.trans h.os, hg.tape.trans h.tape, hg.output.trans h.output, Nat.le_trans h.size hg.size, fun g hgl h0 => (hg.block g (Nat.lt_of_lt_of_le hgl h.size) (fun e => hr g e.symm hgl h0)).trans (h.block g hgl h0)⟩
def mkS (i : Nat) : Sp := (-1 - (i : Int), -1 - (i : Int))
/-- Rows of spans: their values, what they hold, whose their blocks are. -/
structure Lo (own : Nat → Nat) (w : World) (os : List Value) (Cs : Nat → List Sp) (c : Nat) : Prop where
  kr : ∀ (j : Nat) v, c ≤ j → os[j]? = some v → SOwn w 0 v (Cs j)
  tk : ∀ (j : Nat) v g, c ≤ j → os[j]? = some v → v.ownBlock = some g → own g = 10 + j
section
variable {own own' : Nat → Nat} {w w' : World} {os : List Value} {Cs : Nat → List Sp} {c : Nat}
theorem Lo.keep {row : Option Nat} {t : Nat} (h : Lo own w os Cs c) (hg : w.grownBy w' row) (ho : ∀ g, g < w.heap.size → own' g = own g) (hr : ∀ g, row = some g → own g = t) (hc : ∀ j, c ≤ j → t ≠ 10 + j) : Lo own' w' os Cs c :=
  ⟨fun j v hj hv => (h.kr j v hj hv).blk2 (fun g hgb => hg.block g ((h.kr j v hj hv).lt g hgb).2 (fun e => hc j hj ((hr g e.symm).symm.trans (h.tk j v g hj hv hgb)))), fun j v g hj hv hgb => (ho g ((h.kr j v hj hv).lt g hgb).2).trans (h.tk j v g hj hv hgb)⟩
theorem Lo.store (h : Lo own w os Cs 0) {j k g n cap : Nat} (hj : os[j]? = some (.slice (some ⟨g, 0, none⟩) n cap)) (a b : Int) :
    Lo own ((w.setCell ⟨g, k * 2, none⟩ (.int .i64 a)).setCell ⟨g, k * 2 + 1, none⟩ (.int .i64 b)) os (fun q => if q = j then (Cs j).set k (a, b) else Cs q) 0 := by
  have hg : w.grownBy ((w.setCell ⟨g, k * 2, none⟩ (.int .i64 a)).setCell ⟨g, k * 2 + 1, none⟩ (.int .i64 b)) (some g) := grown_trans (grown_set _ _ _ _) (grown_set _ _ _ _)
  have ht : own g = 10 + j := h.tk j _ g (Nat.zero_le _) hj rfl
  refine ⟨fun q v hq hv => ?_, h.tk⟩
  by_cases e : q = j
  · subst e
    rw [if_pos rfl]
    rw [hj] at hv
    cases hv
    exact (h.kr q _ hq hj).put2 a b
  · rw [if_neg e]
    exact (h.kr q v hq hv).blk2 (fun g' hg' => hg.block g' ((h.kr q v hq hv).lt g' hg').2 (fun e2 => by
      have e3 : g' = g := Option.some.inj e2
      have := h.tk q v g' hq hv hg'
      rw [e3, ht] at this
      omega))
theorem Lo.next (h : Lo own w os Cs c) : Lo own w os Cs (c + 1) := ⟨fun j v hj => h.kr j v (by omega), fun j v g hj => h.tk j v g (by omega)⟩
end
/-- The row of what has grown. -/
structure Ga (own : Nat → Nat) (w : World) (vL : Value) (VL : List Value) (len : Nat → Nat) : Prop where
  vl : w.ownsRow 0 26 1 vL VL.length VL
  tvl : ∀ g, vL.ownBlock = some g → own g = 5
  kr : ∀ (j : Nat) v, VL[j]? = some v → SOwn w 0 v (List.replicate (len j + 4) (mkS j))
  tk : ∀ (j : Nat) v g, VL[j]? = some v → v.ownBlock = some g → own g = 10 + j
section
variable {own own' : Nat → Nat} {w w' : World} {vL : Value} {VL : List Value} {len : Nat → Nat}
theorem own_blk2 {base n size : Nat} {e : TypeId} {v : Value} {xs : List Value} (h : w.ownsRow base e size v n xs) (hb : ∀ g, v.ownBlock = some g → w'.heap[g]? = w.heap[g]?) : w'.ownsRow base e size v n xs := by
  obtain ⟨h1, h2⟩ := h
  refine ⟨h1, ?_⟩
  rcases h2 with h2 | ⟨g, cap, cur, rfl, hg, hh, r⟩
  · exact .inl h2
  · exact .inr ⟨g, cap, cur, rfl, hg, (hb g rfl).trans hh, r⟩
theorem Ga.keep {row : Option Nat} {t : Nat} (h : Ga own w vL VL len) (hg : w.grownBy w' row) (ho : ∀ g, g < w.heap.size → own' g = own g) (hr : ∀ g, row = some g → own g = t) (h5 : t ≠ 5) (hc : ∀ j, j < VL.length → t ≠ 10 + j) : Ga own' w' vL VL len :=
  ⟨own_blk2 h.vl (fun g hgb => hg.block g (World.ownsRow.lt h.vl g hgb).2 (fun e => h5 ((hr g e.symm).symm.trans (h.tvl g hgb)))), fun g hgb => (ho g (World.ownsRow.lt h.vl g hgb).2).trans (h.tvl g hgb),
    fun j v hv => (h.kr j v hv).blk2 (fun g hgb => hg.block g ((h.kr j v hv).lt g hgb).2 (fun e => hc j (List.getElem?_eq_some_iff.mp hv).1 ((hr g e.symm).symm.trans (h.tk j v g hv hgb)))), fun j v g hv hgb => (ho g ((h.kr j v hv).lt g hgb).2).trans (h.tk j v g hv hgb)⟩
theorem Ga.push {w6 : World} {v6 u : Value} (h : Ga own w vL VL len) (hg : w.grownBy w6 vL.ownBlock) (hv6 : w6.ownsRow 0 26 1 v6 (VL.length + 1) (VL ++ [u])) (hl6 : v6.ownBlock = vL.ownBlock ∨ ∃ g, v6.ownBlock = some g ∧ w.heap.size ≤ g)
    (hu : SOwn w 0 u (List.replicate (len VL.length + 4) (mkS VL.length))) (ht : ∀ g, u.ownBlock = some g → own g = 10 + VL.length) : Ga (fun g => if g < w.heap.size then own g else 5) w6 v6 (VL ++ [u]) len := by
  have ho : ∀ g, g < w.heap.size → (if g < w.heap.size then own g else 5) = own g := fun g hg => if_pos hg
  refine ⟨by rw [List.length_append]; exact hv6, fun g hgb => ?_, fun j v hv => ?_, fun j v g hv hgb => ?_⟩
  · show (if g < w.heap.size then own g else 5) = 5
    rcases hl6 with q | ⟨g', q, q2⟩
    · rw [ho g (World.ownsRow.lt h.vl g (q ▸ hgb)).2]; exact h.tvl g (q ▸ hgb)
    · have e2 : g' = g := Option.some.inj (q.symm.trans hgb)
      rw [if_neg (by omega)]
  · rcases Nat.lt_or_ge j VL.length with q | q
    · rw [List.getElem?_append_left q] at hv
      exact (h.kr j v hv).blk2 (fun g hgb => hg.block g ((h.kr j v hv).lt g hgb).2 (fun e => by have := h.tvl g e.symm; have := h.tk j v g hv hgb; omega))
    · have e : j = VL.length := by
        have := (List.getElem?_eq_some_iff.mp hv).1
        simp at this; omega
      subst e
      rw [List.getElem?_append_right (Nat.le_refl _)] at hv
      simp at hv
      subst hv
      exact hu.blk2 (fun g hgb => hg.block g (hu.lt g hgb).2 (fun e => by have := h.tvl g e.symm; have := ht g hgb; omega))
  · rcases Nat.lt_or_ge j VL.length with q | q
    · rw [List.getElem?_append_left q] at hv
      exact (ho g ((h.kr j v hv).lt g hgb).2).trans (h.tk j v g hv hgb)
    · have e : j = VL.length := by
        have := (List.getElem?_eq_some_iff.mp hv).1
        simp at this; omega
      subst e
      rw [List.getElem?_append_right (Nat.le_refl _)] at hv
      simp at hv
      subst hv
      exact (ho g (hu.lt g hgb).2).trans (ht g hgb)
end
theorem all_marksS {l : List Sp} {n : Nat} {y : Sp} (hl : l.length = n) (h : ∀ q, q < n → l[q]? = some y) : l = List.replicate n y := by
  apply List.ext_getElem?
  intro q
  rw [List.getElem?_replicate]
  by_cases e : q < n
  · rw [if_pos e]; exact h q e
  · rw [if_neg e]; exact List.getElem?_eq_none (by omega)

end Go.Proofs.YtpdafcchldenpaaDoor.C

namespace Go.Proofs.YtpdafcchldenpaaDoor.C
open Go.RowKit Go.Shelf
set_option linter.unusedVariables false

theorem Tryd.info_spans5 : (Tryd.prog.info? 26).map (fun i => (i.zero, i.size, i.bytes)) = some (some (.slice none 0 0), 1, 24) := by kernel_rfl
theorem one_new5 (w : World) (a : Value) (t : TypeId) : ∀ j u, [a][j]? = some u → (w.alloc (.cells #[a] t)).cell? ((⟨w.heap.size, 0, none⟩ : Addr).add j) = some u := by
  intro j u hj
  match j, hj with
  | 0, hj => simp at hj; subst hj; simp [Addr.add]
theorem SOwn.app3 {w : World} {base : Nat} {v : Value} {l : List Sp} {p : Sp} (h : w.ownsRow base 40 2 v (l.length + 1) (l.flatMap spc ++ [.int .i64 p.1, .int .i64 p.2])) : SOwn w base v (l ++ [p]) := by
  unfold SOwn
  rw [List.length_append, List.flatMap_append]
  exact h
/-- Where the rows are named. -/
def Nam (own : Nat → Nat) (w : World) (al : Option Addr) (os : List Value) : Prop := os = [] ∨ ∃ gl off, al = some ⟨gl, off, none⟩ ∧ own gl = 0 ∧ ∀ (i : Nat) v, os[i]? = some v → w.cell? ⟨gl, off + i, none⟩ = some v
theorem Nam.at {own : Nat → Nat} {w wr : World} {al : Option Addr} {os : List Value} (h : Nam own w al os) (hk : Kt own w wr) {i : Nat} {v : Value} (hi : os[i]? = some v) : ∃ gl off, al = some ⟨gl, off, none⟩ ∧ wr.cell? ⟨gl, off + i, none⟩ = some v := by
  rcases h with rfl | ⟨gl, off, ha, h0, hc⟩
  · simp at hi
  · have h1 := hc i v hi
    have hlt : gl < w.heap.size := World.block_lt_of_cell? w ⟨gl, off + i, none⟩ h1
    exact ⟨gl, off, ha, (World.cell?_of_block (a := ⟨gl, off + i, none⟩) (hk.block gl hlt h0)).trans h1⟩

end Go.Proofs.YtpdafcchldenpaaDoor.C
