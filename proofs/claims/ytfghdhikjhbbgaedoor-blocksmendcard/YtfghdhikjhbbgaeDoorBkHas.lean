import Derived.Test.YtfghdhikjhbbgaeDoorBkChk
import Derived.ArgAppend
import Derived.Below
namespace Go.Proofs.YtfghdhikjhbbgaeDoor.M
open Go.RowKit

/-- A row of pieces: its block, if it has one, how many it holds, and room for how many. -/
structure Rw where
  blk : Option Nat
  n : Nat
  cap : Nat

def adr (r : Rw) : Option Addr := r.blk.map fun g => ⟨g, 0, none⟩

/-- The five cells of a mark. -/
def mk5 (k : IntKind) (c : Int) : List Value := [.int k c, .int k 0, .int k 0, .int k 0, .int k 0]
def mks (k : IntKind) (c : Int) (n : Nat) : List Value := (List.replicate n (mk5 k c)).flatten
theorem mks_len (k : IntKind) (c : Int) (n : Nat) : (mks k c n).length = n * 5 := by simp [mks, mk5]
theorem mks_succ (k : IntKind) (c : Int) (n : Nat) : mks k c n ++ mk5 k c = mks k c (n + 1) := by
  simp [mks, List.replicate_succ']
theorem mk5_lt {k : IntKind} {c : Int} {q : Nat} {u : Value} (h : (mk5 k c)[q]? = some u) : q < 5 := by
  have := (List.getElem?_eq_some_iff.mp h).1
  simpa [mk5] using this
theorem mks_get {k : IntKind} {c : Int} {n j q : Nat} (hj : j < n) (hq : q < 5) : (mks k c n)[j * 5 + q]? = (mk5 k c)[q]? := by
  induction n generalizing j with
  | zero => omega
  | succ n ih =>
    have e : mks k c (n + 1) = mk5 k c ++ mks k c n := by simp [mks, List.replicate_succ]
    rw [e]
    cases j with
    | zero => rw [List.getElem?_append_left (by simp [mk5]; omega)]; congr 1; omega
    | succ j =>
      rw [List.getElem?_append_right (by simp [mk5]; omega), show (j + 1) * 5 + q - (mk5 k c).length = j * 5 + q from by simp [mk5]; omega]
      exact ih (by omega)
theorem mk5_one (k : IntKind) (c : Int) : ∀ u ∈ mk5 k c, u.oneCell' = true := by
  intro u hu
  simp only [mk5, List.mem_cons, List.not_mem_nil, or_false] at hu
  rcases hu with rfl | rfl | rfl | rfl | rfl <;> rfl

/-- In its block lie so many marks c at the beginning (where there is none: it is empty). -/
def Has (W : World) (t : TypeId) (k : IntKind) (r : Rw) (c : Int) (m : Nat) : Prop :=
  (r.blk = none ∧ r.n = 0 ∧ r.cap = 0) ∨ ∃ g cur, r.blk = some g ∧ W.heap[g]? = some (.cells cur t (0, 0)) ∧ cur.size = r.cap * 5 ∧ r.cap ≤ maxLen ∧ r.n ≤ r.cap ∧ ∀ j, j < m → ∀ q u, (mk5 k c)[q]? = some u → cur[j * 5 + q]? = some u

theorem Has.mono {W : World} {t : TypeId} {k : IntKind} {r : Rw} {c : Int} {m m' : Nat} (h : Has W t k r c m) (hm : m' ≤ m) : Has W t k r c m' := by
  rcases h with h | ⟨g, cur, h1, h2, h3, h4, h5, h6⟩
  · exact .inl h
  · exact .inr ⟨g, cur, h1, h2, h3, h4, h5, fun j hj => h6 j (by omega)⟩

theorem Has.zero {W : World} {t : TypeId} {k : IntKind} {r : Rw} {c c' : Int} {m : Nat} (h : Has W t k r c m) : Has W t k r c' 0 := by
  rcases h with h | ⟨g, cur, h1, h2, h3, h4, h5, h6⟩
  · exact .inl h
  · exact .inr ⟨g, cur, h1, h2, h3, h4, h5, fun j hj => by omega⟩

theorem Has.keep {W W' : World} {t : TypeId} {k : IntKind} {r : Rw} {c : Int} {m : Nat} (h : Has W t k r c m) (e : ∀ g, r.blk = some g → g < W.heap.size → W'.heap[g]? = W.heap[g]?) : Has W' t k r c m := by
  rcases h with h | ⟨g, cur, h1, h2, h3, h4, h5, h6⟩
  · exact .inl h
  · refine .inr ⟨g, cur, h1, ?_, h3, h4, h5, h6⟩
    have hg : g < W.heap.size := by
      rcases Nat.lt_or_ge g W.heap.size with q | q
      · exact q
      · rw [Array.getElem?_eq_none q] at h2; cases h2
    rw [e g h1 hg]; exact h2

theorem Has.lt {W : World} {t : TypeId} {k : IntKind} {r : Rw} {c : Int} {m g : Nat} (h : Has W t k r c m) (hg : r.blk = some g) : g < W.heap.size := by
  rcases h with ⟨h, _⟩ | ⟨g', cur, h1, h2, _⟩
  · rw [h] at hg; cases hg
  · rw [h1] at hg
    simp only [Option.some.injEq] at hg
    subst hg
    rcases Nat.lt_or_ge g' W.heap.size with q | q
    · exact q
    · rw [Array.getElem?_eq_none q] at h2; cases h2

theorem Has.size {W : World} {t : TypeId} {k : IntKind} {r : Rw} {c : Int} {m : Nat} (h : Has W t k r c m) : r.n ≤ r.cap ∧ r.cap ≤ maxLen := by
  rcases h with ⟨_, h, h'⟩ | ⟨g', cur, h1, h2, h3, h4, h5, _⟩
  · unfold maxLen; omega
  · exact ⟨h5, h4⟩

theorem Has.cell {W : World} {t : TypeId} {k : IntKind} {r : Rw} {c : Int} {m : Nat} (h : Has W t k r c m) {j : Nat} (hj : j < m) (hn : 0 < r.n) : ∃ g, adr r = some ⟨g, 0, none⟩ ∧ r.blk = some g ∧ ∀ q u, (mk5 k c)[q]? = some u → W.cell? ⟨g, j * 5 + q, none⟩ = some u := by
  rcases h with ⟨_, h, _⟩ | ⟨g, cur, h1, h2, h3, h4, h5, h6⟩
  · omega
  · exact ⟨g, by simp [adr, h1], h1, fun q u hu => by simp [World.cell?, h2, h6 j hj q u hu]⟩

/-- Some cells below the room. -/
theorem Has.any {W : World} {t : TypeId} {k : IntKind} {r : Rw} {c : Int} {m : Nat} (h : Has W t k r c m) {j : Nat} (hj : j < r.n) : ∃ g, adr r = some ⟨g, 0, none⟩ ∧ r.blk = some g ∧ (∀ q, q < 5 → ∃ v, W.cell? ⟨g, j * 5 + q, none⟩ = some v) ∧ ∀ q, W.frozen? ⟨g, q, none⟩ = false := by
  rcases h with ⟨_, h, _⟩ | ⟨g, cur, h1, h2, h3, h4, h5, h6⟩
  · omega
  · exact ⟨g, by simp [adr, h1], h1, fun q hq => ⟨cur[j * 5 + q]'(by omega), by simp [World.cell?, h2, Array.getElem?_eq_getElem (show j * 5 + q < cur.size by omega)]⟩, fun q => by simp [World.frozen?, h2]⟩

/-- A mark is stored. -/
def st5 (W : World) (g j : Nat) (k : IntKind) (c : Int) : World := ((((W.setCell ⟨g, j * 5, none⟩ (.int k c)).setCell ⟨g, j * 5 + 1, none⟩ (.int k 0)).setCell ⟨g, j * 5 + 2, none⟩ (.int k 0)).setCell ⟨g, j * 5 + 3, none⟩ (.int k 0)).setCell ⟨g, j * 5 + 4, none⟩ (.int k 0)
theorem set_get (cur : Array Value) (a b : Nat) (v : Value) (h : a < cur.size) : (cur.setIfInBounds a v)[b]? = if a = b then some v else cur[b]? := by
  rw [Array.getElem?_setIfInBounds]
  split
  · first | rfl | rw [if_pos (by omega)]
  · rfl
theorem add0 (g j : Nat) : (⟨g, 0, none⟩ : Addr).add j = ⟨g, j, none⟩ := by unfold Addr.add; split <;> simp_all
theorem heap_set {W : World} {g i : Nat} {cur : Array Value} {t : TypeId} {v : Value} (h : W.heap[g]? = some (.cells cur t (0, 0))) : (W.setCell ⟨g, i, none⟩ v).heap[g]? = some (.cells (cur.setIfInBounds i v) t (0, 0)) := by
  simp [World.setCell, Array.getElem?_modify, h]
theorem Has.store {W : World} {t : TypeId} {k : IntKind} {r : Rw} {c : Int} {m g : Nat} (h : Has W t k r c m) (hg : r.blk = some g) (hm : m < r.cap) : Has (st5 W g m k c) t k r c (m + 1) := by
  rcases h with ⟨h, _⟩ | ⟨g', cur, h1, h2, h3, h4, h5, h6⟩
  · rw [h] at hg; cases hg
  · rw [h1] at hg
    simp only [Option.some.injEq] at hg
    subst hg
    have e1 := heap_set (i := m * 5) (v := .int k c) h2
    have e2 := heap_set (i := m * 5 + 1) (v := .int k 0) e1
    have e3 := heap_set (i := m * 5 + 2) (v := .int k 0) e2
    have e4 := heap_set (i := m * 5 + 3) (v := .int k 0) e3
    have e5 := heap_set (i := m * 5 + 4) (v := .int k 0) e4
    refine .inr ⟨g', _, h1, e5, by simpa using h3, h4, h5, ?_⟩
    intro j hj q u hu
    have hq := mk5_lt hu
    rw [set_get _ _ _ _ (by simp; omega), set_get _ _ _ _ (by simp; omega), set_get _ _ _ _ (by simp; omega), set_get _ _ _ _ (by simp; omega), set_get _ _ _ _ (by omega)]
    by_cases hjm : j = m
    · subst hjm
      match q, hq, hu with
      | 0, _, hu => simp [mk5] at hu; simp [hu]
      | 1, _, hu => simp [mk5] at hu; simp [hu]
      | 2, _, hu => simp [mk5] at hu; simp [hu]
      | 3, _, hu => simp [mk5] at hu; simp [hu]
      | 4, _, hu => simp [mk5] at hu; simp [hu]
    · rw [if_neg (by omega), if_neg (by omega), if_neg (by omega), if_neg (by omega), if_neg (by omega)]
      exact h6 j (by omega) q u hu

theorem has_own {W : World} {base : Nat} {t : TypeId} {k : IntKind} {v : Value} {n : Nat} {c : Int} (hpos : 0 < n) (h : W.ownsRow base t 5 v n (mks k c n)) :
    ∃ g cap, v = .slice (some ⟨g, 0, none⟩) n cap ∧ base ≤ g ∧ Has W t k ⟨some g, n, cap⟩ c n := by
  obtain ⟨_, ⟨_, h0⟩ | ⟨g, cap, cur, rfl, hb, hg, h1, h2, h3, h4⟩⟩ := h
  · omega
  · refine ⟨g, cap, rfl, hb, .inr ⟨g, cur, rfl, hg, h3, h2, h1, fun j hj q u hu => ?_⟩⟩
    have hq := mk5_lt hu
    have e : (cur.toList.take (n * 5))[j * 5 + q]? = (mks k c n)[j * 5 + q]? := by rw [h4]
    rw [List.getElem?_take, if_pos (by omega), mks_get hj hq, hu] at e
    simpa using e

theorem own_has {W : World} {t : TypeId} {k : IntKind} {c : Int} {r : Rw} (h : Has W t k r c r.n) {g : Nat} (hg : r.blk = some g) : W.ownsRow g t 5 (.slice (some ⟨g, 0, none⟩) r.n r.cap) r.n (mks k c r.n) := by
  rcases h with ⟨h, _⟩ | ⟨g', cur, h1, h2, h3, h4, h5, h6⟩
  · rw [h] at hg; cases hg
  · rw [h1] at hg
    simp only [Option.some.injEq] at hg
    subst hg
    refine ⟨mks_len _ _ _, .inr ⟨g', r.cap, cur, rfl, Nat.le_refl _, h2, h5, h4, h3, ?_⟩⟩
    apply List.ext_getElem?
    intro j
    rw [List.getElem?_take]
    by_cases hj : j < r.n * 5
    · rw [if_pos hj]
      have e : j = j / 5 * 5 + j % 5 := by omega
      have hq : j % 5 < 5 := by omega
      rw [e, mks_get (by omega) hq]
      have hu : ∃ u, (mk5 k c)[j % 5]? = some u := ⟨_, List.getElem?_eq_getElem (by simp [mk5]; omega)⟩
      obtain ⟨u, hu⟩ := hu
      rw [hu]
      have := h6 (j / 5) (by omega) (j % 5) u hu
      simpa using this
    · rw [if_neg hj, List.getElem?_eq_none (by rw [mks_len]; omega)]

/-- A MARK PUT BEHIND MARKS: in place, or in a new block; whatever shares the block keeps its marks. -/
theorem append_mark {P : Program} (w : World) {ops : Array Oper} {rest : List Oper} {o : Oper} {a : Act} {Q : Exit → Act → World → Prop} (hgd : o.guard = none) (s x : Operand) (ts : TypeId)
    (ho : o.op = .call { callee := .builtin .append, args := #[s, x], argTypes := #[ts, ts] })
    (t : TypeId) (i : TypeInfo) (z : Value) (bytes : Nat) (ht : P.underlying ts = some (.slice t)) (hi : P.info? t = some i) (hz : i.zero = some z)
    (hsize : i.size = 5) (hby : i.bytes = bytes) (hzs : z.cells.size = 5)
    (k : IntKind) (c : Int) (r : Rw) (hs : a.eval s = .slice (adr r) r.n r.cap) (hr : Has w t k r c r.n)
    (ad : Addr) (cc : Nat) (hx : a.eval x = .slice (some ad) 1 cc) (hnews : ∀ j u, (mk5 k c)[j]? = some u → w.cell? (ad.add j) = some u)
    (hbytes : (r.n + 1) * bytes ≤ 140737488355328) (h63 : r.n + 1 ≤ maxLen)
    (h : ∀ (g' cap' : Nat) w', Has w' t k ⟨some g', r.n + 1, cap'⟩ c (r.n + 1) → (r.blk = some g' ∨ w.heap.size ≤ g') → w.grownBy w' r.blk → (∀ r' M, r'.blk = r.blk → M ≤ r.n + 1 → Has w t k r' c M → Has w' t k r' c M) →
      wpList P ops Q rest (a.put o.dst (.slice (some ⟨g', 0, none⟩) (r.n + 1) cap')) w') : wpList P ops Q (o :: rest) a w := by
  by_cases hfit : r.n + 1 ≤ r.cap
  · have hb : ∃ g, r.blk = some g := by
      rcases hr with ⟨_, h1, h2⟩ | ⟨g, _, h1, _⟩
      · omega
      · exact ⟨g, h1⟩
    obtain ⟨g, hb⟩ := hb
    have hown := own_has hr hb
    have hs' : a.eval s = .slice (some ⟨g, 0, none⟩) r.n r.cap := by rw [hs]; simp [adr, hb]
    refine wpList_append_fits w hgd s x ts ho g t i 5 ht hi hsize g r.n r.cap _ hs' hown ad 1 cc (mk5 k c) hx (by simp [mk5]) hnews (mk5_one k c) hfit ?_
    intro w' hown' hgrow
    rw [mks_succ] at hown'
    obtain ⟨g', cap', hv, _, hh⟩ := has_own (by omega) hown'
    simp only [Value.slice.injEq, Option.some.injEq, Addr.mk.injEq, and_true, true_and] at hv
    obtain ⟨rfl, rfl⟩ := hv
    refine h g r.cap w' hh (.inl hb) (by rw [hb]; exact hgrow) ?_
    intro r' M hr' hM hhas
    rcases hhas with ⟨h0, _⟩ | ⟨g2, cur2, e1, e2, e3, e4, e5, e6⟩
    · rw [hr', hb] at h0; cases h0
    · rcases hh with ⟨h0, _⟩ | ⟨g3, cur3, f1, f2, f3, f4, f5, f6⟩
      · cases h0
      · rw [hr', hb] at e1
        simp only [Option.some.injEq] at e1 f1
        subst e1; subst f1
        have hcap : r'.cap = r.cap := by
          rcases hr with ⟨h0, _⟩ | ⟨g4, cur4, k1, k2, k3, _⟩
          · rw [h0] at hb; cases hb
          · rw [hb] at k1
            simp only [Option.some.injEq] at k1
            subst k1
            rw [e2] at k2
            simp only [Option.some.injEq, Obj.cells.injEq] at k2
            rw [k2.1, k3] at e3
            omega
        exact .inr ⟨g, cur3, by rw [hr', hb], f2, by rw [f3, hcap], e4, e5, fun j hj => f6 j (by omega)⟩
  · refine wpList_append_grows w hgd s x ts ho t i z 5 bytes ht hi hz hsize hby hzs (by decide) (adr r) r.n r.cap (mks k c r.n) hs ?_ (mks_len _ _ _) ?_ ad 1 cc (mk5 k c) hx (by simp [mk5]) hnews (mk5_one k c) (by omega) h63 hbytes ?_
    · intro h0
      rcases hr with ⟨_, h1, h2⟩ | ⟨g, _, h1, _⟩
      · exact ⟨h1, h2⟩
      · simp [adr, h1] at h0
    · intro b hb j u hj
      have hjn : j < r.n * 5 := by have := (List.getElem?_eq_some_iff.mp hj).1; rwa [mks_len] at this
      obtain ⟨g, e1, _, e2⟩ := hr.cell (j := j / 5) (by omega) (by omega)
      rw [hb] at e1
      simp only [Option.some.injEq] at e1
      have e : j = j / 5 * 5 + j % 5 := by omega
      rw [e, mks_get (by omega) (by omega)] at hj
      have := e2 (j % 5) u hj
      rw [← e] at this
      rw [e1, add0]
      exact this
    · intro v' w' hown' hgrow
      rw [mks_succ] at hown'
      obtain ⟨g', cap', rfl, hg', hh⟩ := has_own (by omega) hown'
      refine h g' cap' w' hh (.inr hg') ⟨hgrow.os, hgrow.tape, hgrow.output, hgrow.size, fun j hj _ => hgrow.block j hj (by simp)⟩ ?_
      intro r' M _ _ hhas
      exact hhas.keep fun g _ hg => hgrow.block g hg (by simp)

end Go.Proofs.YtfghdhikjhbbgaeDoor.M

namespace Go.Proofs.YtfghdhikjhbbgaeDoor.M
open Go.RowKit

def sv (r : Rw) : Value := .slice (adr r) r.n r.cap

/-- What is known of the rows that are handed in: R of them, in block bR, each in a block of its own from B on. -/
structure Given (w : World) (t : TypeId) (k : IntKind) (R bR B : Nat) (rw : Nat → Rw) : Prop where
  cells : ∀ i, i < R → w.cell? ⟨bR, i, none⟩ = some (sv (rw i))
  has : ∀ i, i < R → ∃ c, Has w t k (rw i) c 0
  apart : ∀ i j, i < R → j < R → i ≠ j → ∀ g, (rw i).blk = some g → (rw j).blk ≠ some g
  notR : ∀ i, i < R → (rw i).blk ≠ some bR
  low : ∀ i, i < R → ∀ g, (rw i).blk = some g → B ≤ g
  top : B ≤ w.heap.size
  lt : bR < w.heap.size

variable {w W W' : World} {t tt : TypeId} {k : IntKind} {R bR B i j D H : Nat} {rw : Nat → Rw} {vl : Value} {l : List Rw}

/-- The first i rows are full of their marks. -/
structure Fill (w W : World) (t : TypeId) (k : IntKind) (R bR B : Nat) (rw : Nat → Rw) (i : Nat) : Prop where
  rows : W.heap[bR]? = w.heap[bR]?
  below : Below B w W
  has : ∀ r, r < R → Has W t k (rw r) (-1 - (r : Int)) (if r < i then (rw r).n else 0)

/-- Of row i so many cells besides. -/
structure Filling (w W : World) (t : TypeId) (k : IntKind) (R bR B : Nat) (rw : Nat → Rw) (i j : Nat) : Prop where
  rows : W.heap[bR]? = w.heap[bR]?
  below : Below B w W
  here : Has W t k (rw i) (-1 - (i : Int)) j
  has : ∀ r, r < R → r ≠ i → Has W t k (rw r) (-1 - (r : Int)) (if r < i then (rw r).n else 0)

theorem Given.fill (h : Given w t k R bR B rw) : Fill w w t k R bR B rw 0 :=
  ⟨rfl, Below.refl _ _, fun r hr => by obtain ⟨c, hc⟩ := h.has r hr; simpa using hc.zero⟩

theorem Fill.filling (h : Fill w W t k R bR B rw i) (hi : i < R) : Filling w W t k R bR B rw i 0 :=
  ⟨h.rows, h.below, by have := h.has i hi; simpa using this, fun r hr _ => h.has r hr⟩

theorem Filling.fill (h : Filling w W t k R bR B rw i (rw i).n) : Fill w W t k R bR B rw (i + 1) := by
  refine ⟨h.rows, h.below, fun r hr => ?_⟩
  by_cases e : r = i
  · subst e; simpa using h.here
  · have := h.has r hr e
    by_cases hl : r < i
    · rw [if_pos hl] at this; rw [if_pos (by omega)]; exact this
    · rw [if_neg hl] at this; rw [if_neg (by omega)]; exact this

theorem heap_st5 (W : World) (g j m : Nat) (k : IntKind) (c : Int) (h : m ≠ g) : (st5 W g j k c).heap[m]? = W.heap[m]? := by
  unfold st5
  rw [Below.heap_setCell _ _ _ _ h, Below.heap_setCell _ _ _ _ h, Below.heap_setCell _ _ _ _ h, Below.heap_setCell _ _ _ _ h, Below.heap_setCell _ _ _ _ h]
theorem Filling.step (hg : Given w t k R bR B rw) (h : Filling w W t k R bR B rw i j) (hi : i < R) (hj : j < (rw i).n) {g : Nat} (hb : (rw i).blk = some g) :
    Filling w (st5 W g j k (-1 - (i : Int))) t k R bR B rw i (j + 1) := by
  have hne : g ≠ bR := fun e => hg.notR i hi (by rw [hb, e])
  have hlow := hg.low i hi g hb
  refine ⟨?_, ((((h.below.setCell hlow _).setCell hlow _).setCell hlow _).setCell hlow _).setCell hlow _, h.here.store hb (by have := h.here.size; omega), fun r hr hri => ?_⟩
  · rw [heap_st5 _ _ _ _ _ _ (fun e => hne e.symm)]; exact h.rows
  · refine (h.has r hr hri).keep fun g' hg' _ => heap_st5 _ _ _ _ _ _ ?_
    intro e
    exact hg.apart i r hi hr (fun e' => hri e'.symm) g hb (by rw [hg', e])

theorem Filling.cells (hg : Given w t k R bR B rw) (h : Filling w W t k R bR B rw i j) {r : Nat} (hr : r < R) : W.cell? ⟨bR, r, none⟩ = some (sv (rw r)) :=
  (World.cell?_of_block (w := w) (a := ⟨bR, r, none⟩) h.rows).trans (hg.cells r hr)

theorem Fill.cells (hg : Given w t k R bR B rw) (h : Fill w W t k R bR B rw i) {r : Nat} (hr : r < R) : W.cell? ⟨bR, r, none⟩ = some (sv (rw r)) :=
  (World.cell?_of_block (w := w) (a := ⟨bR, r, none⟩) h.rows).trans (hg.cells r hr)

/-- The rows that were grown so far: D entries for each row; H: the first block that came later than the rows. -/
structure Long (w W : World) (t tt : TypeId) (k : IntKind) (R bR B D H : Nat) (rw : Nat → Rw) (i : Nat) (vl : Value) (l : List Rw) : Prop where
  rows : W.heap[bR]? = w.heap[bR]?
  below : Below B w W
  has : ∀ r, r < R → Has W t k (rw r) (-1 - (r : Int)) (rw r).n
  length : l.length = D * i
  each : ∀ q (hq : q < l.length), Has W t k l[q] (-1 - ((q / D : Nat) : Int)) l[q].n
  spot : ∀ q (hq : q < l.length), (l[q].blk = none ∨ l[q].blk = (rw (q / D)).blk) ∨ ∃ gb, H ≤ gb ∧ l[q].blk = some gb
  own : W.ownsRow H tt 1 vl (D * i) (l.map sv)
  size : H ≤ W.heap.size
  later : bR < H ∧ B ≤ H ∧ ∀ r, r < R → ∀ g, (rw r).blk = some g → g < H

theorem Fill.long (hg : Given w t k R bR B rw) (h : Fill w W t k R bR B rw R) (tt : TypeId) (D : Nat) : Long w W t tt k R bR B D W.heap.size rw 0 (.slice none 0 0) [] where
  rows := h.rows
  below := h.below
  has := fun r hr => by have := h.has r hr; rwa [if_pos hr] at this
  length := by simp
  each := fun q hq => by simp at hq
  spot := fun q hq => by simp at hq
  own := World.ownsRow_nil _ _ _ _
  size := Nat.le_refl _
  later := ⟨Nat.lt_of_lt_of_le hg.lt h.below.size, Nat.le_trans hg.top h.below.size, fun r hr g hb => (h.has r hr).lt hb⟩

/-- While row i is grown. -/
structure Growing (ws W : World) (t : TypeId) (k : IntKind) (rw : Nat → Rw) (i : Nat) (g : Rw) : Prop where
  here : Has W t k g (-1 - (i : Int)) g.n
  row : Has W t k (rw i) (-1 - (i : Int)) (rw i).n
  old : ws.grownBy W (rw i).blk
  place : g.blk = (rw i).blk ∨ ∃ gb, ws.heap.size ≤ gb ∧ g.blk = some gb
  longer : (rw i).n ≤ g.n
  first : ∀ g0, (rw i).blk = some g0 → g0 < ws.heap.size

theorem Long.growing (h : Long w W t tt k R bR B D H rw i vl l) (hi : i < R) : Growing W W t k rw i (rw i) :=
  ⟨h.has i hi, h.has i hi, World.grownBy.refl _ _, .inl rfl, Nat.le_refl _, fun _ hg => (h.has i hi).lt hg⟩

theorem grown_trans' {a b c : World} {row row' : Option Nat} (h : a.grownBy b row) (h' : b.grownBy c row') (hne : ∀ j, row' = some j → row = some j ∨ a.heap.size ≤ j) : a.grownBy c row :=
  ⟨h'.os.trans h.os, h'.tape.trans h.tape, h'.output.trans h.output, Nat.le_trans h.size h'.size, fun j hj hn => (h'.block j (Nat.lt_of_lt_of_le hj h.size) (fun e => by
    rcases hne j e.symm with h1 | h1
    · exact hn h1.symm
    · omega)).trans (h.block j hj hn)⟩

theorem Growing.alloc {ws W : World} {g : Rw} (h : Growing ws W t k rw i g) (o : Obj) : Growing ws (W.alloc o) t k rw i g :=
  ⟨h.here.keep fun _ _ hb => Below.heap_alloc _ _ _ hb, h.row.keep fun _ _ hb => Below.heap_alloc _ _ _ hb, grown_trans h.old (World.grownBy_alloc _ _ _), h.place, h.longer, h.first⟩

/-- One step of growth, as 'append_mark' leaves it. -/
theorem Growing.step {ws W W' : World} {g : Rw} {g' cap' m : Nat} (h : Growing ws W t k rw i g) (hh : Has W' t k ⟨some g', g.n + m, cap'⟩ (-1 - (i : Int)) (g.n + m)) (hp : g.blk = some g' ∨ W.heap.size ≤ g') (hgr : W.grownBy W' g.blk)
    (hk : ∀ r' M, r'.blk = g.blk → M ≤ g.n + m → Has W t k r' (-1 - (i : Int)) M → Has W' t k r' (-1 - (i : Int)) M) : Growing ws W' t k rw i ⟨some g', g.n + m, cap'⟩ := by
  have hlen := h.longer
  refine ⟨hh, ?_, ?_, ?_, by simp only; omega, h.first⟩
  · rcases h.place with e | ⟨gb, hgb, e⟩
    · exact hk (rw i) _ e.symm (by omega) h.row
    · refine h.row.keep fun g0 hg0 hlt => hgr.block g0 hlt ?_
      intro e'
      rw [e] at e'
      simp only [Option.some.injEq] at e'
      have := h.first g0 hg0
      omega
  · refine grown_trans' h.old hgr fun j hj => ?_
    rcases h.place with e | ⟨gb, hgb, e⟩
    · left; rw [← e]; exact hj
    · right; rw [e] at hj; simp only [Option.some.injEq] at hj; omega
  · rcases hp with e | e
    · rcases h.place with e' | ⟨gb, hgb, e'⟩
      · left; simp only; rw [← e', e]
      · right; refine ⟨gb, hgb, ?_⟩; simp only; rw [← e', e]
    · right; exact ⟨g', Nat.le_trans h.old.size e, rfl⟩

theorem own_apart {r : Rw} {c : Int} {m n base : Nat} {v : Value} {xs : List Value} (h : Has W t k r c m) (ho : W.ownsRow base tt 1 v n xs) (hne : tt ≠ t) : ∀ g, v.ownBlock = some g → r.blk ≠ some g := by
  intro g hg hb
  rcases h with ⟨h, _⟩ | ⟨g', cur, h1, h2, _⟩
  · rw [h] at hb; cases hb
  · rw [hb] at h1
    simp only [Option.some.injEq] at h1
    subst h1
    obtain ⟨_, ⟨rfl, _⟩ | ⟨g2, cap, cur2, rfl, _, h3, _⟩⟩ := ho
    · cases hg
    · simp only [Value.ownBlock, Option.some.injEq] at hg
      subst hg
      rw [h2] at h3
      simp only [Option.some.injEq, Obj.cells.injEq] at h3
      exact hne h3.2.1.symm

theorem Long.kept {ws w1 : World} {g : Rw} (h : Long w ws t tt k R bR B D H rw i vl l) (hi : i < R) (hne : tt ≠ t) (hrow : Growing ws w1 t k rw i g) : w1.ownsRow H tt 1 vl (D * i) (l.map sv) := by
  refine h.own.kept hrow.old ?_
  cases hv : vl.ownBlock with
  | none => left; rfl
  | some g => right; intro e; exact own_apart (h.has i hi) h.own hne g hv e.symm

theorem Long.cells {ws w1 : World} {g : Rw} (hg : Given w t k R bR B rw) (h : Long w ws t tt k R bR B D H rw i vl l) (hi : i < R) (hrow : Growing ws w1 t k rw i g) {r : Nat} (hr : r < R) : w1.cell? ⟨bR, r, none⟩ = some (sv (rw r)) := by
  have hbR : bR < ws.heap.size := Nat.lt_of_lt_of_le h.later.1 h.size
  have e : w1.heap[bR]? = w.heap[bR]? := (hrow.old.block bR hbR (fun e => hg.notR i hi e.symm)).trans h.rows
  exact (World.cell?_of_block (w := w) (a := ⟨bR, r, none⟩) e).trans (hg.cells r hr)

theorem Growing.self {ws w1 : World} {g : Rw} (h : Growing ws w1 t k rw i g) : Growing ws w1 t k rw i (rw i) :=
  ⟨h.row, h.row, h.old, .inl rfl, Nat.le_refl _, h.first⟩

/-- The row and what was grown of it stand behind the others. (es: the D - 1 rows that were grown of it.) -/
theorem Long.step {ws w1 w2 : World} {es : List Rw} {v' : Value} {o : Obj} (hg : Given w t k R bR B rw) (h : Long w ws t tt k R bR B D H rw i vl l) (hi : i < R) (hD : es.length + 1 = D) (hne : tt ≠ t)
    (he : ∀ e ∈ es, Growing ws w1 t k rw i e) (hrow : Growing ws w1 t k rw i (rw i))
    (ho : w2.ownsRow H tt 1 v' (D * i + D) (l.map sv ++ (es ++ [rw i]).map sv)) (hgr : (w1.alloc o).grownBy w2 vl.ownBlock) :
    Long w w2 t tt k R bR B D H rw (i + 1) v' (l ++ (es ++ [rw i])) := by
  have hown1 : w1.ownsRow H tt 1 vl (D * i) (l.map sv) := by
    refine h.own.kept hrow.old ?_
    cases hv : vl.ownBlock with
    | none => left; rfl
    | some g => right; intro e; exact own_apart (h.has i hi) h.own hne g hv e.symm
  have hal : ∀ g, g < w1.heap.size → (w1.alloc o).heap[g]? = w1.heap[g]? := fun g hg => Below.heap_alloc _ _ _ hg
  have keep : ∀ (r : Rw) (c : Int) (m : Nat), Has w1 t k r c m → Has w2 t k r c m := by
    intro r c m hh
    refine hh.keep fun g hb hl => ?_
    rw [hgr.block g (by simp; omega) (fun e => own_apart hh hown1 hne g e.symm hb), hal g hl]
  have base : ∀ g, vl.ownBlock = some g → H ≤ g := fun g hv => (hown1.lt g hv).1
  have hws : ws.heap.size ≤ w1.heap.size := hrow.old.size
  have w1s : w1.heap.size ≤ w2.heap.size := by have := hgr.size; simp at this; omega
  have old : ∀ (r : Rw) (c : Int) (m : Nat), Has ws t k r c m → (∀ g, r.blk = some g → (rw i).blk ≠ some g) → Has w2 t k r c m := by
    intro r c m hh hn
    refine keep r c m (hh.keep fun g hb hl => hrow.old.block g hl fun e => hn g hb e.symm)
  have hbR : bR < ws.heap.size := Nat.lt_of_lt_of_le h.later.1 h.size
  refine ⟨?_, ?_, ?_, ?_, ?_, ?_, ?_, ?_, h.later⟩
  · rw [hgr.block bR (by simp; omega) (fun e => by have := base bR e.symm; have := h.later.1; omega), hal bR (by omega), hrow.old.block bR hbR (fun e => hg.notR i hi e.symm)]
    exact h.rows
  · have b1 : Below B w w1 := h.below.grown hrow.old (Nat.le_trans h.later.2.1 h.size) (fun g hb => hg.low i hi g hb)
    have b2 : Below B w (w1.alloc o) := b1.alloc (by have := h.later.2.1; have := h.size; omega) o
    exact b2.grown hgr (by have := h.later.2.1; have := h.size; simp; omega) (fun g hv => Nat.le_trans h.later.2.1 (base g hv))
  · intro r hr
    by_cases e : r = i
    · subst e; exact keep _ _ _ hrow.row
    · exact old _ _ _ (h.has r hr) fun g hb => hg.apart r i hr hi e g hb
  · rw [List.length_append, h.length]; simp; rw [Nat.mul_succ]; omega
  · intro q hq
    by_cases hql : q < l.length
    · rw [List.getElem_append_left hql]
      refine old _ _ _ (h.each q hql) fun g hb e => ?_
      have hqi : q / D < i := by
        rw [h.length] at hql
        exact Nat.div_lt_of_lt_mul hql
      rcases h.spot q hql with (e1 | e1) | ⟨gb, hgb, e1⟩
      · rw [e1] at hb; cases hb
      · rw [hb] at e1
        exact hg.apart (q / D) i (by omega) hi (by omega) g e1.symm e
      · rw [hb] at e1
        simp only [Option.some.injEq] at e1
        have := h.later.2.2 i hi g e
        omega
    · rw [List.getElem_append_right (by omega)]
      have hqD : q / D = i := by
        rw [List.length_append, h.length] at hq
        rw [h.length] at hql
        simp at hq
        have hDp : 0 < D := by omega
        have : q < D * (i + 1) := by rw [Nat.mul_succ]; omega
        have h2 := Nat.div_lt_of_lt_mul this
        have h3 : i ≤ q / D := by rw [Nat.le_div_iff_mul_le hDp, Nat.mul_comm]; omega
        omega
      rw [hqD]
      have hm : (es ++ [rw i])[q - l.length]'(by simp at hq ⊢; omega) ∈ es ++ [rw i] := List.getElem_mem _
      rcases List.mem_append.1 hm with hm | hm
      · exact keep _ _ _ (he _ hm).here
      · simp only [List.mem_singleton] at hm
        rw [hm]; exact keep _ _ _ hrow.row
  · intro q hq
    by_cases hql : q < l.length
    · rw [List.getElem_append_left hql]; exact h.spot q hql
    · rw [List.getElem_append_right (by omega)]
      have hqD : q / D = i := by
        rw [List.length_append, h.length] at hq
        rw [h.length] at hql
        simp at hq
        have hDp : 0 < D := by omega
        have : q < D * (i + 1) := by rw [Nat.mul_succ]; omega
        have h2 := Nat.div_lt_of_lt_mul this
        have h3 : i ≤ q / D := by rw [Nat.le_div_iff_mul_le hDp, Nat.mul_comm]; omega
        omega
      rw [hqD]
      have hm : (es ++ [rw i])[q - l.length]'(by simp at hq ⊢; omega) ∈ es ++ [rw i] := List.getElem_mem _
      rcases List.mem_append.1 hm with hm | hm
      · rcases (he _ hm).place with e | ⟨gb, hgb, e⟩
        · exact .inl (.inr e)
        · exact .inr ⟨gb, Nat.le_trans h.size hgb, e⟩
      · simp only [List.mem_singleton] at hm
        rw [hm]; exact .inl (.inr rfl)
  · rw [List.map_append, Nat.mul_succ]; exact ho
  · have := h.size; omega

/-- What the last loops meet. -/
theorem Long.entry {g cap : Nat} (h : Long w W t tt k R bR B D H rw i (.slice (some ⟨g, 0, none⟩) (D * i) cap) l) {q : Nat} (hq : q < D * i) : ∃ r : Rw, W.cell? ⟨g, q, none⟩ = some (sv r) ∧ Has W t k r (-1 - ((q / D : Nat) : Int)) r.n := by
  have hl : q < l.length := by rw [h.length]; exact hq
  refine ⟨l[q], ?_, h.each q hl⟩
  rw [h.own.cellAt q (by omega), List.getElem?_map, List.getElem?_eq_getElem hl]
  rfl

/-- What is written into a block that came later, and is none of its own, turns nothing of it. -/
theorem Growing.keep {ws W W' : World} {g : Rw} {m : Nat} (h : Growing ws W t k rw i g) (hgr : W.grownBy W' (some m)) (hm : ws.heap.size ≤ m) (hg : g.blk ≠ some m) : Growing ws W' t k rw i g := by
  refine ⟨h.here.keep fun b hb hl => hgr.block b hl (fun e => hg (by rw [hb, e])), h.row.keep fun b hb hl => hgr.block b hl (fun e => ?_), grown_trans' h.old hgr (fun j hj => ?_), h.place, h.longer, h.first⟩
  · simp only [Option.some.injEq] at e
    have := h.first b hb
    omega
  · simp only [Option.some.injEq] at hj
    right; omega

/-- When the row itself is grown besides: what was grown of it before stays. -/
theorem Growing.other {ws W W' : World} {g : Rw} {m : Nat} (h : Growing ws W t k rw i g) (hgr : W.grownBy W' (rw i).blk) (hm : g.n ≤ (rw i).n + m)
    (hk : ∀ r' M, r'.blk = (rw i).blk → M ≤ (rw i).n + m → Has W t k r' (-1 - (i : Int)) M → Has W' t k r' (-1 - (i : Int)) M) : Growing ws W' t k rw i g := by
  refine ⟨?_, hk _ _ rfl (by omega) h.row, grown_trans h.old hgr, h.place, h.longer, h.first⟩
  rcases h.place with e | ⟨gb, hgb, e⟩
  · exact hk g _ e hm h.here
  · refine h.here.keep fun b hb hl => hgr.block b hl fun e' => ?_
    rw [e] at hb
    simp only [Option.some.injEq] at hb
    have := h.first b e'.symm
    omega

theorem Growing.lt {ws W : World} {g : Rw} {b : Nat} (h : Growing ws W t k rw i g) (hb : g.blk = some b) : b < W.heap.size := h.here.lt hb

end Go.Proofs.YtfghdhikjhbbgaeDoor.M

namespace Go.Proofs.YtfghdhikjhbbgaeDoor.M
open Go.RowKit

theorem Tryd.info_pieces : (Tryd.prog.info? 30).map (fun i => (i.zero, i.size, i.bytes)) = some (some (.slice none 0 0), 1, 24) := by kernel_rfl

theorem two_cells (W : World) (t : TypeId) (x y : Value) : ∀ j u, [x, y][j]? = some u → (W.alloc (.cells #[x, y] t)).cell? ((⟨W.heap.size, 0, none⟩ : Addr).add j) = some u := by
  intro j u hj
  match j, hj with
  | 0, hj => simp at hj; subst hj; simp [Addr.add]
  | 1, hj => simp at hj; subst hj; simp [Addr.add]
  | j + 2, hj => simp at hj

end Go.Proofs.YtfghdhikjhbbgaeDoor.M
