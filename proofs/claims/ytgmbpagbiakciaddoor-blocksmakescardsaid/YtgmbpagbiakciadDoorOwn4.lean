import Derived.Test.YtgmbpagbiakciadDoorRead
import Derived.Test.YtgmbpagbiakciadDoorNums
import Derived.ArgAppend
import Derived.Maps.AppendAt
namespace Go.Proofs.YtgmbpagbiakciadDoor.O
open Go.RowKit
set_option linter.unusedVariables false
set_option linter.unusedSimpArgs false

/-- A row of numbers: its block, if it has one, how many it holds, and room for how many. -/
structure Rw where
  blk : Option Nat
  n : Nat
  cap : Nat

def adr (r : Rw) : Option Addr := r.blk.map fun g => ⟨g, 0, none⟩

/-- In its block lie so many marks c at the beginning (where there is none: it is empty). -/
def Has (W : World) (t : TypeId) (k : IntKind) (r : Rw) (c : Int) (m : Nat) : Prop :=
  (r.blk = none ∧ r.n = 0 ∧ r.cap = 0) ∨ ∃ g cur, r.blk = some g ∧ W.heap[g]? = some (.cells cur t (0, 0)) ∧ cur.size = r.cap ∧ r.cap ≤ maxLen ∧ r.n ≤ r.cap ∧ ∀ j, j < m → cur[j]? = some (.int k c)

theorem Has.mono {W : World} {t : TypeId} {k : IntKind} {r : Rw} {c : Int} {m m' : Nat} (h : Has W t k r c m) (hm : m' ≤ m) : Has W t k r c m' := by
  rcases h with h | ⟨g, cur, h1, h2, h3, h4, h5, h6⟩
  · exact .inl h
  · exact .inr ⟨g, cur, h1, h2, h3, h4, h5, fun j hj => h6 j (by omega)⟩

theorem Has.zero {W : World} {t : TypeId} {k : IntKind} {r : Rw} {c c' : Int} {m : Nat} (h : Has W t k r c m) : Has W t k r c' 0 := by
  rcases h with h | ⟨g, cur, h1, h2, h3, h4, h5, h6⟩
  · exact .inl h
  · exact .inr ⟨g, cur, h1, h2, h3, h4, h5, fun j hj => by omega⟩

theorem Has.keep {W W' : World} {t : TypeId} {k : IntKind} {r : Rw} {c : Int} {m : Nat} (h : Has W t k r c m) (e : ∀ g, r.blk = some g → g < W.heap.size → W'.heap[g]? = W.heap[g]?) : Has W' t k r c m := by
  rcases h with h | ⟨g, cur, h1, h2, h3, h4, h5, h6⟩
  · exact .inl h
  · refine .inr ⟨g, cur, h1, ?_, h3, h4, h5, h6⟩
    have hg : g < W.heap.size := by
      rcases Nat.lt_or_ge g W.heap.size with q | q
      · exact q
      · rw [Array.getElem?_eq_none q] at h2; cases h2
    rw [e g h1 hg]; exact h2

theorem Has.lt {W : World} {t : TypeId} {k : IntKind} {r : Rw} {c : Int} {m g : Nat} (h : Has W t k r c m) (hg : r.blk = some g) : g < W.heap.size := by
  rcases h with ⟨h, _⟩ | ⟨g', cur, h1, h2, _⟩
  · rw [h] at hg; cases hg
  · rw [h1] at hg
    simp only [Option.some.injEq] at hg
    subst hg
    rcases Nat.lt_or_ge g' W.heap.size with q | q
    · exact q
    · rw [Array.getElem?_eq_none q] at h2; cases h2

theorem Has.size {W : World} {t : TypeId} {k : IntKind} {r : Rw} {c : Int} {m : Nat} (h : Has W t k r c m) : r.n ≤ r.cap ∧ r.cap ≤ maxLen := by
  rcases h with ⟨_, h, h'⟩ | ⟨g', cur, h1, h2, h3, h4, h5, _⟩
  · unfold maxLen; omega
  · exact ⟨h5, h4⟩

theorem Has.cell {W : World} {t : TypeId} {k : IntKind} {r : Rw} {c : Int} {m : Nat} (h : Has W t k r c m) {j : Nat} (hj : j < m) (hn : 0 < r.n) : ∃ g, adr r = some ⟨g, 0, none⟩ ∧ r.blk = some g ∧ W.cell? ⟨g, j, none⟩ = some (.int k c) ∧ W.frozen? ⟨g, j, none⟩ = false := by
  rcases h with ⟨_, h, _⟩ | ⟨g, cur, h1, h2, h3, h4, h5, h6⟩
  · omega
  · exact ⟨g, by simp [adr, h1], h1, by simp [World.cell?, h2, h6 j hj], by simp [World.frozen?, h2]⟩

/-- Some cell below the room. -/
theorem Has.any {W : World} {t : TypeId} {k : IntKind} {r : Rw} {c : Int} {m : Nat} (h : Has W t k r c m) {j : Nat} (hj : j < r.n) : ∃ g v, adr r = some ⟨g, 0, none⟩ ∧ r.blk = some g ∧ W.cell? ⟨g, j, none⟩ = some v ∧ W.frozen? ⟨g, j, none⟩ = false := by
  rcases h with ⟨_, h, _⟩ | ⟨g, cur, h1, h2, h3, h4, h5, h6⟩
  · omega
  · exact ⟨g, cur[j]'(by omega), by simp [adr, h1], h1, by simp [World.cell?, h2, Array.getElem?_eq_getElem (show j < cur.size by omega)], by simp [World.frozen?, h2]⟩

theorem Has.store {W : World} {t : TypeId} {k : IntKind} {r : Rw} {c : Int} {m g : Nat} (h : Has W t k r c m) (hg : r.blk = some g) (hm : m < r.cap) : Has (W.setCell ⟨g, m, none⟩ (.int k c)) t k r c (m + 1) := by
  rcases h with ⟨h, _⟩ | ⟨g', cur, h1, h2, h3, h4, h5, h6⟩
  · rw [h] at hg; cases hg
  · rw [h1] at hg
    simp only [Option.some.injEq] at hg
    subst hg
    refine .inr ⟨g', cur.setIfInBounds m (.int k c), h1, ?_, by simpa using h3, h4, h5, ?_⟩
    · simp [World.setCell, Array.getElem?_modify, h2]
    · intro j hj
      rw [Array.getElem?_setIfInBounds]
      split
      · rw [if_pos (by omega)]
      · exact h6 j (by omega)

theorem has_own {W : World} {base : Nat} {t : TypeId} {k : IntKind} {v : Value} {n : Nat} {c : Int} (hpos : 0 < n) (h : W.ownsRow base t 1 v n (List.replicate n (.int k c))) :
    ∃ g cap, v = .slice (some ⟨g, 0, none⟩) n cap ∧ base ≤ g ∧ Has W t k ⟨some g, n, cap⟩ c n := by
  obtain ⟨_, ⟨_, h0⟩ | ⟨g, cap, cur, rfl, hb, hg, h1, h2, h3, h4⟩⟩ := h
  · omega
  · refine ⟨g, cap, rfl, hb, .inr ⟨g, cur, rfl, hg, by simpa using h3, h2, h1, fun j hj => ?_⟩⟩
    have e : (cur.toList.take (n * 1))[j]? = (List.replicate n (Value.int k c))[j]? := by rw [h4]
    rw [List.getElem?_take, if_pos (by omega), List.getElem?_replicate, if_pos hj] at e
    simpa using e

theorem own_has {W : World} {t : TypeId} {k : IntKind} {c : Int} {r : Rw} (h : Has W t k r c r.n) {g : Nat} (hg : r.blk = some g) : W.ownsRow g t 1 (.slice (some ⟨g, 0, none⟩) r.n r.cap) r.n (List.replicate r.n (.int k c)) := by
  rcases h with ⟨h, _⟩ | ⟨g', cur, h1, h2, h3, h4, h5, h6⟩
  · rw [h] at hg; cases hg
  · rw [h1] at hg
    simp only [Option.some.injEq] at hg
    subst hg
    refine ⟨by simp, .inr ⟨g', r.cap, cur, rfl, Nat.le_refl _, h2, h5, h4, by simpa using h3, ?_⟩⟩
    apply List.ext_getElem?
    intro j
    rw [List.getElem?_take, List.getElem?_replicate]
    by_cases hj : j < r.n
    · rw [if_pos (by omega), if_pos hj]
      simpa using h6 j hj
    · rw [if_neg (by omega), if_neg hj]

/-- MARKS PUT BEHIND MARKS: in place, or in a new block; whatever shares the block keeps its marks. -/
theorem append_mark {P : Program} (w : World) {ops : Array Oper} {rest : List Oper} {o : Oper} {a : Act} {Q : Exit → Act → World → Prop} (hgd : o.guard = none) (s x : Operand) (ts : TypeId)
    (ho : o.op = .call { callee := .builtin .append, args := #[s, x], argTypes := #[ts, ts] })
    (t : TypeId) (i : TypeInfo) (z : Value) (bytes : Nat) (ht : P.underlying ts = some (.slice t)) (hi : P.info? t = some i) (hz : i.zero = some z)
    (hsize : i.size = 1) (hby : i.bytes = bytes) (hzs : z.cells.size = 1)
    (k : IntKind) (c : Int) (r : Rw) (hs : a.eval s = .slice (adr r) r.n r.cap) (hr : Has w t k r c r.n)
    (ad : Addr) (m cc : Nat) (hx : a.eval x = .slice (some ad) m cc) (hm : 0 < m) (hnews : ∀ j, j < m → w.cell? (ad.add j) = some (.int k c))
    (hbytes : (r.n + m) * bytes ≤ 140737488355328) (h63 : r.n + m ≤ maxLen)
    (h : ∀ (g' cap' : Nat) w', Has w' t k ⟨some g', r.n + m, cap'⟩ c (r.n + m) → (r.blk = some g' ∨ w.heap.size ≤ g') → w.grownBy w' r.blk → (∀ r' M, r'.blk = r.blk → M ≤ r.n + m → Has w t k r' c M → Has w' t k r' c M) →
      wpList P ops Q rest (a.put o.dst (.slice (some ⟨g', 0, none⟩) (r.n + m) cap')) w') : wpList P ops Q (o :: rest) a w := by
  have hn' : ∀ j u, (List.replicate m (Value.int k c))[j]? = some u → w.cell? (ad.add j) = some u := by
    intro j u hj
    rw [List.getElem?_replicate] at hj
    split at hj
    · rename_i hjm
      simp only [Option.some.injEq] at hj
      rw [← hj]; exact hnews j hjm
    · cases hj
  have h1c : ∀ u ∈ List.replicate m (Value.int k c), u.oneCell' = true := by
    intro u hu; rw [List.mem_replicate] at hu; rw [hu.2]; rfl
  by_cases hfit : r.n + m ≤ r.cap
  · have hb : ∃ g, r.blk = some g := by
      rcases hr with ⟨_, h1, h2⟩ | ⟨g, _, h1, _⟩
      · omega
      · exact ⟨g, h1⟩
    obtain ⟨g, hb⟩ := hb
    have hown := own_has hr hb
    have hs' : a.eval s = .slice (some ⟨g, 0, none⟩) r.n r.cap := by rw [hs]; simp [adr, hb]
    refine wpList_append_fits w hgd s x ts ho g t i 1 ht hi hsize g r.n r.cap _ hs' hown ad m cc (List.replicate m (.int k c)) hx (by simp) hn' h1c hfit ?_
    intro w' hown' hgrow
    rw [List.replicate_append_replicate] at hown'
    obtain ⟨g', cap', hv, _, hh⟩ := has_own (by omega) hown'
    simp only [Value.slice.injEq, Option.some.injEq, Addr.mk.injEq, and_true, true_and] at hv
    obtain ⟨rfl, rfl⟩ := hv
    refine h g r.cap w' hh (.inl hb) (by rw [hb]; exact hgrow) ?_
    intro r' M hr' hM hhas
    rcases hhas with ⟨h0, _⟩ | ⟨g2, cur2, e1, e2, e3, e4, e5, e6⟩
    · rw [hr', hb] at h0; cases h0
    · rcases hh with ⟨h0, _⟩ | ⟨g3, cur3, f1, f2, f3, f4, f5, f6⟩
      · cases h0
      · rw [hr', hb] at e1
        simp only [Option.some.injEq] at e1 f1
        subst e1; subst f1
        have hcap : r'.cap = r.cap := by
          rcases hr with ⟨h0, _⟩ | ⟨g4, cur4, k1, k2, k3, _⟩
          · rw [h0] at hb; cases hb
          · rw [hb] at k1
            simp only [Option.some.injEq] at k1
            subst k1
            rw [e2] at k2
            simp only [Option.some.injEq, Obj.cells.injEq] at k2
            rw [← e3, ← k3, k2.1]
        exact .inr ⟨g, cur3, by rw [hr', hb], f2, by rw [f3, hcap], e4, e5, fun j hj => f6 j (by omega)⟩
  · refine wpList_append_grows w hgd s x ts ho t i z 1 bytes ht hi hz hsize hby hzs (by decide) (adr r) r.n r.cap (List.replicate r.n (.int k c)) hs ?_ (by simp) ?_ ad m cc (List.replicate m (.int k c)) hx (by simp) hn' h1c (by omega) h63 hbytes ?_
    · intro h0
      rcases hr with ⟨_, h1, h2⟩ | ⟨g, _, h1, _⟩
      · exact ⟨h1, h2⟩
      · simp [adr, h1] at h0
    · intro b hb j u hj
      rw [List.getElem?_replicate] at hj
      split at hj
      · rename_i hjn
        simp only [Option.some.injEq] at hj
        obtain ⟨g, e1, _, e2, _⟩ := hr.cell hjn (by omega)
        rw [hb] at e1
        simp only [Option.some.injEq] at e1
        rw [e1, ← hj, show (⟨g, 0, none⟩ : Addr).add j = ⟨g, j, none⟩ from by unfold Addr.add; split <;> simp_all]
        exact e2
      · cases hj
    · intro v' w' hown' hgrow
      rw [List.replicate_append_replicate] at hown'
      obtain ⟨g', cap', rfl, hg', hh⟩ := has_own (by omega) hown'
      refine h g' cap' w' hh (.inr hg') ⟨hgrow.os, hgrow.tape, hgrow.output, hgrow.size, fun j hj _ => hgrow.block j hj (by simp)⟩ ?_
      intro r' M _ _ hhas
      exact hhas.keep fun g _ hg => hgrow.block g hg (by simp)


def sv (r : Rw) : Value := .slice (adr r) r.n r.cap

/-- What is known of the rows that are handed in: R of them, in block bR, each in a block of its own from B on. -/
structure Given (w : World) (t : TypeId) (k : IntKind) (R bR B : Nat) (rw : Nat → Rw) : Prop where
  cells : ∀ i, i < R → w.cell? ⟨bR, i, none⟩ = some (sv (rw i))
  has : ∀ i, i < R → ∃ c, Has w t k (rw i) c 0
  apart : ∀ i j, i < R → j < R → i ≠ j → ∀ g, (rw i).blk = some g → (rw j).blk ≠ some g
  notR : ∀ i, i < R → (rw i).blk ≠ some bR
  low : ∀ i, i < R → ∀ g, (rw i).blk = some g → B ≤ g
  top : B ≤ w.heap.size
  lt : bR < w.heap.size

variable {w W W' : World} {t tt : TypeId} {k : IntKind} {R bR B i j D H : Nat} {rw : Nat → Rw} {vl : Value} {l : List Rw}

/-- The first i rows are full of their marks. -/
structure Fill (w W : World) (t : TypeId) (k : IntKind) (R bR B : Nat) (rw : Nat → Rw) (i : Nat) : Prop where
  rows : W.heap[bR]? = w.heap[bR]?
  below : Below B w W
  has : ∀ r, r < R → Has W t k (rw r) (1 + (r : Int)) (if r < i then (rw r).n else 0)

/-- Of row i so many cells besides. -/
structure Filling (w W : World) (t : TypeId) (k : IntKind) (R bR B : Nat) (rw : Nat → Rw) (i j : Nat) : Prop where
  rows : W.heap[bR]? = w.heap[bR]?
  below : Below B w W
  here : Has W t k (rw i) (1 + (i : Int)) j
  has : ∀ r, r < R → r ≠ i → Has W t k (rw r) (1 + (r : Int)) (if r < i then (rw r).n else 0)

theorem Given.fill (h : Given w t k R bR B rw) : Fill w w t k R bR B rw 0 :=
  ⟨rfl, Below.refl _ _, fun r hr => by obtain ⟨c, hc⟩ := h.has r hr; simpa using hc.zero⟩

theorem Fill.filling (h : Fill w W t k R bR B rw i) (hi : i < R) : Filling w W t k R bR B rw i 0 :=
  ⟨h.rows, h.below, by have := h.has i hi; simpa using this, fun r hr _ => h.has r hr⟩

theorem Filling.fill (h : Filling w W t k R bR B rw i (rw i).n) : Fill w W t k R bR B rw (i + 1) := by
  refine ⟨h.rows, h.below, fun r hr => ?_⟩
  by_cases e : r = i
  · subst e; simpa using h.here
  · have := h.has r hr e
    by_cases hl : r < i
    · rw [if_pos hl] at this; rw [if_pos (by omega)]; exact this
    · rw [if_neg hl] at this; rw [if_neg (by omega)]; exact this

theorem Filling.step (hg : Given w t k R bR B rw) (h : Filling w W t k R bR B rw i j) (hi : i < R) (hj : j < (rw i).n) {g : Nat} (hb : (rw i).blk = some g) :
    Filling w (W.setCell ⟨g, j, none⟩ (.int k (1 + (i : Int)))) t k R bR B rw i (j + 1) := by
  have hne : g ≠ bR := fun e => hg.notR i hi (by rw [hb, e])
  refine ⟨?_, h.below.setCell (hg.low i hi g hb) _, h.here.store hb (by have := h.here.size; omega), fun r hr hri => ?_⟩
  · rw [Below.heap_setCell _ _ _ _ (by exact fun e => hne e.symm)]; exact h.rows
  · refine (h.has r hr hri).keep fun g' hg' _ => Below.heap_setCell _ _ _ _ ?_
    intro e
    exact hg.apart i r hi hr (fun e' => hri e'.symm) g hb (by rw [hg', e])

theorem Filling.cells (hg : Given w t k R bR B rw) (h : Filling w W t k R bR B rw i j) {r : Nat} (hr : r < R) : W.cell? ⟨bR, r, none⟩ = some (sv (rw r)) :=
  (World.cell?_of_block (w := w) (a := ⟨bR, r, none⟩) h.rows).trans (hg.cells r hr)

theorem Fill.cells (hg : Given w t k R bR B rw) (h : Fill w W t k R bR B rw i) {r : Nat} (hr : r < R) : W.cell? ⟨bR, r, none⟩ = some (sv (rw r)) :=
  (World.cell?_of_block (w := w) (a := ⟨bR, r, none⟩) h.rows).trans (hg.cells r hr)

/-- The rows that were grown so far: D entries for each row; H: the first block that came later than the rows. -/
structure Long (w W : World) (t tt : TypeId) (k : IntKind) (R bR B D H : Nat) (rw : Nat → Rw) (i : Nat) (vl : Value) (l : List Rw) : Prop where
  rows : W.heap[bR]? = w.heap[bR]?
  below : Below B w W
  has : ∀ r, r < R → Has W t k (rw r) (1 + (r : Int)) (rw r).n
  length : l.length = D * i
  each : ∀ q (hq : q < l.length), Has W t k l[q] (1 + ((q / D : Nat) : Int)) l[q].n
  spot : ∀ q (hq : q < l.length), (l[q].blk = none ∨ l[q].blk = (rw (q / D)).blk) ∨ ∃ gb, H ≤ gb ∧ l[q].blk = some gb
  own : W.ownsRow H tt 1 vl (D * i) (l.map sv)
  size : H ≤ W.heap.size
  later : bR < H ∧ B ≤ H ∧ ∀ r, r < R → ∀ g, (rw r).blk = some g → g < H

theorem Fill.long (hg : Given w t k R bR B rw) (h : Fill w W t k R bR B rw R) (tt : TypeId) (D : Nat) : Long w W t tt k R bR B D W.heap.size rw 0 (.slice none 0 0) [] where
  rows := h.rows
  below := h.below
  has := fun r hr => by have := h.has r hr; rwa [if_pos hr] at this
  length := by simp
  each := fun q hq => by simp at hq
  spot := fun q hq => by simp at hq
  own := World.ownsRow_nil _ _ _ _
  size := Nat.le_refl _
  later := ⟨Nat.lt_of_lt_of_le hg.lt h.below.size, Nat.le_trans hg.top h.below.size, fun r hr g hb => (h.has r hr).lt hb⟩

/-- While row i is grown. -/
structure Growing (ws W : World) (t : TypeId) (k : IntKind) (rw : Nat → Rw) (i : Nat) (g : Rw) : Prop where
  here : Has W t k g (1 + (i : Int)) g.n
  row : Has W t k (rw i) (1 + (i : Int)) (rw i).n
  old : ws.grownBy W (rw i).blk
  place : g.blk = (rw i).blk ∨ ∃ gb, ws.heap.size ≤ gb ∧ g.blk = some gb
  longer : (rw i).n ≤ g.n
  first : ∀ g0, (rw i).blk = some g0 → g0 < ws.heap.size

theorem Long.growing (h : Long w W t tt k R bR B D H rw i vl l) (hi : i < R) : Growing W W t k rw i (rw i) :=
  ⟨h.has i hi, h.has i hi, World.grownBy.refl _ _, .inl rfl, Nat.le_refl _, fun _ hg => (h.has i hi).lt hg⟩

theorem grown_trans' {a b c : World} {row row' : Option Nat} (h : a.grownBy b row) (h' : b.grownBy c row') (hne : ∀ j, row' = some j → row = some j ∨ a.heap.size ≤ j) : a.grownBy c row :=
  ⟨h'.os.trans h.os, h'.tape.trans h.tape, h'.output.trans h.output, Nat.le_trans h.size h'.size, fun j hj hn => (h'.block j (Nat.lt_of_lt_of_le hj h.size) (fun e => by
    rcases hne j e.symm with h1 | h1
    · exact hn h1.symm
    · omega)).trans (h.block j hj hn)⟩

theorem Growing.alloc {ws W : World} {g : Rw} (h : Growing ws W t k rw i g) (o : Obj) : Growing ws (W.alloc o) t k rw i g :=
  ⟨h.here.keep fun _ _ hb => Below.heap_alloc _ _ _ hb, h.row.keep fun _ _ hb => Below.heap_alloc _ _ _ hb, grown_trans h.old (World.grownBy_alloc _ _ _), h.place, h.longer, h.first⟩

/-- One step of growth, as 'append_mark' leaves it. -/
theorem Growing.step {ws W W' : World} {g : Rw} {g' cap' m : Nat} (h : Growing ws W t k rw i g) (hh : Has W' t k ⟨some g', g.n + m, cap'⟩ (1 + (i : Int)) (g.n + m)) (hp : g.blk = some g' ∨ W.heap.size ≤ g') (hgr : W.grownBy W' g.blk)
    (hk : ∀ r' M, r'.blk = g.blk → M ≤ g.n + m → Has W t k r' (1 + (i : Int)) M → Has W' t k r' (1 + (i : Int)) M) : Growing ws W' t k rw i ⟨some g', g.n + m, cap'⟩ := by
  have hlen := h.longer
  refine ⟨hh, ?_, ?_, ?_, by simp only; omega, h.first⟩
  · rcases h.place with e | ⟨gb, hgb, e⟩
    · exact hk (rw i) _ e.symm (by omega) h.row
    · refine h.row.keep fun g0 hg0 hlt => hgr.block g0 hlt ?_
      intro e'
      rw [e] at e'
      simp only [Option.some.injEq] at e'
      have := h.first g0 hg0
      omega
  · refine grown_trans' h.old hgr fun j hj => ?_
    rcases h.place with e | ⟨gb, hgb, e⟩
    · left; rw [← e]; exact hj
    · right; rw [e] at hj; simp only [Option.some.injEq] at hj; omega
  · rcases hp with e | e
    · rcases h.place with e' | ⟨gb, hgb, e'⟩
      · left; simp only; rw [← e', e]
      · right; refine ⟨gb, hgb, ?_⟩; simp only; rw [← e', e]
    · right; exact ⟨g', Nat.le_trans h.old.size e, rfl⟩

theorem own_apart {r : Rw} {c : Int} {m n base : Nat} {v : Value} {xs : List Value} (h : Has W t k r c m) (ho : W.ownsRow base tt 1 v n xs) (hne : tt ≠ t) : ∀ g, v.ownBlock = some g → r.blk ≠ some g := by
  intro g hg hb
  rcases h with ⟨h, _⟩ | ⟨g', cur, h1, h2, _⟩
  · rw [h] at hb; cases hb
  · rw [hb] at h1
    simp only [Option.some.injEq] at h1
    subst h1
    obtain ⟨_, ⟨rfl, _⟩ | ⟨g2, cap, cur2, rfl, _, h3, _⟩⟩ := ho
    · cases hg
    · simp only [Value.ownBlock, Option.some.injEq] at hg
      subst hg
      rw [h2] at h3
      simp only [Option.some.injEq, Obj.cells.injEq] at h3
      exact hne h3.2.1.symm

theorem Long.kept {ws w1 : World} {g : Rw} (h : Long w ws t tt k R bR B D H rw i vl l) (hi : i < R) (hne : tt ≠ t) (hrow : Growing ws w1 t k rw i g) : w1.ownsRow H tt 1 vl (D * i) (l.map sv) := by
  refine h.own.kept hrow.old ?_
  cases hv : vl.ownBlock with
  | none => left; rfl
  | some g => right; intro e; exact own_apart (h.has i hi) h.own hne g hv e.symm

theorem Long.cells {ws w1 : World} {g : Rw} (hg : Given w t k R bR B rw) (h : Long w ws t tt k R bR B D H rw i vl l) (hi : i < R) (hrow : Growing ws w1 t k rw i g) {r : Nat} (hr : r < R) : w1.cell? ⟨bR, r, none⟩ = some (sv (rw r)) := by
  have hbR : bR < ws.heap.size := Nat.lt_of_lt_of_le h.later.1 h.size
  have e : w1.heap[bR]? = w.heap[bR]? := (hrow.old.block bR hbR (fun e => hg.notR i hi e.symm)).trans h.rows
  exact (World.cell?_of_block (w := w) (a := ⟨bR, r, none⟩) e).trans (hg.cells r hr)

theorem Growing.self {ws w1 : World} {g : Rw} (h : Growing ws w1 t k rw i g) : Growing ws w1 t k rw i (rw i) :=
  ⟨h.row, h.row, h.old, .inl rfl, Nat.le_refl _, h.first⟩

/-- The row and what was grown of it stand behind the others. (es: the D - 1 rows that were grown of it.) -/
theorem Long.step {ws w1 w2 : World} {es : List Rw} {v' : Value} {o : Obj} (hg : Given w t k R bR B rw) (h : Long w ws t tt k R bR B D H rw i vl l) (hi : i < R) (hD : es.length + 1 = D) (hne : tt ≠ t)
    (he : ∀ e ∈ es, Growing ws w1 t k rw i e) (hrow : Growing ws w1 t k rw i (rw i))
    (ho : w2.ownsRow H tt 1 v' (D * i + D) (l.map sv ++ (es ++ [rw i]).map sv)) (hgr : (w1.alloc o).grownBy w2 vl.ownBlock) :
    Long w w2 t tt k R bR B D H rw (i + 1) v' (l ++ (es ++ [rw i])) := by
  have hown1 : w1.ownsRow H tt 1 vl (D * i) (l.map sv) := by
    refine h.own.kept hrow.old ?_
    cases hv : vl.ownBlock with
    | none => left; rfl
    | some g => right; intro e; exact own_apart (h.has i hi) h.own hne g hv e.symm
  have hal : ∀ g, g < w1.heap.size → (w1.alloc o).heap[g]? = w1.heap[g]? := fun g hg => Below.heap_alloc _ _ _ hg
  have keep : ∀ (r : Rw) (c : Int) (m : Nat), Has w1 t k r c m → Has w2 t k r c m := by
    intro r c m hh
    refine hh.keep fun g hb hl => ?_
    rw [hgr.block g (by simp; omega) (fun e => own_apart hh hown1 hne g e.symm hb), hal g hl]
  have base : ∀ g, vl.ownBlock = some g → H ≤ g := fun g hv => (hown1.lt g hv).1
  have hws : ws.heap.size ≤ w1.heap.size := hrow.old.size
  have w1s : w1.heap.size ≤ w2.heap.size := by have := hgr.size; simp at this; omega
  have old : ∀ (r : Rw) (c : Int) (m : Nat), Has ws t k r c m → (∀ g, r.blk = some g → (rw i).blk ≠ some g) → Has w2 t k r c m := by
    intro r c m hh hn
    refine keep r c m (hh.keep fun g hb hl => hrow.old.block g hl fun e => hn g hb e.symm)
  have hbR : bR < ws.heap.size := Nat.lt_of_lt_of_le h.later.1 h.size
  refine ⟨?_, ?_, ?_, ?_, ?_, ?_, ?_, ?_, h.later⟩
  · rw [hgr.block bR (by simp; omega) (fun e => by have := base bR e.symm; have := h.later.1; omega), hal bR (by omega), hrow.old.block bR hbR (fun e => hg.notR i hi e.symm)]
    exact h.rows
  · have b1 : Below B w w1 := h.below.grown hrow.old (Nat.le_trans h.later.2.1 h.size) (fun g hb => hg.low i hi g hb)
    have b2 : Below B w (w1.alloc o) := b1.alloc (by have := h.later.2.1; have := h.size; omega) o
    exact b2.grown hgr (by have := h.later.2.1; have := h.size; simp; omega) (fun g hv => Nat.le_trans h.later.2.1 (base g hv))
  · intro r hr
    by_cases e : r = i
    · subst e; exact keep _ _ _ hrow.row
    · exact old _ _ _ (h.has r hr) fun g hb => hg.apart r i hr hi e g hb
  · rw [List.length_append, h.length]; simp; rw [Nat.mul_succ]; omega
  · intro q hq
    by_cases hql : q < l.length
    · rw [List.getElem_append_left hql]
      refine old _ _ _ (h.each q hql) fun g hb e => ?_
      have hqi : q / D < i := by
        rw [h.length] at hql
        exact Nat.div_lt_of_lt_mul hql
      rcases h.spot q hql with (e1 | e1) | ⟨gb, hgb, e1⟩
      · rw [e1] at hb; cases hb
      · rw [hb] at e1
        exact hg.apart (q / D) i (by omega) hi (by omega) g e1.symm e
      · rw [hb] at e1
        simp only [Option.some.injEq] at e1
        have := h.later.2.2 i hi g e
        omega
    · rw [List.getElem_append_right (by omega)]
      have hqD : q / D = i := by
        rw [List.length_append, h.length] at hq
        rw [h.length] at hql
        simp at hq
        have hDp : 0 < D := by omega
        have : q < D * (i + 1) := by rw [Nat.mul_succ]; omega
        have h2 := Nat.div_lt_of_lt_mul this
        have h3 : i ≤ q / D := by rw [Nat.le_div_iff_mul_le hDp, Nat.mul_comm]; omega
        omega
      rw [hqD]
      have hm : (es ++ [rw i])[q - l.length]'(by simp at hq ⊢; omega) ∈ es ++ [rw i] := List.getElem_mem _
      rcases List.mem_append.1 hm with hm | hm
      · exact keep _ _ _ (he _ hm).here
      · simp only [List.mem_singleton] at hm
        rw [hm]; exact keep _ _ _ hrow.row
  · intro q hq
    by_cases hql : q < l.length
    · rw [List.getElem_append_left hql]; exact h.spot q hql
    · rw [List.getElem_append_right (by omega)]
      have hqD : q / D = i := by
        rw [List.length_append, h.length] at hq
        rw [h.length] at hql
        simp at hq
        have hDp : 0 < D := by omega
        have : q < D * (i + 1) := by rw [Nat.mul_succ]; omega
        have h2 := Nat.div_lt_of_lt_mul this
        have h3 : i ≤ q / D := by rw [Nat.le_div_iff_mul_le hDp, Nat.mul_comm]; omega
        omega
      rw [hqD]
      have hm : (es ++ [rw i])[q - l.length]'(by simp at hq ⊢; omega) ∈ es ++ [rw i] := List.getElem_mem _
      rcases List.mem_append.1 hm with hm | hm
      · rcases (he _ hm).place with e | ⟨gb, hgb, e⟩
        · exact .inl (.inr e)
        · exact .inr ⟨gb, Nat.le_trans h.size hgb, e⟩
      · simp only [List.mem_singleton] at hm
        rw [hm]; exact .inl (.inr rfl)
  · rw [List.map_append, Nat.mul_succ]; exact ho
  · have := h.size; omega

/-- What the last loops meet. -/
theorem Long.entry {g cap : Nat} (h : Long w W t tt k R bR B D H rw i (.slice (some ⟨g, 0, none⟩) (D * i) cap) l) {q : Nat} (hq : q < D * i) : ∃ r : Rw, W.cell? ⟨g, q, none⟩ = some (sv r) ∧ Has W t k r (1 + ((q / D : Nat) : Int)) r.n := by
  have hl : q < l.length := by rw [h.length]; exact hq
  refine ⟨l[q], ?_, h.each q hl⟩
  rw [h.own.cellAt q (by omega), List.getElem?_map, List.getElem?_eq_getElem hl]
  rfl

/-- What is written into a block that came later, and is none of its own, turns nothing of it. -/
theorem Growing.keep {ws W W' : World} {g : Rw} {m : Nat} (h : Growing ws W t k rw i g) (hgr : W.grownBy W' (some m)) (hm : ws.heap.size ≤ m) (hg : g.blk ≠ some m) : Growing ws W' t k rw i g := by
  refine ⟨h.here.keep fun b hb hl => hgr.block b hl (fun e => hg (by rw [hb, e])), h.row.keep fun b hb hl => hgr.block b hl (fun e => ?_), grown_trans' h.old hgr (fun j hj => ?_), h.place, h.longer, h.first⟩
  · simp only [Option.some.injEq] at e
    have := h.first b hb
    omega
  · simp only [Option.some.injEq] at hj
    right; omega

/-- When the row itself is grown besides: what was grown of it before stays. -/
theorem Growing.other {ws W W' : World} {g : Rw} {m : Nat} (h : Growing ws W t k rw i g) (hgr : W.grownBy W' (rw i).blk) (hm : g.n ≤ (rw i).n + m)
    (hk : ∀ r' M, r'.blk = (rw i).blk → M ≤ (rw i).n + m → Has W t k r' (1 + (i : Int)) M → Has W' t k r' (1 + (i : Int)) M) : Growing ws W' t k rw i g := by
  refine ⟨?_, hk _ _ rfl (by omega) h.row, grown_trans h.old hgr, h.place, h.longer, h.first⟩
  rcases h.place with e | ⟨gb, hgb, e⟩
  · exact hk g _ e hm h.here
  · refine h.here.keep fun b hb hl => hgr.block b hl fun e' => ?_
    rw [e] at hb
    simp only [Option.some.injEq] at hb
    have := h.first b e'.symm
    omega

theorem Growing.lt {ws W : World} {g : Rw} {b : Nat} (h : Growing ws W t k rw i g) (hb : g.blk = some b) : b < W.heap.size := h.here.lt hb


theorem Tryd.info_rows4 : (Tryd.prog.info? 47).map (fun i => (i.zero, i.size, i.bytes)) = some (some (.slice none 0 0), 1, 24) := by kernel_rfl

theorem one_mark (W : World) (k : IntKind) (t : TypeId) (c : Int) : ∀ j, j < 1 → (W.alloc (.cells #[.int k c] t)).cell? ((⟨W.heap.size, 0, none⟩ : Addr).add j) = some (.int k c) := by
  intro j hj
  obtain rfl : j = 0 := by omega
  simp [Addr.add]

theorem two_cells (W : World) (t : TypeId) (x y : Value) : ∀ j u, [x, y][j]? = some u → (W.alloc (.cells #[x, y] t)).cell? ((⟨W.heap.size, 0, none⟩ : Addr).add j) = some u := by
  intro j u hj
  match j, hj with
  | 0, hj => simp at hj; subst hj; simp [Addr.add]
  | 1, hj => simp at hj; subst hj; simp [Addr.add]
  | j + 2, hj => simp at hj

set_option maxRecDepth 100000 in
set_option maxHeartbeats 4000000 in
theorem owned4_any (w : World) (R bR capR B : Nat) (rw : Nat → Rw) (hg : Given w 5 .u8 R bR B rw) (hR : 0 < R) (hR2 : R ≤ 203) (hn : ∀ i, i < R → (rw i).n ≤ 2097152) :
    Calls Tryd.prog 22 #[.slice (some ⟨bR, 0, none⟩) R capR] w fun e w' => e = .returned (.bool true) ∧ Below B w w' := by
  obtain ⟨i0, hi, hz0, hz1, hz2⟩ := info_parts Tryd.info_u8
  obtain ⟨i1, hi', hz0', hz1', hz2'⟩ := info_parts Tryd.info_rows4
  have HG : Hid (Given w 5 .u8 R bR B rw) := hg
  have HNn : Hid (∀ i, i < R → (rw i).n ≤ 2097152) := hn
  clear hg hn
  go_enter Tryd.func22, Tryd.ntmps22
  go_wp2
  go_loopw [3] (fun i wr => ∃ n : Nat, n ≤ R ∧ i = .int .i64 n ∧ Fill w wr 5 .u8 R bR B rw n) (fun i _ => R - (intOf i).toNat)
  case atStart => exact ⟨0, Nat.zero_le _, rfl, HG.out.fill⟩
  case round =>
    obtain ⟨n, hn, rfl, hfill⟩ := hrel
    have HF : Hid (Fill w wr 5 .u8 R bR B rw n) := hfill
    clear hfill
    by_cases hlt : n < R
    · have hi1 : (n : Int) < (R : Int) := by omega
      have hrn := HNn.out n hlt
      go_wp2
      go_loopw [4] (fun q wr' => ∃ j : Nat, j ≤ (rw n).n ∧ q = .int .i64 j ∧ Filling w wr' 5 .u8 R bR B rw n j) (fun q _ => (rw n).n - (intOf q).toNat)
      case atStart => exact ⟨0, Nat.zero_le _, rfl, HF.out.filling hlt⟩
      case round =>
        obtain ⟨j, hj, rfl, hfl⟩ := hrel
        have HFl : Hid (Filling w wr 5 .u8 R bR B rw n j) := hfl
        have hcell : wr.cell? ⟨bR, n, none⟩ = some (.slice (adr (rw n)) (rw n).n (rw n).cap) := hfl.cells HG.out hlt
        clear hfl HF
        by_cases hjl : j < (rw n).n
        · obtain ⟨g, v, ha, hb, hc, hf⟩ := HFl.out.here.any hjl
          rw [ha] at hcell
          have HS : Hid (Filling w (wr.setCell ⟨g, j, none⟩ (.int .u8 (1 + (n : Int)))) 5 .u8 R bR B rw n (j + 1)) := HFl.out.step HG.out hlt hjl hb
          clear ha hb HFl
          have hi2 : (j : Int) < ((rw n).n : Int) := by omega
          have hm1 : Int.tmod (n : Int) 250 = (n : Int) := Int.tmod_eq_of_lt (by omega) (by omega)
          go_wp2
          go_roundw
          case rel => exact ⟨j + 1, by omega, by go_num, HS.out⟩
          case measure => simp [intOf]; omega
        · have hje : j = (rw n).n := by omega
          have HS : Hid (Fill w wr 5 .u8 R bR B rw (n + 1)) := by have := HFl.out; rw [hje] at this; exact this.fill
          clear HFl
          have hi2 : ((rw n).n : Int) ≤ (j : Int) := by omega
          clear hje
          go_wp2
          go_roundw
          case rel => exact ⟨n + 1, by omega, by go_num, HS.out⟩
          case measure => simp [intOf]; omega
    · have hnR : n = R := by omega
      obtain ⟨H, HL⟩ : ∃ H, Hid (Long w wr 5 47 .u8 R bR B 2 H rw 0 (.slice none 0 0) []) := ⟨wr.heap.size, by have := HF.out; rw [hnR] at this; exact this.long HG.out _ 2⟩
      clear HF hnR
      have hi1 : (R : Int) ≤ (n : Int) := by omega
      go_wp2
      clear hi1 hlt hn
      go_loopw [5, 6] (fun vl i wr => ∃ (n : Nat) (l : List Rw), n ≤ R ∧ i = .int .i64 n ∧ Long w wr 5 47 .u8 R bR B 2 H rw n vl l) (fun _ i _ => R - (intOf i).toNat)
      case atStart => exact ⟨0, [], Nat.zero_le _, rfl, HL.out⟩
      case round =>
        obtain ⟨n, l, hn, rfl, hlong⟩ := hrel
        have HL : Hid (Long w wr 5 47 .u8 R bR B 2 H rw n u5 l) := hlong
        by_cases hlt : n < R
        · have hcell : wr.cell? ⟨bR, n, none⟩ = some (.slice (adr (rw n)) (rw n).n (rw n).cap) := hlong.cells HG.out hlt (hlong.growing hlt) hlt
          have HGr : Hid (Growing wr wr 5 .u8 rw n (rw n)) := hlong.growing hlt
          have hi1 : (n : Int) < (R : Int) := by omega
          have hrn := HNn.out n hlt
          clear hlong
          go_wp2
          clear hcell hi1
          obtain ⟨ws, hws⟩ : ∃ ws, ws = wr := ⟨_, rfl⟩
          subst hws
          go_loopw [7, 8] (fun g q wr' => ∃ (j : Nat) (gr : Rw), j ≤ 40 ∧ q = .int .i64 j ∧ g = .slice (adr gr) gr.n gr.cap ∧ gr.n = (rw n).n + j ∧ Growing ws wr' 5 .u8 rw n gr) (fun _ q _ => 40 - (intOf q).toNat)
          case atStart => exact ⟨0, rw n, by omega, rfl, rfl, rfl, HGr.out⟩
          case round =>
            obtain ⟨j, gr, hj, rfl, rfl, hgn, hgr⟩ := hrel
            clear HGr
            have HGr : Hid (Growing ws wr 5 .u8 rw n gr) := hgr
            have HGn : Hid (gr.n = (rw n).n + j) := hgn
            have hgb : gr.n ≤ 2097192 := by omega
            by_cases hjl : j < 40
            · clear hgr hgn
              have hm1 : Int.tmod (n : Int) 250 = (n : Int) := Int.tmod_eq_of_lt (by omega) (by omega)
              go_wp2_with (at_builtin; refine append_mark _ rfl (.tmp 50) (.tmp 55) 47 rfl 5 i0 (.int .u8 0) 1 Tryd.underlying47 hi hz0 hz1 hz2 rfl .u8 (1 + (n : Int)) gr rfl (HGr.out.alloc _).here ⟨wr.heap.size, 0, none⟩ 1 1 rfl (by decide) (one_mark _ _ _ _) (by omega) (by unfold maxLen; omega) ?_; intro g' cap' w1 hh hp hg1 hk1)
              have HS : Hid (Growing ws w1 5 .u8 rw n ⟨some g', gr.n + 1, cap'⟩) := (HGr.out.alloc _).step hh hp hg1 hk1
              clear hh hp hg1 hk1 HGr
              go_wp2
              go_roundw
              case rel => exact ⟨j + 1, ⟨some g', gr.n + 1, cap'⟩, by omega, by go_num, rfl, by have := HGn.out; simp only; omega, HS.out⟩
              case measure => simp [intOf]; omega
            · have hcell : wr.cell? ⟨bR, n, none⟩ = some (.slice (adr (rw n)) (rw n).n (rw n).cap) := HL.out.cells HG.out hlt hgr hlt
              have hown := HL.out.kept hlt (by decide) hgr
              clear hgr hgn
              have hi1 : (n : Int) < (R : Int) := by omega
              have hi2 : (40 : Int) ≤ (j : Int) := by omega
              go_wp2_with (at_builtin; refine wpList_append_own _ rfl (.tmp 57) (.tmp 63) 59 rfl H 47 i1 (.slice none 0 0) 1 24 Tryd.underlying59 hi' hz0' hz1' hz2' rfl (by decide) _ _ _ rfl (hown.alloc _) ⟨wr.heap.size, 0, none⟩ 2 2 [.slice (adr gr) gr.n gr.cap, .slice (adr (rw n)) (rw n).n (rw n).cap] rfl rfl (two_cells _ _ _ _) (by intro u hu; simp at hu; rcases hu with rfl | rfl <;> rfl) (by unfold maxLen; omega) (by omega) (by have := HL.out.size; have := HGr.out.old.size; simp; omega) ?_; intro v' w1 hown1 hg1 _)
              have HS : Hid (Long w w1 5 47 .u8 R bR B 2 H rw (n + 1) v' (l ++ ([gr] ++ [rw n]))) := HL.out.step HG.out hlt rfl (by decide) (by intro e he; simp at he; subst he; exact HGr.out) HGr.out.self hown1 hg1
              clear hown1 hg1 hown hcell HGr HGn
              go_wp2
              go_roundw
              case rel => exact ⟨n + 1, _, by omega, by go_num, HS.out⟩
              case measure => simp [intOf]; omega
        · have hnR : n = R := by omega
          subst hnR
          obtain ⟨g, cap, hv⟩ : ∃ g cap, u5 = .slice (some ⟨g, 0, none⟩) (2 * n) cap := by
            obtain ⟨_, ⟨_, h0⟩ | ⟨g, cap, _, hv, _⟩⟩ := hlong.own
            · omega
            · exact ⟨g, cap, hv⟩
          subst hv
          have HB : Hid (Below B w wr) := hlong.below
          have HE : Hid (∀ q, q < 2 * n → ∃ r : Rw, wr.cell? ⟨g, q, none⟩ = some (sv r) ∧ Has wr 5 .u8 r (1 + ((q / 2 : Nat) : Int)) r.n) := fun q hq => hlong.entry hq
          clear hlong HL
          go_wp2
          have HS : Hid (∀ r : Rw, ∀ c : Int, Has wr 5 .u8 r c r.n → r.n ≤ 9223372036854775807) := fun r c hh => by have := hh.size; unfold maxLen at this; omega
          go_loop [9] (fun i => ∃ q : Nat, q ≤ 2 * n ∧ i = .int .i64 q) (fun i => 2 * n - (intOf i).toNat)
          case atStart => exact ⟨0, Nat.zero_le _, rfl⟩
          case round =>
            obtain ⟨q, hq, rfl⟩ := hrel
            by_cases hql : q < 2 * n
            · obtain ⟨r, hc, hh⟩ := HE.out q hql
              have hcell : wr.cell? ⟨g, q, none⟩ = some (.slice (adr r) r.n r.cap) := hc
              have hrn := HS.out r _ hh
              rw [show ((q / 2 : Nat) : Int) = (q : Int) / 2 from by omega] at hh
              have HH : Hid (Has wr 5 .u8 r (1 + (q : Int) / 2) r.n) := hh
              clear hc hh
              have hi1 : (q : Int) < 2 * (n : Int) := by omega
              go_wp2
              go_loop [10] (fun i => ∃ j : Nat, j ≤ r.n ∧ i = .int .i64 j) (fun i => r.n - (intOf i).toNat)
              case atStart => exact ⟨0, Nat.zero_le _, rfl⟩
              case round =>
                obtain ⟨j, hj, rfl⟩ := hrel
                by_cases hjl : j < r.n
                · obtain ⟨g2, ha, _, hc2, _⟩ := HH.out.cell hjl (by omega)
                  rw [ha] at hcell
                  have hi2 : (j : Int) < (r.n : Int) := by omega
                  have hm1 : Int.tmod ((q : Int) / 2) 250 = (q : Int) / 2 := Int.tmod_eq_of_lt (by omega) (by omega)
                  have hm2 : Int.tdiv (q : Int) 2 = (q : Int) / 2 := Int.tdiv_eq_ediv_of_nonneg (by omega)
                  go_wp2
                  go_round
                  case rel => exact ⟨j + 1, by omega, by go_num⟩
                  case measure => simp [intOf]; omega
                · have hi2 : (r.n : Int) ≤ (j : Int) := by omega
                  go_wp2
                  go_round
                  case rel => exact ⟨q + 1, by omega, by go_num⟩
                  case measure => simp [intOf]; omega
            · have hi1 : 2 * (n : Int) ≤ (q : Int) := by omega
              go_wp2
              go_ret
              exact ⟨rfl, HB.out⟩

end Go.Proofs.YtgmbpagbiakciadDoor.O
