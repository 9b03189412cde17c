import Derived.Test.YtbehliigemoblaaAppend
import Derived.ArgAppend
namespace Go.Proofs.Ytbehliigemoblaa
open Go.RowKit

/-- A row of numbers: its block, if it has one, how many it holds, and room for how many. -/
structure Rw where
  blk : Option Nat
  n : Nat
  cap : Nat

def adr (r : Rw) : Option Addr := r.blk.map fun g => ⟨g, 0, none⟩

/-- In its block lie so many marks c at the beginning (where there is none: it is empty). -/
def Has (W : World) (t : TypeId) (k : IntKind) (r : Rw) (c : Int) (m : Nat) : Prop :=
  (r.blk = none ∧ r.n = 0 ∧ r.cap = 0) ∨ ∃ g cur, r.blk = some g ∧ W.heap[g]? = some (.cells cur t (0, 0)) ∧ cur.size = r.cap ∧ r.cap ≤ maxLen ∧ r.n ≤ r.cap ∧ ∀ j, j < m → cur[j]? = some (.int k c)

theorem Has.mono {W : World} {t : TypeId} {k : IntKind} {r : Rw} {c : Int} {m m' : Nat} (h : Has W t k r c m) (hm : m' ≤ m) : Has W t k r c m' := by
  rcases h with h | ⟨g, cur, h1, h2, h3, h4, h5, h6⟩
  · exact .inl h
  · exact .inr ⟨g, cur, h1, h2, h3, h4, h5, fun j hj => h6 j (by omega)⟩

theorem Has.zero {W : World} {t : TypeId} {k : IntKind} {r : Rw} {c c' : Int} {m : Nat} (h : Has W t k r c m) : Has W t k r c' 0 := by
  rcases h with h | ⟨g, cur, h1, h2, h3, h4, h5, h6⟩
  · exact .inl h
  · exact .inr ⟨g, cur, h1, h2, h3, h4, h5, fun j hj => by omega⟩

theorem Has.keep {W W' : World} {t : TypeId} {k : IntKind} {r : Rw} {c : Int} {m : Nat} (h : Has W t k r c m) (e : ∀ g, r.blk = some g → g < W.heap.size → W'.heap[g]? = W.heap[g]?) : Has W' t k r c m := by
  rcases h with h | ⟨g, cur, h1, h2, h3, h4, h5, h6⟩
  · exact .inl h
  · refine .inr ⟨g, cur, h1, ?_, h3, h4, h5, h6⟩
    have hg : g < W.heap.size := by
      rcases Nat.lt_or_ge g W.heap.size with q | q
      · exact q
      · rw [Array.getElem?_eq_none q] at h2; cases h2
    rw [e g h1 hg]; exact h2

theorem Has.lt {W : World} {t : TypeId} {k : IntKind} {r : Rw} {c : Int} {m g : Nat} (h : Has W t k r c m) (hg : r.blk = some g) : g < W.heap.size := by
  rcases h with ⟨h, _⟩ | ⟨g', cur, h1, h2, _⟩
  · rw [h] at hg; cases hg
  · rw [h1] at hg
    simp only [Option.some.injEq] at hg
    subst hg
    rcases Nat.lt_or_ge g' W.heap.size with q | q
    · exact q
    · rw [Array.getElem?_eq_none q] at h2; cases h2

theorem Has.size {W : World} {t : TypeId} {k : IntKind} {r : Rw} {c : Int} {m : Nat} (h : Has W t k r c m) : r.n ≤ r.cap ∧ r.cap ≤ maxLen := by
  rcases h with ⟨_, h, h'⟩ | ⟨g', cur, h1, h2, h3, h4, h5, _⟩
  · unfold maxLen; omega
  · exact ⟨h5, h4⟩

theorem Has.cell {W : World} {t : TypeId} {k : IntKind} {r : Rw} {c : Int} {m : Nat} (h : Has W t k r c m) {j : Nat} (hj : j < m) (hn : 0 < r.n) : ∃ g, adr r = some ⟨g, 0, none⟩ ∧ r.blk = some g ∧ W.cell? ⟨g, j, none⟩ = some (.int k c) ∧ W.frozen? ⟨g, j, none⟩ = false := by
  rcases h with ⟨_, h, _⟩ | ⟨g, cur, h1, h2, h3, h4, h5, h6⟩
  · omega
  · exact ⟨g, by simp [adr, h1], h1, by simp [World.cell?, h2, h6 j hj], by simp [World.frozen?, h2]⟩

/-- Some cell below the room. -/
theorem Has.any {W : World} {t : TypeId} {k : IntKind} {r : Rw} {c : Int} {m : Nat} (h : Has W t k r c m) {j : Nat} (hj : j < r.n) : ∃ g v, adr r = some ⟨g, 0, none⟩ ∧ r.blk = some g ∧ W.cell? ⟨g, j, none⟩ = some v ∧ W.frozen? ⟨g, j, none⟩ = false := by
  rcases h with ⟨_, h, _⟩ | ⟨g, cur, h1, h2, h3, h4, h5, h6⟩
  · omega
  · exact ⟨g, cur[j]'(by omega), by simp [adr, h1], h1, by simp [World.cell?, h2, Array.getElem?_eq_getElem (show j < cur.size by omega)], by simp [World.frozen?, h2]⟩

theorem Has.store {W : World} {t : TypeId} {k : IntKind} {r : Rw} {c : Int} {m g : Nat} (h : Has W t k r c m) (hg : r.blk = some g) (hm : m < r.cap) : Has (W.setCell ⟨g, m, none⟩ (.int k c)) t k r c (m + 1) := by
  rcases h with ⟨h, _⟩ | ⟨g', cur, h1, h2, h3, h4, h5, h6⟩
  · rw [h] at hg; cases hg
  · rw [h1] at hg
    simp only [Option.some.injEq] at hg
    subst hg
    refine .inr ⟨g', cur.setIfInBounds m (.int k c), h1, ?_, by simpa using h3, h4, h5, ?_⟩
    · simp [World.setCell, Array.getElem?_modify, h2]
    · intro j hj
      rw [Array.getElem?_setIfInBounds]
      split
      · rw [if_pos (by omega)]
      · exact h6 j (by omega)

theorem has_own {W : World} {base : Nat} {t : TypeId} {k : IntKind} {v : Value} {n : Nat} {c : Int} (hpos : 0 < n) (h : W.ownsRow base t 1 v n (List.replicate n (.int k c))) :
    ∃ g cap, v = .slice (some ⟨g, 0, none⟩) n cap ∧ base ≤ g ∧ Has W t k ⟨some g, n, cap⟩ c n := by
  obtain ⟨_, ⟨_, h0⟩ | ⟨g, cap, cur, rfl, hb, hg, h1, h2, h3, h4⟩⟩ := h
  · omega
  · refine ⟨g, cap, rfl, hb, .inr ⟨g, cur, rfl, hg, by simpa using h3, h2, h1, fun j hj => ?_⟩⟩
    have e : (cur.toList.take (n * 1))[j]? = (List.replicate n (Value.int k c))[j]? := by rw [h4]
    rw [List.getElem?_take, if_pos (by omega), List.getElem?_replicate, if_pos hj] at e
    simpa using e

theorem own_has {W : World} {t : TypeId} {k : IntKind} {c : Int} {r : Rw} (h : Has W t k r c r.n) {g : Nat} (hg : r.blk = some g) : W.ownsRow g t 1 (.slice (some ⟨g, 0, none⟩) r.n r.cap) r.n (List.replicate r.n (.int k c)) := by
  rcases h with ⟨h, _⟩ | ⟨g', cur, h1, h2, h3, h4, h5, h6⟩
  · rw [h] at hg; cases hg
  · rw [h1] at hg
    simp only [Option.some.injEq] at hg
    subst hg
    refine ⟨by simp, .inr ⟨g', r.cap, cur, rfl, Nat.le_refl _, h2, h5, h4, by simpa using h3, ?_⟩⟩
    apply List.ext_getElem?
    intro j
    rw [List.getElem?_take, List.getElem?_replicate]
    by_cases hj : j < r.n
    · rw [if_pos (by omega), if_pos hj]
      simpa using h6 j hj
    · rw [if_neg (by omega), if_neg hj]

/-- MARKS PUT BEHIND MARKS: in place, or in a new block; whatever shares the block keeps its marks. -/
theorem append_mark {P : Program} (w : World) {ops : Array Oper} {rest : List Oper} {o : Oper} {a : Act} {Q : Exit → Act → World → Prop} (hgd : o.guard = none) (s x : Operand) (ts : TypeId)
    (ho : o.op = .call { callee := .builtin .append, args := #[s, x], argTypes := #[ts, ts] })
    (t : TypeId) (i : TypeInfo) (z : Value) (bytes : Nat) (ht : P.underlying ts = some (.slice t)) (hi : P.info? t = some i) (hz : i.zero = some z)
    (hsize : i.size = 1) (hby : i.bytes = bytes) (hzs : z.cells.size = 1)
    (k : IntKind) (c : Int) (r : Rw) (hs : a.eval s = .slice (adr r) r.n r.cap) (hr : Has w t k r c r.n)
    (ad : Addr) (m cc : Nat) (hx : a.eval x = .slice (some ad) m cc) (hm : 0 < m) (hnews : ∀ j, j < m → w.cell? (ad.add j) = some (.int k c))
    (hbytes : (r.n + m) * bytes ≤ 140737488355328) (h63 : r.n + m ≤ maxLen)
    (h : ∀ (g' cap' : Nat) w', Has w' t k ⟨some g', r.n + m, cap'⟩ c (r.n + m) → (r.blk = some g' ∨ w.heap.size ≤ g') → w.grownBy w' r.blk → (∀ r' M, r'.blk = r.blk → M ≤ r.n + m → Has w t k r' c M → Has w' t k r' c M) →
      wpList P ops Q rest (a.put o.dst (.slice (some ⟨g', 0, none⟩) (r.n + m) cap')) w') : wpList P ops Q (o :: rest) a w := by
  have hn' : ∀ j u, (List.replicate m (Value.int k c))[j]? = some u → w.cell? (ad.add j) = some u := by
    intro j u hj
    rw [List.getElem?_replicate] at hj
    split at hj
    · rename_i hjm
      simp only [Option.some.injEq] at hj
      rw [← hj]; exact hnews j hjm
    · cases hj
  have h1c : ∀ u ∈ List.replicate m (Value.int k c), u.oneCell' = true := by
    intro u hu; rw [List.mem_replicate] at hu; rw [hu.2]; rfl
  by_cases hfit : r.n + m ≤ r.cap
  · have hb : ∃ g, r.blk = some g := by
      rcases hr with ⟨_, h1, h2⟩ | ⟨g, _, h1, _⟩
      · omega
      · exact ⟨g, h1⟩
    obtain ⟨g, hb⟩ := hb
    have hown := own_has hr hb
    have hs' : a.eval s = .slice (some ⟨g, 0, none⟩) r.n r.cap := by rw [hs]; simp [adr, hb]
    refine wpList_append_fits w hgd s x ts ho g t i 1 ht hi hsize g r.n r.cap _ hs' hown ad m cc (List.replicate m (.int k c)) hx (by simp) hn' h1c hfit ?_
    intro w' hown' hgrow
    rw [List.replicate_append_replicate] at hown'
    obtain ⟨g', cap', hv, _, hh⟩ := has_own (by omega) hown'
    simp only [Value.slice.injEq, Option.some.injEq, Addr.mk.injEq, and_true, true_and] at hv
    obtain ⟨rfl, rfl⟩ := hv
    refine h g r.cap w' hh (.inl hb) (by rw [hb]; exact hgrow) ?_
    intro r' M hr' hM hhas
    rcases hhas with ⟨h0, _⟩ | ⟨g2, cur2, e1, e2, e3, e4, e5, e6⟩
    · rw [hr', hb] at h0; cases h0
    · rcases hh with ⟨h0, _⟩ | ⟨g3, cur3, f1, f2, f3, f4, f5, f6⟩
      · cases h0
      · rw [hr', hb] at e1
        simp only [Option.some.injEq] at e1 f1
        subst e1; subst f1
        have hcap : r'.cap = r.cap := by
          rcases hr with ⟨h0, _⟩ | ⟨g4, cur4, k1, k2, k3, _⟩
          · rw [h0] at hb; cases hb
          · rw [hb] at k1
            simp only [Option.some.injEq] at k1
            subst k1
            rw [e2] at k2
            simp only [Option.some.injEq, Obj.cells.injEq] at k2
            rw [← e3, ← k3, k2.1]
        exact .inr ⟨g, cur3, by rw [hr', hb], f2, by rw [f3, hcap], e4, e5, fun j hj => f6 j (by omega)⟩
  · refine wpList_append_grows w hgd s x ts ho t i z 1 bytes ht hi hz hsize hby hzs (by decide) (adr r) r.n r.cap (List.replicate r.n (.int k c)) hs ?_ (by simp) ?_ ad m cc (List.replicate m (.int k c)) hx (by simp) hn' h1c (by omega) h63 hbytes ?_
    · intro h0
      rcases hr with ⟨_, h1, h2⟩ | ⟨g, _, h1, _⟩
      · exact ⟨h1, h2⟩
      · simp [adr, h1] at h0
    · intro b hb j u hj
      rw [List.getElem?_replicate] at hj
      split at hj
      · rename_i hjn
        simp only [Option.some.injEq] at hj
        obtain ⟨g, e1, _, e2, _⟩ := hr.cell hjn (by omega)
        rw [hb] at e1
        simp only [Option.some.injEq] at e1
        rw [e1, ← hj, show (⟨g, 0, none⟩ : Addr).add j = ⟨g, j, none⟩ from by unfold Addr.add; split <;> simp_all]
        exact e2
      · cases hj
    · intro v' w' hown' hgrow
      rw [List.replicate_append_replicate] at hown'
      obtain ⟨g', cap', rfl, hg', hh⟩ := has_own (by omega) hown'
      refine h g' cap' w' hh (.inr hg') ⟨hgrow.os, hgrow.tape, hgrow.output, hgrow.size, fun j hj _ => hgrow.block j hj (by simp)⟩ ?_
      intro r' M _ _ hhas
      exact hhas.keep fun g _ hg => hgrow.block g hg (by simp)

end Go.Proofs.Ytbehliigemoblaa
