import Derived.Test.YtbehliigemoblaaParts
import Derived.Test.YtbehliigemoblaaRefBytes
namespace Go.Proofs.Ytbehliigemoblaa
open Go.RowKit

def Apt (r s : Rw) : Prop := ∀ g, r.blk = some g → s.blk ≠ some g

theorem Apt.symm {r s : Rw} (h : Apt r s) : Apt s r := fun g hs hr => h g hr hs

/-- Rows that were gathered in a list: each in a block of its own, from lo on. -/
structure Coll (t tt : TypeId) (k : IntKind) (lo ob N : Nat) (W : World) (vl : Value) (rl : List Rw) : Prop where
  apt : rl.Pairwise Apt
  has : ∀ r ∈ rl, Has W t k r 0 0
  low : ∀ r ∈ rl, ∀ g, r.blk = some g → lo ≤ g
  small : ∀ r ∈ rl, r.n ≤ N
  own : W.ownsRow ob tt 1 vl rl.length (rl.map sv)

theorem Coll.below {t tt : TypeId} {k : IntKind} {lo ob N : Nat} {W W' : World} {vl : Value} {rl : List Rw} (h : Coll t tt k lo ob N W vl rl) (hb : Below W.heap.size W W') : Coll t tt k lo ob N W' vl rl :=
  ⟨h.apt, fun r hr => (h.has r hr).keep fun g _ hg => hb.block g hg, h.low, h.small, own_below' h.own hb⟩

theorem Coll.kept {t tt : TypeId} {k : IntKind} {lo ob N m : Nat} {W W' : World} {vl : Value} {rl : List Rw} (h : Coll t tt k lo ob N W vl rl) (hg : W.grownBy W' (some m)) (h1 : m < lo) (h2 : m < ob) : Coll t tt k lo ob N W' vl rl := by
  refine ⟨h.apt, fun r hr => (h.has r hr).keep fun g hb hl => hg.block g hl (fun e => ?_), h.low, h.small, h.own.kept hg ?_⟩
  · simp only [Option.some.injEq] at e
    have := h.low r hr g hb
    omega
  · cases hv : vl.ownBlock with
    | none => left; rfl
    | some g => right; intro e; simp only [Option.some.injEq] at e; have := h.own.lt g hv; omega

theorem Coll.add {t tt : TypeId} {k : IntKind} {lo ob N : Nat} {W W' : World} {vl v' : Value} {rl es : List Rw} {o : Obj} (h : Coll t tt k lo ob N W vl rl) (hne : tt ≠ t)
    (e1 : ∀ e ∈ es, Has W t k e 0 0) (e2 : ∀ e ∈ es, ∀ g, e.blk = some g → lo ≤ g) (e3 : ∀ e ∈ es, e.n ≤ N) (e4 : es.Pairwise Apt) (e5 : ∀ r ∈ rl, ∀ e ∈ es, Apt r e)
    (hg : (W.alloc o).grownBy W' vl.ownBlock) (ho : W'.ownsRow ob tt 1 v' (rl.length + es.length) (rl.map sv ++ es.map sv)) : Coll t tt k lo ob N W' v' (rl ++ es) := by
  have keep : ∀ r, Has W t k r 0 0 → Has W' t k r 0 0 := fun r hr => hr.keep fun g hb hl => by
    rw [hg.block g (by simp; omega) (fun e => own_apart hr h.own hne g e.symm hb), Below.heap_alloc _ _ _ hl]
  refine ⟨?_, ?_, ?_, ?_, ?_⟩
  · rw [List.pairwise_append]; exact ⟨h.apt, e4, e5⟩
  · intro r hr
    rcases List.mem_append.1 hr with hr | hr
    · exact keep r (h.has r hr)
    · exact keep r (e1 r hr)
  · intro r hr
    rcases List.mem_append.1 hr with hr | hr
    · exact h.low r hr
    · exact e2 r hr
  · intro r hr
    rcases List.mem_append.1 hr with hr | hr
    · exact h.small r hr
    · exact e3 r hr
  · rw [List.length_append, List.map_append]; exact ho

theorem Coll.mono {t tt : TypeId} {k : IntKind} {lo lo' ob N N' : Nat} {W : World} {vl : Value} {rl : List Rw} (h : Coll t tt k lo ob N W vl rl) (hl : lo' ≤ lo) (hn : N ≤ N') : Coll t tt k lo' ob N' W vl rl :=
  ⟨h.apt, h.has, fun r hr g hg => Nat.le_trans hl (h.low r hr g hg), fun r hr => Nat.le_trans (h.small r hr) hn, h.own⟩

theorem Coll.given {t tt : TypeId} {k : IntKind} {lo ob N B L cap : Nat} {W : World} {rl : List Rw} (h : Coll t tt k lo ob N W (.slice (some ⟨L, 0, none⟩) rl.length cap) rl) (hne : tt ≠ t) (hB : B ≤ lo) (hW : B ≤ W.heap.size) :
    Given W t k rl.length L B (fun i => rl.getD i ⟨none, 0, 0⟩) := by
  have hget : ∀ i (hi : i < rl.length), rl.getD i ⟨none, 0, 0⟩ = rl[i] := fun i hi => by rw [List.getD_eq_getElem?_getD, List.getElem?_eq_getElem hi]; rfl
  refine ⟨?_, ?_, ?_, ?_, ?_, hW, (h.own.lt L rfl).2⟩
  · intro i hi
    rw [h.own.cellAt i (by omega), List.getElem?_map, List.getElem?_eq_getElem hi, hget i hi]; rfl
  · intro i hi
    exact ⟨0, by rw [hget i hi]; exact h.has _ (List.getElem_mem hi)⟩
  · intro i j hi hj hij g hg
    rw [hget i hi] at hg
    rw [hget j hj]
    rcases Nat.lt_or_ge i j with hl | hl
    · exact (List.pairwise_iff_getElem.1 h.apt i j hi hj hl) g hg
    · exact (List.pairwise_iff_getElem.1 h.apt j i hj hi (by omega)).symm g hg
  · intro i hi
    rw [hget i hi]
    exact own_apart (h.has _ (List.getElem_mem hi)) h.own hne L rfl
  · intro i hi g hg
    rw [hget i hi] at hg
    exact Nat.le_trans hB (h.low _ (List.getElem_mem hi) g hg)

theorem Coll.getD_small {t tt : TypeId} {k : IntKind} {lo ob N : Nat} {W : World} {vl : Value} {rl : List Rw} (h : Coll t tt k lo ob N W vl rl) : ∀ i, i < rl.length → (rl.getD i ⟨none, 0, 0⟩).n ≤ N := fun i hi => by
  rw [List.getD_eq_getElem?_getD, List.getElem?_eq_getElem hi]; exact h.small _ (List.getElem_mem hi)

/-- A row that is owned, as one of the rows. -/
theorem row_of {W : World} {base n cap : Nat} {t : TypeId} {a : Option Addr} {xs : List Value} (k : IntKind) (h : W.ownsRow base t 1 (.slice a n cap) n xs) : ∃ r : Rw, sv r = .slice a n cap ∧ r.n = n ∧ Has W t k r 0 0 ∧ ∀ g, r.blk = some g → base ≤ g ∧ g < W.heap.size := by
  have hlt := h.lt
  obtain ⟨_, ⟨hv, h0⟩ | ⟨g, cap', cur, hv, hb, hg, h1, h2, h3, _⟩⟩ := h
  · simp only [Value.slice.injEq] at hv
    obtain ⟨rfl, rfl, rfl⟩ := hv
    exact ⟨⟨none, 0, 0⟩, rfl, rfl, .inl ⟨rfl, rfl, rfl⟩, fun g h => by cases h⟩
  · simp only [Value.slice.injEq] at hv
    obtain ⟨rfl, _, rfl⟩ := hv
    exact ⟨⟨some g, n, cap⟩, rfl, rfl, .inr ⟨g, cur, rfl, hg, by simpa using h3, h2, h1, fun j hj => by omega⟩, fun g' h => hlt g' h⟩

/-- Two rows that came one behind the other stand apart. -/
theorem apt_of {r s : Rw} {m : Nat} (hr : ∀ g, r.blk = some g → g < m) (hs : ∀ g, s.blk = some g → m ≤ g) : Apt r s := fun g h1 h2 => by have := hr g h1; have := hs g h2; omega

end Go.Proofs.Ytbehliigemoblaa
