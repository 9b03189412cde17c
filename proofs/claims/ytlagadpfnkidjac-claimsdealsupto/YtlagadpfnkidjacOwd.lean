import Derived.Test.YtlagadpfnkidjacBok
namespace Go.Proofs.Ytlagadpfnkidjac
open Go.RowKit

theorem Try.info_spans : (Try.prog.info? 22).map (fun i => (i.zero, i.size, i.bytes)) = some (some (.slice none 0 0), 1, 24) := by kernel_rfl

/-- The book lies in block Bk. -/
def Book (W : World) (Bk : Nat) (lv gv : Value) : Prop := W.heap[Bk]? = some (.cells #[lv, gv] 30 (0, 0))
theorem Book.c0 {W : World} {Bk : Nat} {lv gv : Value} (h : Book W Bk lv gv) : W.cell? ⟨Bk, 0, none⟩ = some lv := by unfold Book at h; simp [World.cell?, h]
theorem Book.c1 {W : World} {Bk : Nat} {lv gv : Value} (h : Book W Bk lv gv) : W.cell? ⟨Bk, 1, none⟩ = some gv := by unfold Book at h; simp [World.cell?, h]
theorem Book.fz {W : World} {Bk : Nat} {lv gv : Value} (h : Book W Bk lv gv) (i : Nat) : W.frozen? ⟨Bk, i, none⟩ = false := by unfold Book at h; simp [World.frozen?, h]
theorem Book.lt {W : World} {Bk : Nat} {lv gv : Value} (h : Book W Bk lv gv) : Bk < W.heap.size := (Array.getElem?_eq_some_iff.1 h).1
theorem Book.set0 {W : World} {Bk : Nat} {lv gv : Value} (h : Book W Bk lv gv) (v : Value) : Book (W.setCell ⟨Bk, 0, none⟩ v) Bk v gv := by
  unfold Book at h ⊢
  simp only [World.setCell, Array.getElem?_modify, h, if_true, Option.map_some]
  simp
theorem Book.set1 {W : World} {Bk : Nat} {lv gv : Value} (h : Book W Bk lv gv) (v : Value) : Book (W.setCell ⟨Bk, 1, none⟩ v) Bk lv v := by
  unfold Book at h ⊢
  simp only [World.setCell, Array.getElem?_modify, h, if_true, Option.map_some]
  simp
theorem Book.grown {W W' : World} {Bk : Nat} {lv gv : Value} {row : Option Nat} (h : Book W Bk lv gv) (hg : W.grownBy W' row) (hr : row ≠ some Bk) : Book W' Bk lv gv := (hg.block Bk h.lt (fun e => hr e.symm)).trans h

/-- How far the marks are written. -/
def stg (i : Nat) (cs : List Rw) : List Rw := cs.mapIdx fun j x => (x.1, if j < i then mrk j x.2.length else x.2)
theorem stg_get (i : Nat) (cs : List Rw) (j : Nat) : (stg i cs)[j]? = (cs[j]?).map fun x => (x.1, if j < i then mrk j x.2.length else x.2) := by simp [stg]
theorem stg_zero (cs : List Rw) : stg 0 cs = cs := by
  apply List.ext_getElem?; intro j; rw [stg_get]; cases cs[j]? <;> simp
theorem stg_len (i : Nat) (cs : List Rw) : (stg i cs).length = cs.length := by simp [stg]
theorem stg_at {i : Nat} {cs : List Rw} {x : Rw} (h : cs[i]? = some x) : (stg i cs)[i]? = some x := by rw [stg_get, h]; simp
theorem stg_self {i : Nat} {cs : List Rw} {x : Rw} (h : cs[i]? = some x) : (stg i cs).set i x = stg i cs := by
  apply List.ext_getElem?; intro j
  by_cases hj : i = j
  · subst hj; rw [List.getElem?_set_self (by rw [stg_len]; exact (List.getElem?_eq_some_iff.mp h).1), stg_at h]
  · rw [List.getElem?_set_ne hj]
theorem stg_next {i : Nat} {cs : List Rw} {x : Rw} (h : cs[i]? = some x) : (stg i cs).set i (x.1, mrk i x.2.length) = stg (i + 1) cs := by
  apply List.ext_getElem?; intro j
  by_cases hj : i = j
  · subst hj
    rw [List.getElem?_set_self (by rw [stg_len]; exact (List.getElem?_eq_some_iff.mp h).1), stg_get, h]; simp
  · rw [List.getElem?_set_ne hj, stg_get, stg_get]
    congr 1; funext y
    have : (j < i) = (j < i + 1) := propext ⟨fun h => by omega, fun h => by omega⟩
    simp only [this]

/-- Some lists have grown by nine marks. -/
structure Gw (i : Nat) (cs0 cs : List Rw) : Prop where
  len : cs.length = cs0.length
  done : ∀ (j : Nat) x, j < i → cs0[j]? = some x → ∃ v, cs[j]? = some (v, mrk j (x.2.length + 9))
  rest : ∀ (j : Nat) x, i ≤ j → cs0[j]? = some x → cs[j]? = some (x.1, mrk j x.2.length)
theorem Gw.next {i : Nat} {cs0 cs : List Rw} {x : Rw} {v : Value} (h : Gw i cs0 cs) (hx : cs0[i]? = some x) : Gw (i + 1) cs0 (cs.set i (v, mrk i (x.2.length + 9))) := by
  have hi : i < cs.length := by rw [h.len]; exact (List.getElem?_eq_some_iff.mp hx).1
  refine ⟨by rw [List.length_set]; exact h.len, fun j y hj hy => ?_, fun j y hj hy => ?_⟩
  · by_cases e : i = j
    · subst e
      rw [hx] at hy; cases hy
      exact ⟨v, by rw [List.getElem?_set_self hi]⟩
    · rw [List.getElem?_set_ne e]; exact h.done j y (by omega) hy
  · rw [List.getElem?_set_ne (by omega)]; exact h.rest j y (by omega) hy
theorem take_set {cs : List Rw} {i : Nat} {x : Rw} (hi : i < cs.length) : ((cs.set i x).take (i + 1)).map (·.1) = (cs.take i).map (·.1) ++ [x.1] := by
  rw [List.take_add_one, List.getElem?_set_self hi, List.map_append, List.take_set_of_le (Nat.le_refl _)]
  rfl

theorem one_val (W : World) (v : Value) (t : TypeId) : ∀ j u, [v][j]? = some u → (W.alloc (.cells #[v] t)).cell? ((⟨W.heap.size, 0, none⟩ : Addr).add j) = some u := by
  intro j u hj
  cases j with
  | zero => simp at hj; subst hj; simp [Addr.add]
  | succ j => simp at hj

end Go.Proofs.Ytlagadpfnkidjac
