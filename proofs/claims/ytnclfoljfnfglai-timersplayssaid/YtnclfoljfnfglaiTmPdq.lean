import Derived.Test.YtnclfoljfnfglaiTmIns
import Derived.Sort.AssemblyPlain
import Derived.Sort.WalkA
import Derived.Deep.MidRow
namespace Go.Proofs.Ytnclfoljfnfglai
open Go.RowKit Go.Maps Go.Sort
set_option linter.unusedVariables false

/-! ## A row of keys that is sorted: what lies there is an array -/
def ltK (x y : Kx) : Bool := decide (cmpK x y < 0)
structure SR (g og cap base n : Nat) (w0 : World) (d : Array Kx) (W : World) : Prop where
  row : KR W base (.slice (some ⟨g, 0, none⟩) n cap) d.toList
  ord : W.heap[og]? = some ordO
  kq : Kq (· = g) w0 W
  ne : og ≠ g
  len : d.size = n
theorem SR.below {g og cap base n : Nat} {w0 : World} {d : Array Kx} {W W' : World} (h : SR g og cap base n w0 d W) (hb : Below W.heap.size W W') : SR g og cap base n w0 d W' :=
  ⟨h.row.keep (S := fun _ => False) (Kq.of_below hb) (fun _ _ h => h), (hb.block og (Array.getElem?_eq_some_iff.1 h.ord).1).trans h.ord, h.kq.then (S' := fun _ => False) (Kq.of_below hb) (fun _ _ h => h.elim), h.ne, h.len⟩
theorem SR.drew {g og cap base n : Nat} {w0 : World} {d : Array Kx} {W : World} (h : SR g og cap base n w0 d W) : SR g og cap base n w0 d W.drew :=
  h.below ⟨rfl, rfl, rfl, Nat.le_refl _, fun _ _ => rfl⟩
theorem SR.cells {g og cap base n : Nat} {w0 : World} {d : Array Kx} {W : World} (h : SR g og cap base n w0 d W) {i : Nat} (hi : i < n) {x : Kx} (hx : d[i]! = x) :
    W.cell? ⟨g, i * 5, none⟩ = some (.int .i64 x.1) ∧ W.cell? ⟨g, i * 5 + 1, none⟩ = some (.int .i64 x.2.1) ∧ W.cell? ⟨g, i * 5 + 2, none⟩ = some (.int .i64 x.2.2.1) ∧ W.cell? ⟨g, i * 5 + 3, none⟩ = some (.int .i64 x.2.2.2.1) ∧ W.cell? ⟨g, i * 5 + 4, none⟩ = some (.int .i64 x.2.2.2.2) := by
  have hl := h.len
  refine h.row.cells (i := i) ?_
  rw [← hx, getElem!_pos d i (by omega)]
  simp [hl, hi]
theorem SR.cmp {g og cap base n : Nat} {w0 : World} {d : Array Kx} {W : World} (h : SR g og cap base n w0 d W) (x y : Kx) :
    Calls Try.prog 74 #[.slice (some ⟨og, 0, none⟩) 5 5, kA x, kA y] W fun e w' => e = .returned (.int .i64 (cmpK x y)) ∧ SR g og cap base n w0 d w' :=
  (compare_any x y og W h.ord).mono fun e w' ⟨h1, h2⟩ => ⟨h1, h.below h2⟩

/-! ## A store of a key into the row -/
def pBlk : Value → Nat
  | .pointer (some a) => a.block
  | _ => 0
def pOff : Value → Nat
  | .pointer (some a) => a.off
  | _ => 0
def pAgg : Value → Array Value
  | .agg c => c
  | _ => #[]
theorem pBlk_ptr (a : Addr) : pBlk (.pointer (some a)) = a.block := rfl
theorem pOff_ptr (a : Addr) : pOff (.pointer (some a)) = a.off := rfl
theorem pAgg_agg (c : Array Value) : pAgg (.agg c) = c := rfl
/-- What a key's store wants. -/
def StOk (w : World) (vx vy : Value) : Prop := ∃ (g o : Nat) (x : Kx), vx = .pointer (some ⟨g, o, none⟩) ∧ vy = kA x ∧ w.there g o 5
theorem wp_store_key {tp : TypeId} {x y : Operand} {d : Option Tmp} {ps : String} {af : Array Edge} {a : Act} {w : World} {K : Act → World → Prop} {Q : Exit → Act → World → Prop}
    (hs : StOk w (a.eval x) (a.eval y)) :
    Oper.wp Try.prog { dst := d, op := .store 51 x y, type := tp, pos := ps, after := af, guard := none } a w K Q = K (a.put d undef) (w.setCells (pBlk (a.eval x)) (pOff (a.eval x)) (pAgg (a.eval y)).toList) := by
  obtain ⟨g, o, k, hx, hy, ht⟩ := hs
  have hr := run_storeAt_mid (P := Try.prog) w g o 51 #[.int .i64 k.1, .int .i64 k.2.1, .int .i64 k.2.2.1, .int .i64 k.2.2.2.1, .int .i64 k.2.2.2.2] ht (by kernel_rfl) (by simp [Value.oneCell'])
  unfold Oper.wp execOp
  simp only [hx, hy, pBlk_ptr, pOff_ptr, pAgg_agg]
  simp only [Sem.run_bind, hr, Result.andThen_ok, Sem.run_pure]
  rfl

/-- Where cells are written, one by one. -/
def setMany (cs : Array Value) (o : Nat) : List Value → Array Value
  | [] => cs
  | v :: r => setMany (cs.setIfInBounds o v) (o + 1) r
theorem heap_setCells {g : Nat} {t : TypeId} : ∀ (vs : List Value) (o : Nat) (w : World) (cs : Array Value), w.heap[g]? = some (.cells cs t (0, 0)) → (w.setCells g o vs).heap[g]? = some (.cells (setMany cs o vs) t (0, 0))
  | [], _, _, _, h => h
  | v :: r, o, w, cs, h => heap_setCells r (o + 1) _ _ (heap_setCell_same w g o cs t v h)
theorem heap_setCells_other {g k : Nat} (hk : k ≠ g) : ∀ (vs : List Value) (o : Nat) (w : World), (w.setCells g o vs).heap[k]? = w.heap[k]?
  | [], _, _ => rfl
  | v :: r, o, w => (heap_setCells_other hk r (o + 1) _).trans (heap_setCell_other _ _ _ _ hk)
theorem kq_setCells {g : Nat} : ∀ (vs : List Value) (o : Nat) (w : World), Kq (· = g) w (w.setCells g o vs)
  | [], _, w => Kq.refl _ _
  | v :: r, o, w => Kq.trans (w1 := w.setCell ⟨g, o, none⟩ v) ⟨rfl, rfl, rfl, by simp, fun k _ h => heap_setCell_other _ _ _ _ h⟩ (kq_setCells r (o + 1) _)
theorem setMany_list : ∀ (vs : List Value) (o : Nat) (cs : Array Value), o + vs.length ≤ cs.size → (setMany cs o vs).toList = cs.toList.take o ++ vs ++ cs.toList.drop (o + vs.length)
  | [], o, cs, _ => by simp [setMany]
  | v :: r, o, cs, h => by
    simp only [List.length_cons] at h
    rw [setMany, setMany_list r (o + 1) _ (by simp; omega)]
    have hl : o < cs.toList.length := by simp; omega
    rw [Array.toList_setIfInBounds]
    have e1 : (cs.toList.set o v).take (o + 1) = cs.toList.take o ++ [v] := by
      rw [List.set_eq_take_append_cons_drop, if_pos hl, show List.take o cs.toList ++ v :: List.drop (o + 1) cs.toList = (List.take o cs.toList ++ [v]) ++ List.drop (o + 1) cs.toList by simp]
      exact List.take_left' (by simp at hl ⊢; omega)
    have e2 : (cs.toList.set o v).drop (o + 1 + r.length) = cs.toList.drop (o + (r.length + 1)) := by
      rw [List.drop_set_of_lt (by omega)]
      congr 1; omega
    rw [e1, e2]
    simp
theorem setMany_size : ∀ (vs : List Value) (o : Nat) (cs : Array Value), (setMany cs o vs).size = cs.size
  | [], _, _ => rfl
  | v :: r, o, cs => by rw [setMany, setMany_size]; simp
theorem kv_split (l : List Kx) (i : Nat) (y : Kx) (hi : i < l.length) : (l.set i y).flatMap kV = (l.flatMap kV).take (i * 5) ++ kV y ++ (l.flatMap kV).drop (i * 5 + 5) := by
  induction l generalizing i with
  | nil => simp at hi
  | cons s r ih =>
    cases i with
    | zero => simp [kV]
    | succ i =>
      simp only [List.length_cons] at hi
      rw [List.set_cons_succ, List.flatMap_cons, List.flatMap_cons, ih i (by omega), show (i + 1) * 5 = (kV s).length + i * 5 by simp [kV]; omega, List.take_length_add_append, show (kV s).length + i * 5 + 5 = (kV s).length + (i * 5 + 5) by omega, List.drop_length_add_append]
      simp
/-- One key of the row is written. -/
theorem SR.set {g og cap base n : Nat} {w0 : World} {d : Array Kx} {W : World} (h : SR g og cap base n w0 d W) {i : Nat} (hi : i < n) (y : Kx) : SR g og cap base n w0 (d.setIfInBounds i y) (W.setCells g (i * 5) (kV y)) := by
  have hl := h.len
  have hlen : d.toList.length = n := by simpa using hl
  obtain ⟨h1, ⟨e, _⟩ | ⟨g', cap', cur, e, hb, hg, hn, hm, hs, ht⟩⟩ := h.row
  · cases e
  · simp only [Value.slice.injEq, Option.some.injEq, Addr.mk.injEq, and_true] at e
    obtain ⟨rfl, _, rfl⟩ := e
    rw [hlen] at hn ht
    have hh := heap_setCells (kV y) (i * 5) W cur hg
    have hk5 : (kV y).length = 5 := rfl
    have h5 : n * 5 ≤ cap * 5 := Nat.mul_le_mul_right 5 hn
    have hi5 : i * 5 + 5 ≤ n * 5 := by omega
    have hcl : cur.toList.length = cap * 5 := by simpa using hs
    have hd2 : (d.setIfInBounds i y).toList.length = n := by simp [hl]
    refine ⟨⟨by rw [kv_len], .inr ⟨g, cap, _, by rw [hd2], hb, hh, by rw [hd2]; exact hn, hm, by rw [setMany_size]; exact hs, ?_⟩⟩, (heap_setCells_other h.ne _ _ _).trans h.ord, h.kq.trans (kq_setCells _ _ _), h.ne, by simp [hl]⟩
    rw [hd2, setMany_list _ _ _ (by rw [hk5, hs]; omega), Array.toList_setIfInBounds, kv_split _ _ _ (by rw [hlen]; exact hi), ← ht, hk5]
    have f1 : (cur.toList.take (i * 5) ++ kV y).length = i * 5 + 5 := by rw [List.length_append, hk5, List.length_take, hcl]; omega
    rw [List.take_append, List.take_of_length_le (by rw [f1]; omega), f1, List.take_take, Nat.min_eq_left (by omega), List.drop_take]

theorem SR.swap {g og cap base n : Nat} {w0 : World} {d : Array Kx} {W : World} (h : SR g og cap base n w0 d W) {i j : Nat} (hi : i < n) (hj : j < n) : SR g og cap base n w0 (swp d i j) ((W.setCells g (i * 5) (kV d[j]!)).setCells g (j * 5) (kV d[i]!)) :=
  (h.set hi _).set hj _
theorem SR.there {g og cap base n : Nat} {w0 : World} {d : Array Kx} {W : World} (h : SR g og cap base n w0 d W) {i : Nat} (hi : i < n) : W.there g (i * 5) 5 := by
  have hl := h.len
  have hlen : d.toList.length = n := by simpa using hl
  obtain ⟨_, ⟨e, _⟩ | ⟨g', cap', cur, e, hb, hg, hn, hm, hs, ht⟩⟩ := h.row
  · cases e
  · simp only [Value.slice.injEq, Option.some.injEq, Addr.mk.injEq, and_true] at e
    obtain ⟨rfl, _, rfl⟩ := e
    rw [hlen] at hn
    have h5 : n * 5 ≤ cap * 5 := Nat.mul_le_mul_right 5 hn
    intro j hj
    refine ⟨?_, by simp [World.frozen?, hg]⟩
    rw [cell_of_row _ g (i * 5 + j) cur _ _ hg]
    rw [Array.getElem?_eq_getElem (by omega)]
    rfl
theorem StOk.mk {g og cap base n : Nat} {w0 : World} {d : Array Kx} {W : World} (h : SR g og cap base n w0 d W) {i : Nat} (hi : i < n) (x : Kx) : StOk W (.pointer (some ⟨g, i * 5, none⟩)) (kA x) := ⟨g, i * 5, x, rfl, rfl, h.there hi⟩

end Go.Proofs.Ytnclfoljfnfglai
