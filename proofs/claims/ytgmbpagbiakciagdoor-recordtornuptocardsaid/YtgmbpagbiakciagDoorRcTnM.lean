import Derived.Test.YtgmbpagbiakciagDoorRcFme
import Derived.Test.YtgmbpagbiakciagDoorRcFst
import Derived.Test.YtgmbpagbiakciagDoorRcSby
namespace Go.Proofs.YtgmbpagbiakciagDoor
open Go.RowKit
set_option linter.unusedVariables false
set_option linter.unusedSimpArgs false

/-- How many bytes the first frames have. -/
def frT (l : List Rc) (k : Nat) : Nat := ((l.take k).flatMap frB).length
theorem frT_0 (l : List Rc) : frT l 0 = 0 := by simp [frT]
theorem frT_all (l : List Rc) {k : Nat} (h : l.length ≤ k) : frT l k = (l.flatMap frB).length := by unfold frT; rw [List.take_of_length_le h]
theorem frT_le (l : List Rc) (k : Nat) : frT l k ≤ (l.flatMap frB).length := by
  unfold frT
  have : l.flatMap frB = (l.take k).flatMap frB ++ (l.drop k).flatMap frB := by rw [← List.flatMap_append, List.take_append_drop]
  rw [this, List.length_append]
  omega
theorem frT_succ (l : List Rc) {k : Nat} (h : k < l.length) : frT l (k + 1) = frT l k + (frB l[k]).length := by
  unfold frT
  rw [fr_take l h, List.length_append]
theorem frT_bd {l : List Rc} (h : ∀ r ∈ l, mayB6 r = true) (k : Nat) : frT l k ≤ 80008 * l.length := Nat.le_trans (frT_le l k) (fr_len h)
/-- Where a number of bytes ends. -/
theorem cut_ex (l : List Rc) (C : Nat) : ∀ n, n ≤ l.length → ∃ K, K ≤ n ∧ (∀ j, j < K → frT l (j + 1) ≤ C) ∧ (K < n → C < frT l (K + 1))
  | 0, _ => ⟨0, Nat.le_refl _, fun j hj => by omega, fun h => by omega⟩
  | n + 1, hn => by
    obtain ⟨K, h1, h2, h3⟩ := cut_ex l C n (by omega)
    by_cases e : K < n
    · exact ⟨K, by omega, h2, fun _ => h3 e⟩
    · obtain rfl : K = n := by omega
      by_cases q : frT l (K + 1) ≤ C
      · exact ⟨K + 1, by omega, fun j hj => by
          by_cases ej : j < K
          · exact h2 j ej
          · obtain rfl : j = K := by omega
            exact q, fun h => by omega⟩
      · exact ⟨K, by omega, h2, fun _ => by omega⟩
theorem cut_lo {l : List Rc} {C K : Nat} (h : ∀ j, j < K → frT l (j + 1) ≤ C) : frT l K ≤ C := by
  cases K with
  | zero => rw [frT_0]; omega
  | succ k => exact h k (by omega)
theorem scR_at {l : List Rc} (hm : ∀ r ∈ l, mayB6 r = true ∧ Bytey r.data) {C K : Nat} (hC : C ≤ (l.flatMap frB).length) (hK : K ≤ l.length) (h1 : ∀ j, j < K → frT l (j + 1) ≤ C) (h2 : K < l.length → C < frT l (K + 1)) : scR ((l.flatMap frB).take C) = (l.take K, frT l K) := by
  by_cases e : K < l.length
  · exact scR_cut hm e (cut_lo h1) (h2 e)
  · obtain rfl : K = l.length := by omega
    have h3 := cut_lo h1
    rw [frT_all l (Nat.le_refl _)] at h3 ⊢
    rw [List.take_of_length_le h3, List.take_length]
    exact scR_all hm

def endsL (l : List Rc) (k : Nat) : List Value := (List.range k).map fun j => .int .i64 ((frT l (j + 1) : Nat) : Int)
theorem endsL_succ (l : List Rc) (k : Nat) : endsL l (k + 1) = endsL l k ++ [.int .i64 ((frT l (k + 1) : Nat) : Int)] := by
  unfold endsL
  rw [List.range_succ, List.map_append]
  rfl
theorem endsL_at (l : List Rc) {n k : Nat} (h : k < n) : (endsL l n)[k]? = some (.int .i64 ((frT l (k + 1) : Nat) : Int)) := by
  unfold endsL
  rw [List.getElem?_map, List.getElem?_range h]
  rfl
/-- The frames and their ends. -/
structure Th (w wr : World) (v e : Value) (l : List Rc) (k : Nat) : Prop where
  row : wr.ownsRow w.heap.size 5 1 v (frT l k) (((l.take k).flatMap frB).map (Value.int .u8))
  ends : wr.ownsRow w.heap.size 3 1 e k (endsL l k)
  ne : ∀ j, v.ownBlock = some j → e.ownBlock ≠ some j
  bel : Below w.heap.size w wr
theorem Th.below {w wr w' : World} {v e : Value} {l : List Rc} {k : Nat} (h : Th w wr v e l k) (hb : Below wr.heap.size wr w') : Th w w' v e l k :=
  ⟨own_below6 h.row hb, own_below6 h.ends hb, h.ne, h.bel.trans (hb.mono h.bel.size)⟩
theorem Th.grown {w wr w' : World} {v e : Value} {l : List Rc} {k lo : Nat} {row : Option Nat} (h : Th w wr v e l k) (hg : wr.grownBy w' row) (hlo : ∀ j, row = some j → lo ≤ j) (hv : ∀ j, v.ownBlock = some j → j < lo) (he : ∀ j, e.ownBlock = some j → j < lo) (hw : w.heap.size ≤ lo) : Th w w' v e l k :=
  ⟨own_keep6 h.row hg (fun j hj q => by have := hlo j q; have := hv j hj; omega), own_keep6 h.ends hg (fun j hj q => by have := hlo j q; have := he j hj; omega), h.ne, h.bel.grown hg h.bel.size (fun j hj => Nat.le_trans hw (hlo j hj))⟩
theorem Th.lies {w wr : World} {v e : Value} {l : List Rc} {k : Nat} (h : Th w wr v e l k) : ∃ a c, v = .slice a (frT l k) c ∧ Lies .u8 wr a ((l.take k).flatMap frB) ∧ frT l k ≤ c ∧ c ≤ 9223372036854775807 := by
  obtain ⟨a, c, h1, h2, _, h3, h4⟩ := row_sh2 h.row
  exact ⟨a, c, h1, h2, h3, h4⟩
theorem Th.end_at {w wr : World} {v : Value} {l : List Rc} {n : Nat} {ge ce : Nat} (h : Th w wr v (.slice (some ⟨ge, 0, none⟩) n ce) l n) {k : Nat} (hk : k < n) : wr.cell? ⟨ge, k, none⟩ = some (.int .i64 ((frT l (k + 1) : Nat) : Int)) := by
  rw [h.ends.cellAt k (by omega)]
  exact endsL_at l hk
theorem Tryd.info_int6 : (Tryd.prog.info? 3).map (fun i => (i.zero, i.size, i.bytes)) = some (some (.int .i64 0), 1, 8) := by kernel_rfl
/-- How an owned row of bytes lies. -/
theorem row_ad {w : World} {base n : Nat} {a : Option Addr} {c : Nat} {xs : List Value} (h : w.ownsRow base 5 1 (.slice a n c) n xs) : a = none ∧ c = 0 ∨ ∃ g off, a = some ⟨g, off, none⟩ := by
  obtain ⟨_, ⟨h1, h2⟩ | ⟨g, cap, cur, h1, _⟩⟩ := h
  · simp only [Value.slice.injEq] at h1; exact .inl ⟨h1.1, h1.2.2⟩
  · simp only [Value.slice.injEq] at h1; exact .inr ⟨g, 0, h1.1⟩
theorem lies_take {W : World} {a : Option Addr} {ys : List Int} (h : Lies .u8 W a ys) (C : Nat) : Lies .u8 W a (ys.take C) := by
  rcases h with rfl | ⟨g, off, h1, h2⟩
  · left; simp
  · refine .inr ⟨g, off, h1, fun i hi => ?_⟩
    rw [List.length_take] at hi
    rw [h2 i (by omega), List.getD_eq_getElem?_getD, List.getD_eq_getElem?_getD, List.getElem?_take_of_lt (by omega)]
theorem fm_one {r : Rc} (h : mayB6 r = true) : fmR [r] = (frB r, 0) := by
  rw [fmR_ok (by intro q hq; simp at hq; rw [hq]; exact h)]; simp
theorem fm_one_no {r : Rc} (h : mayB6 r = false) : fmR [r] = ([], 60) := fmR_no (r := r) (by simp) h

set_option maxHeartbeats 400000 in
theorem start_any (l : List Rc) (ge n ce k : Nat) (w : World) (hk : k ≤ n) (hn : n ≤ 1048576) (hc : ∀ j, j < n → w.cell? ⟨ge, j, none⟩ = some (.int .i64 ((frT l (j + 1) : Nat) : Int))) :
    Calls Tryd.prog 15 #[.slice (some ⟨ge, 0, none⟩) n ce, .int .i64 k] w fun e w' => e = .returned (.int .i64 ((frT l k : Nat) : Int)) ∧ w = w' := by
  cases k with
  | zero =>
    rw [frT_0]
    go_enter Tryd.func15, Tryd.ntmps15
    go_wp2
    go_ret
    exact ⟨rfl, rfl⟩
  | succ j =>
    have c0 := hc j (by omega)
    have h1 : ((j + 1 : Nat) : Int) - 1 = (j : Int) := by omega
    have h2 : ¬ ((j + 1 : Nat) : Int) = 0 := by omega
    have h3 : (j : Int) < (n : Int) := by omega
    have h4 : IntKind.i64.wrap (j : Int) = j := by simp [IntKind.wrap, IntKind.bits, IntKind.signed]; omega
    generalize frT l (j + 1) = F at *
    clear hc
    go_enter Tryd.func15, Tryd.ntmps15
    go_wp2
    go_ret
    exact ⟨rfl, rfl⟩
end Go.Proofs.YtgmbpagbiakciagDoor
