import Derived.Test.YtkkmoplijicmpaeDoorRq5
import Derived.Test.YtkkmoplijicmpaeDoorRx1
namespace Go.Proofs.YtkkmoplijicmpaeDoor
open Go.RowKit
set_option linter.unusedVariables false
set_option linter.unusedSimpArgs false

def spB2 (p : Int × Int) : Bool := decide (0 ≤ p.1) && (decide (p.1 < p.2) && decide (p.2 ≤ 4611686018427387903))
/-- What claims.Right tells. -/
def rtB : Int → List (Int × Int) → Bool
  | _, [] => true
  | least, p :: r => spB2 p && (decide (least ≤ p.1) && rtB (p.2 + 1) r)
theorem rtB_to : ∀ {l : List (Int × Int)} {least lo up : Int}, rtB least l = true → (∀ p, l[0]? = some p → lo ≤ p.1) → (∀ p, l[l.length - 1]? = some p → p.2 ≤ up) → clOk up lo l = true
  | [], _, _, _, _, _, _ => rfl
  | [p], least, lo, up, h, h1, h2 => by
    simp only [rtB, spB2, Bool.and_eq_true, decide_eq_true_eq] at h
    simp only [clOk, Bool.and_eq_true, decide_eq_true_eq, and_true]
    exact ⟨h1 p rfl, h.1.2.1, h2 p rfl⟩
  | p :: q :: s, least, lo, up, h, h1, h2 => by
    simp only [rtB, Bool.and_eq_true] at h
    have h3 : rtB (p.2 + 1) (q :: s) = true := by simp only [rtB, Bool.and_eq_true]; exact h.2.2
    have ih := rtB_to (lo := p.2 + 1) (up := up) h3 (fun x hx => by simp at hx; subst hx; exact of_decide_eq_true h.2.2.2.1) (fun x hx => h2 x (by simpa using hx))
    have ih2 := ih
    simp only [clOk, Bool.and_eq_true, decide_eq_true_eq] at ih2
    have hp := h.1
    simp only [spB2, Bool.and_eq_true, decide_eq_true_eq] at hp
    rw [clOk, Bool.and_eq_true, Bool.and_eq_true, Bool.and_eq_true]
    exact ⟨decide_eq_true (h1 p rfl), decide_eq_true hp.2.1, decide_eq_true (by omega), ih⟩
theorem rtB_of : ∀ {l : List (Int × Int)} {least lo up : Int}, clOk up lo l = true → least ≤ lo → 0 ≤ lo → up ≤ 65536 → rtB least l = true
  | [], _, _, _, _, _, _, _ => rfl
  | p :: r, least, lo, up, h, h1, h2, h3 => by
    simp only [clOk, Bool.and_eq_true, decide_eq_true_eq] at h
    simp only [rtB, spB2, Bool.and_eq_true, decide_eq_true_eq]
    exact ⟨⟨by omega, h.2.1, by omega⟩, by omega, rtB_of h.2.2.2 (Int.le_refl _) (by omega) h3⟩
theorem asked_g (f t : Int) (w : World) (q : Bool) (hq : (decide (0 ≤ f) && (decide (f ≤ t) && decide (t ≤ 4611686018427387903))) = q) : Calls Tryd.prog 115 #[.agg #[.int .i64 f, .int .i64 t]] w fun e w' => e = .returned (.bool q) ∧ ∃ y, w' = ext w y := by
  have HB : Hid (∃ y, w.alloc (.cells #[.int .i64 f, .int .i64 t] 36) = ext w y) := ⟨_, ext_al w _⟩
  subst hq
  by_cases h0 : 0 ≤ f
  · have d0 : decide (0 ≤ f) = true := decide_eq_true h0
    by_cases h1 : f ≤ t
    · have d1 : decide (f ≤ t) = true := decide_eq_true h1
      by_cases h2 : t ≤ 4611686018427387903
      · have d2 : decide (t ≤ 4611686018427387903) = true := decide_eq_true h2
        rw [d0, d1, d2]
        go_enter Tryd.func115, Tryd.ntmps115
        go_wp2
        go_ret
        exact ⟨rfl, HB.out⟩
      · have d2 : decide (t ≤ 4611686018427387903) = false := decide_eq_false h2
        rw [d0, d1, d2]
        go_enter Tryd.func115, Tryd.ntmps115
        go_wp2
        go_ret
        exact ⟨rfl, HB.out⟩
    · have d1 : decide (f ≤ t) = false := decide_eq_false h1
      rw [d0, d1, Bool.true_and, Bool.false_and]
      go_enter Tryd.func115, Tryd.ntmps115
      go_wp2
      go_ret
      exact ⟨rfl, HB.out⟩
  · have d0 : decide (0 ≤ f) = false := decide_eq_false h0
    rw [d0, Bool.false_and]
    go_enter Tryd.func115, Tryd.ntmps115
    go_wp2
    go_ret
    exact ⟨rfl, HB.out⟩
theorem may_g (f t : Int) (w : World) (q : Bool) (hq : spB2 (f, t) = q) : Calls Tryd.prog 119 #[.agg #[.int .i64 f, .int .i64 t]] w fun e w' => e = .returned (.bool q) ∧ ∃ y, w' = ext w y := by
  obtain ⟨qa, hqa⟩ : ∃ q, (decide (0 ≤ f) && (decide (f ≤ t) && decide (t ≤ 4611686018427387903))) = q := ⟨_, rfl⟩
  have HA := asked_g f t (w.alloc (.cells #[.int .i64 f, .int .i64 t] 36)) qa hqa
  have h0 : (w.alloc (.cells #[.int .i64 f, .int .i64 t] 36)).heap[w.heap.size]? = some (.cells #[.int .i64 f, .int .i64 t] 36 (0, 0)) := al_new _ _
  have HC : Hid (∀ y, (ext (w.alloc (.cells #[.int .i64 f, .int .i64 t] 36)) y).cell? ⟨w.heap.size, 0, none⟩ = some (.int .i64 f) ∧ (ext (w.alloc (.cells #[.int .i64 f, .int .i64 t] 36)) y).cell? ⟨w.heap.size, 1, none⟩ = some (.int .i64 t)) := fun y => by
    have h1 := ((ext_below _ y).block w.heap.size (Array.getElem?_eq_some_iff.1 h0).1).trans h0
    exact ⟨(cell_of_row _ _ _ _ _ _ h1).trans rfl, (cell_of_row _ _ _ _ _ _ h1).trans rfl⟩
  have HQ : Hid (spB2 (f, t) = q ∧ (decide (0 ≤ f) && (decide (f ≤ t) && decide (t ≤ 4611686018427387903))) = qa) := ⟨hq, hqa⟩
  clear h0 hq hqa
  go_enter Tryd.func119, Tryd.ntmps119
  go_wp2_with fail
  refine HA.mono ?_
  rintro e w2 ⟨rfl, y, rfl⟩
  have HX : Hid (∃ z, ext (w.alloc (.cells #[.int .i64 f, .int .i64 t] 36)) y = ext w z) := ⟨_, by rw [ext_al w, ext_ext]⟩
  obtain ⟨c0, c1⟩ := HC.out y
  generalize ext (w.alloc (.cells #[.int .i64 f, .int .i64 t] 36)) y = w2 at *
  clear HA HC
  cases qa with
  | false =>
    have HF : Hid (q = false) := by
      show _ = _
      rw [← HQ.out.1]
      have h := HQ.out.2
      refine Bool.eq_false_iff.mpr fun h2 => ?_
      simp only [spB2, Bool.and_eq_true, decide_eq_true_eq] at h2
      rw [decide_eq_true h2.1, decide_eq_true (by omega), decide_eq_true h2.2.2] at h
      cases h
    go_wp2
    go_ret
    exact ⟨retB HF.out, HX.out⟩
  | true =>
    have hh := HQ.out.2
    simp only [Bool.and_eq_true, decide_eq_true_eq] at hh
    by_cases h1 : f < t
    · have d1 : decide (f < t) = true := decide_eq_true h1
      have HF : Hid (q = true) := by show _ = _; rw [← HQ.out.1]; simp only [spB2, Bool.and_eq_true, decide_eq_true_eq]; omega
      clear hh
      go_wp2
      go_ret
      exact ⟨retB HF.out, HX.out⟩
    · have d1 : decide (f < t) = false := decide_eq_false h1
      have HF : Hid (q = false) := by
        show _ = _
        rw [← HQ.out.1]
        refine Bool.eq_false_iff.mpr fun h2 => ?_
        simp only [spB2, Bool.and_eq_true, decide_eq_true_eq] at h2
        omega
      clear hh
      go_wp2
      go_ret
      exact ⟨retB HF.out, HX.out⟩
theorem rtB_stop {l : List (Int × Int)} : ∀ {least : Int} {k : Nat} {p : Int × Int} {m : Int}, (∀ q, rtB least l = q → rtB m (l.drop k) = q) → l[k]? = some p → (spB2 p = false ∨ ¬ m ≤ p.1) → rtB least l = false := by
  intro least k p m h hp hb
  cases hq : rtB least l with
  | false => rfl
  | true =>
    have h2 := h _ hq
    rw [drop_get l k p hp] at h2
    simp only [rtB, Bool.and_eq_true, decide_eq_true_eq] at h2
    rcases hb with hb | hb
    · rw [h2.1] at hb; cases hb
    · exact absurd h2.2.1 hb
set_option maxHeartbeats 4000000 in
/-- claims.Right of any list: it makes new blocks alone. -/
theorem right_g (a : Option Addr) (n c : Nat) (l : List (Int × Int)) (w : World) (h : CIn w (.slice a n c) l) (hn : l.length = n) (h2 : n ≤ 1000) (q : Bool) (hq : rtB 0 l = q) :
    Calls Tryd.prog 76 #[.slice a n c] w fun e w' => e = .returned (.bool q) ∧ ∃ y, w' = ext w y := by
  have HS : Hid (CIn w (.slice a n c) l) := h
  have HN : Hid (l.length = n) := hn
  have HQ : Hid (rtB 0 l = q) := hq
  have h2' : ¬ (2000 : Int) < (n : Int) := by omega
  clear h hn hq
  go_enter Tryd.func76, Tryd.ntmps76
  go_wp2_with fail
  go_loopw [3, 11] (fun q2 i wr => ∃ (k : Nat) (least : Int), k ≤ n ∧ i = .int .i64 k ∧ q2 = .int .i64 least ∧ Hid ((∃ y, wr = ext w y) ∧ rtB 0 l = rtB least (l.drop k))) (fun _ i _ => n - (intOf i).toNat)
  case atStart => exact ⟨0, 0, by omega, rfl, rfl, ⟨⟨[], 0⟩, rfl⟩, by rw [List.drop_zero]⟩
  case round =>
    obtain ⟨k, least, hk, rfl, rfl, HJ⟩ := hrel
    by_cases hlt : k < n
    · have hlt' : (k : Int) < (n : Int) := by omega
      obtain ⟨p, hp⟩ := get_one l k (by rw [HN.out]; exact hlt)
      obtain ⟨y, hy⟩ := HJ.out.1
      have hbe : Below w.heap.size w wr := by rw [hy]; exact ext_below w y
      obtain ⟨g, off, rfl, q1, q2⟩ := (HS.out.below hbe).at hp
      obtain ⟨qm, hqm⟩ : ∃ q, spB2 p = q := ⟨_, rfl⟩
      have hA := may_g p.1 p.2 (wr.alloc (.cells #[.int .i64 p.1, .int .i64 p.2] 36)) qm hqm
      have h0 : (wr.alloc (.cells #[.int .i64 p.1, .int .i64 p.2] 36)).heap[wr.heap.size]? = some (.cells #[.int .i64 p.1, .int .i64 p.2] 36 (0, 0)) := al_new _ _
      have HC : Hid (∀ z, (ext (wr.alloc (.cells #[.int .i64 p.1, .int .i64 p.2] 36)) z).cell? ⟨wr.heap.size, 0, none⟩ = some (.int .i64 p.1) ∧ (ext (wr.alloc (.cells #[.int .i64 p.1, .int .i64 p.2] 36)) z).cell? ⟨wr.heap.size, 1, none⟩ = some (.int .i64 p.2)) := fun z => by
        have h1 := ((ext_below _ z).block wr.heap.size (Array.getElem?_eq_some_iff.1 h0).1).trans h0
        exact ⟨(cell_of_row _ _ _ _ _ _ h1).trans rfl, (cell_of_row _ _ _ _ _ _ h1).trans rfl⟩
      have HX : Hid (∀ z, ∃ z', ext (wr.alloc (.cells #[.int .i64 p.1, .int .i64 p.2] 36)) z = ext w z') := fun z => ⟨_, by rw [hy, ext_al (ext w y), ext_ext, ext_ext]⟩
      have HM : Hid (spB2 p = qm) := hqm
      have HNx : Hid (spB2 p = true → least ≤ p.1 → rtB 0 l = rtB (p.2 + 1) (l.drop (k + 1))) := fun e1 e2 => by
        rw [HJ.out.2, drop_get l k p hp]
        simp only [rtB]
        rw [e1, decide_eq_true e2, Bool.true_and, Bool.true_and]
      have HSt : Hid ((spB2 p = false ∨ ¬ least ≤ p.1) → q = false) := fun e => by
        rw [← HQ.out]
        exact rtB_stop (k := k) (m := least) (fun q2 e2 => by rw [← HJ.out.2]; exact e2) hp e
      have HB : Hid (spB2 p = true → p.2 ≤ 4611686018427387903 ∧ 0 ≤ p.2) := fun e => by simp only [spB2, Bool.and_eq_true, decide_eq_true_eq] at e; omega
      obtain ⟨p1, p2⟩ := p
      simp only at q1 q2 hA HC HX HNx HSt HB
      clear hp hy hbe h0 HJ hqm
      go_wp2_with fail
      refine hA.mono ?_
      rintro e w2 ⟨rfl, z, rfl⟩
      obtain ⟨c0, c1⟩ := HC.out z
      have HX2 := HX.out z
      have HX2 : Hid (∃ z', ext (wr.alloc (.cells #[.int .i64 p1, .int .i64 p2] 36)) z = ext w z') := HX2
      generalize ext (wr.alloc (.cells #[.int .i64 p1, .int .i64 p2] 36)) z = w2 at *
      clear hA HC HX
      cases qm with
      | false =>
        have HF : Hid (q = false) := HSt.out (.inl HM.out)
        go_wp2
        go_ret
        exact ⟨retB HF.out, HX2.out⟩
      | true =>
        by_cases hl : p1 < least
        · have dl : decide (p1 < least) = true := decide_eq_true hl
          have HF : Hid (q = false) := HSt.out (.inr (by omega))
          go_wp2
          go_ret
          exact ⟨retB HF.out, HX2.out⟩
        · have dl : decide (p1 < least) = false := decide_eq_false hl
          have hb := HB.out HM.out
          have hwp : IntKind.i64.wrap (p2 + 1) = p2 + 1 := by rw [IntKind.wrap_i64]; omega
          have HG : Hid (rtB 0 l = rtB (p2 + 1) (l.drop (k + 1))) := HNx.out HM.out (by omega)
          clear hb
          go_wp2
          go_roundw
          case rel => exact ⟨k + 1, p2 + 1, by omega, by go_num, by go_num, HX2.out, HG.out⟩
          case measure => simp [intOf]; omega
    · have hlt' : ¬ (k : Int) < (n : Int) := by omega
      have HX : Hid (∃ y, wr = ext w y) := HJ.out.1
      have HF : Hid (q = true) := by
        show _ = _
        rw [← HQ.out, HJ.out.2, List.drop_of_length_le (by rw [HN.out]; omega)]
        rfl
      go_wp2
      go_ret
      exact ⟨retB HF.out, HX.out⟩

end Go.Proofs.YtkkmoplijicmpaeDoor

namespace Go.Proofs.YtkkmoplijicmpaeDoor
open Go.RowKit
set_option linter.unusedVariables false
set_option linter.unusedSimpArgs false

theorem seg_cx {V : World} {b n c : Nat} {a : Option Addr} {k : Qu} {r : Rr} (h : V.heap[b]? = some (.cells (rsC k r a n c) 81 (0, 0))) : V.cell? ⟨b, 0, none⟩ = some (.int .i64 8) ∧ V.cell? ⟨b, 1, none⟩ = some (.int .i64 k.org) ∧ V.cell? ⟨b, 2, none⟩ = some (.int .i64 k.num) ∧ V.cell? ⟨b, 3, none⟩ = some (.slice none 0 0) ∧ V.cell? ⟨b, 4, none⟩ = some (.slice none 0 0) ∧ V.cell? ⟨b, 5, none⟩ = some (.int .i64 0) ∧ V.cell? ⟨b, 6, none⟩ = some (.int .i64 0) ∧ V.cell? ⟨b, 7, none⟩ = some (.slice none 0 0) ∧ V.cell? ⟨b, 8, none⟩ = some (.int .i64 r.chk) ∧ V.cell? ⟨b, 9, none⟩ = some (.int .i64 r.ser) ∧ V.cell? ⟨b, 10, none⟩ = some (.int .i64 r.upp) ∧ V.cell? ⟨b, 11, none⟩ = some (.int .i64 r.low) ∧ V.cell? ⟨b, 12, none⟩ = some (.slice a n c) ∧ V.cell? ⟨b, 13, none⟩ = some (.int .i64 0) ∧ V.frozen? ⟨b, 12, none⟩ = false :=
  ⟨(cell_of_row _ _ _ _ _ _ h).trans rfl, (cell_of_row _ _ _ _ _ _ h).trans rfl, (cell_of_row _ _ _ _ _ _ h).trans rfl, (cell_of_row _ _ _ _ _ _ h).trans rfl, (cell_of_row _ _ _ _ _ _ h).trans rfl, (cell_of_row _ _ _ _ _ _ h).trans rfl, (cell_of_row _ _ _ _ _ _ h).trans rfl, (cell_of_row _ _ _ _ _ _ h).trans rfl, (cell_of_row _ _ _ _ _ _ h).trans rfl, (cell_of_row _ _ _ _ _ _ h).trans rfl, (cell_of_row _ _ _ _ _ _ h).trans rfl, (cell_of_row _ _ _ _ _ _ h).trans rfl, (cell_of_row _ _ _ _ _ _ h).trans rfl, (cell_of_row _ _ _ _ _ _ h).trans rfl, frozen_of_row _ _ _ _ _ h⟩
theorem seg_cz {V : World} {b : Nat} (h : V.heap[b]? = some (.cells #[.int .i64 0, .int .i64 0, .int .i64 0, .slice none 0 0, .slice none 0 0, .int .i64 0, .int .i64 0, .slice none 0 0, .int .i64 0, .int .i64 0, .int .i64 0, .int .i64 0, .slice none 0 0, .int .i64 0] 81 (0, 0))) : V.cell? ⟨b, 0, none⟩ = some (.int .i64 0) ∧ V.cell? ⟨b, 1, none⟩ = some (.int .i64 0) ∧ V.cell? ⟨b, 2, none⟩ = some (.int .i64 0) ∧ V.cell? ⟨b, 3, none⟩ = some (.slice none 0 0) ∧ V.cell? ⟨b, 4, none⟩ = some (.slice none 0 0) ∧ V.cell? ⟨b, 5, none⟩ = some (.int .i64 0) ∧ V.cell? ⟨b, 6, none⟩ = some (.int .i64 0) ∧ V.cell? ⟨b, 7, none⟩ = some (.slice none 0 0) ∧ V.cell? ⟨b, 8, none⟩ = some (.int .i64 0) ∧ V.cell? ⟨b, 9, none⟩ = some (.int .i64 0) ∧ V.cell? ⟨b, 10, none⟩ = some (.int .i64 0) ∧ V.cell? ⟨b, 11, none⟩ = some (.int .i64 0) ∧ V.cell? ⟨b, 12, none⟩ = some (.slice none 0 0) ∧ V.cell? ⟨b, 13, none⟩ = some (.int .i64 0) ∧ V.frozen? ⟨b, 0, none⟩ = false ∧ V.frozen? ⟨b, 1, none⟩ = false ∧ V.frozen? ⟨b, 2, none⟩ = false ∧ V.frozen? ⟨b, 3, none⟩ = false ∧ V.frozen? ⟨b, 4, none⟩ = false ∧ V.frozen? ⟨b, 5, none⟩ = false ∧ V.frozen? ⟨b, 6, none⟩ = false ∧ V.frozen? ⟨b, 7, none⟩ = false ∧ V.frozen? ⟨b, 8, none⟩ = false ∧ V.frozen? ⟨b, 9, none⟩ = false ∧ V.frozen? ⟨b, 10, none⟩ = false ∧ V.frozen? ⟨b, 11, none⟩ = false ∧ V.frozen? ⟨b, 12, none⟩ = false ∧ V.frozen? ⟨b, 13, none⟩ = false :=
  ⟨(cell_of_row _ _ _ _ _ _ h).trans rfl, (cell_of_row _ _ _ _ _ _ h).trans rfl, (cell_of_row _ _ _ _ _ _ h).trans rfl, (cell_of_row _ _ _ _ _ _ h).trans rfl, (cell_of_row _ _ _ _ _ _ h).trans rfl, (cell_of_row _ _ _ _ _ _ h).trans rfl, (cell_of_row _ _ _ _ _ _ h).trans rfl, (cell_of_row _ _ _ _ _ _ h).trans rfl, (cell_of_row _ _ _ _ _ _ h).trans rfl, (cell_of_row _ _ _ _ _ _ h).trans rfl, (cell_of_row _ _ _ _ _ _ h).trans rfl, (cell_of_row _ _ _ _ _ _ h).trans rfl, (cell_of_row _ _ _ _ _ _ h).trans rfl, (cell_of_row _ _ _ _ _ _ h).trans rfl, frozen_of_row _ _ _ _ _ h, frozen_of_row _ _ _ _ _ h, frozen_of_row _ _ _ _ _ h, frozen_of_row _ _ _ _ _ h, frozen_of_row _ _ _ _ _ h, frozen_of_row _ _ _ _ _ h, frozen_of_row _ _ _ _ _ h, frozen_of_row _ _ _ _ _ h, frozen_of_row _ _ _ _ _ h, frozen_of_row _ _ _ _ _ h, frozen_of_row _ _ _ _ _ h, frozen_of_row _ _ _ _ _ h, frozen_of_row _ _ _ _ _ h, frozen_of_row _ _ _ _ _ h⟩
/-- Blocks from one on alone were written. -/
structure Kb (B : Nat) (w V : World) : Prop where
  os : V.os = w.os
  tape : V.tape = w.tape
  output : V.output = w.output
  size : V.heap.size = w.heap.size
  block : ∀ g, (∀ b, b = B → g ≠ b) → V.heap[g]? = w.heap[g]?
theorem Kb.refl (B : Nat) (w : World) : Kb B w w := ⟨rfl, rfl, rfl, rfl, fun _ _ => rfl⟩
theorem Kb.set {B : Nat} {w V : World} (h : Kb B w V) (i : Nat) (u : Value) : Kb B w (V.setCell ⟨B, i, none⟩ u) :=
  ⟨h.os, h.tape, h.output, by rw [← h.size]; simp, fun g hg => (Below.heap_setCell _ _ _ _ (by show g ≠ B; exact hg B rfl)).trans (h.block g hg)⟩
theorem Kb.below {B b0 : Nat} {w0 w V : World} (h : Kb B w V) (hb : Below b0 w0 w) (hB : b0 ≤ B) : Below b0 w0 V := ⟨h.os.trans hb.os, h.tape.trans hb.tape, h.output.trans hb.output, by rw [h.size]; exact hb.size, fun g hg => (h.block g (fun b e => by omega)).trans (hb.block g hg)⟩

theorem seg_end {w w3 V : World} {b2 n c : Nat} {a : Option Addr} {l : List (Int × Int)} (hb : Below w.heap.size w w3) (hs : C.SOwn w3 b2 (.slice a n c) l) (h2 : w.heap.size + 1 + 1 < b2) (hl : l.length ≤ 1048576) (hk : Kb (w.heap.size + 1 + 1) w3 V) : CIn V (.slice a n c) l ∧ Below w.heap.size w V :=
  ⟨cin_own (hs.blk2 fun g hg => hk.block g (fun b e => by have h1 := (hs.lt g hg).1; omega)) hl, hk.below hb (by omega)⟩

set_option maxRecDepth 100000 in
set_option maxHeartbeats 4000000 in
theorem rqMay_ok (r : Rr) (hr : r.Ok) (a : Option Addr) (n c : Nat) (hn : r.clm.length = n) (w : World) (hC : CIn w (.slice a n c) r.clm) :
    Calls Tryd.prog 85 #[.agg (rpA r n a c)] w fun e w' => e = .returned (.bool true) ∧ Below w.heap.size w w' := by
  obtain ⟨W, hW⟩ : ∃ W, w.alloc (.cells (rpA r n a c) 75) = W := ⟨_, rfl⟩
  have HWe : Hid (w.alloc (.cells (rpA r n a c) 75) = W) := hW
  have hbW : Below w.heap.size w W := by rw [← hW]; exact (Below.refl _ _).alloc (Nat.le_refl _) _
  have HBW : Hid (Below w.heap.size w W) := hbW
  have HRo : Hid (∀ V, Below W.heap.size W V → V.heap[w.heap.size]? = some (.cells (rpA r n a c) 75 (0, 0))) := fun V hV => by
    have h1 : W.heap[w.heap.size]? = some (.cells (rpA r n a c) 75 (0, 0)) := by rw [← hW]; exact al_new _ _
    exact (hV.block _ (Array.getElem?_eq_some_iff.1 h1).1).trans h1
  have hSc := rqScope_any r.low r.upp W
  rw [decide_eq_true (⟨hr.low, hr.mid, hr.upp⟩ : 0 ≤ r.low ∧ r.low < r.upp ∧ r.upp ≤ 65536)] at hSc
  have hCl := rqClaims_ok a n c r.clm r.low r.upp W (hC.below hbW) hn (by rw [← hn]; exact hr.some) (by rw [← hn]; exact hr.few) hr.cls
  have b1 := hr.ser.1; have b2 := hr.ser.2; have b3 := hr.chk.1; have b4 := hr.chk.2
  have y0 := (cell_of_row _ _ 0 _ _ _ (HRo.out W (Below.refl _ _))).trans (show (rpA r n a c)[0]? = some (.int .i64 r.ser) from rfl)
  have y1 := (cell_of_row _ _ 1 _ _ _ (HRo.out W (Below.refl _ _))).trans (show (rpA r n a c)[1]? = some (.int .i64 r.chk) from rfl)
  have y2 := (cell_of_row _ _ 2 _ _ _ (HRo.out W (Below.refl _ _))).trans (show (rpA r n a c)[2]? = some (.int .i64 r.upp) from rfl)
  have y3 := (cell_of_row _ _ 3 _ _ _ (HRo.out W (Below.refl _ _))).trans (show (rpA r n a c)[3]? = some (.int .i64 r.low) from rfl)
  have y4 := (cell_of_row _ _ 4 _ _ _ (HRo.out W (Below.refl _ _))).trans (show (rpA r n a c)[4]? = some (.slice a n c) from rfl)
  clear hW hbW hC hr hn
  go_enter Tryd.func85, Tryd.ntmps85
  go_wp2_with fail
  rw [HWe.out]
  refine hSc.mono ?_
  rintro e w1 ⟨rfl, hw1⟩
  subst hw1
  go_wp2_with fail
  refine hCl.mono ?_
  rintro e w2 ⟨rfl, hb2⟩
  have HB2 : Hid (Below W.heap.size W w2) := hb2
  clear y0 y1 y2 y3 y4 hSc hCl
  have y0 := (cell_of_row _ _ 0 _ _ _ (HRo.out w2 hb2)).trans (show (rpA r n a c)[0]? = some (.int .i64 r.ser) from rfl)
  have y1 := (cell_of_row _ _ 1 _ _ _ (HRo.out w2 hb2)).trans (show (rpA r n a c)[1]? = some (.int .i64 r.chk) from rfl)
  clear hb2
  go_wp2
  go_ret
  exact ⟨rfl, HBW.out.trans (HB2.out.mono HBW.out.size)⟩

set_option maxRecDepth 100000 in
set_option maxHeartbeats 8000000 in
/-- The reference's Segment, of a report that may be. -/
theorem rqSegment_ok (k : Qu) (ok : k.Ok) (r : Rr) (hr : r.Ok) (a : Option Addr) (n c : Nat) (hn : r.clm.length = n) (w : World) (hC : CIn w (.slice a n c) r.clm) :
    Calls Tryd.prog 34 #[.agg #[.int .i64 k.org, .int .i64 k.num], .agg (rpA r n a c)] w fun e w' => ∃ a' c', e = .returned (.tuple #[.agg (rsC k r a' n c'), .int .i64 0]) ∧ CIn w' (.slice a' n c') r.clm ∧ Below w.heap.size w w' := by
  obtain ⟨W, hW⟩ : ∃ W, ((w.alloc (.cells #[.int .i64 k.org, .int .i64 k.num] 23)).alloc (.cells (rpA r n a c) 75)).alloc (.cells #[.int .i64 0, .int .i64 0, .int .i64 0, .slice none 0 0, .slice none 0 0, .int .i64 0, .int .i64 0, .slice none 0 0, .int .i64 0, .int .i64 0, .int .i64 0, .int .i64 0, .slice none 0 0, .int .i64 0] 81) = W := ⟨_, rfl⟩
  have HWe : Hid (_ = W) := hW
  have hbW : Below w.heap.size w W := by rw [← hW]; exact (((Below.refl _ _).alloc (Nat.le_refl _) _).alloc (by simp) _).alloc (by simp; omega) _
  have HBW : Hid (Below w.heap.size w W) := hbW
  have hz : W.heap.size = w.heap.size + 3 := by rw [← hW]; simp
  have HZ : Hid (W.heap.size = w.heap.size + 3) := hz
  have r0 : W.heap[w.heap.size]? = some (.cells #[.int .i64 k.org, .int .i64 k.num] 23 (0, 0)) := by rw [← hW]; exact al_old (al_old (al_new _ _))
  have r1 : W.heap[w.heap.size + 1]? = some (.cells (rpA r n a c) 75 (0, 0)) := by
    rw [← hW]
    have := al_new (w.alloc (.cells #[.int .i64 k.org, .int .i64 k.num] 23)) (.cells (rpA r n a c) 75)
    rw [World.size_alloc] at this
    exact al_old this
  have r2 : W.heap[w.heap.size + 1 + 1]? = some (.cells #[.int .i64 0, .int .i64 0, .int .i64 0, .slice none 0 0, .slice none 0 0, .int .i64 0, .int .i64 0, .slice none 0 0, .int .i64 0, .int .i64 0, .int .i64 0, .int .i64 0, .slice none 0 0, .int .i64 0] 81 (0, 0)) := by
    rw [← hW]
    have := al_new ((w.alloc (.cells #[.int .i64 k.org, .int .i64 k.num] 23)).alloc (.cells (rpA r n a c) 75)) (.cells #[.int .i64 0, .int .i64 0, .int .i64 0, .slice none 0 0, .slice none 0 0, .int .i64 0, .int .i64 0, .slice none 0 0, .int .i64 0, .int .i64 0, .int .i64 0, .int .i64 0, .slice none 0 0, .int .i64 0] 81)
    rw [World.size_alloc, World.size_alloc] at this
    exact this
  have HRb : Hid (∀ V, Below W.heap.size W V → (V.cell? ⟨w.heap.size, 0, none⟩ = some (.int .i64 k.org) ∧ V.cell? ⟨w.heap.size, 1, none⟩ = some (.int .i64 k.num)) ∧ (V.cell? ⟨w.heap.size + 1, 0, none⟩ = some (.int .i64 r.ser) ∧ V.cell? ⟨w.heap.size + 1, 1, none⟩ = some (.int .i64 r.chk) ∧ V.cell? ⟨w.heap.size + 1, 2, none⟩ = some (.int .i64 r.upp) ∧ V.cell? ⟨w.heap.size + 1, 3, none⟩ = some (.int .i64 r.low) ∧ V.cell? ⟨w.heap.size + 1, 4, none⟩ = some (.slice a n c)) ∧ V.heap[w.heap.size + 1 + 1]? = some (.cells #[.int .i64 0, .int .i64 0, .int .i64 0, .slice none 0 0, .slice none 0 0, .int .i64 0, .int .i64 0, .slice none 0 0, .int .i64 0, .int .i64 0, .int .i64 0, .int .i64 0, .slice none 0 0, .int .i64 0] 81 (0, 0))) := fun V hV => by
    have s0 := (hV.block _ (Array.getElem?_eq_some_iff.1 r0).1).trans r0
    have s1 := (hV.block _ (Array.getElem?_eq_some_iff.1 r1).1).trans r1
    have s2 := (hV.block _ (Array.getElem?_eq_some_iff.1 r2).1).trans r2
    exact ⟨⟨(cell_of_row _ _ _ _ _ _ s0).trans rfl, (cell_of_row _ _ _ _ _ _ s0).trans rfl⟩, ⟨(cell_of_row _ _ _ _ _ _ s1).trans rfl, (cell_of_row _ _ _ _ _ _ s1).trans rfl, (cell_of_row _ _ _ _ _ _ s1).trans rfl, (cell_of_row _ _ _ _ _ _ s1).trans rfl, (cell_of_row _ _ _ _ _ _ s1).trans rfl⟩, s2⟩
  have hS := rqSession_any k.org k.num W
  rw [decide_eq_true ⟨ok.org, ok.num⟩] at hS
  have HMy : Hid (∀ V, Below W.heap.size W V → Calls Tryd.prog 85 #[.agg (rpA r n a c)] V fun e w' => e = .returned (.bool true) ∧ Below V.heap.size V w') := fun V hV => rqMay_ok r hr a n c hn V ((hC.below hbW).below hV)
  have HLd : Hid (∀ V, Below W.heap.size W V → Calls Tryd.prog 86 #[.agg #[.int .i64 k.org, .int .i64 k.num], .agg (rpA r n a c)] V fun e w' => ∃ a' c', e = .returned (.agg (rsC k r a' n c')) ∧ C.SOwn w' V.heap.size (.slice a' n c') r.clm ∧ Below V.heap.size V w') := fun V hV => rqLaid_any k r a n c hn (by rw [← hn]; exact hr.some) V ((hC.below hbW).below hV)
  have HSm : Hid (r.clm.length ≤ 1048576) := hC.small
  obtain ⟨⟨s0, s1⟩, ⟨y0, y1, y2, y3, y4⟩, _⟩ := HRb.out W (Below.refl _ _)
  clear hW hbW hC hr ok hn r0 r1 r2 hz
  go_enter Tryd.func34, Tryd.ntmps34
  go_wp2_with fail
  rw [HWe.out]
  refine hS.mono ?_
  rintro e w1 ⟨rfl, hb1⟩
  have HB1 : Hid (Below W.heap.size W w1) := hb1
  clear s0 s1 y0 y1 y2 y3 y4 hS
  obtain ⟨⟨s0, s1⟩, ⟨y0, y1, y2, y3, y4⟩, _⟩ := HRb.out w1 hb1
  have hMy := HMy.out w1 hb1
  clear hb1
  go_wp2_with fail
  refine hMy.mono ?_
  rintro e w2 ⟨rfl, hb2⟩
  have HB2 : Hid (Below W.heap.size W w2) := HB1.out.trans (hb2.mono HB1.out.size)
  clear s0 s1 y0 y1 y2 y3 y4 hMy hb2
  obtain ⟨⟨s0, s1⟩, ⟨y0, y1, y2, y3, y4⟩, _⟩ := HRb.out w2 HB2.out
  have hLd := HLd.out w2 HB2.out
  go_wp2_with fail
  refine hLd.mono ?_
  rintro e w3 ⟨a3, c3, rfl, hs3, hb3⟩
  have HB3 : Hid (Below W.heap.size W w3) := HB2.out.trans (hb3.mono HB2.out.size)
  have HS3 : Hid (C.SOwn w3 w2.heap.size (.slice a3 n c3) r.clm) := hs3
  have HW2 : Hid (W.heap.size ≤ w2.heap.size) := HB2.out.size
  clear s0 s1 y0 y1 y2 y3 y4 hLd hb3 hs3
  obtain ⟨d0, d1, d2, d3, d4, d5, d6, d7, d8, d9, d10, d11, d12, d13, z0, z1, z2, z3, z4, z5, z6, z7, z8, z9, z10, z11, z12, z13⟩ := seg_cz (HRb.out w3 HB3.out).2.2
  go_wp2
  refine bodyPost_ret (v := .tuple #[.agg (rsC k r a3 n c3), .int .i64 0]) (by simp [results, Tryd.results34, go_sem, d0, d1, d2, d3, d4, d5, d6, d7, d8, d9, d10, d11, d12, d13]) rfl ?_
  obtain ⟨q1, q2⟩ := seg_end (HBW.out.trans (HB3.out.mono HBW.out.size)) HS3.out (by have h2 := HW2.out; have h3 := HZ.out; omega) HSm.out ((((((((((((((((Kb.refl _ _).set _ _).set _ _).set _ _).set _ _).set _ _).set _ _).set _ _).set _ _).set _ _).set _ _).set _ _).set _ _).set _ _).set _ _))
  exact ⟨a3, c3, rfl, q1, q2⟩

end Go.Proofs.YtkkmoplijicmpaeDoor
