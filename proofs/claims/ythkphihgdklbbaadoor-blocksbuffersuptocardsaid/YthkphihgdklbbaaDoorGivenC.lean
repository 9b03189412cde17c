import Derived.Test.YthkphihgdklbbaaDoorRows
import Derived.Test.YthkphihgdklbbaaDoorSam
import Derived.ProofKit
import Derived.OpenShut
import Derived.ShutString
import Derived.ChangeOld
import Derived.SizedLaws
import Derived.Deep.SlicePairs
namespace Go.Proofs.YthkphihgdklbbaaDoor.C
open Go.ChangeShapes Go.WideShapes Go.ChangeAt Go.RowKit

theorem own : ownKnob Tryd.prog.godebug = none := by kernel_rfl
theorem laidOut : laidOutB Tryd.prog = true := by kernel_rfl

theorem bulk_one {H : Type} (d : DataW H) : 1 ≤ Rows.uptoBulk d := by
  cases d with
  | lit l => cases l <;> simp [Rows.uptoBulk]
  | _ => simp [Rows.uptoBulk]
theorem bulk_length {H : Type} : ∀ l : List (DataW H), l.length ≤ Rows.uptoBulkAll l
  | [] => by simp [Rows.uptoBulkAll]
  | x :: r => by have := bulk_one x; have := bulk_length r; simp only [Rows.uptoBulkAll, List.length_cons]; omega

/-- A list of what is there at each place. -/
theorem list_of {α : Type} {n : Nat} {p : Nat → α → Prop} (h : ∀ i, i < n → ∃ x, p i x) : ∃ l : List α, l.length = n ∧ ∀ (i : Nat) x, l[i]? = some x → p i x := by
  induction n with
  | zero => exact ⟨[], rfl, fun i x hx => by simp at hx⟩
  | succ n ih =>
    obtain ⟨l, hl, hp⟩ := ih (fun i hi => h i (by omega))
    obtain ⟨x, hx⟩ := h n (by omega)
    refine ⟨l ++ [x], by simp [hl], fun i y hy => ?_⟩
    rcases Nat.lt_or_ge i n with q | q
    · rw [List.getElem?_append_left (by omega)] at hy; exact hp i y hy
    · rw [List.getElem?_append_right (by omega)] at hy
      have : i - l.length = 0 := by
        rcases Nat.eq_zero_or_pos (i - l.length) with e | e
        · exact e
        · rw [List.getElem?_eq_none (by simp; omega)] at hy; cases hy
      rw [this] at hy
      simp at hy
      subst hy
      obtain rfl : i = n := by omega
      exact hx

variable {H : Type} {enc : TypeId × Value → H} {W : World}

theorem spot_none {a : Addr} {j : Nat} {u : Value} (hj : j = 0) (h : W.cell? (a.add j) = some u) : ∃ g off, a = ⟨g, off, none⟩ := by
  subst hj
  obtain ⟨b, off, spot⟩ := a
  have hs : spot = none := by simpa [Addr.add] using World.cell?_spot h
  subst hs
  exact ⟨b, off, rfl⟩
theorem add_none (g off j : Nat) : (⟨g, off, none⟩ : Addr).add j = ⟨g, off + j, none⟩ := by unfold Addr.add; split <;> simp_all

/-- A list of spans that came in. -/
theorem ls_of {v : Value} {d : DataW H} {p : List MemPlace} (h : DataW.Trod enc Tryd.prog W 0 (fun _ => true) true 59 v d p) (hs : ∃ a n c, v = .slice a n c) : ∃ l, Ls W v l ∧ l.length ≤ Rows.uptoBulk d ∧ (∀ s ∈ l, (-9223372036854775808 ≤ s.1 ∧ s.1 ≤ 9223372036854775807) ∧ (-9223372036854775808 ≤ s.2 ∧ s.2 ≤ 9223372036854775807)) := by
  obtain ⟨fuel, h⟩ := h
  obtain ⟨a', n', c', rfl⟩ := hs
  rcases Go.Deep.open_slice_pairs Tryd.underlying59 Tryd.underlying38 (by kernel_rfl) rfl rfl (by kernel_rfl) (by kernel_rfl) h with ⟨hcs, _⟩ | ⟨a, len, cap, m, n, V0, V1, D0, D1, P0, P1, hcs, _, hl, hm, hmm, hx, hcell⟩
  · simp [Value.cells] at hcs
    obtain ⟨rfl, rfl, rfl⟩ := hcs
    exact ⟨[], Ls.nil _, by simp, fun _ h => by cases h⟩
  · simp [Value.cells] at hcs
    obtain ⟨rfl, rfl, rfl⟩ := hcs
    simp only [if_true] at hmm
    subst hmm
    simp only [Prod.mk.injEq] at hx
    have hlen : n' ≤ Rows.uptoBulk d := by
      have h1 := bulk_length ((List.range n').map fun i => DataW.agg [D0 i, D1 i])
      rw [hx.1]
      simp only [Rows.uptoBulk]
      simp only [List.length_map, List.length_range] at h1
      omega
    obtain ⟨xs, hxl, hxs⟩ := list_of (n := n') (p := fun i (x : Sp) => W.cell? (a.add (i * 2)) = some (.int .i64 x.1) ∧ W.cell? (a.add (i * 2 + 1)) = some (.int .i64 x.2) ∧ ((-9223372036854775808 ≤ x.1 ∧ x.1 ≤ 9223372036854775807) ∧ (-9223372036854775808 ≤ x.2 ∧ x.2 ≤ 9223372036854775807))) (fun i hi => by
      obtain ⟨c0, c1, t0, t1⟩ := hcell i (by omega)
      obtain ⟨t, ht, h3⟩ := DataW.trod_int Tryd.underlying3 t0
      obtain ⟨u, hu, h4⟩ := DataW.trod_int Tryd.underlying3 t1
      simp at ht hu
      exact ⟨(t, u), by rw [c0, ht], by rw [c1, hu], bounds_i64 h3.2, bounds_i64 h4.2⟩)
    subst hxl
    refine ⟨xs, ⟨⟨some a, _, rfl, ?_, hl, by unfold maxLen at hm; omega⟩, by unfold maxLen at hm; omega⟩, hlen, fun s hs => ?_⟩
    · by_cases h0 : xs = []
      · exact .inl h0
      · right
        obtain ⟨c0, _⟩ := hcell 0 (by have := List.length_pos_iff.mpr h0; omega)
        obtain ⟨g, off, rfl⟩ := spot_none (by omega) c0
        refine ⟨g, off, rfl, fun i x hi => ?_⟩
        obtain ⟨q1, q2, _⟩ := hxs i x hi
        rw [add_none] at q1 q2
        exact ⟨q1, q2⟩
    · obtain ⟨i, hi⟩ := List.getElem?_of_mem hs
      exact (hxs i s hi).2.2

theorem cells_int : Tryd.prog.cellsOf 3 = 1 := by kernel_rfl
theorem cells_span : Tryd.prog.cellsOf 38 = 2 := by kernel_rfl

set_option maxRecDepth 100000 in
/-- A span that came in. -/
theorem span_of {v : Value} {d : DataW H} {p : List MemPlace} {base : Nat} (hok : Value.okWide Tryd.prog W .any base 38 v) (h : DataW.Trod enc Tryd.prog W 0 (fun _ => true) true 38 v d p) :
    ∃ f t : Int, v = .agg #[.int .i64 f, .int .i64 t] ∧ ((-9223372036854775808 ≤ f ∧ f ≤ 9223372036854775807) ∧ (-9223372036854775808 ≤ t ∧ t ≤ 9223372036854775807)) := by
  obtain ⟨cs, rfl, hsz⟩ := okWide_struct Tryd.underlying38 hok
  rw [cells_span] at hsz
  obtain ⟨fuel, hf⟩ := h
  obtain ⟨l⟩ := cs
  have hf' : DataW.trod enc Tryd.prog W 0 (fun _ => true) true fuel 38 l = some (d, p) := hf
  clear hf hok
  match l, hsz with
  | [c0, c1], _ =>
    obtain ⟨z0, z1, k, _, _, s0, s1⟩ := trod_struct2 Tryd.underlying38 hf'
    simp only [cells_int] at s0 s1
    obtain ⟨n1, r1, w1⟩ := DataW.trod_int Tryd.underlying3 s0
    obtain ⟨n2, r2, w2⟩ := DataW.trod_int Tryd.underlying3 s1
    simp at r1 r2
    subst r1 r2
    exact ⟨n1, n2, rfl, bounds_i64 w1.2, bounds_i64 w2.2⟩

end Go.Proofs.YthkphihgdklbbaaDoor.C
