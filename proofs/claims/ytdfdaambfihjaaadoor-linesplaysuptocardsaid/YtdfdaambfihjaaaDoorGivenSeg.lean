import Derived.Test.YtdfdaambfihjaaaDoorGiven
import Derived.Test.YtdfdaambfihjaaaDoorBody
import Derived.Deep.SlicePairs
namespace Go.Proofs.YtdfdaambfihjaaaDoor
open Go.ChangeShapes Go.WideShapes Go.ChangeAt Go.RowKit

theorem bulk_mem {H : Type} {d : DataW H} : ∀ {l : List (DataW H)}, d ∈ l → Rows.uptoBulk d ≤ Rows.uptoBulkAll l
  | [], h => by cases h
  | x :: r, h => by
    simp only [Rows.uptoBulkAll]
    rcases List.mem_cons.mp h with rfl | h
    · omega
    · have := bulk_mem h; omega

/-- A list of what is there at each place. -/
theorem list_of {α : Type} {n : Nat} {p : Nat → α → Prop} (h : ∀ i, i < n → ∃ x, p i x) : ∃ l : List α, l.length = n ∧ ∀ (i : Nat) x, l[i]? = some x → p i x := by
  induction n with
  | zero => exact ⟨[], rfl, fun i x hx => by simp at hx⟩
  | succ n ih =>
    obtain ⟨l, hl, hp⟩ := ih (fun i hi => h i (by omega))
    obtain ⟨x, hx⟩ := h n (by omega)
    refine ⟨l ++ [x], by simp [hl], fun i y hy => ?_⟩
    rcases Nat.lt_or_ge i n with q | q
    · rw [List.getElem?_append_left (by omega)] at hy; exact hp i y hy
    · rw [List.getElem?_append_right (by omega)] at hy
      have : i - l.length = 0 := by
        rcases Nat.eq_zero_or_pos (i - l.length) with e | e
        · exact e
        · rw [List.getElem?_eq_none (by simp; omega)] at hy; cases hy
      rw [this] at hy
      simp at hy
      subst hy
      obtain rfl : i = n := by omega
      exact hx

variable {H : Type} {enc : TypeId × Value → H} {W : World}

theorem bin_of {fuel : Nat} {v : Value} {d : DataW H} {p : List MemPlace} (h : DataW.trod enc Tryd.prog W 0 (fun _ => true) true fuel 34 [v] = some (d, p)) (hb : Rows.uptoBulk d ≤ 1048576) : ∃ zs, BIn W v zs := by
  have hv : ∃ a len cap, v = .slice a len cap := by
    rcases open_ints Tryd.underlying34 Tryd.underlying5 (by kernel_rfl) h with ⟨hcs, _⟩ | ⟨x, l, c, zs, hcs, _⟩
    · simp at hcs; exact ⟨_, _, _, hcs⟩
    · simp at hcs; exact ⟨_, _, _, hcs⟩
  obtain ⟨a, len, cap, rfl⟩ := hv
  obtain ⟨zs, l, c, b, e, n⟩ := given_ints Tryd.underlying34 Tryd.underlying5 (by kernel_rfl) (p := p) ⟨fuel, h⟩
  have m := bulk_ints l e
  subst l
  exact ⟨zs, ⟨a, cap, rfl, c, n, m.1, by omega⟩, bytey_of b, by omega⟩

theorem spot_none {a : Addr} {j : Nat} {u : Value} (hj : j = 0) (h : W.cell? (a.add j) = some u) : ∃ g off, a = ⟨g, off, none⟩ := by
  subst hj
  obtain ⟨b, off, spot⟩ := a
  have hs : spot = none := by simpa [Addr.add] using World.cell?_spot h
  subst hs
  exact ⟨b, off, rfl⟩
theorem add_none (g off j : Nat) : (⟨g, off, none⟩ : Addr).add j = ⟨g, off + j, none⟩ := by unfold Addr.add; split <;> simp_all

theorem xin_of {fuel : Nat} {v : Value} {d : DataW H} {p : List MemPlace} (h : DataW.trod enc Tryd.prog W 0 (fun _ => true) true fuel 33 [v] = some (d, p)) (hb : Rows.uptoBulk d ≤ 1048576) : ∃ xs, XIn W v xs := by
  rcases Go.Deep.open_slice_pairs Tryd.underlying33 Tryd.underlying93 (by kernel_rfl) rfl rfl (by kernel_rfl) (by kernel_rfl) h with ⟨hcs, _⟩ | ⟨a, len, cap, m, n, V0, V1, D0, D1, P0, P1, hcs, _, hl, hm, hmm, hx, hcell⟩
  · simp at hcs
    subst hcs
    exact ⟨[], ⟨none, 0, rfl, .inl rfl⟩, (fun _ h => by cases h), by simp⟩
  · simp at hcs
    subst hcs
    simp only [if_true] at hmm
    subst hmm
    simp only [Prod.mk.injEq] at hx
    have hbd : ∀ i, i < len → Rows.uptoBulk (D1 i) ≤ 1048576 := by
      intro i hi
      have e : DataW.agg [D0 i, D1 i] ∈ (List.range len).map fun i => DataW.agg [D0 i, D1 i] := List.mem_map.mpr ⟨i, List.mem_range.mpr hi, rfl⟩
      have h1 := bulk_mem e
      rw [hx.1] at hb
      simp only [Rows.uptoBulk, Rows.uptoBulkAll] at hb h1
      omega
    have hlen : len ≤ 1048576 := by
      have h1 := bulk_length ((List.range len).map fun i => DataW.agg [D0 i, D1 i])
      rw [hx.1] at hb
      simp only [Rows.uptoBulk] at hb
      simp only [List.length_map, List.length_range] at h1
      omega
    obtain ⟨xs, hxl, hxs⟩ := list_of (n := len) (p := fun i (x : Xr) => W.cell? (a.add (i * 2)) = some (.int .i64 x.tag) ∧ W.cell? (a.add (i * 2 + 1)) = some x.val ∧ BIn W x.val x.data) (fun i hi => by
      obtain ⟨c0, c1, t0, t1⟩ := hcell i (by omega)
      obtain ⟨t, ht, _⟩ := DataW.trod_int Tryd.underlying3 t0
      simp at ht
      obtain ⟨zs, hz⟩ := bin_of t1 (hbd i hi)
      obtain ⟨ad, cd, hv, _⟩ := hz.shape
      refine ⟨⟨t, ad, cd, zs⟩, by rw [c0, ht], by rw [c1, hv]; rfl, ?_⟩
      show BIn W (.slice ad zs.length cd) zs
      rw [← hv]; exact hz)
    subst hxl
    refine ⟨xs, ⟨some a, _, rfl, ?_⟩, fun x hxm => ?_, hlen⟩
    · by_cases h0 : xs = []
      · exact .inl h0
      · right
        obtain ⟨c0, _⟩ := hcell 0 (by have := List.length_pos_iff.mpr h0; omega)
        obtain ⟨g, off, rfl⟩ := spot_none (by omega) c0
        refine ⟨g, off, rfl, fun i x hi => ?_⟩
        obtain ⟨q1, q2, _⟩ := hxs i x hi
        rw [add_none] at q1 q2
        exact ⟨q1, q2⟩
    · obtain ⟨i, hi⟩ := List.getElem?_of_mem hxm
      exact (hxs i x hi).2.2

theorem cin_of {fuel : Nat} {v : Value} {d : DataW H} {p : List MemPlace} (h : DataW.trod enc Tryd.prog W 0 (fun _ => true) true fuel 35 [v] = some (d, p)) (hb : Rows.uptoBulk d ≤ 1048576) : ∃ cl, CIn W v cl := by
  rcases Go.Deep.open_slice_pairs Tryd.underlying35 Tryd.underlying91 (by kernel_rfl) rfl rfl (by kernel_rfl) (by kernel_rfl) h with ⟨hcs, _⟩ | ⟨a, len, cap, m, n, V0, V1, D0, D1, P0, P1, hcs, _, hl, hm, hmm, hx, hcell⟩
  · simp at hcs
    subst hcs
    exact ⟨[], ⟨none, 0, rfl, .inl rfl⟩, by simp⟩
  · simp at hcs
    subst hcs
    simp only [if_true] at hmm
    subst hmm
    simp only [Prod.mk.injEq] at hx
    have hlen : len ≤ 1048576 := by
      have h1 := bulk_length ((List.range len).map fun i => DataW.agg [D0 i, D1 i])
      rw [hx.1] at hb
      simp only [Rows.uptoBulk] at hb
      simp only [List.length_map, List.length_range] at h1
      omega
    obtain ⟨xs, hxl, hxs⟩ := list_of (n := len) (p := fun i (x : Int × Int) => W.cell? (a.add (i * 2)) = some (.int .i64 x.1) ∧ W.cell? (a.add (i * 2 + 1)) = some (.int .i64 x.2)) (fun i hi => by
      obtain ⟨c0, c1, t0, t1⟩ := hcell i (by omega)
      obtain ⟨t, ht, _⟩ := DataW.trod_int Tryd.underlying3 t0
      obtain ⟨u, hu, _⟩ := DataW.trod_int Tryd.underlying3 t1
      simp at ht hu
      exact ⟨(t, u), by rw [c0, ht], by rw [c1, hu]⟩)
    subst hxl
    refine ⟨xs, ⟨some a, _, rfl, ?_⟩, hlen⟩
    by_cases h0 : xs = []
    · exact .inl h0
    · right
      obtain ⟨c0, _⟩ := hcell 0 (by have := List.length_pos_iff.mpr h0; omega)
      obtain ⟨g, off, rfl⟩ := spot_none (by omega) c0
      refine ⟨g, off, rfl, fun i x hi => ?_⟩
      obtain ⟨q1, q2⟩ := hxs i x hi
      rw [add_none] at q1 q2
      exact ⟨q1, q2⟩

theorem cells_int : Tryd.prog.cellsOf 3 = 1 := by kernel_rfl
theorem cells_ses : Tryd.prog.cellsOf 32 = 2 := by kernel_rfl
theorem cells_exts : Tryd.prog.cellsOf 33 = 1 := by kernel_rfl
theorem cells_spans : Tryd.prog.cellsOf 35 = 1 := by kernel_rfl
theorem cells_bytes : Tryd.prog.cellsOf 34 = 1 := by kernel_rfl
theorem cells_seg : Tryd.prog.cellsOf 37 = 14 := by kernel_rfl

set_option maxRecDepth 100000 in
/-- The cells of a segment, read field by field. -/
theorem seg_fields {fuel : Nat} {c0 c1 c2 c3 c4 c5 c6 c7 c8 c9 c10 c11 c12 c13 : Value} {x : DataW H × List MemPlace} (hf : DataW.trod enc Tryd.prog W 0 (fun _ => true) true fuel 37 [c0, c1, c2, c3, c4, c5, c6, c7, c8, c9, c10, c11, c12, c13] = some x) :
    ∃ (n : Nat) (xs : List (DataW H × List MemPlace)), x.1 = .agg (xs.map (·.1)) ∧ xs.length = 13 ∧ DataW.trod enc Tryd.prog W 0 (fun _ => true) true n 3 [c0] = xs[0]? ∧ DataW.trod enc Tryd.prog W 0 (fun _ => true) true n 33 [c3] = xs[2]? ∧ DataW.trod enc Tryd.prog W 0 (fun _ => true) true n 33 [c4] = xs[3]? ∧ DataW.trod enc Tryd.prog W 0 (fun _ => true) true n 3 [c5] = xs[4]? ∧ DataW.trod enc Tryd.prog W 0 (fun _ => true) true n 3 [c6] = xs[5]? ∧ DataW.trod enc Tryd.prog W 0 (fun _ => true) true n 34 [c7] = xs[6]? ∧ DataW.trod enc Tryd.prog W 0 (fun _ => true) true n 3 [c8] = xs[7]? ∧ DataW.trod enc Tryd.prog W 0 (fun _ => true) true n 3 [c9] = xs[8]? ∧ DataW.trod enc Tryd.prog W 0 (fun _ => true) true n 3 [c10] = xs[9]? ∧ DataW.trod enc Tryd.prog W 0 (fun _ => true) true n 3 [c11] = xs[10]? ∧ DataW.trod enc Tryd.prog W 0 (fun _ => true) true n 35 [c12] = xs[11]? ∧ DataW.trod enc Tryd.prog W 0 (fun _ => true) true n 3 [c13] = xs[12]? ∧ DataW.trod enc Tryd.prog W 0 (fun _ => true) true n 32 [c1, c2] = xs[1]? := by
  obtain ⟨xs, n, _, hx, _, hlen, hfd⟩ := DataW.trod_struct Tryd.underlying37 hf
  refine ⟨n, xs, by rw [hx], by simpa using hlen, ?_, ?_, ?_, ?_, ?_, ?_, ?_, ?_, ?_, ?_, ?_, ?_, ?_⟩
  · have q : DataW.trod enc Tryd.prog W 0 (fun _ => true) true n 3 (([c0, c1, c2, c3, c4, c5, c6, c7, c8, c9, c10, c11, c12, c13].drop 0).take (Tryd.prog.cellsOf 3)) = xs[0]? := hfd 0 _ rfl
    rw [cells_int] at q
    exact q
  · have q : DataW.trod enc Tryd.prog W 0 (fun _ => true) true n 33 (([c0, c1, c2, c3, c4, c5, c6, c7, c8, c9, c10, c11, c12, c13].drop 3).take (Tryd.prog.cellsOf 33)) = xs[2]? := hfd 2 _ rfl
    rw [cells_exts] at q
    exact q
  · have q : DataW.trod enc Tryd.prog W 0 (fun _ => true) true n 33 (([c0, c1, c2, c3, c4, c5, c6, c7, c8, c9, c10, c11, c12, c13].drop 4).take (Tryd.prog.cellsOf 33)) = xs[3]? := hfd 3 _ rfl
    rw [cells_exts] at q
    exact q
  · have q : DataW.trod enc Tryd.prog W 0 (fun _ => true) true n 3 (([c0, c1, c2, c3, c4, c5, c6, c7, c8, c9, c10, c11, c12, c13].drop 5).take (Tryd.prog.cellsOf 3)) = xs[4]? := hfd 4 _ rfl
    rw [cells_int] at q
    exact q
  · have q : DataW.trod enc Tryd.prog W 0 (fun _ => true) true n 3 (([c0, c1, c2, c3, c4, c5, c6, c7, c8, c9, c10, c11, c12, c13].drop 6).take (Tryd.prog.cellsOf 3)) = xs[5]? := hfd 5 _ rfl
    rw [cells_int] at q
    exact q
  · have q : DataW.trod enc Tryd.prog W 0 (fun _ => true) true n 34 (([c0, c1, c2, c3, c4, c5, c6, c7, c8, c9, c10, c11, c12, c13].drop 7).take (Tryd.prog.cellsOf 34)) = xs[6]? := hfd 6 _ rfl
    rw [cells_bytes] at q
    exact q
  · have q : DataW.trod enc Tryd.prog W 0 (fun _ => true) true n 3 (([c0, c1, c2, c3, c4, c5, c6, c7, c8, c9, c10, c11, c12, c13].drop 8).take (Tryd.prog.cellsOf 3)) = xs[7]? := hfd 7 _ rfl
    rw [cells_int] at q
    exact q
  · have q : DataW.trod enc Tryd.prog W 0 (fun _ => true) true n 3 (([c0, c1, c2, c3, c4, c5, c6, c7, c8, c9, c10, c11, c12, c13].drop 9).take (Tryd.prog.cellsOf 3)) = xs[8]? := hfd 8 _ rfl
    rw [cells_int] at q
    exact q
  · have q : DataW.trod enc Tryd.prog W 0 (fun _ => true) true n 3 (([c0, c1, c2, c3, c4, c5, c6, c7, c8, c9, c10, c11, c12, c13].drop 10).take (Tryd.prog.cellsOf 3)) = xs[9]? := hfd 9 _ rfl
    rw [cells_int] at q
    exact q
  · have q : DataW.trod enc Tryd.prog W 0 (fun _ => true) true n 3 (([c0, c1, c2, c3, c4, c5, c6, c7, c8, c9, c10, c11, c12, c13].drop 11).take (Tryd.prog.cellsOf 3)) = xs[10]? := hfd 10 _ rfl
    rw [cells_int] at q
    exact q
  · have q : DataW.trod enc Tryd.prog W 0 (fun _ => true) true n 35 (([c0, c1, c2, c3, c4, c5, c6, c7, c8, c9, c10, c11, c12, c13].drop 12).take (Tryd.prog.cellsOf 35)) = xs[11]? := hfd 11 _ rfl
    rw [cells_spans] at q
    exact q
  · have q : DataW.trod enc Tryd.prog W 0 (fun _ => true) true n 3 (([c0, c1, c2, c3, c4, c5, c6, c7, c8, c9, c10, c11, c12, c13].drop 13).take (Tryd.prog.cellsOf 3)) = xs[12]? := hfd 12 _ rfl
    rw [cells_int] at q
    exact q
  · have q : DataW.trod enc Tryd.prog W 0 (fun _ => true) true n 32 (([c0, c1, c2, c3, c4, c5, c6, c7, c8, c9, c10, c11, c12, c13].drop 1).take (Tryd.prog.cellsOf 32)) = xs[1]? := hfd 1 _ rfl
    rw [cells_ses] at q
    exact q

theorem get_some {α : Type} {f : Option α} {xs : List α} {i n : Nat} (hl : xs.length = n) (hi : i < n) (h : f = xs[i]?) : ∃ y, f = some y ∧ y ∈ xs := by
  rw [List.getElem?_eq_getElem (by omega)] at h
  exact ⟨_, h, List.getElem_mem _⟩

end Go.Proofs.YtdfdaambfihjaaaDoor
