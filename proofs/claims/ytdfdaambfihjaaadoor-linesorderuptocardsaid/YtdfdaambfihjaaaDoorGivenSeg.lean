import Derived.Test.YtdfdaambfihjaaaDoorGiven
import Derived.Test.YtdfdaambfihjaaaDoorMay
import Derived.Deep.SlicePairs
namespace Go.Proofs.YtdfdaambfihjaaaDoor
open Go.ChangeShapes Go.WideShapes Go.ChangeAt Go.RowKit

theorem bulk_mem {H : Type} {d : DataW H} : ∀ {l : List (DataW H)}, d ∈ l → Rows.uptoBulk d ≤ Rows.uptoBulkAll l
  | [], h => by cases h
  | x :: r, h => by
    simp only [Rows.uptoBulkAll]
    rcases List.mem_cons.mp h with rfl | h
    · omega
    · have := bulk_mem h; omega

/-- A list of what is there at each place. -/
theorem list_of {α : Type} {n : Nat} {p : Nat → α → Prop} (h : ∀ i, i < n → ∃ x, p i x) : ∃ l : List α, l.length = n ∧ ∀ (i : Nat) x, l[i]? = some x → p i x := by
  induction n with
  | zero => exact ⟨[], rfl, fun i x hx => by simp at hx⟩
  | succ n ih =>
    obtain ⟨l, hl, hp⟩ := ih (fun i hi => h i (by omega))
    obtain ⟨x, hx⟩ := h n (by omega)
    refine ⟨l ++ [x], by simp [hl], fun i y hy => ?_⟩
    rcases Nat.lt_or_ge i n with q | q
    · rw [List.getElem?_append_left (by omega)] at hy; exact hp i y hy
    · rw [List.getElem?_append_right (by omega)] at hy
      have : i - l.length = 0 := by
        rcases Nat.eq_zero_or_pos (i - l.length) with e | e
        · exact e
        · rw [List.getElem?_eq_none (by simp; omega)] at hy; cases hy
      rw [this] at hy
      simp at hy
      subst hy
      obtain rfl : i = n := by omega
      exact hx

variable {H : Type} {enc : TypeId × Value → H} {W : World}

theorem bin_of {fuel : Nat} {v : Value} {d : DataW H} {p : List MemPlace} (h : DataW.trod enc Tryd.prog W 0 (fun _ => true) true fuel 34 [v] = some (d, p)) (hb : Rows.uptoBulk d ≤ 1048576) : ∃ zs, BIn W v zs := by
  have hv : ∃ a len cap, v = .slice a len cap := by
    rcases open_ints Tryd.underlying34 Tryd.underlying5 (by kernel_rfl) h with ⟨hcs, _⟩ | ⟨x, l, c, zs, hcs, _⟩
    · simp at hcs; exact ⟨_, _, _, hcs⟩
    · simp at hcs; exact ⟨_, _, _, hcs⟩
  obtain ⟨a, len, cap, rfl⟩ := hv
  obtain ⟨zs, l, c, b, e, n⟩ := given_ints Tryd.underlying34 Tryd.underlying5 (by kernel_rfl) (p := p) ⟨fuel, h⟩
  have m := bulk_ints l e
  subst l
  exact ⟨zs, ⟨a, cap, rfl, c, n, m.1, by omega⟩, bytey_of b, by omega⟩

theorem spot_none {a : Addr} {j : Nat} {u : Value} (hj : j = 0) (h : W.cell? (a.add j) = some u) : ∃ g off, a = ⟨g, off, none⟩ := by
  subst hj
  obtain ⟨b, off, spot⟩ := a
  have hs : spot = none := by simpa [Addr.add] using World.cell?_spot h
  subst hs
  exact ⟨b, off, rfl⟩
theorem add_none (g off j : Nat) : (⟨g, off, none⟩ : Addr).add j = ⟨g, off + j, none⟩ := by unfold Addr.add; split <;> simp_all

theorem xin_of {fuel : Nat} {v : Value} {d : DataW H} {p : List MemPlace} (h : DataW.trod enc Tryd.prog W 0 (fun _ => true) true fuel 33 [v] = some (d, p)) (hb : Rows.uptoBulk d ≤ 1048576) : ∃ xs, XIn W v xs := by
  rcases Go.Deep.open_slice_pairs Tryd.underlying33 Tryd.underlying93 (by kernel_rfl) rfl rfl (by kernel_rfl) (by kernel_rfl) h with ⟨hcs, _⟩ | ⟨a, len, cap, m, n, V0, V1, D0, D1, P0, P1, hcs, _, hl, hm, hmm, hx, hcell⟩
  · simp at hcs
    subst hcs
    exact ⟨[], ⟨none, 0, rfl, .inl rfl⟩, (fun _ h => by cases h), by simp⟩
  · simp at hcs
    subst hcs
    simp only [if_true] at hmm
    subst hmm
    simp only [Prod.mk.injEq] at hx
    have hbd : ∀ i, i < len → Rows.uptoBulk (D1 i) ≤ 1048576 := by
      intro i hi
      have e : DataW.agg [D0 i, D1 i] ∈ (List.range len).map fun i => DataW.agg [D0 i, D1 i] := List.mem_map.mpr ⟨i, List.mem_range.mpr hi, rfl⟩
      have h1 := bulk_mem e
      rw [hx.1] at hb
      simp only [Rows.uptoBulk, Rows.uptoBulkAll] at hb h1
      omega
    have hlen : len ≤ 1048576 := by
      have h1 := bulk_length ((List.range len).map fun i => DataW.agg [D0 i, D1 i])
      rw [hx.1] at hb
      simp only [Rows.uptoBulk] at hb
      simp only [List.length_map, List.length_range] at h1
      omega
    obtain ⟨xs, hxl, hxs⟩ := list_of (n := len) (p := fun i (x : Xr) => W.cell? (a.add (i * 2)) = some (.int .i64 x.tag) ∧ W.cell? (a.add (i * 2 + 1)) = some x.val ∧ BIn W x.val x.data) (fun i hi => by
      obtain ⟨c0, c1, t0, t1⟩ := hcell i (by omega)
      obtain ⟨t, ht, _⟩ := DataW.trod_int Tryd.underlying3 t0
      simp at ht
      obtain ⟨zs, hz⟩ := bin_of t1 (hbd i hi)
      obtain ⟨ad, cd, hv, _⟩ := hz.shape
      refine ⟨⟨t, ad, cd, zs⟩, by rw [c0, ht], by rw [c1, hv]; rfl, ?_⟩
      show BIn W (.slice ad zs.length cd) zs
      rw [← hv]; exact hz)
    subst hxl
    refine ⟨xs, ⟨some a, _, rfl, ?_⟩, fun x hxm => ?_, hlen⟩
    · by_cases h0 : xs = []
      · exact .inl h0
      · right
        obtain ⟨c0, _⟩ := hcell 0 (by have := List.length_pos_iff.mpr h0; omega)
        obtain ⟨g, off, rfl⟩ := spot_none (by omega) c0
        refine ⟨g, off, rfl, fun i x hi => ?_⟩
        obtain ⟨q1, q2, _⟩ := hxs i x hi
        rw [add_none] at q1 q2
        exact ⟨q1, q2⟩
    · obtain ⟨i, hi⟩ := List.getElem?_of_mem hxm
      exact (hxs i x hi).2.2

theorem cin_of {fuel : Nat} {v : Value} {d : DataW H} {p : List MemPlace} (h : DataW.trod enc Tryd.prog W 0 (fun _ => true) true fuel 35 [v] = some (d, p)) (hb : Rows.uptoBulk d ≤ 1048576) : ∃ cl, CIn W v cl := by
  rcases Go.Deep.open_slice_pairs Tryd.underlying35 Tryd.underlying91 (by kernel_rfl) rfl rfl (by kernel_rfl) (by kernel_rfl) h with ⟨hcs, _⟩ | ⟨a, len, cap, m, n, V0, V1, D0, D1, P0, P1, hcs, _, hl, hm, hmm, hx, hcell⟩
  · simp at hcs
    subst hcs
    exact ⟨[], ⟨none, 0, rfl, .inl rfl⟩, by simp⟩
  · simp at hcs
    subst hcs
    simp only [if_true] at hmm
    subst hmm
    simp only [Prod.mk.injEq] at hx
    have hlen : len ≤ 1048576 := by
      have h1 := bulk_length ((List.range len).map fun i => DataW.agg [D0 i, D1 i])
      rw [hx.1] at hb
      simp only [Rows.uptoBulk] at hb
      simp only [List.length_map, List.length_range] at h1
      omega
    obtain ⟨xs, hxl, hxs⟩ := list_of (n := len) (p := fun i (x : Int × Int) => W.cell? (a.add (i * 2)) = some (.int .i64 x.1) ∧ W.cell? (a.add (i * 2 + 1)) = some (.int .i64 x.2)) (fun i hi => by
      obtain ⟨c0, c1, t0, t1⟩ := hcell i (by omega)
      obtain ⟨t, ht, _⟩ := DataW.trod_int Tryd.underlying3 t0
      obtain ⟨u, hu, _⟩ := DataW.trod_int Tryd.underlying3 t1
      simp at ht hu
      exact ⟨(t, u), by rw [c0, ht], by rw [c1, hu]⟩)
    subst hxl
    refine ⟨xs, ⟨some a, _, rfl, ?_⟩, hlen⟩
    by_cases h0 : xs = []
    · exact .inl h0
    · right
      obtain ⟨c0, _⟩ := hcell 0 (by have := List.length_pos_iff.mpr h0; omega)
      obtain ⟨g, off, rfl⟩ := spot_none (by omega) c0
      refine ⟨g, off, rfl, fun i x hi => ?_⟩
      obtain ⟨q1, q2⟩ := hxs i x hi
      rw [add_none] at q1 q2
      exact ⟨q1, q2⟩

theorem cells_int : Tryd.prog.cellsOf 3 = 1 := by kernel_rfl
theorem cells_ses : Tryd.prog.cellsOf 32 = 2 := by kernel_rfl
theorem cells_exts : Tryd.prog.cellsOf 33 = 1 := by kernel_rfl
theorem cells_spans : Tryd.prog.cellsOf 35 = 1 := by kernel_rfl
theorem cells_bytes : Tryd.prog.cellsOf 34 = 1 := by kernel_rfl
theorem cells_seg : Tryd.prog.cellsOf 37 = 14 := by kernel_rfl

set_option maxRecDepth 100000 in
/-- The cells of a segment, read field by field. -/
theorem seg_fields {fuel : Nat} {c0 c1 c2 c3 c4 c5 c6 c7 c8 c9 c10 c11 c12 c13 : Value} {x : DataW H × List MemPlace} (hf : DataW.trod enc Tryd.prog W 0 (fun _ => true) true fuel 37 [c0, c1, c2, c3, c4, c5, c6, c7, c8, c9, c10, c11, c12, c13] = some x) :
    ∃ (n : Nat) (xs : List (DataW H × List MemPlace)), x.1 = .agg (xs.map (·.1)) ∧ xs.length = 13 ∧ DataW.trod enc Tryd.prog W 0 (fun _ => true) true n 3 [c0] = xs[0]? ∧ DataW.trod enc Tryd.prog W 0 (fun _ => true) true n 33 [c3] = xs[2]? ∧ DataW.trod enc Tryd.prog W 0 (fun _ => true) true n 33 [c4] = xs[3]? ∧ DataW.trod enc Tryd.prog W 0 (fun _ => true) true n 3 [c5] = xs[4]? ∧ DataW.trod enc Tryd.prog W 0 (fun _ => true) true n 3 [c6] = xs[5]? ∧ DataW.trod enc Tryd.prog W 0 (fun _ => true) true n 34 [c7] = xs[6]? ∧ DataW.trod enc Tryd.prog W 0 (fun _ => true) true n 3 [c8] = xs[7]? ∧ DataW.trod enc Tryd.prog W 0 (fun _ => true) true n 3 [c9] = xs[8]? ∧ DataW.trod enc Tryd.prog W 0 (fun _ => true) true n 3 [c10] = xs[9]? ∧ DataW.trod enc Tryd.prog W 0 (fun _ => true) true n 3 [c11] = xs[10]? ∧ DataW.trod enc Tryd.prog W 0 (fun _ => true) true n 35 [c12] = xs[11]? ∧ DataW.trod enc Tryd.prog W 0 (fun _ => true) true n 3 [c13] = xs[12]? ∧ DataW.trod enc Tryd.prog W 0 (fun _ => true) true n 32 [c1, c2] = xs[1]? := by
  obtain ⟨xs, n, _, hx, _, hlen, hfd⟩ := DataW.trod_struct Tryd.underlying37 hf
  refine ⟨n, xs, by rw [hx], by simpa using hlen, ?_, ?_, ?_, ?_, ?_, ?_, ?_, ?_, ?_, ?_, ?_, ?_, ?_⟩
  · have q : DataW.trod enc Tryd.prog W 0 (fun _ => true) true n 3 (([c0, c1, c2, c3, c4, c5, c6, c7, c8, c9, c10, c11, c12, c13].drop 0).take (Tryd.prog.cellsOf 3)) = xs[0]? := hfd 0 _ rfl
    rw [cells_int] at q
    exact q
  · have q : DataW.trod enc Tryd.prog W 0 (fun _ => true) true n 33 (([c0, c1, c2, c3, c4, c5, c6, c7, c8, c9, c10, c11, c12, c13].drop 3).take (Tryd.prog.cellsOf 33)) = xs[2]? := hfd 2 _ rfl
    rw [cells_exts] at q
    exact q
  · have q : DataW.trod enc Tryd.prog W 0 (fun _ => true) true n 33 (([c0, c1, c2, c3, c4, c5, c6, c7, c8, c9, c10, c11, c12, c13].drop 4).take (Tryd.prog.cellsOf 33)) = xs[3]? := hfd 3 _ rfl
    rw [cells_exts] at q
    exact q
  · have q : DataW.trod enc Tryd.prog W 0 (fun _ => true) true n 3 (([c0, c1, c2, c3, c4, c5, c6, c7, c8, c9, c10, c11, c12, c13].drop 5).take (Tryd.prog.cellsOf 3)) = xs[4]? := hfd 4 _ rfl
    rw [cells_int] at q
    exact q
  · have q : DataW.trod enc Tryd.prog W 0 (fun _ => true) true n 3 (([c0, c1, c2, c3, c4, c5, c6, c7, c8, c9, c10, c11, c12, c13].drop 6).take (Tryd.prog.cellsOf 3)) = xs[5]? := hfd 5 _ rfl
    rw [cells_int] at q
    exact q
  · have q : DataW.trod enc Tryd.prog W 0 (fun _ => true) true n 34 (([c0, c1, c2, c3, c4, c5, c6, c7, c8, c9, c10, c11, c12, c13].drop 7).take (Tryd.prog.cellsOf 34)) = xs[6]? := hfd 6 _ rfl
    rw [cells_bytes] at q
    exact q
  · have q : DataW.trod enc Tryd.prog W 0 (fun _ => true) true n 3 (([c0, c1, c2, c3, c4, c5, c6, c7, c8, c9, c10, c11, c12, c13].drop 8).take (Tryd.prog.cellsOf 3)) = xs[7]? := hfd 7 _ rfl
    rw [cells_int] at q
    exact q
  · have q : DataW.trod enc Tryd.prog W 0 (fun _ => true) true n 3 (([c0, c1, c2, c3, c4, c5, c6, c7, c8, c9, c10, c11, c12, c13].drop 9).take (Tryd.prog.cellsOf 3)) = xs[8]? := hfd 8 _ rfl
    rw [cells_int] at q
    exact q
  · have q : DataW.trod enc Tryd.prog W 0 (fun _ => true) true n 3 (([c0, c1, c2, c3, c4, c5, c6, c7, c8, c9, c10, c11, c12, c13].drop 10).take (Tryd.prog.cellsOf 3)) = xs[9]? := hfd 9 _ rfl
    rw [cells_int] at q
    exact q
  · have q : DataW.trod enc Tryd.prog W 0 (fun _ => true) true n 3 (([c0, c1, c2, c3, c4, c5, c6, c7, c8, c9, c10, c11, c12, c13].drop 11).take (Tryd.prog.cellsOf 3)) = xs[10]? := hfd 10 _ rfl
    rw [cells_int] at q
    exact q
  · have q : DataW.trod enc Tryd.prog W 0 (fun _ => true) true n 35 (([c0, c1, c2, c3, c4, c5, c6, c7, c8, c9, c10, c11, c12, c13].drop 12).take (Tryd.prog.cellsOf 35)) = xs[11]? := hfd 11 _ rfl
    rw [cells_spans] at q
    exact q
  · have q : DataW.trod enc Tryd.prog W 0 (fun _ => true) true n 3 (([c0, c1, c2, c3, c4, c5, c6, c7, c8, c9, c10, c11, c12, c13].drop 13).take (Tryd.prog.cellsOf 3)) = xs[12]? := hfd 12 _ rfl
    rw [cells_int] at q
    exact q
  · have q : DataW.trod enc Tryd.prog W 0 (fun _ => true) true n 32 (([c0, c1, c2, c3, c4, c5, c6, c7, c8, c9, c10, c11, c12, c13].drop 1).take (Tryd.prog.cellsOf 32)) = xs[1]? := hfd 1 _ rfl
    rw [cells_ses] at q
    exact q

theorem get_some {α : Type} {f : Option α} {xs : List α} {i n : Nat} (hl : xs.length = n) (hi : i < n) (h : f = xs[i]?) : ∃ y, f = some y ∧ y ∈ xs := by
  rw [List.getElem?_eq_getElem (by omega)] at h
  exact ⟨_, h, List.getElem_mem _⟩

set_option maxRecDepth 100000 in
/-- A segment that came in. -/
theorem given_seg {v : Value} {d : DataW H} {p : List MemPlace} {base : Nat} (hok : Value.okWide Tryd.prog W .any base 37 v) (h : DataW.Trod enc Tryd.prog W 0 (fun _ => true) true 37 v d p) (hb : Rows.uptoBulk d ≤ 1048576) :
    ∃ s hv tv dv cv hx tx, v = .agg (svC s hv tv dv cv) ∧ SIn W s hv tv dv cv hx tx := by
  obtain ⟨cs, rfl, hsz⟩ := okWide_struct Tryd.underlying37 hok
  rw [cells_seg] at hsz
  obtain ⟨fuel, hf⟩ := h
  obtain ⟨l⟩ := cs
  have hf' : DataW.trod enc Tryd.prog W 0 (fun _ => true) true fuel 37 l = some (d, p) := hf
  clear hf hok
  match l, hsz with
  | [c0, c1, c2, c3, c4, c5, c6, c7, c8, c9, c10, c11, c12, c13], _ =>
    obtain ⟨n, xs, hd, hl, f0, f2, f3, f4, f5, f6, f7, f8, f9, f10, f11, f12, f1⟩ := seg_fields hf'
    simp only at hd
    subst hd
    have hbm : ∀ y ∈ xs, Rows.uptoBulk y.1 ≤ 1048576 := fun y hy => by
      have h1 := bulk_mem (List.mem_map.mpr ⟨y, hy, rfl⟩ : y.1 ∈ xs.map (·.1))
      simp only [Rows.uptoBulk] at hb
      omega
    obtain ⟨y0, e0, m0⟩ := get_some hl (by omega) f0
    obtain ⟨n0, r0, _⟩ := DataW.trod_int Tryd.underlying3 e0
    simp only [List.cons.injEq, and_true] at r0
    obtain ⟨y2, e2, m2⟩ := get_some hl (by omega) f2
    obtain ⟨y3, e3, m3⟩ := get_some hl (by omega) f3
    obtain ⟨y4, e4, m4⟩ := get_some hl (by omega) f4
    obtain ⟨n5, r5, _⟩ := DataW.trod_int Tryd.underlying3 e4
    simp only [List.cons.injEq, and_true] at r5
    obtain ⟨y5, e5, m5⟩ := get_some hl (by omega) f5
    obtain ⟨n6, r6, _⟩ := DataW.trod_int Tryd.underlying3 e5
    simp only [List.cons.injEq, and_true] at r6
    obtain ⟨y6, e6, m6⟩ := get_some hl (by omega) f6
    obtain ⟨y7, e7, m7⟩ := get_some hl (by omega) f7
    obtain ⟨n8, r8, _⟩ := DataW.trod_int Tryd.underlying3 e7
    simp only [List.cons.injEq, and_true] at r8
    obtain ⟨y8, e8, m8⟩ := get_some hl (by omega) f8
    obtain ⟨n9, r9, _⟩ := DataW.trod_int Tryd.underlying3 e8
    simp only [List.cons.injEq, and_true] at r9
    obtain ⟨y9, e9, m9⟩ := get_some hl (by omega) f9
    obtain ⟨n10, r10, _⟩ := DataW.trod_int Tryd.underlying3 e9
    simp only [List.cons.injEq, and_true] at r10
    obtain ⟨y10, e10, m10⟩ := get_some hl (by omega) f10
    obtain ⟨n11, r11, _⟩ := DataW.trod_int Tryd.underlying3 e10
    simp only [List.cons.injEq, and_true] at r11
    obtain ⟨y11, e11, m11⟩ := get_some hl (by omega) f11
    obtain ⟨y12, e12, m12⟩ := get_some hl (by omega) f12
    obtain ⟨n13, r13, _⟩ := DataW.trod_int Tryd.underlying3 e12
    simp only [List.cons.injEq, and_true] at r13
    obtain ⟨y1, e1, m1⟩ := get_some hl (by omega) f1
    obtain ⟨z0, z1, k, _, _, s0, s1⟩ := trod_struct2 Tryd.underlying32 e1
    simp only [cells_int] at s0 s1
    obtain ⟨n1, r1, _⟩ := DataW.trod_int Tryd.underlying3 s0
    obtain ⟨n2, r2, _⟩ := DataW.trod_int Tryd.underlying3 s1
    simp at r1 r2
    obtain ⟨hx, x3⟩ := xin_of (d := y2.1) (p := y2.2) e2 (hbm y2 m2)
    obtain ⟨tx, x4⟩ := xin_of (d := y3.1) (p := y3.2) e3 (hbm y3 m3)
    obtain ⟨zs, x7⟩ := bin_of (d := y6.1) (p := y6.2) e6 (hbm y6 m6)
    obtain ⟨cl, x12⟩ := cin_of (d := y11.1) (p := y11.2) e11 (hbm y11 m11)
    subst r0 r1 r2 r5 r6 r8 r9 r10 r11 r13
    exact ⟨⟨n0, n1, n2, hx.map Xr.ex, tx.map Xr.ex, n5, n6, zs, n8, n9, n10, n11, cl, n13⟩, c3, c4, c7, c12, hx, tx, rfl, ⟨x3, rfl, x4, rfl, x7, x12⟩⟩

end Go.Proofs.YtdfdaambfihjaaaDoor
