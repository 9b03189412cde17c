import Derived.Test.YtllhbhogfffedaaGreatDoorGiven
import Derived.Test.YtllhbhogfffedaaGreatDoorRcFrm
import Derived.Deep.SlicePairs
namespace Go.Proofs.YtllhbhogfffedaaGreatDoor
open Go.ChangeShapes Go.WideShapes Go.ChangeAt Go.RowKit
set_option linter.unusedVariables false

theorem rlist_of {α : Type} {n : Nat} {p : Nat → α → Prop} (h : ∀ i, i < n → ∃ x, p i x) : ∃ l : List α, l.length = n ∧ ∀ (i : Nat) x, l[i]? = some x → p i x := by
  induction n with
  | zero => exact ⟨[], rfl, fun i x hx => by simp at hx⟩
  | succ n ih =>
    obtain ⟨l, hl, hp⟩ := ih (fun i hi => h i (by omega))
    obtain ⟨x, hx⟩ := h n (by omega)
    refine ⟨l ++ [x], by simp [hl], fun i y hy => ?_⟩
    rcases Nat.lt_or_ge i n with q | q
    · rw [List.getElem?_append_left (by omega)] at hy; exact hp i y hy
    · rw [List.getElem?_append_right (by omega)] at hy
      have : i - l.length = 0 := by
        rcases Nat.eq_zero_or_pos (i - l.length) with e | e
        · exact e
        · rw [List.getElem?_eq_none (by simp; omega)] at hy; cases hy
      rw [this] at hy
      simp at hy
      subst hy
      obtain rfl : i = n := by omega
      exact hx

variable {H : Type} {enc : TypeId × Value → H} {W : World}

theorem rspot_none {a : Addr} {j : Nat} {u : Value} (hj : j = 0) (h : W.cell? (a.add j) = some u) : ∃ g off, a = ⟨g, off, none⟩ := by
  subst hj
  obtain ⟨b, off, spot⟩ := a
  have hs : spot = none := by simpa [Addr.add] using World.cell?_spot h
  subst hs
  exact ⟨b, off, rfl⟩
theorem radd_none (g off j : Nat) : (⟨g, off, none⟩ : Addr).add j = ⟨g, off + j, none⟩ := by unfold Addr.add; split <;> simp_all

theorem rbytes_span : Tryz.prog.bytesOf 128 = 16 := by kernel_rfl
theorem rcells_int : Tryz.prog.cellsOf 3 = 1 := by kernel_rfl
theorem rcells_ses : Tryz.prog.cellsOf 78 = 2 := by kernel_rfl
theorem rcells_spans : Tryz.prog.cellsOf 79 = 1 := by kernel_rfl
theorem rcells_bytes : Tryz.prog.cellsOf 35 = 1 := by kernel_rfl
theorem rcells_rec : Tryz.prog.cellsOf 81 = 11 := by kernel_rfl

/-- Bytes of a record that came in. -/
theorem rbin_of {fuel : Nat} {v : Value} {d : DataW H} {p : List MemPlace} (h : DataW.trod enc Tryz.prog W 0 (fun _ => true) true fuel 35 [v] = some (d, p)) (hw : (d.weights Tryz.prog 35).all (· ≤ reachBytes) = true) :
    ∃ a zs n c, v = .slice a n c ∧ zs.length = n ∧ n ≤ c ∧ c ≤ 140737488351232 ∧ Lies .u8 W a zs ∧ Bytey zs ∧ (a = none → n = 0 ∧ c = 0) := by
  have hv : ∃ a len cap, v = .slice a len cap := by
    rcases open_ints Tryz.underlying35 Tryz.underlying5 (by kernel_rfl) h with ⟨hcs, _⟩ | ⟨x, l, c, zs, hcs, _⟩
    · simp at hcs; exact ⟨_, _, _, hcs⟩
    · simp at hcs; exact ⟨_, _, _, hcs⟩
  obtain ⟨a, len, cap, rfl⟩ := hv
  obtain ⟨zs, l, c, b, e, n⟩ := given_ints Tryz.underlying35 Tryz.underlying5 (by kernel_rfl) (p := p) ⟨fuel, h⟩
  have m := reach_bytes (ts := [35]) (ds := [d]) (j := 0) (by simpa [DataW.weightsEach] using hw) rfl rfl l e
  exact ⟨a, zs, len, cap, rfl, l, m.1, m.2, c, bytey_of b, n⟩

/-- Spans of a record that came in. -/
theorem rcin_of {fuel : Nat} {v : Value} {d : DataW H} {p : List MemPlace} (h : DataW.trod enc Tryz.prog W 0 (fun _ => true) true fuel 79 [v] = some (d, p)) (hw : (d.weights Tryz.prog 79).all (· ≤ reachBytes) = true) :
    ∃ a cl n c, v = .slice a n c ∧ cl.length = n ∧ n ≤ c ∧ c * 16 ≤ 140737488351232 ∧ C.Spa W a cl := by
  rcases Go.Deep.open_slice_pairs Tryz.underlying79 Tryz.underlying128 (by kernel_rfl) rfl rfl (by kernel_rfl) (by kernel_rfl) h with ⟨hcs, _⟩ | ⟨a, len, cap, m, n, V0, V1, D0, D1, P0, P1, hcs, _, hl, hm, hmm, hx, hcell⟩
  · simp at hcs
    subst hcs
    exact ⟨none, [], 0, 0, rfl, rfl, by omega, by omega, .inl rfl⟩
  · simp at hcs
    subst hcs
    simp only [if_true] at hmm
    subst hmm
    simp only [Prod.mk.injEq] at hx
    have hsz : m * 16 ≤ 140737488351232 := by
      have h1 := sized_slice (ts := [79]) (ds := [d]) (j := 0) (by simpa [DataW.weightsEach] using hw) rfl (by rw [hx.1]; rfl) Tryz.underlying79
      rw [rbytes_span] at h1
      simp only [List.length_map, List.length_range, reachBytes] at h1
      have : len + (m - len) = m := by omega
      rw [this] at h1
      exact h1
    obtain ⟨xs, hxl, hxs⟩ := rlist_of (n := len) (p := fun i (x : Int × Int) => W.cell? (a.add (i * 2)) = some (.int .i64 x.1) ∧ W.cell? (a.add (i * 2 + 1)) = some (.int .i64 x.2)) (fun i hi => by
      obtain ⟨c0, c1, t0, t1⟩ := hcell i (by omega)
      obtain ⟨t, ht, _⟩ := DataW.trod_int Tryz.underlying3 t0
      obtain ⟨u, hu, _⟩ := DataW.trod_int Tryz.underlying3 t1
      simp at ht hu
      exact ⟨(t, u), by rw [c0, ht], by rw [c1, hu]⟩)
    subst hxl
    refine ⟨some a, xs, xs.length, m, rfl, rfl, hl, hsz, ?_⟩
    by_cases h0 : xs = []
    · exact .inl h0
    · right
      obtain ⟨c0, _⟩ := hcell 0 (by have := List.length_pos_iff.mpr h0; omega)
      obtain ⟨g, off, rfl⟩ := rspot_none (by omega) c0
      refine ⟨g, off, rfl, fun i x hi => ?_⟩
      obtain ⟨q1, q2⟩ := hxs i x hi
      rw [radd_none] at q1 q2
      exact ⟨q1, q2⟩

set_option maxRecDepth 100000 in
/-- The cells of a record, read field by field. -/
theorem rec_fields {fuel : Nat} {c0 c1 c2 c3 c4 c5 c6 c7 c8 c9 c10 : Value} {x : DataW H × List MemPlace} (hf : DataW.trod enc Tryz.prog W 0 (fun _ => true) true fuel 81 [c0, c1, c2, c3, c4, c5, c6, c7, c8, c9, c10] = some x) :
    ∃ (n : Nat) (xs : List (DataW H × List MemPlace)), x.1 = .agg (xs.map (·.1)) ∧ xs.length = 10 ∧ DataW.trod enc Tryz.prog W 0 (fun _ => true) true n 3 [c0] = xs[0]? ∧ DataW.trod enc Tryz.prog W 0 (fun _ => true) true n 78 [c1, c2] = xs[1]? ∧ DataW.trod enc Tryz.prog W 0 (fun _ => true) true n 3 [c3] = xs[2]? ∧ DataW.trod enc Tryz.prog W 0 (fun _ => true) true n 3 [c4] = xs[3]? ∧ DataW.trod enc Tryz.prog W 0 (fun _ => true) true n 3 [c5] = xs[4]? ∧ DataW.trod enc Tryz.prog W 0 (fun _ => true) true n 3 [c6] = xs[5]? ∧ DataW.trod enc Tryz.prog W 0 (fun _ => true) true n 3 [c7] = xs[6]? ∧ DataW.trod enc Tryz.prog W 0 (fun _ => true) true n 3 [c8] = xs[7]? ∧ DataW.trod enc Tryz.prog W 0 (fun _ => true) true n 79 [c9] = xs[8]? ∧ DataW.trod enc Tryz.prog W 0 (fun _ => true) true n 35 [c10] = xs[9]? := by
  obtain ⟨xs, n, _, hx, _, hlen, hfd⟩ := DataW.trod_struct Tryz.underlying81 hf
  refine ⟨n, xs, by rw [hx], by simpa using hlen, ?_, ?_, ?_, ?_, ?_, ?_, ?_, ?_, ?_, ?_⟩
  · have q : DataW.trod enc Tryz.prog W 0 (fun _ => true) true n 3 (([c0, c1, c2, c3, c4, c5, c6, c7, c8, c9, c10].drop 0).take (Tryz.prog.cellsOf 3)) = xs[0]? := hfd 0 _ rfl
    rw [rcells_int] at q
    exact q
  · have q : DataW.trod enc Tryz.prog W 0 (fun _ => true) true n 78 (([c0, c1, c2, c3, c4, c5, c6, c7, c8, c9, c10].drop 1).take (Tryz.prog.cellsOf 78)) = xs[1]? := hfd 1 _ rfl
    rw [rcells_ses] at q
    exact q
  · have q : DataW.trod enc Tryz.prog W 0 (fun _ => true) true n 3 (([c0, c1, c2, c3, c4, c5, c6, c7, c8, c9, c10].drop 3).take (Tryz.prog.cellsOf 3)) = xs[2]? := hfd 2 _ rfl
    rw [rcells_int] at q
    exact q
  · have q : DataW.trod enc Tryz.prog W 0 (fun _ => true) true n 3 (([c0, c1, c2, c3, c4, c5, c6, c7, c8, c9, c10].drop 4).take (Tryz.prog.cellsOf 3)) = xs[3]? := hfd 3 _ rfl
    rw [rcells_int] at q
    exact q
  · have q : DataW.trod enc Tryz.prog W 0 (fun _ => true) true n 3 (([c0, c1, c2, c3, c4, c5, c6, c7, c8, c9, c10].drop 5).take (Tryz.prog.cellsOf 3)) = xs[4]? := hfd 4 _ rfl
    rw [rcells_int] at q
    exact q
  · have q : DataW.trod enc Tryz.prog W 0 (fun _ => true) true n 3 (([c0, c1, c2, c3, c4, c5, c6, c7, c8, c9, c10].drop 6).take (Tryz.prog.cellsOf 3)) = xs[5]? := hfd 5 _ rfl
    rw [rcells_int] at q
    exact q
  · have q : DataW.trod enc Tryz.prog W 0 (fun _ => true) true n 3 (([c0, c1, c2, c3, c4, c5, c6, c7, c8, c9, c10].drop 7).take (Tryz.prog.cellsOf 3)) = xs[6]? := hfd 6 _ rfl
    rw [rcells_int] at q
    exact q
  · have q : DataW.trod enc Tryz.prog W 0 (fun _ => true) true n 3 (([c0, c1, c2, c3, c4, c5, c6, c7, c8, c9, c10].drop 8).take (Tryz.prog.cellsOf 3)) = xs[7]? := hfd 7 _ rfl
    rw [rcells_int] at q
    exact q
  · have q : DataW.trod enc Tryz.prog W 0 (fun _ => true) true n 79 (([c0, c1, c2, c3, c4, c5, c6, c7, c8, c9, c10].drop 9).take (Tryz.prog.cellsOf 79)) = xs[8]? := hfd 8 _ rfl
    rw [rcells_spans] at q
    exact q
  · have q : DataW.trod enc Tryz.prog W 0 (fun _ => true) true n 35 (([c0, c1, c2, c3, c4, c5, c6, c7, c8, c9, c10].drop 10).take (Tryz.prog.cellsOf 35)) = xs[9]? := hfd 9 _ rfl
    rw [rcells_bytes] at q
    exact q

theorem rget_some {α : Type} {f : Option α} {xs : List α} {i n : Nat} (hl : xs.length = n) (hi : i < n) (h : f = xs[i]?) : ∃ y, f = some y ∧ xs[i]? = some y := by
  rw [List.getElem?_eq_getElem (by omega)] at h
  exact ⟨_, h, List.getElem?_eq_getElem (by omega)⟩
theorem all_of_mem {ys : List Nat} {xs : List Nat} (h : xs.all (· ≤ reachBytes) = true) (hm : ∀ n ∈ ys, n ∈ xs) : ys.all (· ≤ reachBytes) = true := by
  rw [List.all_eq_true] at h ⊢
  exact fun n hn => h n (hm n hn)

set_option maxRecDepth 100000 in
/-- The cells of a record that came in. -/
theorem rec_of {fuel : Nat} {l : List Value} {d : DataW H} {p : List MemPlace} (hsz : l.length = 11) (hf' : DataW.trod enc Tryz.prog W 0 (fun _ => true) true fuel 81 l = some (d, p)) (hw : (d.weights Tryz.prog 81).all (· ≤ reachBytes) = true) :
    ∃ r sa da ns nd sc dc, l = (rcC r (.slice sa ns sc) (.slice da nd dc)).toList ∧ RIn W r sa da ns nd sc dc ∧ Bytey r.data ∧ ns ≤ sc ∧ sc * 16 ≤ 140737488351232 ∧ nd ≤ dc ∧ dc ≤ 140737488351232 := by
  match l, hsz with
  | [c0, c1, c2, c3, c4, c5, c6, c7, c8, c9, c10], _ =>
    obtain ⟨n, xs, hd, hl, f0, f1, f2, f3, f4, f5, f6, f7, f8, f9⟩ := rec_fields hf'
    simp only at hd
    subst hd
    have hwe : (DataW.weightsEach Tryz.prog [3, 78, 3, 3, 3, 3, 3, 3, 79, 35] (xs.map (·.1))).all (· ≤ reachBytes) = true := by
      simp only [DataW.weights, Tryz.underlying81] at hw
      exact hw
    have hwm : ∀ (i : Nat) (t : TypeId) y, [3, 78, 3, 3, 3, 3, 3, 3, 79, 35][i]? = some t → xs[i]? = some y → (y.1.weights Tryz.prog t).all (· ≤ reachBytes) = true := fun i t y ht hy =>
      all_of_mem hwe (DataW.weights_mem_each ht (by rw [List.getElem?_map, hy]; rfl))
    obtain ⟨y0, e0, m0⟩ := rget_some hl (by omega) f0
    obtain ⟨n0, r0, _⟩ := DataW.trod_int Tryz.underlying3 e0
    simp only [List.cons.injEq, and_true] at r0
    obtain ⟨y1, e1, m1⟩ := rget_some hl (by omega) f1
    obtain ⟨y2, e2, m2⟩ := rget_some hl (by omega) f2
    obtain ⟨n3, r3, _⟩ := DataW.trod_int Tryz.underlying3 e2
    simp only [List.cons.injEq, and_true] at r3
    obtain ⟨y3, e3, m3⟩ := rget_some hl (by omega) f3
    obtain ⟨n4, r4, _⟩ := DataW.trod_int Tryz.underlying3 e3
    simp only [List.cons.injEq, and_true] at r4
    obtain ⟨y4, e4, m4⟩ := rget_some hl (by omega) f4
    obtain ⟨n5, r5, _⟩ := DataW.trod_int Tryz.underlying3 e4
    simp only [List.cons.injEq, and_true] at r5
    obtain ⟨y5, e5, m5⟩ := rget_some hl (by omega) f5
    obtain ⟨n6, r6, _⟩ := DataW.trod_int Tryz.underlying3 e5
    simp only [List.cons.injEq, and_true] at r6
    obtain ⟨y6, e6, m6⟩ := rget_some hl (by omega) f6
    obtain ⟨n7, r7, _⟩ := DataW.trod_int Tryz.underlying3 e6
    simp only [List.cons.injEq, and_true] at r7
    obtain ⟨y7, e7, m7⟩ := rget_some hl (by omega) f7
    obtain ⟨n8, r8, _⟩ := DataW.trod_int Tryz.underlying3 e7
    simp only [List.cons.injEq, and_true] at r8
    obtain ⟨y8, e8, m8⟩ := rget_some hl (by omega) f8
    obtain ⟨y9, e9, m9⟩ := rget_some hl (by omega) f9
    obtain ⟨z0, z1, k, _, _, s0, s1⟩ := trod_struct2 Tryz.underlying78 e1
    simp only [rcells_int] at s0 s1
    obtain ⟨n1, r1, _⟩ := DataW.trod_int Tryz.underlying3 s0
    obtain ⟨n2, r2, _⟩ := DataW.trod_int Tryz.underlying3 s1
    simp at r1 r2
    obtain ⟨sa, cl, ns, sc, rfl, k1, k2, k3, k4⟩ := rcin_of (d := y8.1) (p := y8.2) e8 (hwm 8 _ y8 rfl m8)
    obtain ⟨da, zs, nd, dc, rfl, q1, q2, q3, q4, q5, q6⟩ := rbin_of (d := y9.1) (p := y9.2) e9 (hwm 9 _ y9 rfl m9)
    subst r0 r1 r2 r3 r4 r5 r6 r7 r8
    subst k1 q1
    exact ⟨⟨n0, n1, n2, n3, n4, n5, n6, n7, n8, cl, zs⟩, sa, da, cl.length, zs.length, sc, dc, rfl, ⟨rfl, rfl, by show zs.length ≤ _; omega, ⟨⟨sa, sc, rfl, k4, k2, by omega⟩, by show cl.length ≤ _; omega⟩, q4, q6⟩, q5, k2, k3, q2, q3⟩

end Go.Proofs.YtllhbhogfffedaaGreatDoor
