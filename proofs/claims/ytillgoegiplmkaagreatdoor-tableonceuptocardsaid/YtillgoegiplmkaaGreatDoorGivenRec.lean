import Derived.Test.YtillgoegiplmkaaGreatDoorGiven
import Derived.Test.YtillgoegiplmkaaGreatDoorRcPrt
import Derived.Deep.SlicePairs
import Derived.Test.YtillgoegiplmkaaGreatDoorTbDg
import Derived.Deep.Slices
namespace Go.Proofs.YtillgoegiplmkaaGreatDoor
open Go.ChangeShapes Go.WideShapes Go.ChangeAt Go.RowKit
set_option linter.unusedVariables false

theorem rlist_of {α : Type} {n : Nat} {p : Nat → α → Prop} (h : ∀ i, i < n → ∃ x, p i x) : ∃ l : List α, l.length = n ∧ ∀ (i : Nat) x, l[i]? = some x → p i x := by
  induction n with
  | zero => exact ⟨[], rfl, fun i x hx => by simp at hx⟩
  | succ n ih =>
    obtain ⟨l, hl, hp⟩ := ih (fun i hi => h i (by omega))
    obtain ⟨x, hx⟩ := h n (by omega)
    refine ⟨l ++ [x], by simp [hl], fun i y hy => ?_⟩
    rcases Nat.lt_or_ge i n with q | q
    · rw [List.getElem?_append_left (by omega)] at hy; exact hp i y hy
    · rw [List.getElem?_append_right (by omega)] at hy
      have : i - l.length = 0 := by
        rcases Nat.eq_zero_or_pos (i - l.length) with e | e
        · exact e
        · rw [List.getElem?_eq_none (by simp; omega)] at hy; cases hy
      rw [this] at hy
      simp at hy
      subst hy
      obtain rfl : i = n := by omega
      exact hx

variable {H : Type} {enc : TypeId × Value → H} {W : World}

theorem rspot_none {a : Addr} {j : Nat} {u : Value} (hj : j = 0) (h : W.cell? (a.add j) = some u) : ∃ g off, a = ⟨g, off, none⟩ := by
  subst hj
  obtain ⟨b, off, spot⟩ := a
  have hs : spot = none := by simpa [Addr.add] using World.cell?_spot h
  subst hs
  exact ⟨b, off, rfl⟩
theorem radd_none (g off j : Nat) : (⟨g, off, none⟩ : Addr).add j = ⟨g, off + j, none⟩ := by unfold Addr.add; split <;> simp_all

theorem rbytes_span : Tryz.prog.bytesOf 90 = 16 := by kernel_rfl
theorem rcells_int : Tryz.prog.cellsOf 3 = 1 := by kernel_rfl
theorem rcells_ses : Tryz.prog.cellsOf 31 = 2 := by kernel_rfl
theorem rcells_spans : Tryz.prog.cellsOf 32 = 1 := by kernel_rfl
theorem rcells_bytes : Tryz.prog.cellsOf 33 = 1 := by kernel_rfl
theorem rcells_rec : Tryz.prog.cellsOf 35 = 11 := by kernel_rfl

/-- Bytes of a record that came in. -/
theorem rbin_of {fuel : Nat} {v : Value} {d : DataW H} {p : List MemPlace} (h : DataW.trod enc Tryz.prog W 0 (fun _ => true) true fuel 33 [v] = some (d, p)) (hw : (d.weights Tryz.prog 33).all (· ≤ reachBytes) = true) :
    ∃ a zs n c, v = .slice a n c ∧ zs.length = n ∧ n ≤ c ∧ c ≤ 140737488351232 ∧ Lies .u8 W a zs ∧ Bytey zs ∧ (a = none → n = 0 ∧ c = 0) := by
  have hv : ∃ a len cap, v = .slice a len cap := by
    rcases open_ints Tryz.underlying33 Tryz.underlying5 (by kernel_rfl) h with ⟨hcs, _⟩ | ⟨x, l, c, zs, hcs, _⟩
    · simp at hcs; exact ⟨_, _, _, hcs⟩
    · simp at hcs; exact ⟨_, _, _, hcs⟩
  obtain ⟨a, len, cap, rfl⟩ := hv
  obtain ⟨zs, l, c, b, e, n⟩ := given_ints Tryz.underlying33 Tryz.underlying5 (by kernel_rfl) (p := p) ⟨fuel, h⟩
  have m := reach_bytes (ts := [33]) (ds := [d]) (j := 0) (by simpa [DataW.weightsEach] using hw) rfl rfl l e
  exact ⟨a, zs, len, cap, rfl, l, m.1, m.2, c, bytey_of b, n⟩

/-- Spans of a record that came in. -/
theorem rcin_of {fuel : Nat} {v : Value} {d : DataW H} {p : List MemPlace} (h : DataW.trod enc Tryz.prog W 0 (fun _ => true) true fuel 32 [v] = some (d, p)) (hw : (d.weights Tryz.prog 32).all (· ≤ reachBytes) = true) :
    ∃ a cl n c, v = .slice a n c ∧ cl.length = n ∧ n ≤ c ∧ c * 16 ≤ 140737488351232 ∧ C.Spa W a cl := by
  rcases Go.Deep.open_slice_pairs Tryz.underlying32 Tryz.underlying90 (by kernel_rfl) rfl rfl (by kernel_rfl) (by kernel_rfl) h with ⟨hcs, _⟩ | ⟨a, len, cap, m, n, V0, V1, D0, D1, P0, P1, hcs, _, hl, hm, hmm, hx, hcell⟩
  · simp at hcs
    subst hcs
    exact ⟨none, [], 0, 0, rfl, rfl, by omega, by omega, .inl rfl⟩
  · simp at hcs
    subst hcs
    simp only [if_true] at hmm
    subst hmm
    simp only [Prod.mk.injEq] at hx
    have hsz : m * 16 ≤ 140737488351232 := by
      have h1 := sized_slice (ts := [32]) (ds := [d]) (j := 0) (by simpa [DataW.weightsEach] using hw) rfl (by rw [hx.1]; rfl) Tryz.underlying32
      rw [rbytes_span] at h1
      simp only [List.length_map, List.length_range, reachBytes] at h1
      have : len + (m - len) = m := by omega
      rw [this] at h1
      exact h1
    obtain ⟨xs, hxl, hxs⟩ := rlist_of (n := len) (p := fun i (x : Int × Int) => W.cell? (a.add (i * 2)) = some (.int .i64 x.1) ∧ W.cell? (a.add (i * 2 + 1)) = some (.int .i64 x.2)) (fun i hi => by
      obtain ⟨c0, c1, t0, t1⟩ := hcell i (by omega)
      obtain ⟨t, ht, _⟩ := DataW.trod_int Tryz.underlying3 t0
      obtain ⟨u, hu, _⟩ := DataW.trod_int Tryz.underlying3 t1
      simp at ht hu
      exact ⟨(t, u), by rw [c0, ht], by rw [c1, hu]⟩)
    subst hxl
    refine ⟨some a, xs, xs.length, m, rfl, rfl, hl, hsz, ?_⟩
    by_cases h0 : xs = []
    · exact .inl h0
    · right
      obtain ⟨c0, _⟩ := hcell 0 (by have := List.length_pos_iff.mpr h0; omega)
      obtain ⟨g, off, rfl⟩ := rspot_none (by omega) c0
      refine ⟨g, off, rfl, fun i x hi => ?_⟩
      obtain ⟨q1, q2⟩ := hxs i x hi
      rw [radd_none] at q1 q2
      exact ⟨q1, q2⟩

set_option maxRecDepth 100000 in
/-- The cells of a record, read field by field. -/
theorem rec_fields {fuel : Nat} {c0 c1 c2 c3 c4 c5 c6 c7 c8 c9 c10 : Value} {x : DataW H × List MemPlace} (hf : DataW.trod enc Tryz.prog W 0 (fun _ => true) true fuel 35 [c0, c1, c2, c3, c4, c5, c6, c7, c8, c9, c10] = some x) :
    ∃ (n : Nat) (xs : List (DataW H × List MemPlace)), x.1 = .agg (xs.map (·.1)) ∧ xs.length = 10 ∧ DataW.trod enc Tryz.prog W 0 (fun _ => true) true n 3 [c0] = xs[0]? ∧ DataW.trod enc Tryz.prog W 0 (fun _ => true) true n 31 [c1, c2] = xs[1]? ∧ DataW.trod enc Tryz.prog W 0 (fun _ => true) true n 3 [c3] = xs[2]? ∧ DataW.trod enc Tryz.prog W 0 (fun _ => true) true n 3 [c4] = xs[3]? ∧ DataW.trod enc Tryz.prog W 0 (fun _ => true) true n 3 [c5] = xs[4]? ∧ DataW.trod enc Tryz.prog W 0 (fun _ => true) true n 3 [c6] = xs[5]? ∧ DataW.trod enc Tryz.prog W 0 (fun _ => true) true n 3 [c7] = xs[6]? ∧ DataW.trod enc Tryz.prog W 0 (fun _ => true) true n 3 [c8] = xs[7]? ∧ DataW.trod enc Tryz.prog W 0 (fun _ => true) true n 32 [c9] = xs[8]? ∧ DataW.trod enc Tryz.prog W 0 (fun _ => true) true n 33 [c10] = xs[9]? := by
  obtain ⟨xs, n, _, hx, _, hlen, hfd⟩ := DataW.trod_struct Tryz.underlying35 hf
  refine ⟨n, xs, by rw [hx], by simpa using hlen, ?_, ?_, ?_, ?_, ?_, ?_, ?_, ?_, ?_, ?_⟩
  · have q : DataW.trod enc Tryz.prog W 0 (fun _ => true) true n 3 (([c0, c1, c2, c3, c4, c5, c6, c7, c8, c9, c10].drop 0).take (Tryz.prog.cellsOf 3)) = xs[0]? := hfd 0 _ rfl
    rw [rcells_int] at q
    exact q
  · have q : DataW.trod enc Tryz.prog W 0 (fun _ => true) true n 31 (([c0, c1, c2, c3, c4, c5, c6, c7, c8, c9, c10].drop 1).take (Tryz.prog.cellsOf 31)) = xs[1]? := hfd 1 _ rfl
    rw [rcells_ses] at q
    exact q
  · have q : DataW.trod enc Tryz.prog W 0 (fun _ => true) true n 3 (([c0, c1, c2, c3, c4, c5, c6, c7, c8, c9, c10].drop 3).take (Tryz.prog.cellsOf 3)) = xs[2]? := hfd 2 _ rfl
    rw [rcells_int] at q
    exact q
  · have q : DataW.trod enc Tryz.prog W 0 (fun _ => true) true n 3 (([c0, c1, c2, c3, c4, c5, c6, c7, c8, c9, c10].drop 4).take (Tryz.prog.cellsOf 3)) = xs[3]? := hfd 3 _ rfl
    rw [rcells_int] at q
    exact q
  · have q : DataW.trod enc Tryz.prog W 0 (fun _ => true) true n 3 (([c0, c1, c2, c3, c4, c5, c6, c7, c8, c9, c10].drop 5).take (Tryz.prog.cellsOf 3)) = xs[4]? := hfd 4 _ rfl
    rw [rcells_int] at q
    exact q
  · have q : DataW.trod enc Tryz.prog W 0 (fun _ => true) true n 3 (([c0, c1, c2, c3, c4, c5, c6, c7, c8, c9, c10].drop 6).take (Tryz.prog.cellsOf 3)) = xs[5]? := hfd 5 _ rfl
    rw [rcells_int] at q
    exact q
  · have q : DataW.trod enc Tryz.prog W 0 (fun _ => true) true n 3 (([c0, c1, c2, c3, c4, c5, c6, c7, c8, c9, c10].drop 7).take (Tryz.prog.cellsOf 3)) = xs[6]? := hfd 6 _ rfl
    rw [rcells_int] at q
    exact q
  · have q : DataW.trod enc Tryz.prog W 0 (fun _ => true) true n 3 (([c0, c1, c2, c3, c4, c5, c6, c7, c8, c9, c10].drop 8).take (Tryz.prog.cellsOf 3)) = xs[7]? := hfd 7 _ rfl
    rw [rcells_int] at q
    exact q
  · have q : DataW.trod enc Tryz.prog W 0 (fun _ => true) true n 32 (([c0, c1, c2, c3, c4, c5, c6, c7, c8, c9, c10].drop 9).take (Tryz.prog.cellsOf 32)) = xs[8]? := hfd 8 _ rfl
    rw [rcells_spans] at q
    exact q
  · have q : DataW.trod enc Tryz.prog W 0 (fun _ => true) true n 33 (([c0, c1, c2, c3, c4, c5, c6, c7, c8, c9, c10].drop 10).take (Tryz.prog.cellsOf 33)) = xs[9]? := hfd 9 _ rfl
    rw [rcells_bytes] at q
    exact q

theorem rget_some {α : Type} {f : Option α} {xs : List α} {i n : Nat} (hl : xs.length = n) (hi : i < n) (h : f = xs[i]?) : ∃ y, f = some y ∧ xs[i]? = some y := by
  rw [List.getElem?_eq_getElem (by omega)] at h
  exact ⟨_, h, List.getElem?_eq_getElem (by omega)⟩
theorem all_of_mem {ys : List Nat} {xs : List Nat} (h : xs.all (· ≤ reachBytes) = true) (hm : ∀ n ∈ ys, n ∈ xs) : ys.all (· ≤ reachBytes) = true := by
  rw [List.all_eq_true] at h ⊢
  exact fun n hn => h n (hm n hn)

set_option maxRecDepth 100000 in
/-- The cells of a record that came in. -/
theorem rec_of {fuel : Nat} {l : List Value} {d : DataW H} {p : List MemPlace} (hsz : l.length = 11) (hf' : DataW.trod enc Tryz.prog W 0 (fun _ => true) true fuel 35 l = some (d, p)) (hw : (d.weights Tryz.prog 35).all (· ≤ reachBytes) = true) :
    ∃ r sa da ns nd sc dc, l = (rcC r (.slice sa ns sc) (.slice da nd dc)).toList ∧ RIn W r sa da ns nd sc dc ∧ Bytey r.data ∧ ns ≤ sc ∧ sc * 16 ≤ 140737488351232 ∧ nd ≤ dc ∧ dc ≤ 140737488351232 := by
  match l, hsz with
  | [c0, c1, c2, c3, c4, c5, c6, c7, c8, c9, c10], _ =>
    obtain ⟨n, xs, hd, hl, f0, f1, f2, f3, f4, f5, f6, f7, f8, f9⟩ := rec_fields hf'
    simp only at hd
    subst hd
    have hwe : (DataW.weightsEach Tryz.prog [3, 31, 3, 3, 3, 3, 3, 3, 32, 33] (xs.map (·.1))).all (· ≤ reachBytes) = true := by
      simp only [DataW.weights, Tryz.underlying35] at hw
      exact hw
    have hwm : ∀ (i : Nat) (t : TypeId) y, [3, 31, 3, 3, 3, 3, 3, 3, 32, 33][i]? = some t → xs[i]? = some y → (y.1.weights Tryz.prog t).all (· ≤ reachBytes) = true := fun i t y ht hy =>
      all_of_mem hwe (DataW.weights_mem_each ht (by rw [List.getElem?_map, hy]; rfl))
    obtain ⟨y0, e0, m0⟩ := rget_some hl (by omega) f0
    obtain ⟨n0, r0, _⟩ := DataW.trod_int Tryz.underlying3 e0
    simp only [List.cons.injEq, and_true] at r0
    obtain ⟨y1, e1, m1⟩ := rget_some hl (by omega) f1
    obtain ⟨y2, e2, m2⟩ := rget_some hl (by omega) f2
    obtain ⟨n3, r3, _⟩ := DataW.trod_int Tryz.underlying3 e2
    simp only [List.cons.injEq, and_true] at r3
    obtain ⟨y3, e3, m3⟩ := rget_some hl (by omega) f3
    obtain ⟨n4, r4, _⟩ := DataW.trod_int Tryz.underlying3 e3
    simp only [List.cons.injEq, and_true] at r4
    obtain ⟨y4, e4, m4⟩ := rget_some hl (by omega) f4
    obtain ⟨n5, r5, _⟩ := DataW.trod_int Tryz.underlying3 e4
    simp only [List.cons.injEq, and_true] at r5
    obtain ⟨y5, e5, m5⟩ := rget_some hl (by omega) f5
    obtain ⟨n6, r6, _⟩ := DataW.trod_int Tryz.underlying3 e5
    simp only [List.cons.injEq, and_true] at r6
    obtain ⟨y6, e6, m6⟩ := rget_some hl (by omega) f6
    obtain ⟨n7, r7, _⟩ := DataW.trod_int Tryz.underlying3 e6
    simp only [List.cons.injEq, and_true] at r7
    obtain ⟨y7, e7, m7⟩ := rget_some hl (by omega) f7
    obtain ⟨n8, r8, _⟩ := DataW.trod_int Tryz.underlying3 e7
    simp only [List.cons.injEq, and_true] at r8
    obtain ⟨y8, e8, m8⟩ := rget_some hl (by omega) f8
    obtain ⟨y9, e9, m9⟩ := rget_some hl (by omega) f9
    obtain ⟨z0, z1, k, _, _, s0, s1⟩ := trod_struct2 Tryz.underlying31 e1
    simp only [rcells_int] at s0 s1
    obtain ⟨n1, r1, _⟩ := DataW.trod_int Tryz.underlying3 s0
    obtain ⟨n2, r2, _⟩ := DataW.trod_int Tryz.underlying3 s1
    simp at r1 r2
    obtain ⟨sa, cl, ns, sc, rfl, k1, k2, k3, k4⟩ := rcin_of (d := y8.1) (p := y8.2) e8 (hwm 8 _ y8 rfl m8)
    obtain ⟨da, zs, nd, dc, rfl, q1, q2, q3, q4, q5, q6⟩ := rbin_of (d := y9.1) (p := y9.2) e9 (hwm 9 _ y9 rfl m9)
    subst r0 r1 r2 r3 r4 r5 r6 r7 r8
    subst k1 q1
    exact ⟨⟨n0, n1, n2, n3, n4, n5, n6, n7, n8, cl, zs⟩, sa, da, cl.length, zs.length, sc, dc, rfl, ⟨rfl, rfl, by show zs.length ≤ _; omega, ⟨⟨sa, sc, rfl, k4, k2, by omega⟩, by show cl.length ≤ _; omega⟩, q4, q6⟩, q5, k2, k3, q2, q3⟩

end Go.Proofs.YtillgoegiplmkaaGreatDoor

namespace Go.Proofs.YtillgoegiplmkaaGreatDoor.B
open C
open Go.ChangeShapes Go.WideShapes Go.ChangeAt Go.RowKit
set_option linter.unusedVariables false

variable {H : Type} {enc : TypeId × Value → H} {W : World}

theorem rwAll_mem8 {P : Program} {e : TypeId} : ∀ {l : List (DataW H)} {d : DataW H}, d ∈ l → ∀ n ∈ d.weights P e, n ∈ DataW.weightsAll P e l
  | x :: l, d, hd, n, hn => by
    simp only [DataW.weightsAll, List.mem_append]
    rcases List.mem_cons.mp hd with rfl | h
    · exact .inl hn
    · exact .inr (rwAll_mem8 h n hn)
theorem rbytes_rec8 : Tryz.prog.bytesOf 35 = 120 := by kernel_rfl
/-- The numbers of a session that came in. -/
theorem rec_sw {fuel : Nat} {l : List Value} {d : DataW H} {p : List MemPlace} (hf' : DataW.trod enc Tryz.prog W 0 (fun _ => true) true fuel 35 l = some (d, p)) (r : Rc) (sv dv : Value) (hl : l = (rcC r sv dv).toList) : sW (sR r) := by
  subst hl
  obtain ⟨n, xs, hd, hl, f0, f1, f2, f3, f4, f5, f6, f7, f8, f9⟩ := rec_fields hf'
  obtain ⟨y1, e1, m1⟩ := rget_some hl (by omega) f1
  obtain ⟨z0, z1, k, _, _, s0, s1⟩ := trod_struct2 Tryz.underlying31 e1
  simp only [rcells_int] at s0 s1
  obtain ⟨n1, r1, _, w1⟩ := DataW.trod_int Tryz.underlying3 s0
  obtain ⟨n2, r2, _, w2⟩ := DataW.trod_int Tryz.underlying3 s1
  simp at r1 r2
  exact ⟨by show (Lit.int .i64 r.org).wf = true; rw [r1]; exact w1, by show (Lit.int .i64 r.num).wf = true; rw [r2]; exact w2⟩
set_option maxRecDepth 100000 in
/-- A list of records that came in, with the room of their bytes. -/
theorem given_recs3 {v : Value} {d : DataW H} {p : List MemPlace} {base : Nat} (hok : Value.okWide Tryz.prog W .any base 43 v) (h : DataW.Trod enc Tryz.prog W 0 (fun _ => true) true 43 v d p) (hw : (d.weights Tryz.prog 43).all (· ≤ reachBytes) = true) :
    ∃ a l n c, v = .slice a n c ∧ l.length = n ∧ n ≤ c ∧ c * 120 ≤ 140737488351232 ∧ RLx W a l ∧ (∀ r ∈ l, Bytey r.data) ∧ (a = none → n = 0 ∧ c = 0) ∧ n ≤ Rows.uptoBulk d ∧ (∀ r ∈ l, (r.data.length ≤ 140737488351232 ∧ r.spans.length * 16 ≤ 140737488351232) ∧ sW (sR r)) := by
  obtain ⟨a0, len0, cap0, rfl⟩ := okWide_slice Tryz.underlying43 hok
  obtain ⟨fuel, hf⟩ := h
  have hf' : DataW.trod enc Tryz.prog W 0 (fun _ => true) true fuel 43 [.slice a0 len0 cap0] = some (d, p) := hf
  clear hf hok
  rcases Go.Deep.open_slice Tryz.underlying43 hf' with ⟨hcs, _⟩ | ⟨a, len, cap, m, n, D, Pl, hcs, _, hl, hm, hmm, hx, hel⟩
  · simp at hcs
    obtain ⟨rfl, rfl, rfl⟩ := hcs
    exact ⟨none, [], 0, 0, rfl, rfl, Nat.le_refl _, by omega, .inl rfl, fun r hr => by simp at hr, fun _ => ⟨rfl, rfl⟩, Nat.zero_le _, fun r hr => by simp at hr⟩
  · simp at hcs
    obtain ⟨rfl, rfl, rfl⟩ := hcs
    simp only [if_true] at hmm
    subst hmm
    simp only [Prod.mk.injEq] at hx
    have hwm : ∀ i, i < len0 → ((D i).weights Tryz.prog 35).all (· ≤ reachBytes) = true := fun i hi => by
      refine all_of_mem hw (fun n hn => ?_)
      rw [hx.1]
      simp only [DataW.weights, Tryz.underlying43, List.mem_cons, List.mem_append]
      exact .inr (.inl (rwAll_mem8 (List.mem_map.mpr ⟨i, List.mem_range.mpr hi, rfl⟩) n hn))
    have hsz : m * 120 ≤ 140737488351232 := by
      have h1 := sized_slice (ts := [43]) (ds := [d]) (j := 0) (by simpa [DataW.weightsEach] using hw) rfl (by rw [hx.1]; rfl) Tryz.underlying43
      rw [rbytes_rec8] at h1
      simp only [List.length_map, List.length_range, reachBytes] at h1
      have : len0 + (m - len0) = m := by omega
      rw [this] at h1
      exact h1
    obtain ⟨xs, hxl, hxs⟩ := rlist_of (n := len0) (p := fun i (x : Rc) => (Bytey x.data ∧ (x.data.length ≤ 140737488351232 ∧ x.spans.length * 16 ≤ 140737488351232) ∧ sW (sR x)) ∧ ∃ sa da sc dc, (∀ j u, (rcC x (.slice sa x.spans.length sc) (.slice da x.data.length dc))[j]? = some u → W.cell? ((a.add (i * 11)).add j) = some u) ∧ RIn W x sa da x.spans.length x.data.length sc dc ∧ (1 ≤ x.data.length → x.data.length ≤ dc ∧ dc ≤ 9223372036854775807)) (fun i hi => by
      obtain ⟨cs', h1, h2⟩ := hel i (by omega)
      rw [rcells_rec] at h1
      obtain ⟨_, hlen, hcell⟩ := World.cells?_some h1
      obtain ⟨r, sa, da, ns, nd, sc, dc, hcs9, q1, q2, q3, q4, q5, q6⟩ := rec_of hlen h2 (hwm i hi)
      have hsw := rec_sw h2 r _ _ hcs9
      subst hcs9
      obtain rfl := q1.spn
      obtain rfl := q1.dat
      refine ⟨r, ⟨q2, ⟨by omega, by omega⟩, hsw⟩, sa, da, sc, dc, fun j u hj => ?_, q1, fun _ => ⟨q5, by omega⟩⟩
      have hj2 : j < 11 := (Array.getElem?_eq_some_iff.mp hj).1
      rw [hcell j hj2, Array.getElem?_toList]
      exact hj)
    subst hxl
    refine ⟨some a, xs, xs.length, m, rfl, rfl, hl, hsz, ?_, fun r hr => ?_, (fun h => by cases h), ?_, fun r hr => ?_⟩
    · by_cases h0 : xs = []
      · exact .inl h0
      · right
        have h1 : 0 < xs.length := List.length_pos_iff.mpr h0
        have hx0 : xs[0]? = some xs[0] := List.getElem?_eq_getElem h1
        obtain ⟨_, sa, da, sc, dc, q1, _, _⟩ := hxs 0 _ hx0
        have q2 := q1 0 _ rfl
        obtain ⟨g, off, rfl⟩ : ∃ g off, a = ⟨g, off, none⟩ := by
          have q3 := World.cell?_spot q2
          obtain ⟨b, off, spot⟩ := a
          have hs : spot = none := by simpa [Addr.add] using q3
          subst hs
          exact ⟨b, off, rfl⟩
        refine ⟨g, off, rfl, fun i r hi => ?_⟩
        obtain ⟨_, sa, da, sc, dc, q3, q4⟩ := hxs i r hi
        refine ⟨sa, da, sc, dc, fun j u hj => ?_, q4⟩
        have := q3 j u hj
        rw [radd_none, radd_none] at this
        exact this
    · obtain ⟨i, hi⟩ := List.getElem?_of_mem hr
      exact (hxs i r hi).1.1
    · rw [hx.1]
      have h1 := bulk_length ((List.range xs.length).map D)
      simp only [List.length_map, List.length_range] at h1
      simp only [Rows.uptoBulk]
      omega
    · obtain ⟨i, hi⟩ := List.getElem?_of_mem hr
      exact (hxs i r hi).1.2
end Go.Proofs.YtillgoegiplmkaaGreatDoor.B
