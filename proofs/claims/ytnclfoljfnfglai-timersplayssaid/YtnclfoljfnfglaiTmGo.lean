import Derived.Test.YtnclfoljfnfglaiTmGv
namespace Go.Proofs.Ytnclfoljfnfglai
open Go.ChangeShapes Go.WideShapes Go.ChangeAt Go.RowKit
set_option linter.unusedVariables false

/-- A step: its kind, which table, a key, a number. -/
abbrev Opx := Int × Bool × Kx × Int
def opV (x : Opx) : List Value := [.int .i64 x.1, .bool x.2.1] ++ kV x.2.2.1 ++ [.int .i64 x.2.2.2]
def opOk (x : Opx) : Prop := kI x.1 = true ∧ kW x.2.2.1 ∧ kI x.2.2.2 = true
def Ost (w : World) (a : Option Addr) (l : List Opx) : Prop := l = [] ∨ ∃ g off, a = some ⟨g, off, none⟩ ∧ ∀ (i : Nat) (x : Opx), l[i]? = some x →
  w.cell? ⟨g, off + i * 8 + 0, none⟩ = some (.int .i64 x.1) ∧ w.cell? ⟨g, off + i * 8 + 1, none⟩ = some (.bool x.2.1) ∧ w.cell? ⟨g, off + i * 8 + 2, none⟩ = some (.int .i64 x.2.2.1.1) ∧ w.cell? ⟨g, off + i * 8 + 3, none⟩ = some (.int .i64 x.2.2.1.2.1) ∧ w.cell? ⟨g, off + i * 8 + 4, none⟩ = some (.int .i64 x.2.2.1.2.2.1) ∧ w.cell? ⟨g, off + i * 8 + 5, none⟩ = some (.int .i64 x.2.2.1.2.2.2.1) ∧ w.cell? ⟨g, off + i * 8 + 6, none⟩ = some (.int .i64 x.2.2.1.2.2.2.2) ∧ w.cell? ⟨g, off + i * 8 + 7, none⟩ = some (.int .i64 x.2.2.2)
theorem Ost.below {w w' : World} {a : Option Addr} {l : List Opx} (h : Ost w a l) (hb : Below w.heap.size w w') : Ost w' a l := by
  rcases h with h | ⟨g, off, ha, h⟩
  · exact .inl h
  · refine .inr ⟨g, off, ha, fun i x hx => ?_⟩
    obtain ⟨h0, h1, h2, h3, h4, h5, h6, h7⟩ := h i x hx
    exact ⟨tm_cell h0 hb, tm_cell h1 hb, tm_cell h2 hb, tm_cell h3 hb, tm_cell h4 hb, tm_cell h5 hb, tm_cell h6 hb, tm_cell h7 hb⟩

variable {H : Type} {enc : TypeId × Value → H} {W : World}

theorem pcells_op : Try.prog.cellsOf 53 = 8 := by kernel_rfl
theorem pcells_bool : Try.prog.cellsOf 4 = 1 := by kernel_rfl
theorem pbytes_op : Try.prog.bytesOf 53 = 64 := by kernel_rfl

set_option maxRecDepth 100000 in
theorem op_of {fuel : Nat} {l : List Value} {d : DataW H} {p : List MemPlace} (hsz : l.length = 8) (hf : DataW.trod enc Try.prog W 0 (fun _ => true) true fuel 53 l = some (d, p)) :
    ∃ x : Opx, l = opV x ∧ opOk x := by
  match l, hsz with
  | [c0, c1, c2, c3, c4, c5, c6, c7], _ =>
    obtain ⟨xs, n, _, hx, _, hlen, hfd⟩ := DataW.trod_struct Try.underlying53 hf
    have hlen4 : xs.length = 4 := by simpa using hlen
    have q0 : DataW.trod enc Try.prog W 0 (fun _ => true) true n 3 (([c0, c1, c2, c3, c4, c5, c6, c7].drop 0).take (Try.prog.cellsOf 3)) = xs[0]? := hfd 0 _ rfl
    have q1 : DataW.trod enc Try.prog W 0 (fun _ => true) true n 4 (([c0, c1, c2, c3, c4, c5, c6, c7].drop 1).take (Try.prog.cellsOf 4)) = xs[1]? := hfd 1 _ rfl
    have q2 : DataW.trod enc Try.prog W 0 (fun _ => true) true n 51 (([c0, c1, c2, c3, c4, c5, c6, c7].drop 2).take (Try.prog.cellsOf 51)) = xs[2]? := hfd 2 _ rfl
    have q3 : DataW.trod enc Try.prog W 0 (fun _ => true) true n 3 (([c0, c1, c2, c3, c4, c5, c6, c7].drop 7).take (Try.prog.cellsOf 3)) = xs[3]? := hfd 3 _ rfl
    rw [cells3] at q0 q3
    rw [pcells_bool] at q1
    rw [cells51] at q2
    obtain ⟨y0, e0, _⟩ := pget_some hlen4 (by omega) q0
    obtain ⟨y1, e1, _⟩ := pget_some hlen4 (by omega) q1
    obtain ⟨⟨y2, z2⟩, e2, _⟩ := pget_some hlen4 (by omega) q2
    obtain ⟨y3, e3, _⟩ := pget_some hlen4 (by omega) q3
    obtain ⟨n0, r0, w0⟩ := DataW.trod_int Try.underlying3 e0
    obtain ⟨b1, r1, w1⟩ := DataW.trod_bool Try.underlying4 e1
    obtain ⟨k, ek, hk⟩ := keyt_of e2
    obtain ⟨n3, r3, w3⟩ := DataW.trod_int Try.underlying3 e3
    simp at r0 r1 r3
    subst r0 r1 r3
    exact ⟨(n0, b1, k, n3), by unfold opV; rw [← ek]; rfl, w0.2, hk, w3.2⟩

set_option maxRecDepth 100000 in
/-- A script, as it came in. -/
theorem given_ops {v : Value} {d : DataW H} {p : List MemPlace} {base : Nat} (hok : Value.okWide Try.prog W .any base 36 v) (h : DataW.Trod enc Try.prog W 0 (fun _ => true) true 36 v d p) (hw : (d.weights Try.prog 36).all (· ≤ reachBytes) = true) :
    ∃ a l n c, v = .slice a n c ∧ List.length l = n ∧ Ost W a l ∧ (∀ x ∈ l, opOk x) ∧ n ≤ 2199023255488 := by
  obtain ⟨a0, len0, cap0, rfl⟩ := okWide_slice Try.underlying36 hok
  obtain ⟨fuel, hf⟩ := h
  have hf' : DataW.trod enc Try.prog W 0 (fun _ => true) true fuel 36 [.slice a0 len0 cap0] = some (d, p) := hf
  clear hf hok
  rcases Go.Deep.open_slice Try.underlying36 hf' with ⟨hcs, _⟩ | ⟨a, len, cap, m, n, D, Pl, hcs, _, hl, hm, hmm, hx, hel⟩
  · simp at hcs
    obtain ⟨rfl, rfl, rfl⟩ := hcs
    exact ⟨none, [], 0, 0, rfl, rfl, .inl rfl, fun r hr => (by simp at hr), by omega⟩
  · simp at hcs
    obtain ⟨rfl, rfl, rfl⟩ := hcs
    simp only [if_true] at hmm
    subst hmm
    simp only [Prod.mk.injEq] at hx
    have hlen : len0 ≤ 2199023255488 := by
      have h1 := sized_slice (ts := [36]) (ds := [d]) (j := 0) (by simpa [DataW.weightsEach] using hw) rfl (by rw [hx.1]; rfl) Try.underlying36
      rw [pbytes_op] at h1
      simp only [List.length_map, List.length_range, reachBytes] at h1
      omega
    obtain ⟨xs, hxl, hxs⟩ := plist_of (n := len0) (p := fun i (x : Opx) => opOk x ∧ ∀ (j : Nat) u, (opV x)[j]? = some u → W.cell? ((a.add (i * 8)).add j) = some u) (fun i hi => by
      obtain ⟨cs', h1, h2⟩ := hel i (by omega)
      rw [pcells_op] at h1
      obtain ⟨_, hlen, hcell⟩ := World.cells?_some h1
      obtain ⟨c, rfl, q⟩ := op_of hlen h2
      refine ⟨c, q, fun j u hj => ?_⟩
      have hj2 : j < 8 := by have := (List.getElem?_eq_some_iff.mp hj).1; simpa [opV, kV] using this
      rw [hcell j hj2]
      exact hj)
    subst hxl
    refine ⟨some a, xs, xs.length, m, rfl, rfl, ?_, fun r hr => ?_, hlen⟩
    · by_cases h0 : xs = []
      · exact .inl h0
      · right
        have h1 : 0 < xs.length := List.length_pos_iff.mpr h0
        have hx0 : xs[0]? = some xs[0] := List.getElem?_eq_getElem h1
        have q2 := (hxs 0 _ hx0).2 0 _ rfl
        obtain ⟨g, off, rfl⟩ : ∃ g off, a = ⟨g, off, none⟩ := by
          have q3 := World.cell?_spot q2
          obtain ⟨b, off, spot⟩ := a
          have hs : spot = none := by simpa [Addr.add] using q3
          subst hs
          exact ⟨b, off, rfl⟩
        refine ⟨g, off, rfl, fun i c hi => ?_⟩
        have q3 := (hxs i c hi).2
        have k0 := q3 0 _ rfl
        have k1 := q3 1 _ rfl
        have k2 := q3 2 _ rfl
        have k3 := q3 3 _ rfl
        have k4 := q3 4 _ rfl
        have k5 := q3 5 _ rfl
        have k6 := q3 6 _ rfl
        have k7 := q3 7 _ rfl
        rw [padd_none, padd_none] at k0 k1 k2 k3 k4 k5 k6 k7
        exact ⟨k0, k1, k2, k3, k4, k5, k6, k7⟩
    · obtain ⟨i, hi⟩ := List.getElem?_of_mem hr
      exact (hxs i r hi).1

end Go.Proofs.Ytnclfoljfnfglai
