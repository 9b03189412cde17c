import Derived.Test.YtllhbhogfffedaaGreatDoorRcRf8
import Derived.Test.YtllhbhogfffedaaGreatDoorJkSl
import Derived.Deep.SlicePairs
import Derived.Deep.Slices
namespace Go.Proofs.YtllhbhogfffedaaGreatDoor
open Go.ChangeShapes Go.WideShapes Go.ChangeAt Go.RowKit
set_option linter.unusedVariables false
variable {H : Type} {enc : TypeId × Value → H} {W : World}
set_option maxRecDepth 100000 in
/-- A list of records, as it was read. -/
theorem recs_of {fuel : Nat} {v : Value} {d : DataW H} {p : List MemPlace} (hf' : DataW.trod enc Tryz.prog W 0 (fun _ => true) true fuel 34 [v] = some (d, p)) (hw : (d.weights Tryz.prog 34).all (· ≤ reachBytes) = true) :
    ∃ a l n c, v = .slice a n c ∧ l.length = n ∧ n ≤ c ∧ c * 120 ≤ 140737488351232 ∧ RLin W a l ∧ (∀ r ∈ l, Bytey r.data) ∧ (a = none → n = 0 ∧ c = 0) ∧ n ≤ Rows.uptoBulk d ∧ (∀ r ∈ l, r.data.length ≤ 140737488351232 ∧ r.spans.length * 16 ≤ 140737488351232) := by
  rcases Go.Deep.open_slice Tryz.underlying34 hf' with ⟨hcs, _⟩ | ⟨a, len, cap, m, n, D, Pl, hcs, _, hl, hm, hmm, hx, hel⟩
  · simp at hcs
    subst hcs
    exact ⟨none, [], 0, 0, rfl, rfl, Nat.le_refl _, by omega, .inl rfl, fun r hr => by simp at hr, fun _ => ⟨rfl, rfl⟩, Nat.zero_le _, fun r hr => by simp at hr⟩
  · simp at hcs
    subst hcs
    simp only [if_true] at hmm
    subst hmm
    simp only [Prod.mk.injEq] at hx
    have hwm : ∀ i, i < len → ((D i).weights Tryz.prog 81).all (· ≤ reachBytes) = true := fun i hi => by
      refine all_of_mem hw (fun n hn => ?_)
      rw [hx.1]
      simp only [DataW.weights, Tryz.underlying34, List.mem_cons, List.mem_append]
      exact .inr (.inl (rwAll_mem (List.mem_map.mpr ⟨i, List.mem_range.mpr hi, rfl⟩) n hn))
    have hsz : m * 120 ≤ 140737488351232 := by
      have h1 := sized_slice (ts := [34]) (ds := [d]) (j := 0) (by simpa [DataW.weightsEach] using hw) rfl (by rw [hx.1]; rfl) Tryz.underlying34
      rw [rbytes_rec] at h1
      simp only [List.length_map, List.length_range, reachBytes] at h1
      have : len + (m - len) = m := by omega
      rw [this] at h1
      exact h1
    obtain ⟨xs, hxl, hxs⟩ := rlist_of (n := len) (p := fun i (x : Rc) => (Bytey x.data ∧ x.data.length ≤ 140737488351232 ∧ x.spans.length * 16 ≤ 140737488351232) ∧ ∃ sa da sc dc, (∀ j u, (rcC x (.slice sa x.spans.length sc) (.slice da x.data.length dc))[j]? = some u → W.cell? ((a.add (i * 11)).add j) = some u) ∧ RIn W x sa da x.spans.length x.data.length sc dc) (fun i hi => by
      obtain ⟨cs', h1, h2⟩ := hel i (by omega)
      rw [rcells_rec] at h1
      obtain ⟨_, hlen, hcell⟩ := World.cells?_some h1
      obtain ⟨r, sa, da, ns, nd, sc, dc, rfl, q1, q2, q3, q4, q5, q6⟩ := rec_of hlen h2 (hwm i hi)
      obtain rfl := q1.spn
      obtain rfl := q1.dat
      refine ⟨r, ⟨q2, by omega, by omega⟩, sa, da, sc, dc, fun j u hj => ?_, q1⟩
      have hj2 : j < 11 := (Array.getElem?_eq_some_iff.mp hj).1
      rw [hcell j hj2, Array.getElem?_toList]
      exact hj)
    subst hxl
    refine ⟨some a, xs, xs.length, m, rfl, rfl, hl, hsz, ?_, fun r hr => ?_, (fun h => by cases h), ?_, fun r hr => ?_⟩
    · by_cases h0 : xs = []
      · exact .inl h0
      · right
        have h1 : 0 < xs.length := List.length_pos_iff.mpr h0
        have hx0 : xs[0]? = some xs[0] := List.getElem?_eq_getElem h1
        obtain ⟨_, sa, da, sc, dc, q1, _⟩ := hxs 0 _ hx0
        have q2 := q1 0 _ rfl
        obtain ⟨g, off, rfl⟩ : ∃ g off, a = ⟨g, off, none⟩ := by
          have q3 := World.cell?_spot q2
          obtain ⟨b, off, spot⟩ := a
          have hs : spot = none := by simpa [Addr.add] using q3
          subst hs
          exact ⟨b, off, rfl⟩
        refine ⟨g, off, rfl, fun i r hi => ?_⟩
        obtain ⟨_, sa, da, sc, dc, q3, q4⟩ := hxs i r hi
        refine ⟨sa, da, sc, dc, fun j u hj => ?_, q4⟩
        have := q3 j u hj
        rw [radd_none, radd_none] at this
        exact this
    · obtain ⟨i, hi⟩ := List.getElem?_of_mem hr
      exact (hxs i r hi).1.1
    · rw [hx.1]
      have h1 := bulk_length ((List.range xs.length).map D)
      simp only [List.length_map, List.length_range] at h1
      simp only [Rows.uptoBulk]
      omega
    · obtain ⟨i, hi⟩ := List.getElem?_of_mem hr
      exact (hxs i r hi).1.2
end Go.Proofs.YtllhbhogfffedaaGreatDoor
namespace Go.Proofs.YtllhbhogfffedaaGreatDoor.K
open Go.ChangeShapes Go.WideShapes Go.ChangeAt Go.RowKit
set_option linter.unusedVariables false
variable {H : Type} {enc : TypeId × Value → H} {W : World}
theorem bcells_bool : Tryz.prog.cellsOf 4 = 1 := by kernel_rfl
theorem bcells_int : Tryz.prog.cellsOf 3 = 1 := by kernel_rfl
theorem bcells_recs : Tryz.prog.cellsOf 34 = 1 := by kernel_rfl
theorem bcells_bat : Tryz.prog.cellsOf 54 = 3 := by kernel_rfl
theorem bcells_fate : Tryz.prog.cellsOf 41 = 3 := by kernel_rfl
theorem bulk_memB {x : DataW H} : ∀ {l : List (DataW H)}, x ∈ l → Rows.uptoBulk x ≤ Rows.uptoBulkAll l
  | y :: r, h => by
    simp only [Rows.uptoBulkAll]
    rcases List.mem_cons.mp h with rfl | h
    · omega
    · have := bulk_memB h; omega
theorem bget_of {α : Type} {f : Option α} {xs : List α} {i n : Nat} (hl : xs.length = n) (hi : i < n) (h : f = xs[i]?) : ∃ y, f = some y ∧ xs[i]? = some y := ⟨_, h.trans (List.getElem?_eq_getElem (by omega)), List.getElem?_eq_getElem (by omega)⟩
set_option maxRecDepth 100000 in
theorem bat_of {fuel : Nat} {l : List Value} {d : DataW H} {p : List MemPlace} (hsz : l.length = 3) (hf : DataW.trod enc Tryz.prog W 0 (fun _ => true) true fuel 54 l = some (d, p)) (hw : (d.weights Tryz.prog 54).all (· ≤ reachBytes) = true) :
    ∃ b : Bx, l = [.slice b.a b.n b.c, .bool b.sync, .bool b.anew] ∧ BxOk W b ∧ b.n ≤ Rows.uptoBulk d := by
  match l, hsz with
  | [c0, c1, c2], _ =>
    obtain ⟨xs, n, _, hx, _, hlen, hfd⟩ := DataW.trod_struct Tryz.underlying54 hf
    have hl : xs.length = 3 := by simpa using hlen
    have q0 : DataW.trod enc Tryz.prog W 0 (fun _ => true) true n 34 (([c0, c1, c2].drop 0).take (Tryz.prog.cellsOf 34)) = xs[0]? := hfd 0 _ rfl
    have q1 : DataW.trod enc Tryz.prog W 0 (fun _ => true) true n 4 (([c0, c1, c2].drop 1).take (Tryz.prog.cellsOf 4)) = xs[1]? := hfd 1 _ rfl
    have q2 : DataW.trod enc Tryz.prog W 0 (fun _ => true) true n 4 (([c0, c1, c2].drop 2).take (Tryz.prog.cellsOf 4)) = xs[2]? := hfd 2 _ rfl
    rw [bcells_recs] at q0
    rw [bcells_bool] at q1 q2
    have hd : d = .agg (xs.map (·.1)) := congrArg Prod.fst hx
    obtain ⟨y0, e0', hy0⟩ := bget_of hl (by omega) q0
    obtain ⟨y1, e1, _⟩ := bget_of hl (by omega) q1
    obtain ⟨y2, e2, _⟩ := bget_of hl (by omega) q2
    have e0 : DataW.trod enc Tryz.prog W 0 (fun _ => true) true n 34 [c0] = some (y0.1, y0.2) := e0'
    obtain ⟨b1, r1, _⟩ := DataW.trod_bool Tryz.underlying4 e1
    obtain ⟨b2, r2, _⟩ := DataW.trod_bool Tryz.underlying4 e2
    simp at r1 r2
    subst r1 r2
    have hwe : (DataW.weightsEach Tryz.prog [34, 4, 4] (xs.map (·.1))).all (· ≤ reachBytes) = true := by
      rw [hd] at hw
      simp only [DataW.weights, Tryz.underlying54] at hw
      exact hw
    have hw0 : (y0.1.weights Tryz.prog 34).all (· ≤ reachBytes) = true := all_of_mem hwe (DataW.weights_mem_each (j := 0) rfl (by rw [List.getElem?_map, hy0]; rfl))
    obtain ⟨a, rs, m, c, rfl, h2, h3, h4, h5, h6, h7, h8, _⟩ := recs_of e0 hw0
    refine ⟨⟨a, m, c, b1, b2, rs⟩, rfl, ⟨h2, h5, h7, h6⟩, ?_⟩
    have m2 : Rows.uptoBulk y0.1 ≤ Rows.uptoBulkAll (xs.map (·.1)) := bulk_memB (List.mem_of_getElem? (i := 0) (by rw [List.getElem?_map, hy0]; rfl))
    rw [hd]
    simp only [Rows.uptoBulk]
    show m ≤ _
    omega
theorem sum_bulk {D : Nat → DataW H} : ∀ (n : Nat) (xs : List Bx), xs.length = n → (∀ (i : Nat) b, xs[i]? = some b → b.n ≤ Rows.uptoBulk (D i)) → (xs.map Bx.n).sum ≤ Rows.uptoBulkAll ((List.range n).map D) := by
  intro n
  induction n with
  | zero => intro xs hl _; have : xs = [] := List.eq_nil_of_length_eq_zero hl; subst this; simp
  | succ n ih =>
    intro xs hl h
    obtain ⟨ys, b, rfl⟩ : ∃ ys b, xs = ys ++ [b] := ⟨xs.dropLast, xs.getLast (by intro e; rw [e] at hl; cases hl), (List.dropLast_concat_getLast _).symm⟩
    have hyl : ys.length = n := by simpa using hl
    have h1 := ih ys hyl (fun i b' hi => h i b' (by rw [List.getElem?_append_left (List.getElem?_eq_some_iff.mp hi).1]; exact hi))
    have h2 := h n b (by rw [← hyl]; simp)
    have ha : ∀ (u v : List (DataW H)), Rows.uptoBulkAll (u ++ v) = Rows.uptoBulkAll u + Rows.uptoBulkAll v := by
      intro u v
      induction u with
      | nil => simp [Rows.uptoBulkAll]
      | cons x r ihh => simp only [List.cons_append, Rows.uptoBulkAll, ihh]; omega
    rw [List.range_succ, List.map_append, List.map_append, ha, List.sum_append]
    simp only [List.map_cons, List.map_nil, List.sum_cons, List.sum_nil, Rows.uptoBulkAll]
    omega
set_option maxRecDepth 100000 in
/-- Batches, as they came in. -/
theorem given_bats {v : Value} {d : DataW H} {p : List MemPlace} {base : Nat} (hok : Value.okWide Tryz.prog W .any base 39 v) (h : DataW.Trod enc Tryz.prog W 0 (fun _ => true) true 39 v d p) (hw : (d.weights Tryz.prog 39).all (· ≤ reachBytes) = true) :
    ∃ a bs n c, v = .slice a n c ∧ List.length bs = n ∧ Bl W a bs ∧ n ≤ Rows.uptoBulk d ∧ (bs.map Bx.n).sum ≤ Rows.uptoBulk d := by
  obtain ⟨a0, len0, cap0, rfl⟩ := okWide_slice Tryz.underlying39 hok
  obtain ⟨fuel, hf⟩ := h
  have hf' : DataW.trod enc Tryz.prog W 0 (fun _ => true) true fuel 39 [.slice a0 len0 cap0] = some (d, p) := hf
  clear hf hok
  rcases Go.Deep.open_slice Tryz.underlying39 hf' with ⟨hcs, _⟩ | ⟨a, len, cap, m, n, D, Pl, hcs, _, hl, hm, hmm, hx, hel⟩
  · simp at hcs
    obtain ⟨rfl, rfl, rfl⟩ := hcs
    exact ⟨none, [], 0, 0, rfl, rfl, .inl rfl, Nat.zero_le _, Nat.zero_le _⟩
  · simp at hcs
    obtain ⟨rfl, rfl, rfl⟩ := hcs
    simp only [if_true] at hmm
    subst hmm
    simp only [Prod.mk.injEq] at hx
    have hwm : ∀ i, i < len0 → ((D i).weights Tryz.prog 54).all (· ≤ reachBytes) = true := fun i hi => by
      refine all_of_mem hw (fun n hn => ?_)
      rw [hx.1]
      simp only [DataW.weights, Tryz.underlying39, List.mem_cons, List.mem_append]
      exact .inr (.inl (rwAll_mem (List.mem_map.mpr ⟨i, List.mem_range.mpr hi, rfl⟩) n hn))
    obtain ⟨xs, hxl, hxs⟩ := rlist_of (n := len0) (p := fun i (b : Bx) => (∀ j u, ([.slice b.a b.n b.c, .bool b.sync, .bool b.anew] : List Value)[j]? = some u → W.cell? ((a.add (i * 3)).add j) = some u) ∧ BxOk W b ∧ b.n ≤ Rows.uptoBulk (D i)) (fun i hi => by
      obtain ⟨cs', h1, h2⟩ := hel i (by omega)
      rw [bcells_bat] at h1
      obtain ⟨_, hlen, hcell⟩ := World.cells?_some h1
      obtain ⟨b, rfl, q⟩ := bat_of hlen h2 (hwm i hi)
      refine ⟨b, fun j u hj => ?_, q⟩
      have hj2 : j < 3 := (List.getElem?_eq_some_iff.mp hj).1
      rw [hcell j hj2]
      exact hj)
    subst hxl
    have hbk : Rows.uptoBulkAll ((List.range xs.length).map D) ≤ Rows.uptoBulk d := by rw [hx.1]; simp only [Rows.uptoBulk]; omega
    refine ⟨some a, xs, xs.length, m, rfl, rfl, ?_, ?_, Nat.le_trans (sum_bulk xs.length xs rfl (fun i b hi => (hxs i b hi).2.2)) hbk⟩
    · by_cases h0 : xs = []
      · exact .inl h0
      · right
        have h1 : 0 < xs.length := List.length_pos_iff.mpr h0
        have hx0 : xs[0]? = some xs[0] := List.getElem?_eq_getElem h1
        have q2 := (hxs 0 _ hx0).1 0 _ rfl
        obtain ⟨g, off, rfl⟩ : ∃ g off, a = ⟨g, off, none⟩ := by
          have q3 := World.cell?_spot q2
          obtain ⟨b, off, spot⟩ := a
          have hs : spot = none := by simpa [Addr.add] using q3
          subst hs
          exact ⟨b, off, rfl⟩
        refine ⟨g, off, rfl, fun i b hi => ?_⟩
        obtain ⟨q3, q4, _⟩ := hxs i b hi
        have k0 := q3 0 _ rfl
        have k1 := q3 1 _ rfl
        have k2 := q3 2 _ rfl
        rw [radd_none, radd_none] at k0 k1 k2
        exact ⟨k0, k1, k2, q4⟩
    · have h1 := bulk_length ((List.range xs.length).map D)
      simp only [List.length_map, List.length_range] at h1
      omega
set_option maxRecDepth 100000 in
/-- A fate, as it came in. -/
theorem given_fate {v : Value} {d : DataW H} {p : List MemPlace} {base : Nat} (hok : Value.okWide Tryz.prog W .any base 41 v) (h : DataW.Trod enc Tryz.prog W 0 (fun _ => true) true 41 v d p) :
    ∃ (act keep : Int) (done : Bool), v = .agg #[.int .i64 act, .int .i64 keep, .bool done] ∧ act ≤ 9223372036854775807 := by
  obtain ⟨cs, rfl, hsz⟩ := okWide_struct Tryz.underlying41 hok
  rw [bcells_fate] at hsz
  obtain ⟨fuel, hf⟩ := h
  obtain ⟨l⟩ := cs
  have hf' : DataW.trod enc Tryz.prog W 0 (fun _ => true) true fuel 41 l = some (d, p) := hf
  clear hf hok
  match l, hsz with
  | [c0, c1, c2], _ =>
    obtain ⟨xs, n, _, hx, _, hlen, hfd⟩ := DataW.trod_struct Tryz.underlying41 hf'
    have hl : xs.length = 3 := by simpa using hlen
    have q0 : DataW.trod enc Tryz.prog W 0 (fun _ => true) true n 3 (([c0, c1, c2].drop 0).take (Tryz.prog.cellsOf 3)) = xs[0]? := hfd 0 _ rfl
    have q1 : DataW.trod enc Tryz.prog W 0 (fun _ => true) true n 3 (([c0, c1, c2].drop 1).take (Tryz.prog.cellsOf 3)) = xs[1]? := hfd 1 _ rfl
    have q2 : DataW.trod enc Tryz.prog W 0 (fun _ => true) true n 4 (([c0, c1, c2].drop 2).take (Tryz.prog.cellsOf 4)) = xs[2]? := hfd 2 _ rfl
    rw [bcells_int] at q0 q1
    rw [bcells_bool] at q2
    obtain ⟨y0, e0, _⟩ := bget_of hl (by omega) q0
    obtain ⟨y1, e1, _⟩ := bget_of hl (by omega) q1
    obtain ⟨y2, e2, _⟩ := bget_of hl (by omega) q2
    obtain ⟨n0, r0, _, w0⟩ := DataW.trod_int Tryz.underlying3 e0
    obtain ⟨n1, r1, _⟩ := DataW.trod_int Tryz.underlying3 e1
    obtain ⟨b2, r2, _⟩ := DataW.trod_bool Tryz.underlying4 e2
    simp at r0 r1 r2
    subst r0 r1 r2
    exact ⟨n0, n1, b2, rfl, (bounds_i64 w0).2⟩
end Go.Proofs.YtllhbhogfffedaaGreatDoor.K
