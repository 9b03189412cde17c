import Derived.Test.YtgmbpagbiakciagDoorGivenRec
import Derived.Test.YtgmbpagbiakciagDoorRcLst
import Derived.Deep.Slices
namespace Go.Proofs.YtgmbpagbiakciagDoor
open Go.ChangeShapes Go.WideShapes Go.ChangeAt Go.RowKit
set_option linter.unusedVariables false

variable {H : Type} {enc : TypeId × Value → H} {W : World}

theorem rwAll_mem {P : Program} {e : TypeId} : ∀ {l : List (DataW H)} {d : DataW H}, d ∈ l → ∀ n ∈ d.weights P e, n ∈ DataW.weightsAll P e l
  | x :: l, d, hd, n, hn => by
    simp only [DataW.weightsAll, List.mem_append]
    rcases List.mem_cons.mp hd with rfl | h
    · exact .inl hn
    · exact .inr (rwAll_mem h n hn)
theorem rbytes_rec : Tryd.prog.bytesOf 27 = 120 := by kernel_rfl

set_option maxRecDepth 100000 in
/-- A list of records that came in. -/
theorem given_recs {v : Value} {d : DataW H} {p : List MemPlace} {base : Nat} (hok : Value.okWide Tryd.prog W .any base 38 v) (h : DataW.Trod enc Tryd.prog W 0 (fun _ => true) true 38 v d p) (hw : (d.weights Tryd.prog 38).all (· ≤ reachBytes) = true) :
    ∃ a l n c, v = .slice a n c ∧ l.length = n ∧ n ≤ c ∧ c * 120 ≤ 140737488351232 ∧ RLin W a l ∧ (∀ r ∈ l, Bytey r.data) ∧ (a = none → n = 0 ∧ c = 0) ∧ n ≤ Rows.uptoBulk d := by
  obtain ⟨a0, len0, cap0, rfl⟩ := okWide_slice Tryd.underlying38 hok
  obtain ⟨fuel, hf⟩ := h
  have hf' : DataW.trod enc Tryd.prog W 0 (fun _ => true) true fuel 38 [.slice a0 len0 cap0] = some (d, p) := hf
  clear hf hok
  rcases Go.Deep.open_slice Tryd.underlying38 hf' with ⟨hcs, _⟩ | ⟨a, len, cap, m, n, D, Pl, hcs, _, hl, hm, hmm, hx, hel⟩
  · simp at hcs
    obtain ⟨rfl, rfl, rfl⟩ := hcs
    exact ⟨none, [], 0, 0, rfl, rfl, Nat.le_refl _, by omega, .inl rfl, fun r hr => by simp at hr, fun _ => ⟨rfl, rfl⟩, Nat.zero_le _⟩
  · simp at hcs
    obtain ⟨rfl, rfl, rfl⟩ := hcs
    simp only [if_true] at hmm
    subst hmm
    simp only [Prod.mk.injEq] at hx
    have hwm : ∀ i, i < len0 → ((D i).weights Tryd.prog 27).all (· ≤ reachBytes) = true := fun i hi => by
      refine all_of_mem hw (fun n hn => ?_)
      rw [hx.1]
      simp only [DataW.weights, Tryd.underlying38, List.mem_cons, List.mem_append]
      exact .inr (.inl (rwAll_mem (List.mem_map.mpr ⟨i, List.mem_range.mpr hi, rfl⟩) n hn))
    have hsz : m * 120 ≤ 140737488351232 := by
      have h1 := sized_slice (ts := [38]) (ds := [d]) (j := 0) (by simpa [DataW.weightsEach] using hw) rfl (by rw [hx.1]; rfl) Tryd.underlying38
      rw [rbytes_rec] at h1
      simp only [List.length_map, List.length_range, reachBytes] at h1
      have : len0 + (m - len0) = m := by omega
      rw [this] at h1
      exact h1
    obtain ⟨xs, hxl, hxs⟩ := rlist_of (n := len0) (p := fun i (x : Rc) => Bytey x.data ∧ ∃ sa da sc dc, (∀ j u, (rcC x (.slice sa x.spans.length sc) (.slice da x.data.length dc))[j]? = some u → W.cell? ((a.add (i * 11)).add j) = some u) ∧ RIn W x sa da x.spans.length x.data.length sc dc) (fun i hi => by
      obtain ⟨cs', h1, h2⟩ := hel i (by omega)
      rw [rcells_rec] at h1
      obtain ⟨_, hlen, hcell⟩ := World.cells?_some h1
      obtain ⟨r, sa, da, ns, nd, sc, dc, rfl, q1, q2, _⟩ := rec_of hlen h2 (hwm i hi)
      obtain rfl := q1.spn
      obtain rfl := q1.dat
      refine ⟨r, q2, sa, da, sc, dc, fun j u hj => ?_, q1⟩
      have hj2 : j < 11 := (Array.getElem?_eq_some_iff.mp hj).1
      rw [hcell j hj2, Array.getElem?_toList]
      exact hj)
    subst hxl
    refine ⟨some a, xs, xs.length, m, rfl, rfl, hl, hsz, ?_, fun r hr => ?_, (fun h => by cases h), ?_⟩
    · by_cases h0 : xs = []
      · exact .inl h0
      · right
        have h1 : 0 < xs.length := List.length_pos_iff.mpr h0
        have hx0 : xs[0]? = some xs[0] := List.getElem?_eq_getElem h1
        obtain ⟨_, sa, da, sc, dc, q1, _⟩ := hxs 0 _ hx0
        have q2 := q1 0 _ rfl
        obtain ⟨g, off, rfl⟩ : ∃ g off, a = ⟨g, off, none⟩ := by
          have q3 := World.cell?_spot q2
          obtain ⟨b, off, spot⟩ := a
          have hs : spot = none := by simpa [Addr.add] using q3
          subst hs
          exact ⟨b, off, rfl⟩
        refine ⟨g, off, rfl, fun i r hi => ?_⟩
        obtain ⟨_, sa, da, sc, dc, q3, q4⟩ := hxs i r hi
        refine ⟨sa, da, sc, dc, fun j u hj => ?_, q4⟩
        have := q3 j u hj
        rw [radd_none, radd_none] at this
        exact this
    · obtain ⟨i, hi⟩ := List.getElem?_of_mem hr
      exact (hxs i r hi).1
    · rw [hx.1]
      have h1 := bulk_length ((List.range xs.length).map D)
      simp only [List.length_map, List.length_range] at h1
      simp only [Rows.uptoBulk]
      omega
end Go.Proofs.YtgmbpagbiakciagDoor
