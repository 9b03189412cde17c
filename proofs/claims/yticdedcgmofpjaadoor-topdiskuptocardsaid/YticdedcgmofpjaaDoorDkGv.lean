import Derived.Test.YticdedcgmofpjaaDoorGiven
import Derived.Test.YticdedcgmofpjaaDoorDkTd
import Derived.Deep.SlicePairs
import Derived.Deep.Slices
namespace Go.Proofs.YticdedcgmofpjaaDoor.K
open Go.ChangeShapes Go.WideShapes Go.ChangeAt Go.RowKit
set_option linter.unusedVariables false

theorem tlist_of {α : Type} {n : Nat} {p : Nat → α → Prop} (h : ∀ i, i < n → ∃ x, p i x) : ∃ l : List α, l.length = n ∧ ∀ (i : Nat) x, l[i]? = some x → p i x := by
  induction n with
  | zero => exact ⟨[], rfl, fun i x hx => by simp at hx⟩
  | succ n ih =>
    obtain ⟨l, hl, hp⟩ := ih (fun i hi => h i (by omega))
    obtain ⟨x, hx⟩ := h n (by omega)
    refine ⟨l ++ [x], by simp [hl], fun i y hy => ?_⟩
    rcases get_app hy with ⟨_, e⟩ | ⟨e, rfl⟩
    · exact hp i y e
    · rw [e, hl]; exact hx
variable {H : Type} {enc : TypeId × Value → H} {W : World}
theorem tadd_none (g off j : Nat) : (⟨g, off, none⟩ : Addr).add j = ⟨g, off + j, none⟩ := by unfold Addr.add; split <;> simp_all
theorem cells_intT : Tryd.prog.cellsOf 3 = 1 := by kernel_rfl
theorem cells_boolT : Tryd.prog.cellsOf 4 = 1 := by kernel_rfl
theorem cells_strT : Tryd.prog.cellsOf 9 = 1 := by kernel_rfl
theorem cells_bytT : Tryd.prog.cellsOf 36 = 1 := by kernel_rfl
theorem cells_tch : Tryd.prog.cellsOf 38 = 6 := by kernel_rfl
theorem tget_of {α : Type} {f : Option α} {xs : List α} {i n : Nat} (hl : xs.length = n) (hi : i < n) (h : f = xs[i]?) : ∃ y, f = some y ∧ xs[i]? = some y := ⟨_, h.trans (List.getElem?_eq_getElem (by omega)), List.getElem?_eq_getElem (by omega)⟩
theorem bulk_memT {x : DataW H} : ∀ {l : List (DataW H)}, x ∈ l → Rows.uptoBulk x ≤ Rows.uptoBulkAll l
  | y :: r, h => by
    simp only [Rows.uptoBulkAll]
    rcases List.mem_cons.mp h with rfl | h
    · omega
    · have := bulk_memT h; omega

set_option maxRecDepth 100000 in
theorem tch_of {fuel : Nat} {l : List Value} {d : DataW H} {p : List MemPlace} (hsz : l.length = 6) (hf : DataW.trod enc Tryd.prog W 0 (fun _ => true) true fuel 38 l = some (d, p)) (hbk : Rows.uptoBulk d ≤ 1048576) :
    ∃ (t : Tx) (ad : Option Addr) (nd cd : Nat), l = (toC t.dd t.N t.dn t.nm t.tn ad nd cd).toList ∧ t.zs.length = nd ∧ nd ≤ 1048576 ∧ Bytey t.zs ∧ Lies .u8 W ad t.zs ∧ (ad = none → nd = 0 ∧ cd = 0) ∧ t.N ≤ 9223372036854775807 := by
  match l, hsz with
  | [c0, c1, c2, c3, c4, c5], _ =>
    obtain ⟨xs, n, _, hx, _, hlen, hfd⟩ := DataW.trod_struct Tryd.underlying38 hf
    have hl : xs.length = 6 := by simpa using hlen
    have q0 : DataW.trod enc Tryd.prog W 0 (fun _ => true) true n 3 (([c0, c1, c2, c3, c4, c5].drop 0).take (Tryd.prog.cellsOf 3)) = xs[0]? := hfd 0 _ rfl
    have q1 : DataW.trod enc Tryd.prog W 0 (fun _ => true) true n 3 (([c0, c1, c2, c3, c4, c5].drop 1).take (Tryd.prog.cellsOf 3)) = xs[1]? := hfd 1 _ rfl
    have q2 : DataW.trod enc Tryd.prog W 0 (fun _ => true) true n 4 (([c0, c1, c2, c3, c4, c5].drop 2).take (Tryd.prog.cellsOf 4)) = xs[2]? := hfd 2 _ rfl
    have q3 : DataW.trod enc Tryd.prog W 0 (fun _ => true) true n 9 (([c0, c1, c2, c3, c4, c5].drop 3).take (Tryd.prog.cellsOf 9)) = xs[3]? := hfd 3 _ rfl
    have q4 : DataW.trod enc Tryd.prog W 0 (fun _ => true) true n 9 (([c0, c1, c2, c3, c4, c5].drop 4).take (Tryd.prog.cellsOf 9)) = xs[4]? := hfd 4 _ rfl
    have q5 : DataW.trod enc Tryd.prog W 0 (fun _ => true) true n 36 (([c0, c1, c2, c3, c4, c5].drop 5).take (Tryd.prog.cellsOf 36)) = xs[5]? := hfd 5 _ rfl
    rw [cells_intT] at q0 q1
    rw [cells_boolT] at q2
    rw [cells_strT] at q3 q4
    rw [cells_bytT] at q5
    have hd : d = .agg (xs.map (·.1)) := congrArg Prod.fst hx
    obtain ⟨y0, e0, _⟩ := tget_of hl (by omega) q0
    obtain ⟨y1, e1, _⟩ := tget_of hl (by omega) q1
    obtain ⟨y2, e2, _⟩ := tget_of hl (by omega) q2
    obtain ⟨y3, e3, _⟩ := tget_of hl (by omega) q3
    obtain ⟨y4, e4, _⟩ := tget_of hl (by omega) q4
    obtain ⟨y5, e5', hy5⟩ := tget_of hl (by omega) q5
    have e5 : DataW.trod enc Tryd.prog W 0 (fun _ => true) true n 36 [c5] = some y5 := e5'
    obtain ⟨n0, r0, _⟩ := DataW.trod_int Tryd.underlying3 e0
    obtain ⟨n1, r1, _, w1⟩ := DataW.trod_int Tryd.underlying3 e1
    obtain ⟨b2, r2, _⟩ := DataW.trod_bool Tryd.underlying4 e2
    obtain ⟨s3, r3, _⟩ := DataW.trod_string Tryd.underlying9 e3
    obtain ⟨s4, r4, _⟩ := DataW.trod_string Tryd.underlying9 e4
    simp at r0 r1 r2 r3 r4
    subst r0 r1 r2 r3 r4
    have hv : ∃ a len cap, c5 = .slice a len cap := by
      rcases open_ints Tryd.underlying36 Tryd.underlying5 (by kernel_rfl) e5 with ⟨hcs, _⟩ | ⟨x, l, c, zs, hcs, _⟩
      · simp at hcs; exact ⟨_, _, _, hcs⟩
      · simp at hcs; exact ⟨_, _, _, hcs⟩
    obtain ⟨a, len, cap, rfl⟩ := hv
    obtain ⟨zs, l, c, bb, e, nn⟩ := given_ints Tryd.underlying36 Tryd.underlying5 (by kernel_rfl) (d := y5.1) (p := y5.2) ⟨n, e5⟩
    have m := bulk_ints l e
    have m2 : Rows.uptoBulk y5.1 ≤ Rows.uptoBulkAll (xs.map (·.1)) := bulk_memT (List.mem_of_getElem? (i := 5) (by rw [List.getElem?_map, hy5]; rfl))
    have m3 : Rows.uptoBulkAll (xs.map (·.1)) ≤ 1048576 := by rw [hd] at hbk; simp only [Rows.uptoBulk] at hbk; omega
    exact ⟨⟨n0, n1, b2, s3, s4, zs⟩, a, len, cap, rfl, l, by omega, bytey_of bb, c, nn, (bounds_i64 w1).2⟩

set_option maxRecDepth 100000 in
/-- A script, as it came in. -/
theorem given_tch {v : Value} {d : DataW H} {p : List MemPlace} {base : Nat} (hok : Value.okWide Tryd.prog W .any base 22 v) (h : DataW.Trod enc Tryd.prog W 0 (fun _ => true) true 22 v d p) (hbk : Rows.uptoBulk d ≤ 1048576) :
    ∃ a l n c, v = .slice a n c ∧ List.length l = n ∧ Tl W a l ∧ n ≤ Rows.uptoBulk d := by
  obtain ⟨a0, len0, cap0, rfl⟩ := okWide_slice Tryd.underlying22 hok
  obtain ⟨fuel, hf⟩ := h
  have hf' : DataW.trod enc Tryd.prog W 0 (fun _ => true) true fuel 22 [.slice a0 len0 cap0] = some (d, p) := hf
  clear hf hok
  rcases Go.Deep.open_slice Tryd.underlying22 hf' with ⟨hcs, _⟩ | ⟨a, len, cap, m, n, D, Pl, hcs, _, hl, hm, hmm, hx, hel⟩
  · simp at hcs
    obtain ⟨rfl, rfl, rfl⟩ := hcs
    exact ⟨none, [], 0, 0, rfl, rfl, .inl rfl, Nat.zero_le _⟩
  · simp at hcs
    obtain ⟨rfl, rfl, rfl⟩ := hcs
    simp only [if_true] at hmm
    subst hmm
    simp only [Prod.mk.injEq] at hx
    have hwm : ∀ i, i < len0 → Rows.uptoBulk (D i) ≤ 1048576 := fun i hi => by
      rw [hx.1] at hbk
      simp only [Rows.uptoBulk] at hbk
      have := bulk_memT (x := D i) (l := (List.range len0).map D) (List.mem_map.mpr ⟨i, List.mem_range.mpr hi, rfl⟩)
      omega
    obtain ⟨xs, hxl, hxs⟩ := tlist_of (n := len0) (p := fun i (t : Tx) => ∃ ad nd cd, (∀ (j : Nat) u, (toC t.dd t.N t.dn t.nm t.tn ad nd cd)[j]? = some u → W.cell? ((a.add (i * 6)).add j) = some u) ∧ t.zs.length = nd ∧ nd ≤ 1048576 ∧ Bytey t.zs ∧ Lies .u8 W ad t.zs ∧ (ad = none → nd = 0 ∧ cd = 0) ∧ t.N ≤ 9223372036854775807) (fun i hi => by
      obtain ⟨cs', h1, h2⟩ := hel i (by omega)
      rw [cells_tch] at h1
      obtain ⟨_, hlen, hcell⟩ := World.cells?_some h1
      obtain ⟨x, ad, nd, cd, rfl, q⟩ := tch_of hlen h2 (hwm i hi)
      refine ⟨x, ad, nd, cd, fun j u hj => ?_, q⟩
      have hj2 : j < 6 := (Array.getElem?_eq_some_iff.mp hj).1
      rw [hcell j hj2, Array.getElem?_toList]
      exact hj)
    subst hxl
    refine ⟨some a, xs, xs.length, m, rfl, rfl, ?_, ?_⟩
    · by_cases h0 : xs = []
      · exact .inl h0
      · right
        have h1 : 0 < xs.length := List.length_pos_iff.mpr h0
        have hx0 : xs[0]? = some xs[0] := List.getElem?_eq_getElem h1
        obtain ⟨ad, nd, cd, q1, _⟩ := hxs 0 _ hx0
        have q2 := q1 0 _ rfl
        obtain ⟨g, off, rfl⟩ : ∃ g off, a = ⟨g, off, none⟩ := by
          have q3 := World.cell?_spot q2
          obtain ⟨b, off, spot⟩ := a
          have hs : spot = none := by simpa [Addr.add] using q3
          subst hs
          exact ⟨b, off, rfl⟩
        refine ⟨g, off, rfl, fun i x hi => ?_⟩
        obtain ⟨ad, nd, cd, q3, q4⟩ := hxs i x hi
        refine ⟨ad, nd, cd, fun j u hj => ?_, q4⟩
        have := q3 j u hj
        rw [tadd_none, tadd_none] at this
        exact this
    · rw [hx.1]
      have h1 := bulk_length ((List.range xs.length).map D)
      simp only [List.length_map, List.length_range] at h1
      simp only [Rows.uptoBulk]
      omega

end Go.Proofs.YticdedcgmofpjaaDoor.K
