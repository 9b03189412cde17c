import Derived.Test.YtdfdaambfihjaaaDoorGivenSeg
import Derived.Test.YtdfdaambfihjaaaDoorLnTk
import Derived.Deep.Slices
import Derived.Test.YtdfdaambfihjaaaDoorLnSp
namespace Go.Proofs.YtdfdaambfihjaaaDoor.L
open Go.ChangeShapes Go.WideShapes Go.ChangeAt Go.RowKit
set_option linter.unusedVariables false

variable {H : Type} {enc : TypeId × Value → H} {W : World}

set_option maxRecDepth 100000 in
/-- The cells of a segment that came in. -/
theorem seg_of {fuel : Nat} {l : List Value} {d : DataW H} {p : List MemPlace} (hsz : l.length = 14) (hf' : DataW.trod enc Tryd.prog W 0 (fun _ => true) true fuel 37 l = some (d, p)) (hb : Rows.uptoBulk d ≤ 1048576) :
    ∃ s hv tv dv cv hx tx, l = (svC s hv tv dv cv).toList ∧ SIn W s hv tv dv cv hx tx := by
  match l, hsz with
  | [c0, c1, c2, c3, c4, c5, c6, c7, c8, c9, c10, c11, c12, c13], _ =>
    obtain ⟨n, xs, hd, hl, f0, f2, f3, f4, f5, f6, f7, f8, f9, f10, f11, f12, f1⟩ := seg_fields hf'
    simp only at hd
    subst hd
    have hbm : ∀ y ∈ xs, Rows.uptoBulk y.1 ≤ 1048576 := fun y hy => by
      have h1 := bulk_mem (List.mem_map.mpr ⟨y, hy, rfl⟩ : y.1 ∈ xs.map (·.1))
      simp only [Rows.uptoBulk] at hb
      omega
    obtain ⟨y0, e0, m0⟩ := get_some hl (by omega) f0
    obtain ⟨n0, r0, _⟩ := DataW.trod_int Tryd.underlying3 e0
    simp only [List.cons.injEq, and_true] at r0
    obtain ⟨y2, e2, m2⟩ := get_some hl (by omega) f2
    obtain ⟨y3, e3, m3⟩ := get_some hl (by omega) f3
    obtain ⟨y4, e4, m4⟩ := get_some hl (by omega) f4
    obtain ⟨n5, r5, _⟩ := DataW.trod_int Tryd.underlying3 e4
    simp only [List.cons.injEq, and_true] at r5
    obtain ⟨y5, e5, m5⟩ := get_some hl (by omega) f5
    obtain ⟨n6, r6, _⟩ := DataW.trod_int Tryd.underlying3 e5
    simp only [List.cons.injEq, and_true] at r6
    obtain ⟨y6, e6, m6⟩ := get_some hl (by omega) f6
    obtain ⟨y7, e7, m7⟩ := get_some hl (by omega) f7
    obtain ⟨n8, r8, _⟩ := DataW.trod_int Tryd.underlying3 e7
    simp only [List.cons.injEq, and_true] at r8
    obtain ⟨y8, e8, m8⟩ := get_some hl (by omega) f8
    obtain ⟨n9, r9, _⟩ := DataW.trod_int Tryd.underlying3 e8
    simp only [List.cons.injEq, and_true] at r9
    obtain ⟨y9, e9, m9⟩ := get_some hl (by omega) f9
    obtain ⟨n10, r10, _⟩ := DataW.trod_int Tryd.underlying3 e9
    simp only [List.cons.injEq, and_true] at r10
    obtain ⟨y10, e10, m10⟩ := get_some hl (by omega) f10
    obtain ⟨n11, r11, _⟩ := DataW.trod_int Tryd.underlying3 e10
    simp only [List.cons.injEq, and_true] at r11
    obtain ⟨y11, e11, m11⟩ := get_some hl (by omega) f11
    obtain ⟨y12, e12, m12⟩ := get_some hl (by omega) f12
    obtain ⟨n13, r13, _⟩ := DataW.trod_int Tryd.underlying3 e12
    simp only [List.cons.injEq, and_true] at r13
    obtain ⟨y1, e1, m1⟩ := get_some hl (by omega) f1
    obtain ⟨z0, z1, k, _, _, s0, s1⟩ := trod_struct2 Tryd.underlying32 e1
    simp only [cells_int] at s0 s1
    obtain ⟨n1, r1, _⟩ := DataW.trod_int Tryd.underlying3 s0
    obtain ⟨n2, r2, _⟩ := DataW.trod_int Tryd.underlying3 s1
    simp at r1 r2
    obtain ⟨hx, x3⟩ := xin_of (d := y2.1) (p := y2.2) e2 (hbm y2 m2)
    obtain ⟨tx, x4⟩ := xin_of (d := y3.1) (p := y3.2) e3 (hbm y3 m3)
    obtain ⟨zs, x7⟩ := bin_of (d := y6.1) (p := y6.2) e6 (hbm y6 m6)
    obtain ⟨cl, x12⟩ := cin_of (d := y11.1) (p := y11.2) e11 (hbm y11 m11)
    subst r0 r1 r2 r5 r6 r8 r9 r10 r11 r13
    exact ⟨⟨n0, n1, n2, hx.map Xr.ex, tx.map Xr.ex, n5, n6, zs, n8, n9, n10, n11, cl, n13⟩, c3, c4, c7, c12, hx, tx, rfl, ⟨x3, rfl, x4, rfl, x7, x12⟩⟩

end Go.Proofs.YtdfdaambfihjaaaDoor.L

namespace Go.Proofs.YtdfdaambfihjaaaDoor.L
open Go.ChangeShapes Go.WideShapes Go.ChangeAt Go.RowKit
set_option linter.unusedVariables false

variable {H : Type} {enc : TypeId × Value → H} {W : World}
theorem cells_boolS : Tryd.prog.cellsOf 4 = 1 := by kernel_rfl
theorem cells_stp : Tryd.prog.cellsOf 39 = 19 := by kernel_rfl
set_option maxRecDepth 100000 in
/-- The cells of a step that came in. -/
theorem stp_of {fuel : Nat} {l : List Value} {d : DataW H} {p : List MemPlace} (hsz : l.length = 19) (hf : DataW.trod enc Tryd.prog W 0 (fun _ => true) true fuel 39 l = some (d, p)) (hb : Rows.uptoBulk d ≤ 1048576) :
    ∃ x : St, l = x.L ∧ SAt W x.y ∧ -9223372036854775808 ≤ x.n ∧ x.n ≤ 9223372036854775807 := by
  match l, hsz with
  | [c0, c1, c2, c3, c4, c5, c6, c7, c8, c9, c10, c11, c12, c13, c14, c15, c16, c17, c18], _ =>
    obtain ⟨xs, n, _, hx, _, hlen, hfd⟩ := DataW.trod_struct Tryd.underlying39 hf
    have hl : xs.length = 6 := by simpa using hlen
    have hd : d = .agg (xs.map (·.1)) := congrArg Prod.fst hx
    have q0 : DataW.trod enc Tryd.prog W 0 (fun _ => true) true n 3 (([c0, c1, c2, c3, c4, c5, c6, c7, c8, c9, c10, c11, c12, c13, c14, c15, c16, c17, c18].drop 0).take (Tryd.prog.cellsOf 3)) = xs[0]? := hfd 0 _ rfl
    have q1 : DataW.trod enc Tryd.prog W 0 (fun _ => true) true n 3 (([c0, c1, c2, c3, c4, c5, c6, c7, c8, c9, c10, c11, c12, c13, c14, c15, c16, c17, c18].drop 1).take (Tryd.prog.cellsOf 3)) = xs[1]? := hfd 1 _ rfl
    have q2 : DataW.trod enc Tryd.prog W 0 (fun _ => true) true n 3 (([c0, c1, c2, c3, c4, c5, c6, c7, c8, c9, c10, c11, c12, c13, c14, c15, c16, c17, c18].drop 2).take (Tryd.prog.cellsOf 3)) = xs[2]? := hfd 2 _ rfl
    have q3 : DataW.trod enc Tryd.prog W 0 (fun _ => true) true n 3 (([c0, c1, c2, c3, c4, c5, c6, c7, c8, c9, c10, c11, c12, c13, c14, c15, c16, c17, c18].drop 3).take (Tryd.prog.cellsOf 3)) = xs[3]? := hfd 3 _ rfl
    have q4 : DataW.trod enc Tryd.prog W 0 (fun _ => true) true n 4 (([c0, c1, c2, c3, c4, c5, c6, c7, c8, c9, c10, c11, c12, c13, c14, c15, c16, c17, c18].drop 4).take (Tryd.prog.cellsOf 4)) = xs[4]? := hfd 4 _ rfl
    have q5 : DataW.trod enc Tryd.prog W 0 (fun _ => true) true n 37 (([c0, c1, c2, c3, c4, c5, c6, c7, c8, c9, c10, c11, c12, c13, c14, c15, c16, c17, c18].drop 5).take (Tryd.prog.cellsOf 37)) = xs[5]? := hfd 5 _ rfl
    rw [cells_int] at q0 q1 q2 q3
    rw [cells_boolS] at q4
    rw [cells_seg] at q5
    obtain ⟨y0, e0, _⟩ := get_some hl (by omega) q0
    obtain ⟨y1, e1, _⟩ := get_some hl (by omega) q1
    obtain ⟨y2, e2, _⟩ := get_some hl (by omega) q2
    obtain ⟨y3, e3, _⟩ := get_some hl (by omega) q3
    obtain ⟨y4, e4, _⟩ := get_some hl (by omega) q4
    obtain ⟨y5, e5', m5⟩ := get_some hl (by omega) q5
    have e5 : DataW.trod enc Tryd.prog W 0 (fun _ => true) true n 37 [c5, c6, c7, c8, c9, c10, c11, c12, c13, c14, c15, c16, c17, c18] = some (y5.1, y5.2) := e5'
    obtain ⟨n0, r0, _⟩ := DataW.trod_int Tryd.underlying3 e0
    obtain ⟨n1, r1, _⟩ := DataW.trod_int Tryd.underlying3 e1
    obtain ⟨n2, r2, _⟩ := DataW.trod_int Tryd.underlying3 e2
    obtain ⟨n3, r3, _, w3⟩ := DataW.trod_int Tryd.underlying3 e3
    obtain ⟨b4, r4, _⟩ := DataW.trod_bool Tryd.underlying4 e4
    simp at r0 r1 r2 r3 r4
    subst r0 r1 r2 r3 r4
    have hb5 : Rows.uptoBulk y5.1 ≤ 1048576 := by
      have h1 := bulk_mem (List.mem_map.mpr ⟨y5, m5, rfl⟩ : y5.1 ∈ xs.map (·.1))
      rw [hd] at hb
      simp only [Rows.uptoBulk] at hb
      omega
    obtain ⟨s, hv, tv, dv, cv, hx', tx', hl14, hs⟩ := seg_of rfl e5 hb5
    have hw : -9223372036854775808 ≤ n3 ∧ n3 ≤ 9223372036854775807 := bounds_i64 w3
    refine ⟨⟨n0, n1, n2, n3, b4, ⟨s, hv, tv, dv, cv⟩⟩, ?_, ⟨hx', tx', hs⟩, hw⟩
    show _ = .int .i64 n0 :: .int .i64 n1 :: .int .i64 n2 :: .int .i64 n3 :: .bool b4 :: (svC s hv tv dv cv).toList
    rw [← hl14]

set_option maxRecDepth 100000 in
/-- A script that came in. -/
theorem given_steps {v : Value} {d : DataW H} {p : List MemPlace} {base : Nat} (hok : Value.okWide Tryd.prog W .any base 22 v) (h : DataW.Trod enc Tryd.prog W 0 (fun _ => true) true 22 v d p) (hb : Rows.uptoBulk d ≤ 1048576) :
    ∃ l : List St, Sc W v l ∧ (∀ x ∈ l, SAt W x.y ∧ -9223372036854775808 ≤ x.n ∧ x.n ≤ 9223372036854775807) ∧ l.length ≤ 1048576 := by
  obtain ⟨a0, len0, cap0, rfl⟩ := okWide_slice Tryd.underlying22 hok
  obtain ⟨fuel, hf⟩ := h
  have hf' : DataW.trod enc Tryd.prog W 0 (fun _ => true) true fuel 22 [.slice a0 len0 cap0] = some (d, p) := hf
  clear hf hok
  rcases Go.Deep.open_slice Tryd.underlying22 hf' with ⟨hcs, _⟩ | ⟨a, len, cap, m, n, D, Pl, hcs, _, hl, hm, hmm, hx, hel⟩
  · simp at hcs
    obtain ⟨rfl, rfl, rfl⟩ := hcs
    exact ⟨[], ⟨none, 0, rfl, .inl rfl⟩, fun y hy => (by cases hy), by simp⟩
  · simp at hcs
    obtain ⟨rfl, rfl, rfl⟩ := hcs
    simp only [if_true] at hmm
    subst hmm
    simp only [Prod.mk.injEq] at hx
    have hbl := bulk_length ((List.range len0).map D)
    simp only [List.length_map, List.length_range] at hbl
    have hbd : ∀ i, i < len0 → Rows.uptoBulk (D i) ≤ 1048576 := fun i hi => by
      have h1 := bulk_mem (List.mem_map.mpr ⟨i, List.mem_range.mpr hi, rfl⟩ : D i ∈ (List.range len0).map D)
      rw [hx.1] at hb
      simp only [Rows.uptoBulk] at hb
      omega
    obtain ⟨xs, hxl, hxs⟩ := list_of (n := len0) (p := fun i (x : St) => (∀ j u, x.L[j]? = some u → W.cell? ((a.add (i * 19)).add j) = some u) ∧ SAt W x.y ∧ -9223372036854775808 ≤ x.n ∧ x.n ≤ 9223372036854775807) (fun i hi => by
      obtain ⟨cs', h1, h2⟩ := hel i (by omega)
      rw [cells_stp] at h1
      obtain ⟨_, hlen, hcell⟩ := World.cells?_some h1
      obtain ⟨x, rfl, hs⟩ := stp_of hlen h2 (hbd i hi)
      refine ⟨x, fun j u hj => ?_, hs⟩
      have hj2 : j < 19 := by rw [← hlen]; exact (List.getElem?_eq_some_iff.mp hj).1
      rw [hcell j hj2]
      exact hj)
    subst hxl
    refine ⟨xs, ⟨some a, m, rfl, ?_⟩, fun y hy => ?_, ?_⟩
    · by_cases h0 : xs = []
      · exact .inl h0
      · right
        have h1 : 0 < xs.length := List.length_pos_iff.mpr h0
        have hx0 : xs[0]? = some xs[0] := List.getElem?_eq_getElem h1
        obtain ⟨q1, _⟩ := hxs 0 _ hx0
        have q2 := q1 0 _ rfl
        obtain ⟨g, off, rfl⟩ : ∃ g off, a = ⟨g, off, none⟩ := by
          have q3 := World.cell?_spot q2
          obtain ⟨b, off, spot⟩ := a
          have hs : spot = none := by simpa [Addr.add] using q3
          subst hs
          exact ⟨b, off, rfl⟩
        refine ⟨g, off, rfl, fun i y hi j u hj => ?_⟩
        obtain ⟨q3, _⟩ := hxs i y hi
        have := q3 j u hj
        rw [add_none, add_none] at this
        exact this
    · obtain ⟨i, hi⟩ := List.getElem?_of_mem hy
      exact (hxs i y hi).2
    · rw [hx.1] at hb
      simp only [Rows.uptoBulk] at hb
      omega

end Go.Proofs.YtdfdaambfihjaaaDoor.L
