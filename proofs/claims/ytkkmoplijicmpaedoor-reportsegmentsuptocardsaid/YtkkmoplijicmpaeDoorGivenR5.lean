import Derived.Test.YtkkmoplijicmpaeDoorGivenSeg
import Derived.Test.YtkkmoplijicmpaeDoorRpV
namespace Go.Proofs.YtkkmoplijicmpaeDoor
open Go.ChangeShapes Go.WideShapes Go.ChangeAt Go.RowKit
set_option linter.unusedVariables false

theorem cells_ses6 : Tryd.prog.cellsOf 23 = 2 := by kernel_rfl
theorem cells_rep6 : Tryd.prog.cellsOf 75 = 5 := by kernel_rfl
theorem cells_sps6 : Tryd.prog.cellsOf 26 = 1 := by kernel_rfl
variable {H : Type} {enc : TypeId × Value → H} {W : World}
set_option maxRecDepth 100000 in
/-- A session that came in. -/
theorem ses_of {v : Value} {d : DataW H} {p : List MemPlace} {base : Nat} (hok : Value.okWide Tryd.prog W .any base 23 v) (h : DataW.Trod enc Tryd.prog W 0 (fun _ => true) true 23 v d p) : ∃ o n : Int, v = .agg #[.int .i64 o, .int .i64 n] ∧ True := by
  obtain ⟨cs, rfl, hsz⟩ := okWide_struct Tryd.underlying23 hok
  rw [cells_ses6] at hsz
  obtain ⟨fuel, hf⟩ := h
  obtain ⟨l⟩ := cs
  have hf' : DataW.trod enc Tryd.prog W 0 (fun _ => true) true fuel 23 l = some (d, p) := hf
  clear hf hok
  match l, hsz with
  | [c0, c1], _ =>
    obtain ⟨z0, z1, k, _, _, s0, s1⟩ := trod_struct2 Tryd.underlying23 hf'
    simp only [cells_int] at s0 s1
    obtain ⟨n1, r1, _⟩ := DataW.trod_int Tryd.underlying3 s0
    obtain ⟨n2, r2, _⟩ := DataW.trod_int Tryd.underlying3 s1
    simp at r1 r2
    subst r1 r2
    exact ⟨n1, n2, rfl, trivial⟩
set_option maxRecDepth 100000 in
/-- A report that came in. -/
theorem rep_of {v : Value} {d : DataW H} {p : List MemPlace} {base : Nat} (hok : Value.okWide Tryd.prog W .any base 75 v) (h : DataW.Trod enc Tryd.prog W 0 (fun _ => true) true 75 v d p) (hb : Rows.uptoBulk d ≤ 1048576) :
    ∃ (r : Rr) (a : Option Addr) (n c : Nat), v = .agg (rpA r n a c) ∧ r.clm.length = n ∧ CIn W (.slice a n c) r.clm := by
  obtain ⟨cs, rfl, hsz⟩ := okWide_struct Tryd.underlying75 hok
  rw [cells_rep6] at hsz
  obtain ⟨fuel, hf⟩ := h
  obtain ⟨l⟩ := cs
  have hf' : DataW.trod enc Tryd.prog W 0 (fun _ => true) true fuel 75 l = some (d, p) := hf
  clear hf hok
  match l, hsz with
  | [c0, c1, c2, c3, c4], _ =>
    obtain ⟨xs, n, _, hx, _, hlen, hfd⟩ := DataW.trod_struct Tryd.underlying75 hf'
    have hl : xs.length = 5 := by simpa using hlen
    have hd : d = .agg (xs.map (·.1)) := by have := congrArg Prod.fst hx; simpa using this
    have hbm : ∀ y ∈ xs, Rows.uptoBulk y.1 ≤ 1048576 := fun y hy => by
      have h1 := bulk_mem (List.mem_map.mpr ⟨y, hy, rfl⟩ : y.1 ∈ xs.map (·.1))
      rw [hd] at hb
      simp only [Rows.uptoBulk] at hb
      omega
    have q0 : DataW.trod enc Tryd.prog W 0 (fun _ => true) true n 3 (([c0, c1, c2, c3, c4].drop 0).take (Tryd.prog.cellsOf 3)) = xs[0]? := hfd 0 _ rfl
    have q1 : DataW.trod enc Tryd.prog W 0 (fun _ => true) true n 3 (([c0, c1, c2, c3, c4].drop 1).take (Tryd.prog.cellsOf 3)) = xs[1]? := hfd 1 _ rfl
    have q2 : DataW.trod enc Tryd.prog W 0 (fun _ => true) true n 3 (([c0, c1, c2, c3, c4].drop 2).take (Tryd.prog.cellsOf 3)) = xs[2]? := hfd 2 _ rfl
    have q3 : DataW.trod enc Tryd.prog W 0 (fun _ => true) true n 3 (([c0, c1, c2, c3, c4].drop 3).take (Tryd.prog.cellsOf 3)) = xs[3]? := hfd 3 _ rfl
    have q4 : DataW.trod enc Tryd.prog W 0 (fun _ => true) true n 26 (([c0, c1, c2, c3, c4].drop 4).take (Tryd.prog.cellsOf 26)) = xs[4]? := hfd 4 _ rfl
    rw [cells_int] at q0 q1 q2 q3
    rw [cells_sps6] at q4
    obtain ⟨y0, e0, _⟩ := get_some hl (by omega) q0
    obtain ⟨y1, e1, _⟩ := get_some hl (by omega) q1
    obtain ⟨y2, e2, _⟩ := get_some hl (by omega) q2
    obtain ⟨y3, e3, _⟩ := get_some hl (by omega) q3
    obtain ⟨y4, e4, m4⟩ := get_some hl (by omega) q4
    obtain ⟨n0, r0, _⟩ := DataW.trod_int Tryd.underlying3 e0
    obtain ⟨n1, r1, _⟩ := DataW.trod_int Tryd.underlying3 e1
    obtain ⟨n2, r2, _⟩ := DataW.trod_int Tryd.underlying3 e2
    obtain ⟨n3, r3, _⟩ := DataW.trod_int Tryd.underlying3 e3
    simp at r0 r1 r2 r3
    obtain ⟨cl, hcl⟩ := cin_of (v := c4) (d := y4.1) (p := y4.2) (by simpa using e4) (hbm y4 m4)
    obtain ⟨a, c, hv, _⟩ := hcl.shape
    subst r0 r1 r2 r3 hv
    exact ⟨⟨n0, n1, n2, n3, cl⟩, a, cl.length, c, rfl, rfl, hcl⟩

end Go.Proofs.YtkkmoplijicmpaeDoor
