import Derived.Test.YthbkabehjeidjaeDoorRows
import Derived.Test.YthbkabehjeidjaeDoorGivenC
import Derived.ProofKit
import Derived.OpenShut
import Derived.ShutString
import Derived.ChangeOld
import Derived.SizedLaws
namespace Go.Proofs.YthbkabehjeidjaeDoor
open Go.ChangeShapes Go.WideShapes Go.ChangeAt Go.RowKit

theorem cells_int5 : Tryd.prog.cellsOf 3 = 1 := by kernel_rfl
theorem cells_ses5 : Tryd.prog.cellsOf 23 = 2 := by kernel_rfl
theorem cells_ask5 : Tryd.prog.cellsOf 60 = 7 := by kernel_rfl
variable {H : Type} {enc : TypeId × Value → H} {W : World}
theorem get_of5 {α : Type} {f : Option α} {xs : List α} {i n : Nat} (hl : xs.length = n) (hi : i < n) (h : f = xs[i]?) : ∃ y, f = some y := ⟨_, h.trans (List.getElem?_eq_getElem (by omega))⟩

set_option maxRecDepth 100000 in
/-- What Make is asked, as it came in. -/
theorem ask_of {v : Value} {d : DataW H} {p : List MemPlace} {base : Nat} (hok : Value.okWide Tryd.prog W .any base 60 v) (h : DataW.Trod enc Tryd.prog W 0 (fun _ => true) true 60 v d p) :
    ∃ o n m a b c e : Int, v = .agg #[.int .i64 o, .int .i64 n, .int .i64 m, .int .i64 a, .int .i64 b, .int .i64 c, .int .i64 e] ∧ True := by
  obtain ⟨cs, rfl, hsz⟩ := okWide_struct Tryd.underlying60 hok
  rw [cells_ask5] at hsz
  obtain ⟨fuel, hf⟩ := h
  obtain ⟨l⟩ := cs
  have hf' : DataW.trod enc Tryd.prog W 0 (fun _ => true) true fuel 60 l = some (d, p) := hf
  clear hf hok
  match l, hsz with
  | [c0, c1, c2, c3, c4, c5, c6], _ =>
    obtain ⟨xs, n, _, hx, _, hlen, hfd⟩ := DataW.trod_struct Tryd.underlying60 hf'
    have hl : xs.length = 6 := by simpa using hlen
    have q0 : DataW.trod enc Tryd.prog W 0 (fun _ => true) true n 23 (([c0, c1, c2, c3, c4, c5, c6].drop 0).take (Tryd.prog.cellsOf 23)) = xs[0]? := hfd 0 _ rfl
    have q1 : DataW.trod enc Tryd.prog W 0 (fun _ => true) true n 3 (([c0, c1, c2, c3, c4, c5, c6].drop 2).take (Tryd.prog.cellsOf 3)) = xs[1]? := hfd 1 _ rfl
    have q2 : DataW.trod enc Tryd.prog W 0 (fun _ => true) true n 3 (([c0, c1, c2, c3, c4, c5, c6].drop 3).take (Tryd.prog.cellsOf 3)) = xs[2]? := hfd 2 _ rfl
    have q3 : DataW.trod enc Tryd.prog W 0 (fun _ => true) true n 3 (([c0, c1, c2, c3, c4, c5, c6].drop 4).take (Tryd.prog.cellsOf 3)) = xs[3]? := hfd 3 _ rfl
    have q4 : DataW.trod enc Tryd.prog W 0 (fun _ => true) true n 3 (([c0, c1, c2, c3, c4, c5, c6].drop 5).take (Tryd.prog.cellsOf 3)) = xs[4]? := hfd 4 _ rfl
    have q5 : DataW.trod enc Tryd.prog W 0 (fun _ => true) true n 3 (([c0, c1, c2, c3, c4, c5, c6].drop 6).take (Tryd.prog.cellsOf 3)) = xs[5]? := hfd 5 _ rfl
    rw [cells_ses5] at q0
    rw [cells_int5] at q1 q2 q3 q4 q5
    obtain ⟨y0, e0⟩ := get_of5 hl (by omega) q0
    obtain ⟨y1, e1⟩ := get_of5 hl (by omega) q1
    obtain ⟨y2, e2⟩ := get_of5 hl (by omega) q2
    obtain ⟨y3, e3⟩ := get_of5 hl (by omega) q3
    obtain ⟨y4, e4⟩ := get_of5 hl (by omega) q4
    obtain ⟨y5, e5⟩ := get_of5 hl (by omega) q5
    obtain ⟨n2, r2, _⟩ := DataW.trod_int Tryd.underlying3 e1
    obtain ⟨n3, r3, _⟩ := DataW.trod_int Tryd.underlying3 e2
    obtain ⟨n4, r4, _⟩ := DataW.trod_int Tryd.underlying3 e3
    obtain ⟨n5, r5, _⟩ := DataW.trod_int Tryd.underlying3 e4
    obtain ⟨n6, r6, _⟩ := DataW.trod_int Tryd.underlying3 e5
    have e0' : DataW.trod enc Tryd.prog W 0 (fun _ => true) true n 23 [c0, c1] = some y0 := e0
    obtain ⟨z0, z1, k, _, _, s0, s1⟩ := trod_struct2 Tryd.underlying23 e0'
    simp only [cells_int5] at s0 s1
    obtain ⟨n0, r0, _⟩ := DataW.trod_int Tryd.underlying3 s0
    obtain ⟨n1, r1, _⟩ := DataW.trod_int Tryd.underlying3 s1
    simp at r0 r1 r2 r3 r4 r5 r6
    subst r0 r1 r2 r3 r4 r5 r6
    exact ⟨n0, n1, n2, n3, n4, n5, n6, rfl, trivial⟩

end Go.Proofs.YthbkabehjeidjaeDoor
