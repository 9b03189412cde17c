import Derived.Test.YtlagadpfnkidjadDoorRows
import Derived.Test.YtlagadpfnkidjadDoorBkMath
import Derived.ProofKit
import Derived.OpenShut
import Derived.ShutString
import Derived.ChangeOld
import Derived.SizedLaws
import Derived.Deep.SlicePairs
namespace Go.Proofs.YtlagadpfnkidjadDoor.Q
open Go.ChangeShapes Go.WideShapes Go.ChangeAt Go.RowKit

theorem cells_int : Tryd.prog.cellsOf 3 = 1 := by kernel_rfl
theorem cells_ses : Tryd.prog.cellsOf 26 = 2 := by kernel_rfl
theorem cells_pcl : Tryd.prog.cellsOf 28 = 5 := by kernel_rfl
theorem cells_ask : Tryd.prog.cellsOf 30 = 8 := by kernel_rfl
variable {H : Type} {enc : TypeId × Value → H} {W : World}
theorem get_of {α : Type} {f : Option α} {xs : List α} {i n : Nat} (hl : xs.length = n) (hi : i < n) (h : f = xs[i]?) : ∃ y, f = some y := ⟨_, h.trans (List.getElem?_eq_getElem (by omega))⟩

set_option maxRecDepth 100000 in
theorem parcel_of {fuel : Nat} {c0 c1 c2 c3 c4 : Value} {x : DataW H × List MemPlace} (hf : DataW.trod enc Tryd.prog W 0 (fun _ => true) true fuel 28 [c0, c1, c2, c3, c4] = some x) :
    ∃ n0 n1 n2 n3 n4 : Int, c0 = .int .i64 n0 ∧ c1 = .int .i64 n1 ∧ c2 = .int .i64 n2 ∧ c3 = .int .i64 n3 ∧ c4 = .int .i64 n4 := by
  obtain ⟨xs, n, _, hx, _, hlen, hfd⟩ := DataW.trod_struct Tryd.underlying28 hf
  have hl : xs.length = 5 := by simpa using hlen
  have q0 : DataW.trod enc Tryd.prog W 0 (fun _ => true) true n 3 (([c0, c1, c2, c3, c4].drop 0).take (Tryd.prog.cellsOf 3)) = xs[0]? := hfd 0 _ rfl
  have q1 : DataW.trod enc Tryd.prog W 0 (fun _ => true) true n 3 (([c0, c1, c2, c3, c4].drop 1).take (Tryd.prog.cellsOf 3)) = xs[1]? := hfd 1 _ rfl
  have q2 : DataW.trod enc Tryd.prog W 0 (fun _ => true) true n 3 (([c0, c1, c2, c3, c4].drop 2).take (Tryd.prog.cellsOf 3)) = xs[2]? := hfd 2 _ rfl
  have q3 : DataW.trod enc Tryd.prog W 0 (fun _ => true) true n 3 (([c0, c1, c2, c3, c4].drop 3).take (Tryd.prog.cellsOf 3)) = xs[3]? := hfd 3 _ rfl
  have q4 : DataW.trod enc Tryd.prog W 0 (fun _ => true) true n 3 (([c0, c1, c2, c3, c4].drop 4).take (Tryd.prog.cellsOf 3)) = xs[4]? := hfd 4 _ rfl
  rw [cells_int] at q0 q1 q2 q3 q4
  obtain ⟨y0, e0⟩ := get_of hl (by omega) q0
  obtain ⟨y1, e1⟩ := get_of hl (by omega) q1
  obtain ⟨y2, e2⟩ := get_of hl (by omega) q2
  obtain ⟨y3, e3⟩ := get_of hl (by omega) q3
  obtain ⟨y4, e4⟩ := get_of hl (by omega) q4
  obtain ⟨n0, r0, _⟩ := DataW.trod_int Tryd.underlying3 e0
  obtain ⟨n1, r1, _⟩ := DataW.trod_int Tryd.underlying3 e1
  obtain ⟨n2, r2, _⟩ := DataW.trod_int Tryd.underlying3 e2
  obtain ⟨n3, r3, _⟩ := DataW.trod_int Tryd.underlying3 e3
  obtain ⟨n4, r4, _⟩ := DataW.trod_int Tryd.underlying3 e4
  simp at r0 r1 r2 r3 r4
  exact ⟨n0, n1, n2, n3, n4, r0, r1, r2, r3, r4⟩

set_option maxRecDepth 100000 in
/-- What was asked, as it came in. -/
theorem asked_of {v : Value} {d : DataW H} {p : List MemPlace} {base : Nat} (hok : Value.okWide Tryd.prog W .any base 30 v) (h : DataW.Trod enc Tryd.prog W 0 (fun _ => true) true 30 v d p) :
    ∃ (k : Pk) (b : Int), v = .agg #[.int .i64 k.org, .int .i64 k.num, .int .i64 k.srv, .int .i64 k.size, .int .i64 k.red, .int .i64 k.mtu, .int .i64 k.every, .int .i64 b] := by
  obtain ⟨cs, rfl, hsz⟩ := okWide_struct Tryd.underlying30 hok
  rw [cells_ask] at hsz
  obtain ⟨fuel, hf⟩ := h
  obtain ⟨l⟩ := cs
  have hf' : DataW.trod enc Tryd.prog W 0 (fun _ => true) true fuel 30 l = some (d, p) := hf
  clear hf hok
  match l, hsz with
  | [c0, c1, c2, c3, c4, c5, c6, c7], _ =>
    obtain ⟨xs, n, _, hx, _, hlen, hfd⟩ := DataW.trod_struct Tryd.underlying30 hf'
    have hl : xs.length = 3 := by simpa using hlen
    have q0 : DataW.trod enc Tryd.prog W 0 (fun _ => true) true n 26 (([c0, c1, c2, c3, c4, c5, c6, c7].drop 0).take (Tryd.prog.cellsOf 26)) = xs[0]? := hfd 0 _ rfl
    have q1 : DataW.trod enc Tryd.prog W 0 (fun _ => true) true n 28 (([c0, c1, c2, c3, c4, c5, c6, c7].drop 2).take (Tryd.prog.cellsOf 28)) = xs[1]? := hfd 1 _ rfl
    have q2 : DataW.trod enc Tryd.prog W 0 (fun _ => true) true n 3 (([c0, c1, c2, c3, c4, c5, c6, c7].drop 7).take (Tryd.prog.cellsOf 3)) = xs[2]? := hfd 2 _ rfl
    rw [cells_ses] at q0
    rw [cells_pcl] at q1
    rw [cells_int] at q2
    obtain ⟨y0, e0⟩ := get_of hl (by omega) q0
    obtain ⟨y1, e1⟩ := get_of hl (by omega) q1
    obtain ⟨y2, e2⟩ := get_of hl (by omega) q2
    obtain ⟨n7, r7, _⟩ := DataW.trod_int Tryd.underlying3 e2
    obtain ⟨n2, n3, n4, n5, n6, rfl, rfl, rfl, rfl, rfl⟩ := parcel_of e1
    have e0' : DataW.trod enc Tryd.prog W 0 (fun _ => true) true n 26 [c0, c1] = some y0 := e0
    obtain ⟨z0, z1, k, _, _, s0, s1⟩ := trod_struct2 Tryd.underlying26 e0'
    simp only [cells_int] at s0 s1
    obtain ⟨n0, r0, _⟩ := DataW.trod_int Tryd.underlying3 s0
    obtain ⟨n1, r1, _⟩ := DataW.trod_int Tryd.underlying3 s1
    simp at r0 r1 r7
    subst r0 r1 r7
    exact ⟨⟨n0, n1, n2, n3, n4, n5, n6⟩, n7, rfl⟩

end Go.Proofs.YtlagadpfnkidjadDoor.Q
