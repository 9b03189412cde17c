import Derived.Test.YtgmbpagbiakciadDoorRows
import Derived.Test.YtgmbpagbiakciadDoorBkMath
import Derived.ProofKit
import Derived.OpenShut
import Derived.ShutString
import Derived.ChangeOld
import Derived.SizedLaws
import Derived.Deep.SlicePairs
import Derived.Test.YtgmbpagbiakciadDoorGivenC
namespace Go.Proofs.YtgmbpagbiakciadDoor.Q
open Go.ChangeShapes Go.WideShapes Go.ChangeAt Go.RowKit

theorem cells_int : Tryd.prog.cellsOf 3 = 1 := by kernel_rfl
theorem cells_ses : Tryd.prog.cellsOf 26 = 2 := by kernel_rfl
theorem cells_pcl : Tryd.prog.cellsOf 28 = 5 := by kernel_rfl
theorem cells_ask : Tryd.prog.cellsOf 30 = 8 := by kernel_rfl
variable {H : Type} {enc : TypeId × Value → H} {W : World}
theorem get_of {α : Type} {f : Option α} {xs : List α} {i n : Nat} (hl : xs.length = n) (hi : i < n) (h : f = xs[i]?) : ∃ y, f = some y := ⟨_, h.trans (List.getElem?_eq_getElem (by omega))⟩

set_option maxRecDepth 100000 in
theorem parcel_of {fuel : Nat} {c0 c1 c2 c3 c4 : Value} {x : DataW H × List MemPlace} (hf : DataW.trod enc Tryd.prog W 0 (fun _ => true) true fuel 28 [c0, c1, c2, c3, c4] = some x) :
    ∃ n0 n1 n2 n3 n4 : Int, c0 = .int .i64 n0 ∧ c1 = .int .i64 n1 ∧ c2 = .int .i64 n2 ∧ c3 = .int .i64 n3 ∧ c4 = .int .i64 n4 := by
  obtain ⟨xs, n, _, hx, _, hlen, hfd⟩ := DataW.trod_struct Tryd.underlying28 hf
  have hl : xs.length = 5 := by simpa using hlen
  have q0 : DataW.trod enc Tryd.prog W 0 (fun _ => true) true n 3 (([c0, c1, c2, c3, c4].drop 0).take (Tryd.prog.cellsOf 3)) = xs[0]? := hfd 0 _ rfl
  have q1 : DataW.trod enc Tryd.prog W 0 (fun _ => true) true n 3 (([c0, c1, c2, c3, c4].drop 1).take (Tryd.prog.cellsOf 3)) = xs[1]? := hfd 1 _ rfl
  have q2 : DataW.trod enc Tryd.prog W 0 (fun _ => true) true n 3 (([c0, c1, c2, c3, c4].drop 2).take (Tryd.prog.cellsOf 3)) = xs[2]? := hfd 2 _ rfl
  have q3 : DataW.trod enc Tryd.prog W 0 (fun _ => true) true n 3 (([c0, c1, c2, c3, c4].drop 3).take (Tryd.prog.cellsOf 3)) = xs[3]? := hfd 3 _ rfl
  have q4 : DataW.trod enc Tryd.prog W 0 (fun _ => true) true n 3 (([c0, c1, c2, c3, c4].drop 4).take (Tryd.prog.cellsOf 3)) = xs[4]? := hfd 4 _ rfl
  rw [cells_int] at q0 q1 q2 q3 q4
  obtain ⟨y0, e0⟩ := get_of hl (by omega) q0
  obtain ⟨y1, e1⟩ := get_of hl (by omega) q1
  obtain ⟨y2, e2⟩ := get_of hl (by omega) q2
  obtain ⟨y3, e3⟩ := get_of hl (by omega) q3
  obtain ⟨y4, e4⟩ := get_of hl (by omega) q4
  obtain ⟨n0, r0, _⟩ := DataW.trod_int Tryd.underlying3 e0
  obtain ⟨n1, r1, _⟩ := DataW.trod_int Tryd.underlying3 e1
  obtain ⟨n2, r2, _⟩ := DataW.trod_int Tryd.underlying3 e2
  obtain ⟨n3, r3, _⟩ := DataW.trod_int Tryd.underlying3 e3
  obtain ⟨n4, r4, _⟩ := DataW.trod_int Tryd.underlying3 e4
  simp at r0 r1 r2 r3 r4
  exact ⟨n0, n1, n2, n3, n4, r0, r1, r2, r3, r4⟩

set_option maxRecDepth 100000 in
/-- What was asked, as it came in. -/
theorem asked_of {v : Value} {d : DataW H} {p : List MemPlace} {base : Nat} (hok : Value.okWide Tryd.prog W .any base 30 v) (h : DataW.Trod enc Tryd.prog W 0 (fun _ => true) true 30 v d p) :
    ∃ (k : Pk) (b : Int), v = .agg #[.int .i64 k.org, .int .i64 k.num, .int .i64 k.srv, .int .i64 k.size, .int .i64 k.red, .int .i64 k.mtu, .int .i64 k.every, .int .i64 b] := by
  obtain ⟨cs, rfl, hsz⟩ := okWide_struct Tryd.underlying30 hok
  rw [cells_ask] at hsz
  obtain ⟨fuel, hf⟩ := h
  obtain ⟨l⟩ := cs
  have hf' : DataW.trod enc Tryd.prog W 0 (fun _ => true) true fuel 30 l = some (d, p) := hf
  clear hf hok
  match l, hsz with
  | [c0, c1, c2, c3, c4, c5, c6, c7], _ =>
    obtain ⟨xs, n, _, hx, _, hlen, hfd⟩ := DataW.trod_struct Tryd.underlying30 hf'
    have hl : xs.length = 3 := by simpa using hlen
    have q0 : DataW.trod enc Tryd.prog W 0 (fun _ => true) true n 26 (([c0, c1, c2, c3, c4, c5, c6, c7].drop 0).take (Tryd.prog.cellsOf 26)) = xs[0]? := hfd 0 _ rfl
    have q1 : DataW.trod enc Tryd.prog W 0 (fun _ => true) true n 28 (([c0, c1, c2, c3, c4, c5, c6, c7].drop 2).take (Tryd.prog.cellsOf 28)) = xs[1]? := hfd 1 _ rfl
    have q2 : DataW.trod enc Tryd.prog W 0 (fun _ => true) true n 3 (([c0, c1, c2, c3, c4, c5, c6, c7].drop 7).take (Tryd.prog.cellsOf 3)) = xs[2]? := hfd 2 _ rfl
    rw [cells_ses] at q0
    rw [cells_pcl] at q1
    rw [cells_int] at q2
    obtain ⟨y0, e0⟩ := get_of hl (by omega) q0
    obtain ⟨y1, e1⟩ := get_of hl (by omega) q1
    obtain ⟨y2, e2⟩ := get_of hl (by omega) q2
    obtain ⟨n7, r7, _⟩ := DataW.trod_int Tryd.underlying3 e2
    obtain ⟨n2, n3, n4, n5, n6, rfl, rfl, rfl, rfl, rfl⟩ := parcel_of e1
    have e0' : DataW.trod enc Tryd.prog W 0 (fun _ => true) true n 26 [c0, c1] = some y0 := e0
    obtain ⟨z0, z1, k, _, _, s0, s1⟩ := trod_struct2 Tryd.underlying26 e0'
    simp only [cells_int] at s0 s1
    obtain ⟨n0, r0, _⟩ := DataW.trod_int Tryd.underlying3 s0
    obtain ⟨n1, r1, _⟩ := DataW.trod_int Tryd.underlying3 s1
    simp at r0 r1 r7
    subst r0 r1 r7
    exact ⟨⟨n0, n1, n2, n3, n4, n5, n6⟩, n7, rfl⟩

end Go.Proofs.YtgmbpagbiakciadDoor.Q

namespace Go.Proofs.YtgmbpagbiakciadDoor.Q
open Go.ChangeShapes Go.WideShapes Go.ChangeAt Go.RowKit

theorem cells_gap : Tryd.prog.cellsOf 40 = 10 := by kernel_rfl
theorem cells_spn : Tryd.prog.cellsOf 38 = 1 := by kernel_rfl
variable {H : Type} {enc : TypeId × Value → H} {W : World}

theorem bulk_mem {x : DataW H} : ∀ {l : List (DataW H)}, x ∈ l → Rows.uptoBulk x ≤ Rows.uptoBulkAll l
  | y :: r, h => by
    rcases List.mem_cons.mp h with rfl | h
    · simp only [Rows.uptoBulkAll]; omega
    · have := bulk_mem h; simp only [Rows.uptoBulkAll]; omega
theorem get_mem {α : Type} {f : Option α} {xs : List α} {i n : Nat} (hl : xs.length = n) (hi : i < n) (h : f = xs[i]?) : ∃ y, f = some y ∧ y ∈ xs := by
  rw [List.getElem?_eq_getElem (by omega)] at h
  exact ⟨_, h, List.getElem_mem _⟩

/-- A list of spans that came in, as a cell. -/
theorem ls_at {fuel : Nat} {v : Value} {d : DataW H} {p : List MemPlace} (h : DataW.trod enc Tryd.prog W 0 (fun _ => true) true fuel 38 [v] = some (d, p)) : ∃ l, C.Ls W v l ∧ l.length ≤ Rows.uptoBulk d := by
  rcases Go.Deep.open_slice_pairs Tryd.underlying38 Tryd.underlying42 (by kernel_rfl) rfl rfl (by kernel_rfl) (by kernel_rfl) h with ⟨hcs, _⟩ | ⟨a, len, cap, m, n, V0, V1, D0, D1, P0, P1, hcs, _, hl, hm, hmm, hx, hcell⟩
  · simp at hcs
    subst hcs
    exact ⟨[], C.Ls.nil _, by simp⟩
  · simp at hcs
    subst hcs
    simp only [if_true] at hmm
    subst hmm
    simp only [Prod.mk.injEq] at hx
    have hlen : len ≤ Rows.uptoBulk d := by
      have h1 := C.bulk_length ((List.range len).map fun i => DataW.agg [D0 i, D1 i])
      rw [hx.1]
      simp only [Rows.uptoBulk]
      simp only [List.length_map, List.length_range] at h1
      omega
    obtain ⟨xs, hxl, hxs⟩ := C.list_of (n := len) (p := fun i (x : Int × Int) => W.cell? (a.add (i * 2)) = some (.int .i64 x.1) ∧ W.cell? (a.add (i * 2 + 1)) = some (.int .i64 x.2)) (fun i hi => by
      obtain ⟨c0, c1, t0, t1⟩ := hcell i (by omega)
      obtain ⟨t, ht, _⟩ := DataW.trod_int Tryd.underlying3 t0
      obtain ⟨u, hu, _⟩ := DataW.trod_int Tryd.underlying3 t1
      simp at ht hu
      exact ⟨(t, u), by rw [c0, ht], by rw [c1, hu]⟩)
    subst hxl
    refine ⟨xs, ⟨⟨some a, _, rfl, ?_, hl, by unfold maxLen at hm; omega⟩, by unfold maxLen at hm; omega⟩, hlen⟩
    by_cases h0 : xs = []
    · exact .inl h0
    · right
      obtain ⟨c0, _⟩ := hcell 0 (by have := List.length_pos_iff.mpr h0; omega)
      obtain ⟨g, off, rfl⟩ := C.spot_none (by omega) c0
      refine ⟨g, off, rfl, fun i x hi => ?_⟩
      obtain ⟨q1, q2⟩ := hxs i x hi
      rw [C.add_none] at q1 q2
      exact ⟨q1, q2⟩

set_option maxRecDepth 100000 in
/-- What Again was asked, as it came in. -/
theorem gaps_of {v : Value} {d : DataW H} {p : List MemPlace} {base : Nat} (hok : Value.okWide Tryd.prog W .any base 40 v) (h : DataW.Trod enc Tryd.prog W 0 (fun _ => true) true 40 v d p) :
    ∃ (k : Pk) (a : Option Addr) (n cap : Nat) (c r : Int) (gs : List (Int × Int)), v = .agg #[.int .i64 k.org, .int .i64 k.num, .int .i64 k.srv, .int .i64 k.size, .int .i64 k.red, .int .i64 k.mtu, .int .i64 k.every, .slice a n cap, .int .i64 c, .int .i64 r] ∧ gs.length = n ∧ C.Ls W (.slice a gs.length cap) gs ∧ n ≤ Rows.uptoBulk d := by
  obtain ⟨cs, rfl, hsz⟩ := okWide_struct Tryd.underlying40 hok
  rw [cells_gap] at hsz
  obtain ⟨fuel, hf⟩ := h
  obtain ⟨l⟩ := cs
  have hf' : DataW.trod enc Tryd.prog W 0 (fun _ => true) true fuel 40 l = some (d, p) := hf
  clear hf hok
  match l, hsz with
  | [c0, c1, c2, c3, c4, c5, c6, c7, c8, c9], _ =>
    obtain ⟨xs, n, _, hx, _, hlen, hfd⟩ := DataW.trod_struct Tryd.underlying40 hf'
    have hl : xs.length = 5 := by simpa using hlen
    have q0 : DataW.trod enc Tryd.prog W 0 (fun _ => true) true n 26 (([c0, c1, c2, c3, c4, c5, c6, c7, c8, c9].drop 0).take (Tryd.prog.cellsOf 26)) = xs[0]? := hfd 0 _ rfl
    have q1 : DataW.trod enc Tryd.prog W 0 (fun _ => true) true n 28 (([c0, c1, c2, c3, c4, c5, c6, c7, c8, c9].drop 2).take (Tryd.prog.cellsOf 28)) = xs[1]? := hfd 1 _ rfl
    have q2 : DataW.trod enc Tryd.prog W 0 (fun _ => true) true n 38 (([c0, c1, c2, c3, c4, c5, c6, c7, c8, c9].drop 7).take (Tryd.prog.cellsOf 38)) = xs[2]? := hfd 2 _ rfl
    have q3 : DataW.trod enc Tryd.prog W 0 (fun _ => true) true n 3 (([c0, c1, c2, c3, c4, c5, c6, c7, c8, c9].drop 8).take (Tryd.prog.cellsOf 3)) = xs[3]? := hfd 3 _ rfl
    have q4 : DataW.trod enc Tryd.prog W 0 (fun _ => true) true n 3 (([c0, c1, c2, c3, c4, c5, c6, c7, c8, c9].drop 9).take (Tryd.prog.cellsOf 3)) = xs[4]? := hfd 4 _ rfl
    rw [cells_ses] at q0
    rw [cells_pcl] at q1
    rw [cells_spn] at q2
    rw [cells_int] at q3 q4
    obtain ⟨y0, e0⟩ := get_of hl (by omega) q0
    obtain ⟨y1, e1⟩ := get_of hl (by omega) q1
    obtain ⟨y2, e2, m2⟩ := get_mem hl (by omega) q2
    obtain ⟨y3, e3⟩ := get_of hl (by omega) q3
    obtain ⟨y4, e4⟩ := get_of hl (by omega) q4
    obtain ⟨n8, r8, _⟩ := DataW.trod_int Tryd.underlying3 e3
    obtain ⟨n9, r9, _⟩ := DataW.trod_int Tryd.underlying3 e4
    obtain ⟨n2, n3, n4, n5, n6, rfl, rfl, rfl, rfl, rfl⟩ := parcel_of e1
    have e0' : DataW.trod enc Tryd.prog W 0 (fun _ => true) true n 26 [c0, c1] = some y0 := e0
    obtain ⟨z0, z1, k, _, _, s0, s1⟩ := trod_struct2 Tryd.underlying26 e0'
    simp only [cells_int] at s0 s1
    obtain ⟨n0, r0, _⟩ := DataW.trod_int Tryd.underlying3 s0
    obtain ⟨n1, r1, _⟩ := DataW.trod_int Tryd.underlying3 s1
    simp at r0 r1 r8 r9
    subst r0 r1 r8 r9
    obtain ⟨gs, hgs, hbl⟩ := ls_at (d := y2.1) (p := y2.2) e2
    obtain ⟨a, cap, hv, _⟩ := hgs.shape
    subst hv
    have hd : d = .agg (xs.map (·.1)) := congrArg Prod.fst hx
    refine ⟨⟨n0, n1, n2, n3, n4, n5, n6⟩, a, gs.length, cap, n8, n9, gs, rfl, rfl, hgs, ?_⟩
    have h1 := bulk_mem (List.mem_map.mpr ⟨y2, m2, rfl⟩ : y2.1 ∈ xs.map (·.1))
    rw [hd]
    simp only [Rows.uptoBulk]
    omega

end Go.Proofs.YtgmbpagbiakciadDoor.Q
