import Derived.Test.YtcfodcioeefbeaaDoorXpN
import Derived.Test.YtcfodcioeefbeaaDoorGiven
import Derived.Deep.SlicePairs
import Derived.Deep.Slices
namespace Go.Proofs.YtcfodcioeefbeaaDoor.X
open Go.ChangeShapes Go.WideShapes Go.ChangeAt Go.RowKit
set_option linter.unusedVariables false

theorem cells_int : Tryd.prog.cellsOf 3 = 1 := by kernel_rfl
theorem cells_bool : Tryd.prog.cellsOf 4 = 1 := by kernel_rfl
theorem cells_ses : Tryd.prog.cellsOf 23 = 2 := by kernel_rfl
theorem cells_pcl : Tryd.prog.cellsOf 25 = 5 := by kernel_rfl
theorem cells_rul : Tryd.prog.cellsOf 28 = 2 := by kernel_rfl
theorem cells_byt : Tryd.prog.cellsOf 26 = 1 := by kernel_rfl
theorem cells_act : Tryd.prog.cellsOf 29 = 1 := by kernel_rfl
theorem cells_play : Tryd.prog.cellsOf 31 = 13 := by kernel_rfl
variable {H : Type} {enc : TypeId × Value → H} {W : World}
theorem pget_of {α : Type} {f : Option α} {xs : List α} {i n : Nat} (hl : xs.length = n) (hi : i < n) (h : f = xs[i]?) : ∃ y, f = some y ∧ xs[i]? = some y := ⟨_, h.trans (List.getElem?_eq_getElem (by omega)), List.getElem?_eq_getElem _⟩
theorem pall {ys xs : List Nat} (h : xs.all (· ≤ reachBytes) = true) (hm : ∀ n ∈ ys, n ∈ xs) : ys.all (· ≤ reachBytes) = true := by
  rw [List.all_eq_true] at h ⊢
  exact fun n hn => h n (hm n hn)
set_option maxRecDepth 100000 in
theorem pparcel {fuel : Nat} {c0 c1 c2 c3 c4 : Value} {x : DataW H × List MemPlace} (hf : DataW.trod enc Tryd.prog W 0 (fun _ => true) true fuel 25 [c0, c1, c2, c3, c4] = some x) :
    ∃ n0 n1 n2 n3 n4 : Int, c0 = .int .i64 n0 ∧ c1 = .int .i64 n1 ∧ c2 = .int .i64 n2 ∧ c3 = .int .i64 n3 ∧ c4 = .int .i64 n4 := by
  obtain ⟨xs, n, _, hx, _, hlen, hfd⟩ := DataW.trod_struct Tryd.underlying25 hf
  have hl : xs.length = 5 := by simpa using hlen
  have q0 : DataW.trod enc Tryd.prog W 0 (fun _ => true) true n 3 (([c0, c1, c2, c3, c4].drop 0).take (Tryd.prog.cellsOf 3)) = xs[0]? := hfd 0 _ rfl
  have q1 : DataW.trod enc Tryd.prog W 0 (fun _ => true) true n 3 (([c0, c1, c2, c3, c4].drop 1).take (Tryd.prog.cellsOf 3)) = xs[1]? := hfd 1 _ rfl
  have q2 : DataW.trod enc Tryd.prog W 0 (fun _ => true) true n 3 (([c0, c1, c2, c3, c4].drop 2).take (Tryd.prog.cellsOf 3)) = xs[2]? := hfd 2 _ rfl
  have q3 : DataW.trod enc Tryd.prog W 0 (fun _ => true) true n 3 (([c0, c1, c2, c3, c4].drop 3).take (Tryd.prog.cellsOf 3)) = xs[3]? := hfd 3 _ rfl
  have q4 : DataW.trod enc Tryd.prog W 0 (fun _ => true) true n 3 (([c0, c1, c2, c3, c4].drop 4).take (Tryd.prog.cellsOf 3)) = xs[4]? := hfd 4 _ rfl
  rw [cells_int] at q0 q1 q2 q3 q4
  obtain ⟨y0, e0, _⟩ := pget_of hl (by omega) q0
  obtain ⟨y1, e1, _⟩ := pget_of hl (by omega) q1
  obtain ⟨y2, e2, _⟩ := pget_of hl (by omega) q2
  obtain ⟨y3, e3, _⟩ := pget_of hl (by omega) q3
  obtain ⟨y4, e4, _⟩ := pget_of hl (by omega) q4
  obtain ⟨n0, r0, _⟩ := DataW.trod_int Tryd.underlying3 e0
  obtain ⟨n1, r1, _⟩ := DataW.trod_int Tryd.underlying3 e1
  obtain ⟨n2, r2, _⟩ := DataW.trod_int Tryd.underlying3 e2
  obtain ⟨n3, r3, _⟩ := DataW.trod_int Tryd.underlying3 e3
  obtain ⟨n4, r4, _⟩ := DataW.trod_int Tryd.underlying3 e4
  simp at r0 r1 r2 r3 r4
  exact ⟨n0, n1, n2, n3, n4, r0, r1, r2, r3, r4⟩
theorem pslice {t e : TypeId} {fuel : Nat} {c : Value} {x : DataW H × List MemPlace} (ht : Tryd.prog.underlying t = some (.slice e)) (h : DataW.trod enc Tryd.prog W 0 (fun _ => true) true fuel t [c] = some x) : ∃ a len cap, c = .slice a len cap := by
  rcases Go.Deep.open_slice ht h with ⟨h1, _⟩ | ⟨a, len, cap, m, n, D, Pl, h1, _⟩
  · simp at h1
    exact ⟨_, _, _, h1⟩
  · simp at h1
    exact ⟨_, _, _, h1⟩
set_option maxRecDepth 100000 in
/-- What was given, as it came in. -/
theorem play_of {v : Value} {d : DataW H} {p : List MemPlace} {base : Nat} (hok : Value.okWide Tryd.prog W .any base 31 v) (h : DataW.Trod enc Tryd.prog W 0 (fun _ => true) true 31 v d p) (hw : (d.weights Tryd.prog 31).all (· ≤ reachBytes) = true) :
    ∃ (k : Pk) (a : Option Addr) (zs : List Int) (n c : Nat) (ret cyc bs : Int) (again : Bool) (sa : Option Addr) (sn sc : Nat), v = .agg (plC k (.slice a n c) ret cyc bs again (.slice sa sn sc)) ∧ zs.length = n ∧ n ≤ c ∧ Lies .u8 W a zs ∧ (a = none → n = 0 ∧ c = 0) := by
  obtain ⟨cs, rfl, hsz⟩ := okWide_struct Tryd.underlying31 hok
  rw [cells_play] at hsz
  obtain ⟨fuel, hf⟩ := h
  obtain ⟨l⟩ := cs
  have hf' : DataW.trod enc Tryd.prog W 0 (fun _ => true) true fuel 31 l = some (d, p) := hf
  clear hf hok
  match l, hsz with
  | [c0, c1, c2, c3, c4, c5, c6, c7, c8, c9, c10, c11, c12], _ =>
    obtain ⟨xs, n, _, hx, _, hlen, hfd⟩ := DataW.trod_struct Tryd.underlying31 hf'
    have hl : xs.length = 7 := by simpa using hlen
    have q0 : DataW.trod enc Tryd.prog W 0 (fun _ => true) true n 23 (([c0, c1, c2, c3, c4, c5, c6, c7, c8, c9, c10, c11, c12].drop 0).take (Tryd.prog.cellsOf 23)) = xs[0]? := hfd 0 _ rfl
    have q1 : DataW.trod enc Tryd.prog W 0 (fun _ => true) true n 25 (([c0, c1, c2, c3, c4, c5, c6, c7, c8, c9, c10, c11, c12].drop 2).take (Tryd.prog.cellsOf 25)) = xs[1]? := hfd 1 _ rfl
    have q2 : DataW.trod enc Tryd.prog W 0 (fun _ => true) true n 26 (([c0, c1, c2, c3, c4, c5, c6, c7, c8, c9, c10, c11, c12].drop 7).take (Tryd.prog.cellsOf 26)) = xs[2]? := hfd 2 _ rfl
    have q3 : DataW.trod enc Tryd.prog W 0 (fun _ => true) true n 28 (([c0, c1, c2, c3, c4, c5, c6, c7, c8, c9, c10, c11, c12].drop 8).take (Tryd.prog.cellsOf 28)) = xs[3]? := hfd 3 _ rfl
    have q4 : DataW.trod enc Tryd.prog W 0 (fun _ => true) true n 3 (([c0, c1, c2, c3, c4, c5, c6, c7, c8, c9, c10, c11, c12].drop 10).take (Tryd.prog.cellsOf 3)) = xs[4]? := hfd 4 _ rfl
    have q5 : DataW.trod enc Tryd.prog W 0 (fun _ => true) true n 4 (([c0, c1, c2, c3, c4, c5, c6, c7, c8, c9, c10, c11, c12].drop 11).take (Tryd.prog.cellsOf 4)) = xs[5]? := hfd 5 _ rfl
    have q6 : DataW.trod enc Tryd.prog W 0 (fun _ => true) true n 29 (([c0, c1, c2, c3, c4, c5, c6, c7, c8, c9, c10, c11, c12].drop 12).take (Tryd.prog.cellsOf 29)) = xs[6]? := hfd 6 _ rfl
    rw [cells_ses] at q0
    rw [cells_pcl] at q1
    rw [cells_byt] at q2
    rw [cells_rul] at q3
    rw [cells_int] at q4
    rw [cells_bool] at q5
    rw [cells_act] at q6
    have hd : d = .agg (xs.map (·.1)) := congrArg Prod.fst hx
    obtain ⟨y0, e0', hy0⟩ := pget_of hl (by omega) q0
    have e0 : DataW.trod enc Tryd.prog W 0 (fun _ => true) true n 23 [c0, c1] = some y0 := e0'
    obtain ⟨y1, e1', hy1⟩ := pget_of hl (by omega) q1
    have e1 : DataW.trod enc Tryd.prog W 0 (fun _ => true) true n 25 [c2, c3, c4, c5, c6] = some y1 := e1'
    obtain ⟨y2, e2', hy2⟩ := pget_of hl (by omega) q2
    have e2 : DataW.trod enc Tryd.prog W 0 (fun _ => true) true n 26 [c7] = some y2 := e2'
    obtain ⟨y3, e3', hy3⟩ := pget_of hl (by omega) q3
    have e3 : DataW.trod enc Tryd.prog W 0 (fun _ => true) true n 28 [c8, c9] = some y3 := e3'
    obtain ⟨y4, e4', hy4⟩ := pget_of hl (by omega) q4
    have e4 : DataW.trod enc Tryd.prog W 0 (fun _ => true) true n 3 [c10] = some y4 := e4'
    obtain ⟨y5, e5', hy5⟩ := pget_of hl (by omega) q5
    have e5 : DataW.trod enc Tryd.prog W 0 (fun _ => true) true n 4 [c11] = some y5 := e5'
    obtain ⟨y6, e6', hy6⟩ := pget_of hl (by omega) q6
    have e6 : DataW.trod enc Tryd.prog W 0 (fun _ => true) true n 29 [c12] = some y6 := e6'
    have hwe : (DataW.weightsEach Tryd.prog [23, 25, 26, 28, 3, 4, 29] (xs.map (·.1))).all (· ≤ reachBytes) = true := by
      rw [hd] at hw
      simp only [DataW.weights, Tryd.underlying31] at hw
      exact hw
    have hw2 : (y2.1.weights Tryd.prog 26).all (· ≤ reachBytes) = true := pall hwe (DataW.weights_mem_each (j := 2) rfl (by rw [List.getElem?_map, hy2]; rfl))
    obtain ⟨n2, n3, n4, n5, n6, rfl, rfl, rfl, rfl, rfl⟩ := pparcel e1
    obtain ⟨z0, z1, k, _, _, s0, s1⟩ := trod_struct2 Tryd.underlying23 e0
    simp only [cells_int] at s0 s1
    obtain ⟨n0, r0, _⟩ := DataW.trod_int Tryd.underlying3 s0
    obtain ⟨n1, r1, _⟩ := DataW.trod_int Tryd.underlying3 s1
    obtain ⟨z2, z3, k3, _, _, s2, s3⟩ := trod_struct2 Tryd.underlying28 e3
    simp only [cells_int] at s2 s3
    obtain ⟨n8, r8, _⟩ := DataW.trod_int Tryd.underlying3 s2
    obtain ⟨n9, r9, _⟩ := DataW.trod_int Tryd.underlying3 s3
    obtain ⟨n10, r10, _⟩ := DataW.trod_int Tryd.underlying3 e4
    obtain ⟨b11, r11, _⟩ := DataW.trod_bool Tryd.underlying4 e5
    simp at r0 r1 r8 r9 r10 r11
    subst r0 r1 r8 r9 r10 r11
    obtain ⟨sa, sn, sc, rfl⟩ := pslice Tryd.underlying29 e6
    obtain ⟨a, len, cap, rfl⟩ := pslice Tryd.underlying26 e2
    obtain ⟨zs, l, c, b, e, nn⟩ := given_ints Tryd.underlying26 Tryd.underlying5 (by kernel_rfl) (d := y2.1) (p := y2.2) ⟨n, e2⟩
    have m := reach_bytes (ts := [26]) (ds := [y2.1]) (j := 0) (by simpa [DataW.weightsEach] using hw2) rfl rfl l e
    exact ⟨⟨n0, n1, n2, n3, n4, n5, n6⟩, a, zs, len, cap, n8, n9, n10, b11, sa, sn, sc, rfl, l, m.1, c, nn⟩
end Go.Proofs.YtcfodcioeefbeaaDoor.X
