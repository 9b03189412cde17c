import Derived.Test.YtllhbhogfffedaaGreatDoorGiven
import Derived.Test.YtllhbhogfffedaaGreatDoorJkLw
import Derived.Deep.SlicePairs
import Derived.Deep.Slices
namespace Go.Proofs.YtllhbhogfffedaaGreatDoor.K
open Go.ChangeShapes Go.WideShapes Go.ChangeAt Go.RowKit
set_option linter.unusedVariables false

variable {H : Type} {enc : TypeId × Value → H} {W : World}
theorem cells_intT : Tryz.prog.cellsOf 3 = 1 := by kernel_rfl
theorem cells_boolT : Tryz.prog.cellsOf 4 = 1 := by kernel_rfl
theorem cells_bytT : Tryz.prog.cellsOf 35 = 1 := by kernel_rfl
theorem cells_row : Tryz.prog.cellsOf 67 = 5 := by kernel_rfl
theorem tget_of {α : Type} {f : Option α} {xs : List α} {i n : Nat} (hl : xs.length = n) (hi : i < n) (h : f = xs[i]?) : ∃ y, f = some y ∧ xs[i]? = some y := ⟨_, h.trans (List.getElem?_eq_getElem (by omega)), List.getElem?_eq_getElem (by omega)⟩
theorem bulk_memT {x : DataW H} : ∀ {l : List (DataW H)}, x ∈ l → Rows.uptoBulk x ≤ Rows.uptoBulkAll l
  | y :: r, h => by
    simp only [Rows.uptoBulkAll]
    rcases List.mem_cons.mp h with rfl | h
    · omega
    · have := bulk_memT h; omega
/-- Bytes, as they came in. -/
theorem byt_of {fuel : Nat} {c5 : Value} {y : DataW H × List MemPlace} (e5 : DataW.trod enc Tryz.prog W 0 (fun _ => true) true fuel 35 [c5] = some y) (hbk : Rows.uptoBulk y.1 ≤ 1048576) :
    ∃ (a : Option Addr) (n c : Nat) (zs : List Int), c5 = .slice a n c ∧ zs.length = n ∧ Bytey zs ∧ Lies .u8 W a zs ∧ (a = none → n = 0 ∧ c = 0) ∧ n ≤ c ∧ c ≤ 1048576 := by
  have hv : ∃ a len cap, c5 = .slice a len cap := by
    rcases open_ints Tryz.underlying35 Tryz.underlying5 (by kernel_rfl) e5 with ⟨hcs, _⟩ | ⟨x, l, c, zs, hcs, _⟩
    · simp at hcs; exact ⟨_, _, _, hcs⟩
    · simp at hcs; exact ⟨_, _, _, hcs⟩
  obtain ⟨a, len, cap, rfl⟩ := hv
  obtain ⟨zs, l, c, bb, e, nn⟩ := given_ints Tryz.underlying35 Tryz.underlying5 (by kernel_rfl) (d := y.1) (p := y.2) ⟨fuel, e5⟩
  have m := bulk_ints l e
  exact ⟨a, len, cap, zs, rfl, l, bytey_of bb, c, nn, m.1, by omega⟩

set_option maxRecDepth 100000 in
/-- A row, as it came in. -/
theorem given_row {v : Value} {d : DataW H} {p : List MemPlace} {base : Nat} (hok : Value.okWide Tryz.prog W .any base 67 v) (h : DataW.Trod enc Tryz.prog W 0 (fun _ => true) true 67 v d p) (hbk : Rows.uptoBulk d ≤ 1048576) :
    ∃ (aB aL : Option Addr) (nB cB nL cL : Nat) (Bs Ls : List Int) (act keep : Int) (done : Bool), v = .agg (rwO aB aL nB cB nL cL act keep done) ∧ (Bs.length = nB ∧ Bytey Bs ∧ Lies .u8 W aB Bs ∧ (aB = none → nB = 0 ∧ cB = 0) ∧ nB ≤ cB ∧ cB ≤ 1048576) ∧ (Ls.length = nL ∧ Bytey Ls ∧ Lies .u8 W aL Ls ∧ (aL = none → nL = 0 ∧ cL = 0) ∧ nL ≤ cL ∧ cL ≤ 1048576) ∧ act ≤ 9223372036854775807 := by
  obtain ⟨cs, rfl, hsz⟩ := okWide_struct Tryz.underlying67 hok
  rw [cells_row] at hsz
  obtain ⟨fuel, hf⟩ := h
  obtain ⟨l⟩ := cs
  have hf' : DataW.trod enc Tryz.prog W 0 (fun _ => true) true fuel 67 l = some (d, p) := hf
  clear hf hok
  match l, hsz with
  | [c0, c1, c2, c3, c4], _ =>
    obtain ⟨xs, n, _, hx, _, hlen, hfd⟩ := DataW.trod_struct Tryz.underlying67 hf'
    have hl : xs.length = 5 := by simpa using hlen
    have q0 : DataW.trod enc Tryz.prog W 0 (fun _ => true) true n 35 (([c0, c1, c2, c3, c4].drop 0).take (Tryz.prog.cellsOf 35)) = xs[0]? := hfd 0 _ rfl
    have q1 : DataW.trod enc Tryz.prog W 0 (fun _ => true) true n 35 (([c0, c1, c2, c3, c4].drop 1).take (Tryz.prog.cellsOf 35)) = xs[1]? := hfd 1 _ rfl
    have q2 : DataW.trod enc Tryz.prog W 0 (fun _ => true) true n 3 (([c0, c1, c2, c3, c4].drop 2).take (Tryz.prog.cellsOf 3)) = xs[2]? := hfd 2 _ rfl
    have q3 : DataW.trod enc Tryz.prog W 0 (fun _ => true) true n 3 (([c0, c1, c2, c3, c4].drop 3).take (Tryz.prog.cellsOf 3)) = xs[3]? := hfd 3 _ rfl
    have q4 : DataW.trod enc Tryz.prog W 0 (fun _ => true) true n 4 (([c0, c1, c2, c3, c4].drop 4).take (Tryz.prog.cellsOf 4)) = xs[4]? := hfd 4 _ rfl
    rw [cells_intT] at q2 q3
    rw [cells_boolT] at q4
    rw [cells_bytT] at q0 q1
    have hd : d = .agg (xs.map (·.1)) := congrArg Prod.fst hx
    have m3 : Rows.uptoBulkAll (xs.map (·.1)) ≤ 1048576 := by rw [hd] at hbk; simp only [Rows.uptoBulk] at hbk; omega
    obtain ⟨y0, e0', hy0⟩ := tget_of hl (by omega) q0
    obtain ⟨y1, e1', hy1⟩ := tget_of hl (by omega) q1
    obtain ⟨y2, e2, _⟩ := tget_of hl (by omega) q2
    obtain ⟨y3, e3, _⟩ := tget_of hl (by omega) q3
    obtain ⟨y4, e4, _⟩ := tget_of hl (by omega) q4
    have e0 : DataW.trod enc Tryz.prog W 0 (fun _ => true) true n 35 [c0] = some y0 := e0'
    have e1 : DataW.trod enc Tryz.prog W 0 (fun _ => true) true n 35 [c1] = some y1 := e1'
    obtain ⟨n2, r2, _, w2⟩ := DataW.trod_int Tryz.underlying3 e2
    obtain ⟨n3, r3, _⟩ := DataW.trod_int Tryz.underlying3 e3
    obtain ⟨b4, r4, _⟩ := DataW.trod_bool Tryz.underlying4 e4
    simp at r2 r3 r4
    subst r2 r3 r4
    obtain ⟨aB, nB, cB, Bs, rfl, k1⟩ := byt_of e0 (Nat.le_trans (bulk_memT (List.mem_of_getElem? (i := 0) (by rw [List.getElem?_map, hy0]; rfl))) m3)
    obtain ⟨aL, nL, cL, Ls, rfl, k2⟩ := byt_of e1 (Nat.le_trans (bulk_memT (List.mem_of_getElem? (i := 1) (by rw [List.getElem?_map, hy1]; rfl))) m3)
    exact ⟨aB, aL, nB, cB, nL, cL, Bs, Ls, n2, n3, b4, rfl, k1, k2, (bounds_i64 w2).2⟩
end Go.Proofs.YtllhbhogfffedaaGreatDoor.K
