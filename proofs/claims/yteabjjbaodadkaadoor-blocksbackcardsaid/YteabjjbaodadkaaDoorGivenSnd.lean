import Derived.Test.YteabjjbaodadkaaDoorRows
import Derived.Test.YteabjjbaodadkaaDoorBkMath
import Derived.ProofKit
import Derived.OpenShut
import Derived.ShutString
import Derived.ChangeOld
import Derived.SizedLaws
import Derived.Deep.SlicePairs
import Derived.Test.YteabjjbaodadkaaDoorGivenC
import Derived.Test.YteabjjbaodadkaaDoorGiven
import Derived.Test.YteabjjbaodadkaaDoorCards
import Derived.Test.YteabjjbaodadkaaDoorTie
import Derived.Test.YteabjjbaodadkaaDoorBbWk
import Derived.WalkKit
import Derived.Below
import Derived.JoinedCond
import Derived.Deep.DeepHandedRow
import Derived.Lib.LaidTab
namespace Go.Proofs.YteabjjbaodadkaaDoor.QS
open Go.ChangeShapes Go.WideShapes Go.ChangeAt Go.RowKit

theorem cells_int : Tryd.prog.cellsOf 3 = 1 := by kernel_rfl
theorem cells_ses : Tryd.prog.cellsOf 43 = 2 := by kernel_rfl
theorem cells_pcl : Tryd.prog.cellsOf 45 = 5 := by kernel_rfl
theorem cells_ask : Tryd.prog.cellsOf 47 = 8 := by kernel_rfl
variable {H : Type} {enc : TypeId × Value → H} {W : World}
theorem get_of {α : Type} {f : Option α} {xs : List α} {i n : Nat} (hl : xs.length = n) (hi : i < n) (h : f = xs[i]?) : ∃ y, f = some y := ⟨_, h.trans (List.getElem?_eq_getElem (by omega))⟩

set_option maxRecDepth 100000 in
theorem parcel_of {fuel : Nat} {c0 c1 c2 c3 c4 : Value} {x : DataW H × List MemPlace} (hf : DataW.trod enc Tryd.prog W 0 (fun _ => true) true fuel 45 [c0, c1, c2, c3, c4] = some x) :
    ∃ n0 n1 n2 n3 n4 : Int, c0 = .int .i64 n0 ∧ c1 = .int .i64 n1 ∧ c2 = .int .i64 n2 ∧ c3 = .int .i64 n3 ∧ c4 = .int .i64 n4 := by
  obtain ⟨xs, n, _, hx, _, hlen, hfd⟩ := DataW.trod_struct Tryd.underlying45 hf
  have hl : xs.length = 5 := by simpa using hlen
  have q0 : DataW.trod enc Tryd.prog W 0 (fun _ => true) true n 3 (([c0, c1, c2, c3, c4].drop 0).take (Tryd.prog.cellsOf 3)) = xs[0]? := hfd 0 _ rfl
  have q1 : DataW.trod enc Tryd.prog W 0 (fun _ => true) true n 3 (([c0, c1, c2, c3, c4].drop 1).take (Tryd.prog.cellsOf 3)) = xs[1]? := hfd 1 _ rfl
  have q2 : DataW.trod enc Tryd.prog W 0 (fun _ => true) true n 3 (([c0, c1, c2, c3, c4].drop 2).take (Tryd.prog.cellsOf 3)) = xs[2]? := hfd 2 _ rfl
  have q3 : DataW.trod enc Tryd.prog W 0 (fun _ => true) true n 3 (([c0, c1, c2, c3, c4].drop 3).take (Tryd.prog.cellsOf 3)) = xs[3]? := hfd 3 _ rfl
  have q4 : DataW.trod enc Tryd.prog W 0 (fun _ => true) true n 3 (([c0, c1, c2, c3, c4].drop 4).take (Tryd.prog.cellsOf 3)) = xs[4]? := hfd 4 _ rfl
  rw [cells_int] at q0 q1 q2 q3 q4
  obtain ⟨y0, e0⟩ := get_of hl (by omega) q0
  obtain ⟨y1, e1⟩ := get_of hl (by omega) q1
  obtain ⟨y2, e2⟩ := get_of hl (by omega) q2
  obtain ⟨y3, e3⟩ := get_of hl (by omega) q3
  obtain ⟨y4, e4⟩ := get_of hl (by omega) q4
  obtain ⟨n0, r0, _⟩ := DataW.trod_int Tryd.underlying3 e0
  obtain ⟨n1, r1, _⟩ := DataW.trod_int Tryd.underlying3 e1
  obtain ⟨n2, r2, _⟩ := DataW.trod_int Tryd.underlying3 e2
  obtain ⟨n3, r3, _⟩ := DataW.trod_int Tryd.underlying3 e3
  obtain ⟨n4, r4, _⟩ := DataW.trod_int Tryd.underlying3 e4
  simp at r0 r1 r2 r3 r4
  exact ⟨n0, n1, n2, n3, n4, r0, r1, r2, r3, r4⟩

theorem all4 {ys xs : List Nat} (h : xs.all (· ≤ reachBytes) = true) (hm : ∀ n ∈ ys, n ∈ xs) : ys.all (· ≤ reachBytes) = true := by
  rw [List.all_eq_true] at h ⊢
  exact fun n hn => h n (hm n hn)

theorem cells_byt : Tryd.prog.cellsOf 36 = 1 := by kernel_rfl
theorem cells_ints : Tryd.prog.cellsOf 48 = 1 := by kernel_rfl
theorem cells_snd : Tryd.prog.cellsOf 50 = 10 := by kernel_rfl

set_option maxRecDepth 100000 in
theorem ask_at {fuel : Nat} {c0 c1 c2 c3 c4 c5 c6 c7 : Value} {x : DataW H × List MemPlace} (hf' : DataW.trod enc Tryd.prog W 0 (fun _ => true) true fuel 47 [c0, c1, c2, c3, c4, c5, c6, c7] = some x) :
    ∃ (k : Pk) (b : Int), c0 = .int .i64 k.org ∧ c1 = .int .i64 k.num ∧ c2 = .int .i64 k.srv ∧ c3 = .int .i64 k.size ∧ c4 = .int .i64 k.red ∧ c5 = .int .i64 k.mtu ∧ c6 = .int .i64 k.every ∧ c7 = .int .i64 b := by
  obtain ⟨xs, n, _, hx, _, hlen, hfd⟩ := DataW.trod_struct Tryd.underlying47 hf'
  have hl : xs.length = 3 := by simpa using hlen
  have q0 : DataW.trod enc Tryd.prog W 0 (fun _ => true) true n 43 (([c0, c1, c2, c3, c4, c5, c6, c7].drop 0).take (Tryd.prog.cellsOf 43)) = xs[0]? := hfd 0 _ rfl
  have q1 : DataW.trod enc Tryd.prog W 0 (fun _ => true) true n 45 (([c0, c1, c2, c3, c4, c5, c6, c7].drop 2).take (Tryd.prog.cellsOf 45)) = xs[1]? := hfd 1 _ rfl
  have q2 : DataW.trod enc Tryd.prog W 0 (fun _ => true) true n 3 (([c0, c1, c2, c3, c4, c5, c6, c7].drop 7).take (Tryd.prog.cellsOf 3)) = xs[2]? := hfd 2 _ rfl
  rw [cells_ses] at q0
  rw [cells_pcl] at q1
  rw [cells_int] at q2
  obtain ⟨y0, e0⟩ := get_of hl (by omega) q0
  obtain ⟨y1, e1⟩ := get_of hl (by omega) q1
  obtain ⟨y2, e2⟩ := get_of hl (by omega) q2
  obtain ⟨n7, r7, _⟩ := DataW.trod_int Tryd.underlying3 e2
  obtain ⟨n2, n3, n4, n5, n6, rfl, rfl, rfl, rfl, rfl⟩ := parcel_of e1
  have e0' : DataW.trod enc Tryd.prog W 0 (fun _ => true) true n 43 [c0, c1] = some y0 := e0
  obtain ⟨z0, z1, k, _, _, s0, s1⟩ := trod_struct2 Tryd.underlying43 e0'
  simp only [cells_int] at s0 s1
  obtain ⟨n0, r0, _⟩ := DataW.trod_int Tryd.underlying3 s0
  obtain ⟨n1, r1, _⟩ := DataW.trod_int Tryd.underlying3 s1
  simp at r0 r1 r7
  subst r0 r1 r7
  exact ⟨⟨n0, n1, n2, n3, n4, n5, n6⟩, n7, rfl, rfl, rfl, rfl, rfl, rfl, rfl, rfl⟩

set_option maxRecDepth 100000 in
/-- A Send, as it came in. -/
theorem snd_of {v : Value} {d : DataW H} {p : List MemPlace} {base : Nat} (hok : Value.okWide Tryd.prog W .any base 50 v) (h : DataW.Trod enc Tryd.prog W 0 (fun _ => true) true 50 v d p) (hw : (d.weights Tryd.prog 50).all (· ≤ reachBytes) = true) :
    ∃ (k : Pk) (b : Int) (a at' : Option Addr) (zs ts : List Int) (n c nt ct : Nat), v = .agg #[.int .i64 k.org, .int .i64 k.num, .int .i64 k.srv, .int .i64 k.size, .int .i64 k.red, .int .i64 k.mtu, .int .i64 k.every, .int .i64 b, .slice a n c, .slice at' nt ct] ∧ zs.length = n ∧ n ≤ c ∧ c ≤ 140737488351232 ∧ Lies .u8 W a zs ∧ Bytey zs ∧ (a = none → n = 0 ∧ c = 0) ∧ ts.length = nt ∧ nt ≤ 9223372036854775807 ∧ Lies .i64 W at' ts := by
  obtain ⟨cs, rfl, hsz⟩ := okWide_struct Tryd.underlying50 hok
  rw [cells_snd] at hsz
  obtain ⟨fuel, hf⟩ := h
  obtain ⟨l⟩ := cs
  have hf' : DataW.trod enc Tryd.prog W 0 (fun _ => true) true fuel 50 l = some (d, p) := hf
  clear hf hok
  match l, hsz with
  | [c0, c1, c2, c3, c4, c5, c6, c7, c8, c9], _ =>
    obtain ⟨xs, n, _, hx, _, hlen, hfd⟩ := DataW.trod_struct Tryd.underlying50 hf'
    have hl : xs.length = 3 := by simpa using hlen
    have q0 : DataW.trod enc Tryd.prog W 0 (fun _ => true) true n 47 (([c0, c1, c2, c3, c4, c5, c6, c7, c8, c9].drop 0).take (Tryd.prog.cellsOf 47)) = xs[0]? := hfd 0 _ rfl
    have q1 : DataW.trod enc Tryd.prog W 0 (fun _ => true) true n 36 (([c0, c1, c2, c3, c4, c5, c6, c7, c8, c9].drop 8).take (Tryd.prog.cellsOf 36)) = xs[1]? := hfd 1 _ rfl
    have q2 : DataW.trod enc Tryd.prog W 0 (fun _ => true) true n 48 (([c0, c1, c2, c3, c4, c5, c6, c7, c8, c9].drop 9).take (Tryd.prog.cellsOf 48)) = xs[2]? := hfd 2 _ rfl
    rw [cells_ask] at q0
    rw [cells_byt] at q1
    rw [cells_ints] at q2
    have hd : d = .agg (xs.map (·.1)) := congrArg Prod.fst hx
    obtain ⟨y0, e0⟩ := get_of hl (by omega) q0
    obtain ⟨y2, e2⟩ := get_of hl (by omega) q2
    have hx1 : xs[1]? = some (xs[1]'(by omega)) := List.getElem?_eq_getElem _
    obtain ⟨y1, hy1⟩ : ∃ y, xs[1]? = some y := ⟨_, hx1⟩
    have e1 : DataW.trod enc Tryd.prog W 0 (fun _ => true) true n 36 [c8] = some y1 := q1.trans hy1
    have e2' : DataW.trod enc Tryd.prog W 0 (fun _ => true) true n 48 [c9] = some y2 := e2
    have hwe : (DataW.weightsEach Tryd.prog [47, 36, 48] (xs.map (·.1))).all (· ≤ reachBytes) = true := by
      rw [hd] at hw
      simp only [DataW.weights, Tryd.underlying50] at hw
      exact hw
    have hw1 : (y1.1.weights Tryd.prog 36).all (· ≤ reachBytes) = true := all4 hwe (DataW.weights_mem_each (j := 1) rfl (by rw [List.getElem?_map, hy1]; rfl))
    obtain ⟨k, b, rfl, rfl, rfl, rfl, rfl, rfl, rfl, rfl⟩ := ask_at e0
    have hv : ∃ a len cap, c8 = .slice a len cap := by
      rcases open_ints Tryd.underlying36 Tryd.underlying5 (by kernel_rfl) e1 with ⟨hcs, _⟩ | ⟨x, l, c, zs, hcs, _⟩
      · simp at hcs; exact ⟨_, _, _, hcs⟩
      · simp at hcs; exact ⟨_, _, _, hcs⟩
    obtain ⟨a, len, cap, rfl⟩ := hv
    obtain ⟨zs, l, c, bb, e, nn⟩ := given_ints Tryd.underlying36 Tryd.underlying5 (by kernel_rfl) (d := y1.1) (p := y1.2) ⟨n, e1⟩
    have m := reach_bytes (ts := [36]) (ds := [y1.1]) (j := 0) (by simpa [DataW.weightsEach] using hw1) rfl rfl l e
    have hv2 : ∃ a len cap, c9 = .slice a len cap ∧ len ≤ 9223372036854775807 := by
      rcases open_ints Tryd.underlying48 Tryd.underlying3 (by kernel_rfl) e2' with ⟨hcs, _⟩ | ⟨x, l, c, zs, hcs, _, hlc, hm, _⟩
      · simp at hcs; exact ⟨_, _, _, hcs, by omega⟩
      · simp at hcs; exact ⟨_, _, _, hcs, by unfold maxLen at hm; omega⟩
    obtain ⟨at', nt, ct, rfl, hnt⟩ := hv2
    obtain ⟨ts, lt, ct', _, _, _⟩ := given_ints Tryd.underlying48 Tryd.underlying3 (by kernel_rfl) (d := y2.1) (p := y2.2) ⟨n, e2'⟩
    exact ⟨k, b, a, at', zs, ts, len, cap, nt, ct, rfl, l, m.1, m.2, c, bytey_of bb, nn, lt, hnt, ct'⟩
end Go.Proofs.YteabjjbaodadkaaDoor.QS

namespace Go.Proofs.YteabjjbaodadkaaDoor.blocksBack
open Go.ChangeShapes Go.WideShapes Go.ChangeAt Go.RowKit
set_option linter.unusedVariables false

theorem own : ownKnob Tryd.prog.godebug = none := by kernel_rfl
theorem gTab : Tryd.prog.globalNamed "lantern/segment.shapes" = some 0 := by kernel_rfl
theorem gTabType : (Tryd.prog.globals[0]?).map (·.type) = some 139 := by kernel_rfl
theorem cellsTab : Tryd.prog.cellsOf 139 = 16 := by kernel_rfl
theorem cellsParts : Tryd.prog.cellsOf 132 = 1 := by kernel_rfl

/-- What the row's list gives: the table's cells hold its numbers. -/
theorem table {W : World} (h : laidMetH Tryd.prog Rows.blocksBackRow.laid W) : Tab W := by
  have h1 : Lib.TabIs Tryd.prog W "lantern/segment.shapes" .u8 tabl :=
    Lib.tabIs_of_head (rest := []) gTab gTabType Tryd.underlying139 Tryd.underlying132 cellsParts cellsTab h
  exact fun i hi => h1.cell gTab i hi

/-- A world for the witness: the table holds what its initialiser lays. -/
def laidWorld (P : Program) (os : Os) : World :=
  { World.holding P os ⟨#[], #[], []⟩ with heap := (World.holding P os ⟨#[], #[], []⟩).heap.modify 0 fun
      | .cells _ t frozen => .cells #[.int .u8 3, .int .u8 7, .int .u8 7, .int .u8 7, .int .u8 3, .int .u8 0, .int .u8 0, .int .u8 3, .int .u8 9, .int .u8 17, .int .u8 0, .int .u8 0, .int .u8 33, .int .u8 1, .int .u8 33, .int .u8 1] t frozen
      | o => o }
theorem laid_met (os : Os) : laidMet Tryd.prog Rows.blocksBackRow.laid ((laidWorld Tryd.prog os).forCall (fun _ _ => 0) ⟨#[], #[.agg #[.int .i64 0, .int .i64 0, .int .i64 0, .int .i64 0, .int .i64 0, .int .i64 0, .int .i64 0, .int .i64 0, .slice none 0 0, .slice none 0 0]], []⟩).memory :=
  laidMet_of_run' 8 (by kernel_rfl) (by kernel_rfl)
theorem reads (os : Os) {H : Type} (enc : TypeId × Value → H) : ∃ places, DataW.whole enc Tryd.prog ((laidWorld Tryd.prog os).forCall (fun _ _ => 0) ⟨#[], #[.agg #[.int .i64 0, .int .i64 0, .int .i64 0, .int .i64 0, .int .i64 0, .int .i64 0, .int .i64 0, .int .i64 0, .slice none 0 0, .slice none 0 0]], []⟩).memory Tryd.f4.params.toList Rows.blocksBackSpec.vars false (#[.agg #[.int .i64 0, .int .i64 0, .int .i64 0, .int .i64 0, .int .i64 0, .int .i64 0, .int .i64 0, .int .i64 0, .slice none 0 0, .slice none 0 0]] : Array Value).toList 8 = some ([.agg [.agg [.agg [.lit (.int .i64 0), .lit (.int .i64 0)], .agg [.lit (.int .i64 0), .lit (.int .i64 0), .lit (.int .i64 0), .lit (.int .i64 0), .lit (.int .i64 0)], .lit (.int .i64 0)], .nil, .nil]], [], places) :=
  ⟨[], by kernel_rfl⟩
theorem laidOut : laidOutB Tryd.prog = true := by kernel_rfl

set_option maxRecDepth 100000 in
theorem lifted (os : Os) (started : os.Started) (H : Type) (enc : TypeId × Value → H) (F : Stop.Interp) :
    ReturnsInHanded {} Tryd.checked os 4 .any ((OpenSpec.ofChange Rows.blocksBackSpec).preRow enc Tryd.prog Tryd.f4 Rows.blocksBackRow.domain false Rows.blocksBackRow.laid) (((OpenSpec.ofChange Rows.blocksBackSpec).at F).post enc Tryd.prog Tryd.f4 false true false false) := by
  obtain ⟨places, hx⟩ := reads os enc
  refine returnsInHanded_of_row (C := Tryd.checked) (s := OpenSpec.ofChange Rows.blocksBackSpec) own started (by kernel_rfl) Tryd.func4
    (witness_row_at (enc := enc) (C := Tryd.checked) false (laidWorld Tryd.prog os) #[.agg #[.int .i64 0, .int .i64 0, .int .i64 0, .int .i64 0, .int .i64 0, .int .i64 0, .int .i64 0, .int .i64 0, .slice none 0 0, .slice none 0 0]] rfl (by kernel_rfl) (by kernel_rfl) (by kernel_rfl)
      (OpenSpec.preRow_of_cond 8 hx (by kernel_rfl) (fun k hk => by cases hk) (by kernel_rfl) (laid_met os))) ?_
  intro W base args ds gs before hval0 hW _ hk0 hsz0 hL _ _
  have hsz : (DataW.weightsEach Tryd.prog (Tryd.f4.params.toList ++ (OpenSpec.ofChange Rows.blocksBackSpec).bare.plain.varTypes Tryd.prog) (ds ++ gs)).all (· ≤ reachBytes) = true := hsz0
  have hval : ∀ (j : Nat) t v, Tryd.f4.params[j]? = some t → args[j]? = some v → Value.okWide Tryd.prog W .any base t v := hval0
  have hW' := hW
  obtain ⟨p, q, hA0, hV, rfl, hfz, hnd⟩ := hW
  have hA : DataW.TrodAll enc Tryd.prog W 0 (fun _ => true) true Tryd.f4.params.toList args.toList ds p := hA0
  rw [Tryd.params4] at hA hval hsz
  obtain ⟨v0, vs0, d0, ds0, p0, q0, hargs, rfl, rfl, h0, r0⟩ := trodAll_cons hA
  obtain ⟨rfl, rfl, rfl⟩ := trodAll_nil r0
  obtain rfl : args = #[v0] := by cases args; simp_all
  obtain ⟨rfl, rfl⟩ := trodVars_none hV
  have lt0 : ∀ x ∈ p0, x.block < W.heap.size := by obtain ⟨m, hm⟩ := h0; exact DataW.trod_lt m _ _ _ hm
  obtain ⟨k0, b0, a0, t0, z0, ts0, n0, c0, nt0, ct0, rfl, l0, nc0, cb0, lz0, bz0, nn0, tl0, tm0, tz0⟩ := QS.snd_of (hval 0 50 v0 rfl rfl) h0 (QS.all4 hsz (DataW.weights_mem_each (j := 0) rfl rfl))
  clear hA0 hval0
  refine (back4_walk k0 b0 z0 ts0 a0 t0 n0 c0 nt0 ct0 W (table hL) bz0 l0 nc0 (by omega) lz0 nn0 tl0 tm0 tz0).mono fun e W' ⟨he, bel⟩ => ?_
  subst he
  exact ⟨_, rfl, _, _, _, [], _, [], hW', trodAll_mk1 (shut_bool Tryd.underlying4 _), (trodAll_cons_mk (Below.trod laidOut (by kernel_rfl) (of_decide_eq_true (by kernel_rfl)) h0 bel lt0) trodAll_mk0), rfl, bel.frame _, fun h => by cases h⟩

theorem plain (f : FuncId) (fn : Func) (hf : Tryd.pinned.checked.prog.funcNamed "lantern/lanternlaw04.BlocksBack" = some f) (hfn : Tryd.pinned.checked.prog.funcs[f]? = some fn) :
    false = Tryd.pinned.checked.prog.looks [] ∧ ∀ (j : Nat) t, fn.params[j]? = some t → Tryd.pinned.checked.prog.wantsStandIn t = false := by
  obtain rfl : f = 4 := Option.some.inj ((show Tryd.prog.funcNamed "lantern/lanternlaw04.BlocksBack" = some 4 by kernel_rfl).symm.trans hf) |>.symm
  obtain rfl : fn = Tryd.f4 := (Option.some.inj (Tryd.func4.symm.trans hfn)).symm
  refine ⟨by kernel_rfl, fun j t ht => ?_⟩
  rw [Tryd.params4] at ht
  have hm : t = 50 := by simpa using Array.mem_of_getElem? ht
  subst hm
  exact (show Tryd.prog.wantsStandIn 50 = false by kernel_rfl)

end Go.Proofs.YteabjjbaodadkaaDoor.blocksBack

namespace Go.Proofs.YteabjjbaodadkaaDoor

theorem blocksBack_said : Rows.BlocksBackSaid :=
  OpenClaim.holds_of_cond 4 Tryd.f4 rfl rfl rfl rfl rfl rfl rfl ⟨rfl, rfl, rfl, rfl, rfl⟩ rfl rfl rfl rfl rfl (by kernel_rfl) Tryd.func4 (by kernel_rfl)
    (of_decide_eq_true (by kernel_rfl)) (by unfold Func.isWrapper; first | (rw [if_pos (by decide +kernel)]; kernel_rfl) | (rw [if_neg (by decide +kernel)]; exact ⟨rfl, rfl⟩))
    (fun os started H enc _ F => by rw [OpenClaim.pre_eq_preRow]; exact blocksBack.lifted os started H enc F)

theorem blocksBack_card : Rows.BlocksBackCardSaid :=
  Claim7.holds_tied_plain_at .later [] _ _ _ _ blocksBack_said (fun _ h => by cases h) (by kernel_rfl) (fun _ h => by cases h) blocksBack_row_tie rfl ⟨rfl, rfl⟩ (by kernel_rfl) rfl blocksBack.plain (by kernel_rfl)
#print axioms blocksBack_card

end Go.Proofs.YteabjjbaodadkaaDoor
