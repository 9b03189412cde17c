import Derived.Test.YtgmbpagbiakciadDoorRows
import Derived.Test.YtgmbpagbiakciadDoorRead
import Derived.ProofKit
import Derived.OpenShut
import Derived.ShutString
import Derived.ChangeOld
import Derived.SizedLaws
import Derived.Test.YtgmbpagbiakciadDoorGivenAsk
import Derived.Test.YtgmbpagbiakciadDoorBkMk
import Derived.Test.YtgmbpagbiakciadDoorCards
import Derived.Test.YtgmbpagbiakciadDoorTie
import Derived.Test.YtgmbpagbiakciadDoorBkMks
import Derived.WalkKit
import Derived.Below
import Derived.JoinedCond
import Derived.Deep.DeepHandedRow
import Derived.Lib.LaidTab
namespace Go.Proofs.YtgmbpagbiakciadDoor
open Go.ChangeShapes Go.WideShapes Go.ChangeAt Go.RowKit

theorem own : ownKnob Tryd.prog.godebug = none := by kernel_rfl
theorem laidOut : laidOutB Tryd.prog = true := by kernel_rfl

theorem lies_of {k : IntKind} {W : World} {x : Addr} {zs : List Int} {len : Nat} (hl : len ≤ zs.length) (hcell : ∀ i, i < zs.length → W.cell? (x.add i) = some (.int k (zs.getD i 0))) : Lies k W (some x) (zs.take len) := by
  by_cases h0 : len = 0
  · subst h0; exact .inl rfl
  · obtain ⟨b, off, spot⟩ := x
    have hc := hcell 0 (by omega)
    have hspot : spot = none := by simpa [Addr.add] using World.cell?_spot hc
    subst hspot
    refine .inr ⟨b, off, rfl, fun i hi => ?_⟩
    have hi' : i < len ∧ i < zs.length := by simp at hi; omega
    have := hcell i hi'.2
    rw [show (⟨b, off, none⟩ : Addr).add i = ⟨b, off + i, none⟩ from by unfold Addr.add; split <;> simp_all] at this
    rw [this]
    simp [List.getD_eq_getElem?_getD, hi'.1]

/-- A list of numbers that came in. -/
theorem given_ints {H : Type} {enc : TypeId × Value → H} {W : World} {k : IntKind} {t e : TypeId} {a : Option Addr} {len cap : Nat} {d : DataW H} {p : List MemPlace}
    (ht : Tryd.prog.underlying t = some (.slice e)) (he : Tryd.prog.underlying e = some (.int k)) (hc : Tryd.prog.cellsOf e = 1) (h : DataW.Trod enc Tryd.prog W 0 (fun _ => true) true t (.slice a len cap) d p) :
    ∃ zs : List Int, zs.length = len ∧ Lies k W a zs ∧ (∀ n ∈ zs, (Lit.int k n).wf = true) ∧ ((d = .nil ∧ len = 0 ∧ cap = 0) ∨ ∃ sp, d = .slice (lits k zs) sp ∧ len + sp.length = cap) ∧ (a = none → len = 0 ∧ cap = 0) := by
  obtain ⟨fuel, hf⟩ := h
  rcases open_ints ht he hc hf with ⟨hcs, hx⟩ | ⟨x, l, c, zs, hcs, _, hl, hm, hz, hx, hcell, hwz⟩
  · simp [Value.cells] at hcs
    obtain ⟨rfl, rfl, rfl⟩ := hcs
    simp only [Prod.mk.injEq] at hx
    exact ⟨[], rfl, .inl rfl, (fun _ h => by cases h), .inl ⟨hx.1, rfl, rfl⟩, fun _ => ⟨rfl, rfl⟩⟩
  · simp [Value.cells] at hcs
    obtain ⟨rfl, rfl, rfl⟩ := hcs
    simp only [Prod.mk.injEq] at hx
    simp only [if_true] at hz
    exact ⟨zs.take len, by simp; omega, lies_of (by omega) hcell, fun n hn => hwz n (List.mem_of_mem_take hn), .inr ⟨_, hx.1, by simp [lits]; omega⟩, fun h => by cases h⟩

theorem bytey_of {zs : List Int} (h : ∀ n ∈ zs, (Lit.int .u8 n).wf = true) : Bytey zs := fun z hz => by
  have := bounds_u8 (h z hz); omega

theorem nums_of {l : List Int} (h : ∀ n ∈ l, (Lit.int .u64 n).wf = true) : ∀ n ∈ l, 0 ≤ n ∧ n ≤ 18446744073709551615 := fun n hn => bounds_u64 (h n hn)

theorem bytes_u8 : Tryd.prog.bytesOf 5 = 1 := by kernel_rfl

theorem reach_bytes {H : Type} {ts : List TypeId} {ds : List (DataW H)} (hsz : (DataW.weightsEach Tryd.prog ts ds).all (· ≤ reachBytes) = true) {j : Nat} {d : DataW H} {zs : List Int} {len cap : Nat} (ht : ts[j]? = some 47) (hd : ds[j]? = some d) (hl : zs.length = len) (h : (d = .nil ∧ len = 0 ∧ cap = 0) ∨ ∃ sp, d = .slice (lits .u8 zs) sp ∧ len + sp.length = cap) : len ≤ cap ∧ cap ≤ 140737488351232 := by
  rcases h with ⟨_, h, h'⟩ | ⟨sp, h, hc⟩
  · omega
  · subst h
    have := sized_slice hsz ht hd Tryd.underlying47
    rw [bytes_u8] at this
    simp only [lits, List.length_map, reachBytes] at this
    omega

theorem bulk_one {H : Type} (d : DataW H) : 1 ≤ Rows.uptoBulk d := by
  cases d with
  | lit l => cases l <;> simp [Rows.uptoBulk]
  | _ => simp [Rows.uptoBulk]

theorem bulk_length {H : Type} : ∀ l : List (DataW H), l.length ≤ Rows.uptoBulkAll l
  | [] => by simp [Rows.uptoBulkAll]
  | x :: r => by have := bulk_one x; have := bulk_length r; simp only [Rows.uptoBulkAll, List.length_cons]; omega

theorem bulk_ints {H : Type} {k : IntKind} {d : DataW H} {zs : List Int} {len cap : Nat} (hl : zs.length = len) (h : (d = .nil ∧ len = 0 ∧ cap = 0) ∨ ∃ sp, d = .slice (lits k zs) sp ∧ len + sp.length = cap) : len ≤ cap ∧ cap ≤ Rows.uptoBulk d := by
  rcases h with ⟨_, h, h'⟩ | ⟨sp, h, hc⟩
  · omega
  · subst h
    have := bulk_length (lits (H := H) k zs)
    have := bulk_length sp
    simp only [Rows.uptoBulk]
    simp only [lits, List.length_map] at *
    omega

end Go.Proofs.YtgmbpagbiakciadDoor

namespace Go.Proofs.YtgmbpagbiakciadDoor.Q
open Go.ChangeShapes Go.WideShapes Go.ChangeAt Go.RowKit
set_option linter.unusedVariables false

theorem cells_pc : Tryd.prog.cellsOf 46 = 5 := by kernel_rfl
theorem cells_made : Tryd.prog.cellsOf 49 = 13 := by kernel_rfl
theorem cells_byt : Tryd.prog.cellsOf 47 = 1 := by kernel_rfl
variable {H : Type} {enc : TypeId × Value → H} {W : World}

set_option maxRecDepth 100000 in
theorem piece_of {fuel : Nat} {c0 c1 c2 c3 c4 : Value} {x : DataW H × List MemPlace} (hf : DataW.trod enc Tryd.prog W 0 (fun _ => true) true fuel 46 [c0, c1, c2, c3, c4] = some x) :
    ∃ n0 n1 n2 n3 n4 : Int, c0 = .int .i64 n0 ∧ c1 = .int .i64 n1 ∧ c2 = .int .i64 n2 ∧ c3 = .int .i64 n3 ∧ c4 = .int .i64 n4 := by
  obtain ⟨xs, n, _, hx, _, hlen, hfd⟩ := DataW.trod_struct Tryd.underlying46 hf
  have hl : xs.length = 5 := by simpa using hlen
  have q0 : DataW.trod enc Tryd.prog W 0 (fun _ => true) true n 3 (([c0, c1, c2, c3, c4].drop 0).take (Tryd.prog.cellsOf 3)) = xs[0]? := hfd 0 _ rfl
  have q1 : DataW.trod enc Tryd.prog W 0 (fun _ => true) true n 3 (([c0, c1, c2, c3, c4].drop 1).take (Tryd.prog.cellsOf 3)) = xs[1]? := hfd 1 _ rfl
  have q2 : DataW.trod enc Tryd.prog W 0 (fun _ => true) true n 3 (([c0, c1, c2, c3, c4].drop 2).take (Tryd.prog.cellsOf 3)) = xs[2]? := hfd 2 _ rfl
  have q3 : DataW.trod enc Tryd.prog W 0 (fun _ => true) true n 3 (([c0, c1, c2, c3, c4].drop 3).take (Tryd.prog.cellsOf 3)) = xs[3]? := hfd 3 _ rfl
  have q4 : DataW.trod enc Tryd.prog W 0 (fun _ => true) true n 3 (([c0, c1, c2, c3, c4].drop 4).take (Tryd.prog.cellsOf 3)) = xs[4]? := hfd 4 _ rfl
  rw [cells_int] at q0 q1 q2 q3 q4
  obtain ⟨y0, e0⟩ := get_of hl (by omega) q0
  obtain ⟨y1, e1⟩ := get_of hl (by omega) q1
  obtain ⟨y2, e2⟩ := get_of hl (by omega) q2
  obtain ⟨y3, e3⟩ := get_of hl (by omega) q3
  obtain ⟨y4, e4⟩ := get_of hl (by omega) q4
  obtain ⟨n0, r0, _⟩ := DataW.trod_int Tryd.underlying3 e0
  obtain ⟨n1, r1, _⟩ := DataW.trod_int Tryd.underlying3 e1
  obtain ⟨n2, r2, _⟩ := DataW.trod_int Tryd.underlying3 e2
  obtain ⟨n3, r3, _⟩ := DataW.trod_int Tryd.underlying3 e3
  obtain ⟨n4, r4, _⟩ := DataW.trod_int Tryd.underlying3 e4
  simp at r0 r1 r2 r3 r4
  exact ⟨n0, n1, n2, n3, n4, r0, r1, r2, r3, r4⟩
theorem all4 {ys xs : List Nat} (h : xs.all (· ≤ reachBytes) = true) (hm : ∀ n ∈ ys, n ∈ xs) : ys.all (· ≤ reachBytes) = true := by
  rw [List.all_eq_true] at h ⊢
  exact fun n hn => h n (hm n hn)

set_option maxRecDepth 100000 in
/-- What Make was asked, as it came in. -/
theorem made_of {v : Value} {d : DataW H} {p : List MemPlace} {base : Nat} (hok : Value.okWide Tryd.prog W .any base 49 v) (h : DataW.Trod enc Tryd.prog W 0 (fun _ => true) true 49 v d p) (hw : (d.weights Tryd.prog 49).all (· ≤ reachBytes) = true) :
    ∃ (k : Pk) (x : Pc) (a : Option Addr) (zs : List Int) (n c : Nat), v = .agg #[.int .i64 k.org, .int .i64 k.num, .int .i64 k.srv, .int .i64 k.size, .int .i64 k.red, .int .i64 k.mtu, .int .i64 k.every, .int .i64 x.typ, .int .i64 x.frm, .int .i64 x.to, .int .i64 x.chk, .int .i64 x.rep, .slice a n c] ∧ zs.length = n ∧ n ≤ c ∧ c ≤ 140737488351232 ∧ Lies .u8 W a zs ∧ Bytey zs ∧ (a = none → n = 0 ∧ c = 0) := by
  obtain ⟨cs, rfl, hsz⟩ := okWide_struct Tryd.underlying49 hok
  rw [cells_made] at hsz
  obtain ⟨fuel, hf⟩ := h
  obtain ⟨l⟩ := cs
  have hf' : DataW.trod enc Tryd.prog W 0 (fun _ => true) true fuel 49 l = some (d, p) := hf
  clear hf hok
  match l, hsz with
  | [c0, c1, c2, c3, c4, c5, c6, c7, c8, c9, c10, c11, c12], _ =>
    obtain ⟨xs, n, _, hx, _, hlen, hfd⟩ := DataW.trod_struct Tryd.underlying49 hf'
    have hl : xs.length = 4 := by simpa using hlen
    have q0 : DataW.trod enc Tryd.prog W 0 (fun _ => true) true n 26 (([c0, c1, c2, c3, c4, c5, c6, c7, c8, c9, c10, c11, c12].drop 0).take (Tryd.prog.cellsOf 26)) = xs[0]? := hfd 0 _ rfl
    have q1 : DataW.trod enc Tryd.prog W 0 (fun _ => true) true n 28 (([c0, c1, c2, c3, c4, c5, c6, c7, c8, c9, c10, c11, c12].drop 2).take (Tryd.prog.cellsOf 28)) = xs[1]? := hfd 1 _ rfl
    have q2 : DataW.trod enc Tryd.prog W 0 (fun _ => true) true n 46 (([c0, c1, c2, c3, c4, c5, c6, c7, c8, c9, c10, c11, c12].drop 7).take (Tryd.prog.cellsOf 46)) = xs[2]? := hfd 2 _ rfl
    have q3 : DataW.trod enc Tryd.prog W 0 (fun _ => true) true n 47 (([c0, c1, c2, c3, c4, c5, c6, c7, c8, c9, c10, c11, c12].drop 12).take (Tryd.prog.cellsOf 47)) = xs[3]? := hfd 3 _ rfl
    rw [cells_ses] at q0
    rw [cells_pcl] at q1
    rw [cells_pc] at q2
    rw [cells_byt] at q3
    have hd : d = .agg (xs.map (·.1)) := congrArg Prod.fst hx
    obtain ⟨y0, e0⟩ := get_of hl (by omega) q0
    obtain ⟨y1, e1⟩ := get_of hl (by omega) q1
    obtain ⟨y2, e2⟩ := get_of hl (by omega) q2
    have hx3 : xs[3]? = some (xs[3]'(by omega)) := List.getElem?_eq_getElem _
    obtain ⟨y3, hy3⟩ : ∃ y, xs[3]? = some y := ⟨_, hx3⟩
    have e3 : DataW.trod enc Tryd.prog W 0 (fun _ => true) true n 47 [c12] = some y3 := q3.trans hy3
    have hwe : (DataW.weightsEach Tryd.prog [26, 28, 46, 47] (xs.map (·.1))).all (· ≤ reachBytes) = true := by
      rw [hd] at hw
      simp only [DataW.weights, Tryd.underlying49] at hw
      exact hw
    have hw3 : (y3.1.weights Tryd.prog 47).all (· ≤ reachBytes) = true := all4 hwe (DataW.weights_mem_each (j := 3) rfl (by rw [List.getElem?_map, hy3]; rfl))
    obtain ⟨n2, n3, n4, n5, n6, rfl, rfl, rfl, rfl, rfl⟩ := parcel_of e1
    obtain ⟨n7, n8, n9, n10, n11, rfl, rfl, rfl, rfl, rfl⟩ := piece_of e2
    have e0' : DataW.trod enc Tryd.prog W 0 (fun _ => true) true n 26 [c0, c1] = some y0 := e0
    obtain ⟨z0, z1, k, _, _, s0, s1⟩ := trod_struct2 Tryd.underlying26 e0'
    simp only [cells_int] at s0 s1
    obtain ⟨n0, r0, _⟩ := DataW.trod_int Tryd.underlying3 s0
    obtain ⟨n1, r1, _⟩ := DataW.trod_int Tryd.underlying3 s1
    simp at r0 r1
    subst r0 r1
    have hv : ∃ a len cap, c12 = .slice a len cap := by
      rcases open_ints Tryd.underlying47 Tryd.underlying5 (by kernel_rfl) e3 with ⟨hcs, _⟩ | ⟨x, l, c, zs, hcs, _⟩
      · simp at hcs; exact ⟨_, _, _, hcs⟩
      · simp at hcs; exact ⟨_, _, _, hcs⟩
    obtain ⟨a, len, cap, rfl⟩ := hv
    obtain ⟨zs, l, c, b, e, nn⟩ := given_ints Tryd.underlying47 Tryd.underlying5 (by kernel_rfl) (d := y3.1) (p := y3.2) ⟨n, e3⟩
    have m := reach_bytes (ts := [47]) (ds := [y3.1]) (j := 0) (by simpa [DataW.weightsEach] using hw3) rfl rfl l e
    exact ⟨⟨n0, n1, n2, n3, n4, n5, n6⟩, ⟨n7, n8, n9, n10, n11⟩, a, zs, len, cap, rfl, l, m.1, m.2, c, bytey_of b, nn⟩
end Go.Proofs.YtgmbpagbiakciadDoor.Q

namespace Go.Proofs.YtgmbpagbiakciadDoor.blocksMakes
open Go.ChangeShapes Go.WideShapes Go.ChangeAt Go.RowKit
set_option linter.unusedVariables false

theorem own : ownKnob Tryd.prog.godebug = none := by kernel_rfl
theorem gTab : Tryd.prog.globalNamed "lantern/segment.shapes" = some 0 := by kernel_rfl
theorem gTabType : (Tryd.prog.globals[0]?).map (·.type) = some 144 := by kernel_rfl
theorem cellsTab : Tryd.prog.cellsOf 144 = 16 := by kernel_rfl
theorem cellsParts : Tryd.prog.cellsOf 129 = 1 := by kernel_rfl

/-- What the row's list gives: the table's cells hold its numbers. -/
theorem table {W : World} (h : laidMetH Tryd.prog Rows.blocksMakesRow.laid W) : Tab W := by
  have h1 : Lib.TabIs Tryd.prog W "lantern/segment.shapes" .u8 tabl :=
    Lib.tabIs_of_head (rest := []) gTab gTabType Tryd.underlying144 Tryd.underlying129 cellsParts cellsTab h
  exact fun i hi => h1.cell gTab i hi

/-- A world for the witness: the table holds what its initialiser lays. -/
def laidWorld (P : Program) (os : Os) : World :=
  { World.holding P os ⟨#[], #[], []⟩ with heap := (World.holding P os ⟨#[], #[], []⟩).heap.modify 0 fun
      | .cells _ t frozen => .cells #[.int .u8 3, .int .u8 7, .int .u8 7, .int .u8 7, .int .u8 3, .int .u8 0, .int .u8 0, .int .u8 3, .int .u8 9, .int .u8 17, .int .u8 0, .int .u8 0, .int .u8 33, .int .u8 1, .int .u8 33, .int .u8 1] t frozen
      | o => o }
theorem laid_met (os : Os) : laidMet Tryd.prog Rows.blocksMakesRow.laid ((laidWorld Tryd.prog os).forCall (fun _ _ => 0) ⟨#[], #[.agg #[.int .i64 0, .int .i64 0, .int .i64 0, .int .i64 0, .int .i64 0, .int .i64 0, .int .i64 0, .int .i64 0, .int .i64 0, .int .i64 0, .int .i64 0, .int .i64 0, .slice none 0 0]], []⟩).memory :=
  laidMet_of_run' 8 (by kernel_rfl) (by kernel_rfl)
theorem reads (os : Os) {H : Type} (enc : TypeId × Value → H) : ∃ places, DataW.whole enc Tryd.prog ((laidWorld Tryd.prog os).forCall (fun _ _ => 0) ⟨#[], #[.agg #[.int .i64 0, .int .i64 0, .int .i64 0, .int .i64 0, .int .i64 0, .int .i64 0, .int .i64 0, .int .i64 0, .int .i64 0, .int .i64 0, .int .i64 0, .int .i64 0, .slice none 0 0]], []⟩).memory Tryd.f6.params.toList Rows.blocksMakesSpec.vars false (#[.agg #[.int .i64 0, .int .i64 0, .int .i64 0, .int .i64 0, .int .i64 0, .int .i64 0, .int .i64 0, .int .i64 0, .int .i64 0, .int .i64 0, .int .i64 0, .int .i64 0, .slice none 0 0]] : Array Value).toList 8 = some ([.agg [.agg [.lit (.int .i64 0), .lit (.int .i64 0)], .agg [.lit (.int .i64 0), .lit (.int .i64 0), .lit (.int .i64 0), .lit (.int .i64 0), .lit (.int .i64 0)], .agg [.lit (.int .i64 0), .lit (.int .i64 0), .lit (.int .i64 0), .lit (.int .i64 0), .lit (.int .i64 0)], .nil]], [], places) :=
  ⟨[], by kernel_rfl⟩
theorem laidOut : laidOutB Tryd.prog = true := by kernel_rfl

set_option maxRecDepth 100000 in
theorem lifted (os : Os) (started : os.Started) (H : Type) (enc : TypeId × Value → H) (F : Stop.Interp) :
    ReturnsInHanded {} Tryd.checked os 6 .any ((OpenSpec.ofChange Rows.blocksMakesSpec).preRow enc Tryd.prog Tryd.f6 Rows.blocksMakesRow.domain false Rows.blocksMakesRow.laid) (((OpenSpec.ofChange Rows.blocksMakesSpec).at F).post enc Tryd.prog Tryd.f6 false true false false) := by
  obtain ⟨places, hx⟩ := reads os enc
  refine returnsInHanded_of_row (C := Tryd.checked) (s := OpenSpec.ofChange Rows.blocksMakesSpec) own started (by kernel_rfl) Tryd.func6
    (witness_row_at (enc := enc) (C := Tryd.checked) false (laidWorld Tryd.prog os) #[.agg #[.int .i64 0, .int .i64 0, .int .i64 0, .int .i64 0, .int .i64 0, .int .i64 0, .int .i64 0, .int .i64 0, .int .i64 0, .int .i64 0, .int .i64 0, .int .i64 0, .slice none 0 0]] rfl (by kernel_rfl) (by kernel_rfl) (by kernel_rfl)
      (OpenSpec.preRow_of_cond 8 hx (by kernel_rfl) (fun k hk => by cases hk) (by kernel_rfl) (laid_met os))) ?_
  intro W base args ds gs before hval0 hW _ hk0 hsz0 hL _ _
  have hsz : (DataW.weightsEach Tryd.prog (Tryd.f6.params.toList ++ (OpenSpec.ofChange Rows.blocksMakesSpec).bare.plain.varTypes Tryd.prog) (ds ++ gs)).all (· ≤ reachBytes) = true := hsz0
  have hval : ∀ (j : Nat) t v, Tryd.f6.params[j]? = some t → args[j]? = some v → Value.okWide Tryd.prog W .any base t v := hval0
  have hW' := hW
  obtain ⟨p, q, hA0, hV, rfl, hfz, hnd⟩ := hW
  have hA : DataW.TrodAll enc Tryd.prog W 0 (fun _ => true) true Tryd.f6.params.toList args.toList ds p := hA0
  rw [Tryd.params6] at hA hval hsz
  obtain ⟨v0, vs0, d0, ds0, p0, q0, hargs, rfl, rfl, h0, r0⟩ := trodAll_cons hA
  obtain ⟨rfl, rfl, rfl⟩ := trodAll_nil r0
  obtain rfl : args = #[v0] := by cases args; simp_all
  obtain ⟨rfl, rfl⟩ := trodVars_none hV
  have lt0 : ∀ x ∈ p0, x.block < W.heap.size := by obtain ⟨m, hm⟩ := h0; exact DataW.trod_lt m _ _ _ hm
  obtain ⟨k0, x0, a0, z0, n0, c0, rfl, l0, nc0, cb0, lz0, bz0, nn0⟩ := Q.made_of (hval 0 49 v0 rfl rfl) h0 (Q.all4 hsz (DataW.weights_mem_each (j := 0) rfl rfl))
  clear hA0 hval0
  refine (makes_walk k0 x0 a0 z0 n0 c0 W (table hL) bz0 l0 nc0 cb0 lz0 nn0).mono fun e W' ⟨he, bel⟩ => ?_
  subst he
  exact ⟨_, rfl, _, _, _, [], _, [], hW', trodAll_mk1 (shut_bool Tryd.underlying4 _), (trodAll_cons_mk (Below.trod laidOut (by kernel_rfl) (of_decide_eq_true (by kernel_rfl)) h0 bel lt0) trodAll_mk0), rfl, bel.frame _, fun h => by cases h⟩

theorem plain (f : FuncId) (fn : Func) (hf : Tryd.pinned.checked.prog.funcNamed "lantern/lanternlaw04.BlocksMakes" = some f) (hfn : Tryd.pinned.checked.prog.funcs[f]? = some fn) :
    false = Tryd.pinned.checked.prog.looks [] ∧ ∀ (j : Nat) t, fn.params[j]? = some t → Tryd.pinned.checked.prog.wantsStandIn t = false := by
  obtain rfl : f = 6 := Option.some.inj ((show Tryd.prog.funcNamed "lantern/lanternlaw04.BlocksMakes" = some 6 by kernel_rfl).symm.trans hf) |>.symm
  obtain rfl : fn = Tryd.f6 := (Option.some.inj (Tryd.func6.symm.trans hfn)).symm
  refine ⟨by kernel_rfl, fun j t ht => ?_⟩
  rw [Tryd.params6] at ht
  have hm : t = 49 := by simpa using Array.mem_of_getElem? ht
  subst hm
  exact (show Tryd.prog.wantsStandIn 49 = false by kernel_rfl)

end Go.Proofs.YtgmbpagbiakciadDoor.blocksMakes

namespace Go.Proofs.YtgmbpagbiakciadDoor

theorem blocksMakes_said : Rows.BlocksMakesSaid :=
  OpenClaim.holds_of_cond 6 Tryd.f6 rfl rfl rfl rfl rfl rfl rfl ⟨rfl, rfl, rfl, rfl, rfl⟩ rfl rfl rfl rfl rfl (by kernel_rfl) Tryd.func6 (by kernel_rfl)
    (of_decide_eq_true (by kernel_rfl)) (by unfold Func.isWrapper; first | (rw [if_pos (by decide +kernel)]; kernel_rfl) | (rw [if_neg (by decide +kernel)]; exact ⟨rfl, rfl⟩))
    (fun os started H enc _ F => by rw [OpenClaim.pre_eq_preRow]; exact blocksMakes.lifted os started H enc F)

theorem blocksMakes_card : Rows.BlocksMakesCardSaid :=
  Claim7.holds_tied_plain_at .later [] _ _ _ _ blocksMakes_said (fun _ h => by cases h) (by kernel_rfl) (fun _ h => by cases h) blocksMakes_row_tie rfl ⟨rfl, rfl⟩ (by kernel_rfl) rfl blocksMakes.plain (by kernel_rfl)
#print axioms blocksMakes_card

end Go.Proofs.YtgmbpagbiakciadDoor
