import Derived.Test.YtllhbhogfffedaaGreatDoorCards
import Derived.Test.YtllhbhogfffedaaGreatDoorTie
import Derived.Test.YtllhbhogfffedaaGreatDoorJkGb
import Derived.WalkKit
import Derived.ProofKit
import Derived.OpenShut
import Derived.ShutString
import Derived.Below
import Derived.JoinedCond
import Derived.Deep.DeepHandedRow
import Derived.Lib.LaidTab
import Derived.Stop.LaidErr
import Derived.LaidHandle
namespace Go.Proofs.YtllhbhogfffedaaGreatDoor.journalSafeUpto
open Go.ChangeShapes Go.WideShapes Go.ChangeAt Go.RowKit
set_option linter.unusedVariables false

theorem gD : Tryz.prog.globalNamed "lantern/disk.ErrDown" = some 0 := by kernel_rfl
theorem gF : Tryz.prog.globalNamed "lantern/disk.ErrFull" = some 1 := by kernel_rfl
theorem gN : Tryz.prog.globalNamed "lantern/disk.ErrNone" = some 2 := by kernel_rfl
theorem gDType : (Tryz.prog.globals[0]?).map (·.type) = some 43 := by kernel_rfl
theorem gFType : (Tryz.prog.globals[1]?).map (·.type) = some 43 := by kernel_rfl
theorem gNType : (Tryz.prog.globals[2]?).map (·.type) = some 43 := by kernel_rfl
theorem cellsS : Tryz.prog.cellsOf 238 = 1 := by kernel_rfl
theorem cellsStr : Tryz.prog.cellsOf 9 = 1 := by kernel_rfl
theorem star : "*" ++ "errors.errorString" = "*errors.errorString" := by decide
theorem rowE (u : TypeId) (h : Tryz.prog.typeName? 3 u = some "*errors.errorString") : u = 218 :=
  typeName_ptr_named (nm := "errors.errorString") (by rw [star]; kernel_rfl) (by kernel_rfl) (by decide) u (by rw [star]; exact h)

theorem gEt : Tryz.prog.globalNamed "errors.errorType" = some 3 := by kernel_rfl
theorem rt : (Tryz.prog.cutTypes.find? (·.1 == "internal/reflectlite.rtype")).map (·.2) = some 172 := by kernel_rfl
abbrev tySize : Nat := 348 - 100
theorem oneRow : ((List.range tySize).filter fun t => Tryz.prog.rowNamed t [101, 114, 114, 111, 114]) = [43] := by kernel_rfl
theorem tSize : Tryz.prog.types.size = tySize := by kernel_rfl
theorem gTab : Tryz.prog.globalNamed "lantern/record.kinds" = some 4 := by kernel_rfl
theorem gTabType : (Tryz.prog.globals[4]?).map (·.type) = some 209 := by kernel_rfl
theorem cellsTab : Tryz.prog.cellsOf 209 = 13 := by kernel_rfl
theorem cellsParts : Tryz.prog.cellsOf 198 = 1 := by kernel_rfl
set_option maxRecDepth 100000 in
/-- What the row's list gives: the three sentinels hold pointers, to three blocks. -/
theorem sents {W : World} (h0 : laidMetH Tryz.prog Rows.journalSafeUptoRow.laid W) : (∃ aD aF aN : Addr, K.S0 W aD aF aN) ∧ K.Et W := by
  have h : laidMet Tryz.prog [("lantern/disk.ErrFull", Rows.laid_lantern_disk_ErrFull), ("lantern/disk.ErrDown", Rows.laid_lantern_disk_ErrDown), ("lantern/disk.ErrNone", Rows.laid_lantern_disk_ErrNone), ("lantern/record.kinds", Rows.laid_lantern_record_kinds)] W := h0.1
  have hT : Lib.TabIs Tryz.prog W "lantern/record.kinds" .u16 kiT :=
    Lib.tabIs_of_head (rest := []) gTab gTabType Tryz.underlying209 Tryz.underlying198 cellsParts cellsTab h.tail.tail.tail
  obtain ⟨aF, sF, hvF, hcF, hsF, _⟩ := laid_sentinel h gF gFType Tryz.underlying43 rowE Tryz.underlying218 Tryz.underlying238 rfl rfl Tryz.underlying9 cellsS cellsStr
  obtain ⟨aD, sD, hvD, hcD, hsD, _⟩ := laid_sentinel h.tail gD gDType Tryz.underlying43 rowE Tryz.underlying218 Tryz.underlying238 rfl rfl Tryz.underlying9 cellsS cellsStr
  obtain ⟨aN, sN, hvN, hcN, hsN, _⟩ := laid_sentinel h.tail.tail gN gNType Tryz.underlying43 rowE Tryz.underlying218 Tryz.underlying238 rfl rfl Tryz.underlying9 cellsS cellsStr
  have cD : W.cell? ⟨0, 0, none⟩ = some (.iface 218 (.pointer (some aD))) := World.var?_cell gD hvD 0
  have cF : W.cell? ⟨1, 0, none⟩ = some (.iface 218 (.pointer (some aF))) := World.var?_cell gF hvF 0
  have cN : W.cell? ⟨2, 0, none⟩ = some (.iface 218 (.pointer (some aN))) := World.var?_cell gN hvN 0
  have ne : ∀ {a b : Addr} {s t : ByteArray}, W.cell? a = some (.string s) → W.cell? b = some (.string t) → s.data.toList ≠ t.data.toList → a ≠ b := fun h1 h2 h3 e => by
    subst e
    rw [h1] at h2
    cases h2
    exact h3 rfl
  have cl : (∃ (ca : Array Value) (ta : TypeId), W.heap[aD.block]? = some (.cells ca ta (0, 0))) ∧ (∃ (ca : Array Value) (ta : TypeId), W.heap[aF.block]? = some (.cells ca ta (0, 0))) ∧ (∃ (ca : Array Value) (ta : TypeId), W.heap[aN.block]? = some (.cells ca ta (0, 0))) := by
    obtain ⟨ps, ⟨g0, t0, cs0, f0, p0, q0, hg0, ht0, hv0, hd0, ⟨g1, t1, cs1, f1, p1, q1, hg1, ht1, hv1, hd1, ⟨g2, t2, cs2, f2, p2, q2, hg2, ht2, hv2, hd2, ⟨g3, t3, cs3, f3, p3, q3, hg3, ht3, hv3, hd3, hq3, e3⟩, e2⟩, e1⟩, e0⟩, hnd, hrows⟩ := h
    obtain rfl := Option.some.inj (gF.symm.trans hg0)
    obtain rfl := Option.some.inj (gD.symm.trans hg1)
    obtain rfl := Option.some.inj (gN.symm.trans hg2)
    obtain rfl := Option.some.inj (gFType.symm.trans ht0)
    obtain rfl := Option.some.inj (gDType.symm.trans ht1)
    obtain rfl := Option.some.inj (gNType.symm.trans ht2)
    subst e3
    subst e2
    subst e1
    subst e0
    have k0 := Option.some.inj (hv0.symm.trans hvF)
    have k1 := Option.some.inj (hv1.symm.trans hvD)
    have k2 := Option.some.inj (hv2.symm.trans hvN)
    subst k0 k1 k2
    have ok0 : ∀ u v, ([.iface 218 (.pointer (some aF))] : List Value) = [.iface u v] → Value.okWide Tryz.prog W .any 0 u v := fun u v e => by
      simp only [List.cons.injEq, Value.iface.injEq] at e
      obtain ⟨⟨rfl, rfl⟩, _⟩ := e
      exact (hrows 1 0 (by simp [MemPlace.row])).2 _ _ cF
    have ok1 : ∀ u v, ([.iface 218 (.pointer (some aD))] : List Value) = [.iface u v] → Value.okWide Tryz.prog W .any 0 u v := fun u v e => by
      simp only [List.cons.injEq, Value.iface.injEq] at e
      obtain ⟨⟨rfl, rfl⟩, _⟩ := e
      exact (hrows 0 0 (by simp [MemPlace.row])).2 _ _ cD
    have ok2 : ∀ u v, ([.iface 218 (.pointer (some aN))] : List Value) = [.iface u v] → Value.okWide Tryz.prog W .any 0 u v := fun u v e => by
      simp only [List.cons.injEq, Value.iface.injEq] at e
      obtain ⟨⟨rfl, rfl⟩, _⟩ := e
      exact (hrows 2 0 (by simp [MemPlace.row])).2 _ _ cN
    obtain ⟨b0, _, z0, _, _, _, rfl⟩ := errorString_of_trod Tryz.underlying43 rowE Tryz.underlying218 Tryz.underlying238 rfl rfl Tryz.underlying9 cellsS cellsStr hd0 ok0
    obtain ⟨b1, _, z1, _, _, _, rfl⟩ := errorString_of_trod Tryz.underlying43 rowE Tryz.underlying218 Tryz.underlying238 rfl rfl Tryz.underlying9 cellsS cellsStr hd1 ok1
    obtain ⟨b2, _, z2, _, _, _, rfl⟩ := errorString_of_trod Tryz.underlying43 rowE Tryz.underlying218 Tryz.underlying238 rfl rfl Tryz.underlying9 cellsS cellsStr hd2 ok2
    simp only [List.cons.injEq, Value.iface.injEq, Value.pointer.injEq, Option.some.injEq, and_true, true_and] at z0 z1 z2
    subst z0 z1 z2
    exact ⟨(hrows aD.block aD.off (by simp [MemPlace.row])).1, (hrows aF.block aF.off (by simp [MemPlace.row])).1, (hrows aN.block aN.off (by simp [MemPlace.row])).1⟩
  refine ⟨⟨aD, aF, aN, ⟨cD, cF, cN⟩, ne hcD hcF (by rw [hsD, hsF]; decide), ne hcD hcN (by rw [hsD, hsN]; decide), ne hcF hcN (by rw [hsF, hsN]; decide), cl.1, cl.2.1, cl.2.2, fun i hi => hT.cell gTab i hi⟩, ?_⟩
  obtain ⟨name, u, ty, t1, t2, t3, t4, t5⟩ := h0.2 _ (List.mem_cons_self ..)
  have en : name = [101, 114, 114, 111, 114] := (Option.some.inj t1).symm
  subst en
  obtain rfl := Option.some.inj (rt.symm.trans t2)
  have hm : ty ∈ (List.range tySize).filter fun t => Tryz.prog.rowNamed t [101, 114, 114, 111, 114] := List.mem_filter.2 ⟨List.mem_range.2 (by rw [← tSize]; exact t3), t4⟩
  rw [oneRow] at hm
  obtain rfl := List.mem_singleton.1 hm
  have hh : typeHandle Tryz.prog 43 = .pointer (some ⟨5, 43, none⟩) := by kernel_rfl
  rw [hh] at t5
  unfold K.Et
  simpa using World.var?_cell gEt t5 0

/-- A world for the witness: the sentinels hold what their initialisers lay. -/
def laidWorld (P : Program) (os : Os) : World :=
  let w0 := World.holding P os ⟨#[.cells #[.string ⟨#[116, 104, 101, 32, 100, 105, 115, 107, 32, 104, 97, 115, 32, 110, 111, 32, 114, 111, 111, 109]⟩] 238, .cells #[.string ⟨#[116, 104, 101, 32, 100, 105, 115, 107, 32, 105, 115, 32, 100, 111, 119, 110]⟩] 238, .cells #[.string ⟨#[110, 111, 32, 115, 117, 99, 104, 32, 102, 105, 108, 101]⟩] 238], #[.slice none 0 0, .agg #[.int .i64 0, .int .i64 0, .bool false], .slice none 0 0], []⟩
  let low := (World.holding P default ⟨#[], #[], []⟩).heap.size
  { w0 with heap := ((((w0.heap.modify 4 fun
      | .cells _ t frozen => .cells #[.int .u16 0, .int .u16 65, .int .u16 64, .int .u16 623, .int .u16 131, .int .u16 3, .int .u16 635, .int .u16 3, .int .u16 131, .int .u16 3, .int .u16 3, .int .u16 320, .int .u16 107] t frozen
      | o => o).modify 3 fun
      | .cells _ t frozen => .cells #[.iface 172 (.agg #[.pointer (some ⟨5, 43, none⟩)])] t frozen
      | o => o).modify 1 fun
      | .cells _ t frozen => .cells #[.iface 218 (.pointer (some ⟨low, 0, none⟩))] t frozen
      | o => o).modify 0 fun
      | .cells _ t frozen => .cells #[.iface 218 (.pointer (some ⟨low + 1, 0, none⟩))] t frozen
      | o => o).modify 2 fun
      | .cells _ t frozen => .cells #[.iface 218 (.pointer (some ⟨low + 2, 0, none⟩))] t frozen
      | o => o }
theorem laid_met (os : Os) : laidMetH Tryz.prog Rows.journalSafeUptoRow.laid ((laidWorld Tryz.prog os).forCall (fun _ _ => 0) ⟨#[], #[.slice none 0 0, .agg #[.int .i64 0, .int .i64 0, .bool false], .slice none 0 0], []⟩).memory :=
  laidMetH_of_parts (laidMet_of_run' 8 (by kernel_rfl) (by kernel_rfl)) (by kernel_rfl)
theorem reads (os : Os) {H : Type} (enc : TypeId × Value → H) : ∃ places, DataW.whole enc Tryz.prog ((laidWorld Tryz.prog os).forCall (fun _ _ => 0) ⟨#[], #[.slice none 0 0, .agg #[.int .i64 0, .int .i64 0, .bool false], .slice none 0 0], []⟩).memory Tryz.f4.params.toList Rows.journalSafeSpec.vars false (#[.slice none 0 0, .agg #[.int .i64 0, .int .i64 0, .bool false], .slice none 0 0] : Array Value).toList 8 = some ([.nil, .agg [.lit (.int .i64 0), .lit (.int .i64 0), .lit (.bool false)], .nil], [], places) :=
  ⟨[], by kernel_rfl⟩

set_option maxRecDepth 100000 in
theorem lifted (os : Os) (started : os.Started) (H : Type) (enc : TypeId × Value → H) (F : Stop.Interp) :
    ReturnsInHanded {} Tryz.checked os 4 .any ((Rows.OpenSpec.upto Rows.journalSafeSpec).preRow enc Tryz.prog Tryz.f4 Rows.journalSafeUptoRow.domain false Rows.journalSafeUptoRow.laid) (((Rows.OpenSpec.upto Rows.journalSafeSpec).at F).post enc Tryz.prog Tryz.f4 false true false false) := by
  obtain ⟨places, hx⟩ := reads os enc
  refine returnsInHanded_of_row (C := Tryz.checked) (s := Rows.OpenSpec.upto Rows.journalSafeSpec) own started (by kernel_rfl) Tryz.func4
    (witness_row_at (enc := enc) (C := Tryz.checked) false (laidWorld Tryz.prog os) #[.slice none 0 0, .agg #[.int .i64 0, .int .i64 0, .bool false], .slice none 0 0] rfl (by kernel_rfl) (by kernel_rfl) (by kernel_rfl)
      (OpenSpec.preRow_of_cond 8 hx (by kernel_rfl) (fun k hk => by cases hk; kernel_rfl) (by kernel_rfl) (laid_met os))) ?_
  intro W base args ds gs before hval0 hW _ hk0 hsz0 hL _ _
  have hsz : (DataW.weightsEach Tryz.prog (Tryz.f4.params.toList ++ (Rows.OpenSpec.upto Rows.journalSafeSpec).bare.plain.varTypes Tryz.prog) (ds ++ gs)).all (· ≤ reachBytes) = true := hsz0
  have hval : ∀ (j : Nat) t v, Tryz.f4.params[j]? = some t → args[j]? = some v → Value.okWide Tryz.prog W .any base t v := hval0
  have hW' := hW
  obtain ⟨p, q, hA0, hV, rfl, hfz, hnd⟩ := hW
  have hA : DataW.TrodAll enc Tryz.prog W 0 (fun _ => true) true Tryz.f4.params.toList args.toList ds p := hA0
  rw [Tryz.params4] at hA hval hsz
  obtain ⟨v0, vs0, d0, ds0, p0, q0, hargs, rfl, rfl, h0, r0⟩ := trodAll_cons hA
  obtain ⟨v1, vs1, d1, ds1, p1, q1, rfl, rfl, rfl, h1, r1⟩ := trodAll_cons r0
  obtain ⟨v2, vs2, d2, ds2, p2, q2, rfl, rfl, rfl, h2, r2⟩ := trodAll_cons r1
  obtain ⟨rfl, rfl, rfl⟩ := trodAll_nil r2
  obtain rfl : args = #[v0, v1, v2] := by cases args; simp_all
  obtain ⟨rfl, rfl⟩ := trodVars_none hV
  have hk : Rows.uptoBulkAll [d0, d1, d2] ≤ 1048576 := by have h := of_decide_eq_true (hk0 _ rfl); simpa only [List.append_nil] using h
  simp only [Rows.uptoBulkAll] at hk
  have lt0 : ∀ x ∈ p0, x.block < W.heap.size := by obtain ⟨m, hm⟩ := h0; exact DataW.trod_lt m _ _ _ hm
  have lt1 : ∀ x ∈ p1, x.block < W.heap.size := by obtain ⟨m, hm⟩ := h1; exact DataW.trod_lt m _ _ _ hm
  have lt2 : ∀ x ∈ p2, x.block < W.heap.size := by obtain ⟨m, hm⟩ := h2; exact DataW.trod_lt m _ _ _ hm
  obtain ⟨a0, bs, n0, c0, rfl, e0, b0, k0, s0⟩ := K.given_bats (hval 0 39 v0 rfl rfl) h0 (all_of_mem hsz (DataW.weights_mem_each (j := 0) rfl rfl))
  obtain ⟨act, keep, done, rfl, ha⟩ := K.given_fate (hval 1 41 v1 rfl rfl) h1
  obtain ⟨a2, l2, n2, c2, rfl, el2, en2, ec2, ri2, rb2, nn2, bk2⟩ := given_recs (hval 2 34 v2 rfl rfl) h2 (all_of_mem hsz (DataW.weights_mem_each (j := 2) rfl rfl))
  clear hA0 hval0
  obtain ⟨⟨aD, aF, aN, hS⟩, hE⟩ := sents hL
  have h5 : 5 ≤ W.heap.size := by have := tab6_pos hS.tb; omega
  refine (K.safe_walk a0 a2 n0 c0 n2 c2 bs l2 act keep done W aD aF aN hS hE h5 b0 e0 (by omega) (by omega) ri2 el2 (by omega) rb2 nn2 ha).mono fun e W' ⟨he, bel⟩ => ?_
  subst he
  exact ⟨_, rfl, _, _, _, [], _, [], hW', trodAll_mk1 (shut_bool Tryz.underlying4 _), (trodAll_cons_mk (Below.trod laidOut (by kernel_rfl) (of_decide_eq_true (by kernel_rfl)) h0 bel lt0) (trodAll_cons_mk (Below.trod laidOut (by kernel_rfl) (of_decide_eq_true (by kernel_rfl)) h1 bel lt1) (trodAll_cons_mk (Below.trod laidOut (by kernel_rfl) (of_decide_eq_true (by kernel_rfl)) h2 bel lt2) trodAll_mk0))), rfl, bel.frame _, fun h => by cases h⟩

theorem plain (f : FuncId) (fn : Func) (hf : Tryz.pinned.checked.prog.funcNamed "lantern/lanternlaw07.JournalSafe" = some f) (hfn : Tryz.pinned.checked.prog.funcs[f]? = some fn) :
    true = Tryz.pinned.checked.prog.looks [] ∧ ∀ (j : Nat) t, fn.params[j]? = some t → Tryz.pinned.checked.prog.wantsStandIn t = false := by
  obtain rfl : f = 4 := Option.some.inj ((show Tryz.prog.funcNamed "lantern/lanternlaw07.JournalSafe" = some 4 by kernel_rfl).symm.trans hf) |>.symm
  obtain rfl : fn = Tryz.f4 := (Option.some.inj (Tryz.func4.symm.trans hfn)).symm
  refine ⟨by kernel_rfl, fun j t ht => ?_⟩
  rw [Tryz.params4] at ht
  have hm : t = 39 ∨ t = 41 ∨ t = 34 := by simpa using Array.mem_of_getElem? ht
  rcases hm with rfl | rfl | rfl
  · exact (show Tryz.prog.wantsStandIn 39 = false by kernel_rfl)
  · exact (show Tryz.prog.wantsStandIn 41 = false by kernel_rfl)
  · exact (show Tryz.prog.wantsStandIn 34 = false by kernel_rfl)

end Go.Proofs.YtllhbhogfffedaaGreatDoor.journalSafeUpto

namespace Go.Proofs.YtllhbhogfffedaaGreatDoor

theorem journalSafe_said : Rows.JournalSafeUptoSaid :=
  OpenClaim.holds_of_cond 4 Tryz.f4 rfl rfl rfl rfl rfl rfl rfl ⟨rfl, rfl, rfl, rfl, rfl⟩ rfl rfl rfl rfl rfl (by kernel_rfl) Tryz.func4 (by kernel_rfl)
    (of_decide_eq_true (by kernel_rfl)) (by unfold Func.isWrapper; first | (rw [if_pos (by decide +kernel)]; kernel_rfl) | (rw [if_neg (by decide +kernel)]; exact ⟨rfl, rfl⟩))
    (fun os started H enc _ F => by rw [OpenClaim.pre_eq_preRow]; exact journalSafeUpto.lifted os started H enc F)

theorem journalSafe_upto : Rows.JournalSafeUptoCardSaid :=
  Claim7.holds_tied_plain_at .later [] _ _ _ _ journalSafe_said (fun _ h => by cases h) (by kernel_rfl) (fun _ h => by cases h) journalSafeUpto_row_tie rfl ⟨rfl, rfl⟩ (by kernel_rfl) rfl journalSafeUpto.plain (by kernel_rfl)
#print axioms journalSafe_upto

end Go.Proofs.YtllhbhogfffedaaGreatDoor
