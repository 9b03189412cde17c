import Derived.Test.YtillgoegiplmkaaGreatDoorCards
import Derived.Test.YtillgoegiplmkaaGreatDoorTie
import Derived.Test.YtillgoegiplmkaaGreatDoorTbHa
import Derived.Test.YtillgoegiplmkaaGreatDoorGiven
import Derived.Test.YtillgoegiplmkaaGreatDoorGivenRec
import Derived.WalkKit
import Derived.ProofKit
import Derived.OpenShut
import Derived.ShutString
import Derived.Below
import Derived.JoinedCond
import Derived.Deep.DeepHandedRow
import Derived.Lib.LaidTab
namespace Go.Proofs.YtillgoegiplmkaaGreatDoor.tableOnceUpto
open Go.ChangeShapes Go.WideShapes Go.ChangeAt Go.RowKit
set_option linter.unusedVariables false

theorem gTab : Tryz.prog.globalNamed "lantern/record.kinds" = some 0 := by kernel_rfl
theorem gTabType : (Tryz.prog.globals[0]?).map (·.type) = some 178 := by kernel_rfl
theorem cellsTab : Tryz.prog.cellsOf 178 = 13 := by kernel_rfl
theorem cellsParts : Tryz.prog.cellsOf 153 = 1 := by kernel_rfl

/-- What the row's list gives: the table's cells hold its numbers. -/
theorem table {W : World} (h : laidMetH Tryz.prog Rows.tableOnceUptoRow.laid W) : Tab6 W := by
  have h1 : Lib.TabIs Tryz.prog W "lantern/record.kinds" .u16 kiT :=
    Lib.tabIs_of_head (rest := []) gTab gTabType Tryz.underlying178 Tryz.underlying153 cellsParts cellsTab h
  exact fun i hi => h1.cell gTab i hi

/-- A world for the witness: the table holds what its initialiser lays. -/
def laidWorld (P : Program) (os : Os) : World :=
  { World.holding P os ⟨#[], #[], []⟩ with heap := (World.holding P os ⟨#[], #[], []⟩).heap.modify 0 fun
      | .cells _ t frozen => .cells #[.int .u16 0, .int .u16 65, .int .u16 64, .int .u16 623, .int .u16 131, .int .u16 3, .int .u16 635, .int .u16 3, .int .u16 131, .int .u16 3, .int .u16 3, .int .u16 320, .int .u16 107] t frozen
      | o => o }
theorem laid_met (os : Os) : laidMet Tryz.prog Rows.tableOnceUptoRow.laid ((laidWorld Tryz.prog os).forCall (fun _ _ => 0) ⟨#[], #[.slice none 0 0], []⟩).memory :=
  laidMet_of_run' 8 (by kernel_rfl) (by kernel_rfl)
theorem reads (os : Os) {H : Type} (enc : TypeId × Value → H) : ∃ places, DataW.whole enc Tryz.prog ((laidWorld Tryz.prog os).forCall (fun _ _ => 0) ⟨#[], #[.slice none 0 0], []⟩).memory Tryz.f7.params.toList Rows.tableOnceSpec.vars false (#[.slice none 0 0] : Array Value).toList 8 = some ([.nil], [], places) :=
  ⟨[], by kernel_rfl⟩

set_option maxRecDepth 100000 in
theorem lifted (os : Os) (started : os.Started) (H : Type) (enc : TypeId × Value → H) (F : Stop.Interp) :
    ReturnsInHanded {} Tryz.checked os 7 .any ((Rows.OpenSpec.upto Rows.tableOnceSpec).preRow enc Tryz.prog Tryz.f7 Rows.tableOnceUptoRow.domain false Rows.tableOnceUptoRow.laid) (((Rows.OpenSpec.upto Rows.tableOnceSpec).at F).post enc Tryz.prog Tryz.f7 false true false false) := by
  obtain ⟨places, hx⟩ := reads os enc
  refine returnsInHanded_of_row (C := Tryz.checked) (s := Rows.OpenSpec.upto Rows.tableOnceSpec) own started (by kernel_rfl) Tryz.func7
    (witness_row_at (enc := enc) (C := Tryz.checked) false (laidWorld Tryz.prog os) #[.slice none 0 0] rfl (by kernel_rfl) (by kernel_rfl) (by kernel_rfl)
      (OpenSpec.preRow_of_cond 8 hx (by kernel_rfl) (fun k hk => by cases hk; kernel_rfl) (by kernel_rfl) (laid_met os))) ?_
  intro W base args ds gs before hval0 hW _ hk0 hsz0 hL _ _
  have hsz : (DataW.weightsEach Tryz.prog (Tryz.f7.params.toList ++ (Rows.OpenSpec.upto Rows.tableOnceSpec).bare.plain.varTypes Tryz.prog) (ds ++ gs)).all (· ≤ reachBytes) = true := hsz0
  have hval : ∀ (j : Nat) t v, Tryz.f7.params[j]? = some t → args[j]? = some v → Value.okWide Tryz.prog W .any base t v := hval0
  have hW' := hW
  obtain ⟨p, q, hA0, hV, rfl, hfz, hnd⟩ := hW
  have hA : DataW.TrodAll enc Tryz.prog W 0 (fun _ => true) true Tryz.f7.params.toList args.toList ds p := hA0
  rw [Tryz.params7] at hA hval hsz
  obtain ⟨v0, vs0, d0, ds0, p0, q0, hargs, rfl, rfl, h0, r0⟩ := trodAll_cons hA
  obtain ⟨rfl, rfl, rfl⟩ := trodAll_nil r0
  obtain rfl : args = #[v0] := by cases args; simp_all
  obtain ⟨rfl, rfl⟩ := trodVars_none hV
  have hk : Rows.uptoBulkAll [d0] ≤ 1048576 := by have h := of_decide_eq_true (hk0 _ rfl); simpa only [List.append_nil] using h
  simp only [Rows.uptoBulkAll] at hk
  have lt0 : ∀ x ∈ p0, x.block < W.heap.size := by obtain ⟨m, hm⟩ := h0; exact DataW.trod_lt m _ _ _ hm
  obtain ⟨a0, l0, len0, cap0, rfl, el0, en0, ec0, ri0, rb0, nn0, bk0, bd0⟩ := B.given_recs3 (hval 0 43 v0 rfl rfl) h0 (all_of_mem hsz (DataW.weights_mem_each (j := 0) rfl rfl))
  clear hA0 hval0
  refine (B.once_walk (table hL) a0 len0 cap0 l0 ri0 el0 rb0 (fun r hr => (bd0 r hr).2) (by omega)).mono fun e W' ⟨he, bel⟩ => ?_
  subst he
  exact ⟨_, rfl, _, _, _, [], _, [], hW', trodAll_mk1 (shut_bool Tryz.underlying4 _), (trodAll_cons_mk (Below.trod laidOut (by kernel_rfl) (of_decide_eq_true (by kernel_rfl)) h0 bel lt0) trodAll_mk0), rfl, bel.frame _, fun h => by cases h⟩

theorem plain (f : FuncId) (fn : Func) (hf : Tryz.pinned.checked.prog.funcNamed "lantern/lanternlaw08.TableOnce" = some f) (hfn : Tryz.pinned.checked.prog.funcs[f]? = some fn) :
    false = Tryz.pinned.checked.prog.looks [] ∧ ∀ (j : Nat) t, fn.params[j]? = some t → Tryz.pinned.checked.prog.wantsStandIn t = false := by
  obtain rfl : f = 7 := Option.some.inj ((show Tryz.prog.funcNamed "lantern/lanternlaw08.TableOnce" = some 7 by kernel_rfl).symm.trans hf) |>.symm
  obtain rfl : fn = Tryz.f7 := (Option.some.inj (Tryz.func7.symm.trans hfn)).symm
  refine ⟨by kernel_rfl, fun j t ht => ?_⟩
  rw [Tryz.params7] at ht
  have hm : t = 43 := by simpa using Array.mem_of_getElem? ht
  rcases hm with rfl
  · exact (show Tryz.prog.wantsStandIn 43 = false by kernel_rfl)

end Go.Proofs.YtillgoegiplmkaaGreatDoor.tableOnceUpto

namespace Go.Proofs.YtillgoegiplmkaaGreatDoor

theorem tableOnce_said : Rows.TableOnceUptoSaid :=
  OpenClaim.holds_of_cond 7 Tryz.f7 rfl rfl rfl rfl rfl rfl rfl ⟨rfl, rfl, rfl, rfl, rfl⟩ rfl rfl rfl rfl rfl (by kernel_rfl) Tryz.func7 (by kernel_rfl)
    (of_decide_eq_true (by kernel_rfl)) (by unfold Func.isWrapper; first | (rw [if_pos (by decide +kernel)]; kernel_rfl) | (rw [if_neg (by decide +kernel)]; exact ⟨rfl, rfl⟩))
    (fun os started H enc _ F => by rw [OpenClaim.pre_eq_preRow]; exact tableOnceUpto.lifted os started H enc F)

theorem tableOnce_upto : Rows.TableOnceUptoCardSaid :=
  Claim7.holds_tied_plain_at .later [] _ _ _ _ tableOnce_said (fun _ h => by cases h) (by kernel_rfl) (fun _ h => by cases h) tableOnceUpto_row_tie rfl ⟨rfl, rfl⟩ (by kernel_rfl) rfl tableOnceUpto.plain (by kernel_rfl)
#print axioms tableOnce_upto

end Go.Proofs.YtillgoegiplmkaaGreatDoor
