import Derived.Test.YticdedcgmofpjaaDoorCards
import Derived.Test.YticdedcgmofpjaaDoorTie
import Derived.Test.YticdedcgmofpjaaDoorDkGv
import Derived.WalkKit
import Derived.ProofKit
import Derived.OpenShut
import Derived.ShutString
import Derived.Below
import Derived.JoinedCond
import Derived.Deep.DeepHandedRow
import Derived.Lib.LaidTab
import Derived.Stop.LaidErr
namespace Go.Proofs.YticdedcgmofpjaaDoor.topDiskUpto
open Go.ChangeShapes Go.WideShapes Go.ChangeAt Go.RowKit
set_option linter.unusedVariables false

theorem gD : Tryd.prog.globalNamed "lantern/disk.ErrDown" = some 0 := by kernel_rfl
theorem gF : Tryd.prog.globalNamed "lantern/disk.ErrFull" = some 1 := by kernel_rfl
theorem gN : Tryd.prog.globalNamed "lantern/disk.ErrNone" = some 2 := by kernel_rfl
theorem gDType : (Tryd.prog.globals[0]?).map (·.type) = some 40 := by kernel_rfl
theorem gFType : (Tryd.prog.globals[1]?).map (·.type) = some 40 := by kernel_rfl
theorem gNType : (Tryd.prog.globals[2]?).map (·.type) = some 40 := by kernel_rfl
theorem cellsS : Tryd.prog.cellsOf 88 = 1 := by kernel_rfl
theorem cellsStr : Tryd.prog.cellsOf 9 = 1 := by kernel_rfl
theorem star : "*" ++ "errors.errorString" = "*errors.errorString" := by decide
theorem rowE (u : TypeId) (h : Tryd.prog.typeName? 3 u = some "*errors.errorString") : u = 71 :=
  typeName_ptr_named (nm := "errors.errorString") (by rw [star]; kernel_rfl) (by kernel_rfl) (by decide) u (by rw [star]; exact h)

/-- What the row's list gives: the three sentinels hold pointers, to three blocks. -/
theorem sents {W : World} (h0 : laidMetH Tryd.prog Rows.topDiskUptoRow.laid W) : ∃ aD aF aN : Addr, K.Er W aD aF aN ∧ aD ≠ aF ∧ aD ≠ aN ∧ aF ≠ aN ∧ K.Cl W aD ∧ K.Cl W aF ∧ K.Cl W aN := by
  have h : laidMet Tryd.prog Rows.topDiskUptoRow.laid W := h0
  obtain ⟨aF, sF, hvF, hcF, hsF, _⟩ := laid_sentinel h gF gFType Tryd.underlying40 rowE Tryd.underlying71 Tryd.underlying88 rfl rfl Tryd.underlying9 cellsS cellsStr
  obtain ⟨aD, sD, hvD, hcD, hsD, _⟩ := laid_sentinel h.tail gD gDType Tryd.underlying40 rowE Tryd.underlying71 Tryd.underlying88 rfl rfl Tryd.underlying9 cellsS cellsStr
  obtain ⟨aN, sN, hvN, hcN, hsN, _⟩ := laid_sentinel h.tail.tail gN gNType Tryd.underlying40 rowE Tryd.underlying71 Tryd.underlying88 rfl rfl Tryd.underlying9 cellsS cellsStr
  have cD : W.cell? ⟨0, 0, none⟩ = some (.iface 71 (.pointer (some aD))) := World.var?_cell gD hvD 0
  have cF : W.cell? ⟨1, 0, none⟩ = some (.iface 71 (.pointer (some aF))) := World.var?_cell gF hvF 0
  have cN : W.cell? ⟨2, 0, none⟩ = some (.iface 71 (.pointer (some aN))) := World.var?_cell gN hvN 0
  have ne : ∀ {a b : Addr} {s t : ByteArray}, W.cell? a = some (.string s) → W.cell? b = some (.string t) → s.data.toList ≠ t.data.toList → a ≠ b := fun h1 h2 h3 e => by
    subst e
    rw [h1] at h2
    cases h2
    exact h3 rfl
  have cl : K.Cl W aD ∧ K.Cl W aF ∧ K.Cl W aN := by
    obtain ⟨ps, ⟨g0, t0, cs0, f0, p0, q0, hg0, ht0, hv0, hd0, ⟨g1, t1, cs1, f1, p1, q1, hg1, ht1, hv1, hd1, ⟨g2, t2, cs2, f2, p2, q2, hg2, ht2, hv2, hd2, hq2, e2⟩, e1⟩, e0⟩, hnd, hrows⟩ := h
    obtain rfl := Option.some.inj (gF.symm.trans hg0)
    obtain rfl := Option.some.inj (gD.symm.trans hg1)
    obtain rfl := Option.some.inj (gN.symm.trans hg2)
    obtain rfl := Option.some.inj (gFType.symm.trans ht0)
    obtain rfl := Option.some.inj (gDType.symm.trans ht1)
    obtain rfl := Option.some.inj (gNType.symm.trans ht2)
    have hq2' : q2 = [] := hq2
    subst hq2'
    subst e2
    subst e1
    subst e0
    have k0 := Option.some.inj (hv0.symm.trans hvF)
    have k1 := Option.some.inj (hv1.symm.trans hvD)
    have k2 := Option.some.inj (hv2.symm.trans hvN)
    subst k0 k1 k2
    have ok0 : ∀ u v, ([.iface 71 (.pointer (some aF))] : List Value) = [.iface u v] → Value.okWide Tryd.prog W .any 0 u v := fun u v e => by
      simp only [List.cons.injEq, Value.iface.injEq] at e
      obtain ⟨⟨rfl, rfl⟩, _⟩ := e
      exact (hrows 1 0 (by simp [MemPlace.row])).2 _ _ cF
    have ok1 : ∀ u v, ([.iface 71 (.pointer (some aD))] : List Value) = [.iface u v] → Value.okWide Tryd.prog W .any 0 u v := fun u v e => by
      simp only [List.cons.injEq, Value.iface.injEq] at e
      obtain ⟨⟨rfl, rfl⟩, _⟩ := e
      exact (hrows 0 0 (by simp [MemPlace.row])).2 _ _ cD
    have ok2 : ∀ u v, ([.iface 71 (.pointer (some aN))] : List Value) = [.iface u v] → Value.okWide Tryd.prog W .any 0 u v := fun u v e => by
      simp only [List.cons.injEq, Value.iface.injEq] at e
      obtain ⟨⟨rfl, rfl⟩, _⟩ := e
      exact (hrows 2 0 (by simp [MemPlace.row])).2 _ _ cN
    obtain ⟨b0, _, z0, _, _, _, rfl⟩ := errorString_of_trod Tryd.underlying40 rowE Tryd.underlying71 Tryd.underlying88 rfl rfl Tryd.underlying9 cellsS cellsStr hd0 ok0
    obtain ⟨b1, _, z1, _, _, _, rfl⟩ := errorString_of_trod Tryd.underlying40 rowE Tryd.underlying71 Tryd.underlying88 rfl rfl Tryd.underlying9 cellsS cellsStr hd1 ok1
    obtain ⟨b2, _, z2, _, _, _, rfl⟩ := errorString_of_trod Tryd.underlying40 rowE Tryd.underlying71 Tryd.underlying88 rfl rfl Tryd.underlying9 cellsS cellsStr hd2 ok2
    simp only [List.cons.injEq, Value.iface.injEq, Value.pointer.injEq, Option.some.injEq, and_true, true_and] at z0 z1 z2
    subst z0 z1 z2
    exact ⟨(hrows aD.block aD.off (by simp [MemPlace.row])).1, (hrows aF.block aF.off (by simp [MemPlace.row])).1, (hrows aN.block aN.off (by simp [MemPlace.row])).1⟩
  refine ⟨aD, aF, aN, ⟨cD, cF, cN⟩, ne hcD hcF (by rw [hsD, hsF]; decide), ne hcD hcN (by rw [hsD, hsN]; decide), ne hcF hcN (by rw [hsF, hsN]; decide), cl.1, cl.2.1, cl.2.2⟩

/-- A world for the witness: the sentinels hold what their initialisers lay. -/
def laidWorld (P : Program) (os : Os) : World :=
  let w0 := World.holding P os ⟨#[.cells #[.string ⟨#[116, 104, 101, 32, 100, 105, 115, 107, 32, 104, 97, 115, 32, 110, 111, 32, 114, 111, 111, 109]⟩] 88, .cells #[.string ⟨#[116, 104, 101, 32, 100, 105, 115, 107, 32, 105, 115, 32, 100, 111, 119, 110]⟩] 88, .cells #[.string ⟨#[110, 111, 32, 115, 117, 99, 104, 32, 102, 105, 108, 101]⟩] 88], #[.int .i64 0, .slice none 0 0], []⟩
  let low := (World.holding P default ⟨#[], #[], []⟩).heap.size
  { w0 with heap := ((w0.heap.modify 1 fun
      | .cells _ t frozen => .cells #[.iface 71 (.pointer (some ⟨low, 0, none⟩))] t frozen
      | o => o).modify 0 fun
      | .cells _ t frozen => .cells #[.iface 71 (.pointer (some ⟨low + 1, 0, none⟩))] t frozen
      | o => o).modify 2 fun
      | .cells _ t frozen => .cells #[.iface 71 (.pointer (some ⟨low + 2, 0, none⟩))] t frozen
      | o => o }
theorem laid_met (os : Os) : laidMet Tryd.prog Rows.topDiskUptoRow.laid ((laidWorld Tryd.prog os).forCall (fun _ _ => 0) ⟨#[], #[.int .i64 0, .slice none 0 0], []⟩).memory :=
  laidMet_of_run' 8 (by kernel_rfl) (by kernel_rfl)
theorem reads (os : Os) {H : Type} (enc : TypeId × Value → H) : ∃ places, DataW.whole enc Tryd.prog ((laidWorld Tryd.prog os).forCall (fun _ _ => 0) ⟨#[], #[.int .i64 0, .slice none 0 0], []⟩).memory Tryd.f3.params.toList Rows.topDiskSpec.vars false (#[.int .i64 0, .slice none 0 0] : Array Value).toList 8 = some ([.lit (.int .i64 0), .nil], [], places) :=
  ⟨[], by kernel_rfl⟩

set_option maxRecDepth 100000 in
theorem lifted (os : Os) (started : os.Started) (H : Type) (enc : TypeId × Value → H) (F : Stop.Interp) :
    ReturnsInHanded {} Tryd.checked os 3 .any ((Rows.OpenSpec.upto Rows.topDiskSpec).preRow enc Tryd.prog Tryd.f3 Rows.topDiskUptoRow.domain false Rows.topDiskUptoRow.laid) (((Rows.OpenSpec.upto Rows.topDiskSpec).at F).post enc Tryd.prog Tryd.f3 false true false false) := by
  obtain ⟨places, hx⟩ := reads os enc
  refine returnsInHanded_of_row (C := Tryd.checked) (s := Rows.OpenSpec.upto Rows.topDiskSpec) own started (by kernel_rfl) Tryd.func3
    (witness_row_at (enc := enc) (C := Tryd.checked) false (laidWorld Tryd.prog os) #[.int .i64 0, .slice none 0 0] rfl (by kernel_rfl) (by kernel_rfl) (by kernel_rfl)
      (OpenSpec.preRow_of_cond 8 hx (by kernel_rfl) (fun k hk => by cases hk; kernel_rfl) (by kernel_rfl) (laid_met os))) ?_
  intro W base args ds gs before hval0 hW _ hk0 hsz0 hL _ _
  have hval : ∀ (j : Nat) t v, Tryd.f3.params[j]? = some t → args[j]? = some v → Value.okWide Tryd.prog W .any base t v := hval0
  have hW' := hW
  obtain ⟨p, q, hA0, hV, rfl, hfz, hnd⟩ := hW
  have hA : DataW.TrodAll enc Tryd.prog W 0 (fun _ => true) true Tryd.f3.params.toList args.toList ds p := hA0
  rw [Tryd.params3] at hA hval
  obtain ⟨v0, vs0, d0, ds0, p0, q0, hargs, rfl, rfl, h0, r0⟩ := trodAll_cons hA
  obtain ⟨v1, vs1, d1, ds1, p1, q1, rfl, rfl, rfl, h1, r1⟩ := trodAll_cons r0
  obtain ⟨rfl, rfl, rfl⟩ := trodAll_nil r1
  obtain rfl : args = #[v0, v1] := by cases args; simp_all
  obtain ⟨rfl, rfl⟩ := trodVars_none hV
  have hk : Rows.uptoBulkAll [d0, d1] ≤ 1048576 := by have h := of_decide_eq_true (hk0 _ rfl); simpa only [List.append_nil] using h
  simp only [Rows.uptoBulkAll] at hk
  have lt1 : ∀ x ∈ p1, x.block < W.heap.size := by obtain ⟨m, hm⟩ := h1; exact DataW.trod_lt m _ _ _ hm
  obtain ⟨n0, rfl, rfl, rfl, w0⟩ := open_int Tryd.underlying3 (hval 0 3 v0 rfl rfl) h0
  obtain ⟨a1, l1, len1, cap1, rfl, el1, tl1, bk1⟩ := K.given_tch (hval 1 22 v1 rfl rfl) h1 (by omega)
  clear hA0 hval0
  subst el1
  obtain ⟨aD, aF, aN, hE, e1, e2, e3, cD, cF, cN⟩ := sents hL
  refine (K.disk_walk n0 a1 l1 cap1 W aD aF aN (bounds_i64 w0).2 hE e1 e2 e3 cD cF cN tl1 (by omega)).mono fun e W' ⟨he, bel⟩ => ?_
  subst he
  exact ⟨_, rfl, _, _, _, [], _, [], hW', trodAll_mk1 (shut_bool Tryd.underlying4 _), (trodAll_cons_mk (shut_int Tryd.underlying3 w0) (trodAll_cons_mk (Below.trod laidOut (by kernel_rfl) (of_decide_eq_true (by kernel_rfl)) h1 bel lt1) trodAll_mk0)), rfl, bel.frame _, fun h => by cases h⟩

theorem plain (f : FuncId) (fn : Func) (hf : Tryd.pinned.checked.prog.funcNamed "lantern/lanterntop.TopDisk" = some f) (hfn : Tryd.pinned.checked.prog.funcs[f]? = some fn) :
    true = Tryd.pinned.checked.prog.looks [] ∧ ∀ (j : Nat) t, fn.params[j]? = some t → Tryd.pinned.checked.prog.wantsStandIn t = false := by
  obtain rfl : f = 3 := Option.some.inj ((show Tryd.prog.funcNamed "lantern/lanterntop.TopDisk" = some 3 by kernel_rfl).symm.trans hf) |>.symm
  obtain rfl : fn = Tryd.f3 := (Option.some.inj (Tryd.func3.symm.trans hfn)).symm
  refine ⟨by kernel_rfl, fun j t ht => ?_⟩
  rw [Tryd.params3] at ht
  have hm : t = 3 ∨ t = 22 := by simpa using Array.mem_of_getElem? ht
  rcases hm with rfl | rfl
  · exact (show Tryd.prog.wantsStandIn 3 = false by kernel_rfl)
  · exact (show Tryd.prog.wantsStandIn 22 = false by kernel_rfl)

end Go.Proofs.YticdedcgmofpjaaDoor.topDiskUpto

namespace Go.Proofs.YticdedcgmofpjaaDoor

theorem topDisk_said : Rows.TopDiskUptoSaid :=
  OpenClaim.holds_of_cond 3 Tryd.f3 rfl rfl rfl rfl rfl rfl rfl ⟨rfl, rfl, rfl, rfl, rfl⟩ rfl rfl rfl rfl rfl (by kernel_rfl) Tryd.func3 (by kernel_rfl)
    (of_decide_eq_true (by kernel_rfl)) (by unfold Func.isWrapper; first | (rw [if_pos (by decide +kernel)]; kernel_rfl) | (rw [if_neg (by decide +kernel)]; exact ⟨rfl, rfl⟩))
    (fun os started H enc _ F => by rw [OpenClaim.pre_eq_preRow]; exact topDiskUpto.lifted os started H enc F)

theorem topDisk_upto : Rows.TopDiskUptoCardSaid :=
  Claim7.holds_tied_plain_at .later [] _ _ _ _ topDisk_said (fun _ h => by cases h) (by kernel_rfl) (fun _ h => by cases h) topDiskUpto_row_tie rfl ⟨rfl, rfl⟩ (by kernel_rfl) rfl topDiskUpto.plain (by kernel_rfl)
#print axioms topDisk_upto

end Go.Proofs.YticdedcgmofpjaaDoor
