import Derived.Test.YtillgoegiplmkaaGreatDoorTbG
import Derived.Test.YtillgoegiplmkaaGreatDoorGat
namespace Go.Proofs.YtillgoegiplmkaaGreatDoor.B
open C
open Go.RowKit Go.Maps
set_option linter.unusedVariables false
set_option linter.unusedSimpArgs false


set_option maxRecDepth 8000 in
set_option maxHeartbeats 4000000 in
theorem canBegin_any {w : World} {z : Tz} {T : T8} (h : Tw w z T) (hok : T.Ok) (s1 s2 : Int) (hr : sW (s1, s2)) : Calls Tryz.prog 137 #[tP z, .agg #[.int .i64 s1, .int .i64 s2]] w fun e w' => e = .returned (.bool (T.beg (s1, s2))) ∧ Below w.heap.size w w' := by
  have hbx : Below w.heap.size w (w.alloc (.cells #[.int .i64 s1, .int .i64 s2] 31)) := (Below.refl _ _).alloc (Nat.le_refl _) _
  have HB : Hid (∀ V : World, Below (w.heap.size + 1) (w.alloc (.cells #[.int .i64 s1, .int .i64 s2] 31)) V → Below w.heap.size w V) := fun V hV => hbx.trans (hV.mono (by omega))
  have c0 := h.c.1
  have hx := h.ltp h.px
  have hx1 : z.x ≠ w.heap.size := by omega
  have hx2 : z.x ≠ w.heap.size + 1 := by omega
  clear hx
  unfold T8.beg
  cases hf : T.fi (s1, s2) with
  | none =>
    have HK : Hid (∀ V : World, Below (w.heap.size + 1) (w.alloc (.cells #[.int .i64 s1, .int .i64 s2] 31)) V → (Below (w.heap.size + 1) (w.alloc (.cells #[.int .i64 s1, .int .i64 s2] 31)) V ∧ V.cell? ⟨z.x, 4, none⟩ = some (.map (some z.m2)) ∧ V.cell? ⟨w.heap.size, 0, none⟩ = some (.int .i64 s1) ∧ V.cell? ⟨w.heap.size, 1, none⟩ = some (.int .i64 s2) ∧ (Instr.lookup 69 (.map (some z.m2)) (.agg #[.int .i64 s1, .int .i64 s2]) true).run Tryz.prog V = .ok (.tuple #[iV0, .bool false]) V)) := fun V hV => by
      have hb := hbx.trans (hV.mono (by omega))
      have hc := (h.below hb).c
      have hp : V.heap[w.heap.size]? = some (.cells #[.int .i64 s1, .int .i64 s2] 31) := (hV.block _ (by omega)).trans (heap_alloc_new' w _)
      exact ⟨hV, hc.2.2.2.2.1, (cell_of_row _ _ _ _ _ _ hp).trans rfl, (cell_of_row _ _ _ _ _ _ hp).trans rfl, (h.below hb).lookI0 hr hf true⟩
    have HK2 : Hid (∀ V : World, Below (w.heap.size + 1) (w.alloc (.cells #[.int .i64 s1, .int .i64 s2] 31)) V → (Below (w.heap.size + 1) (w.alloc (.cells #[.int .i64 s1, .int .i64 s2] 31)) V ∧ V.cell? ⟨z.x, 0, none⟩ = some (.int .i64 T.id) ∧ V.cell? ⟨w.heap.size, 0, none⟩ = some (.int .i64 s1) ∧ V.cell? ⟨w.heap.size, 1, none⟩ = some (.int .i64 s2))) := fun V hV => by
      have hb := hbx.trans (hV.mono (by omega))
      have hc := (h.below hb).c
      have hp : V.heap[w.heap.size]? = some (.cells #[.int .i64 s1, .int .i64 s2] 31) := (hV.block _ (by omega)).trans (heap_alloc_new' w _)
      exact ⟨hV, hc.1, (cell_of_row _ _ _ _ _ _ hp).trans rfl, (cell_of_row _ _ _ _ _ _ hp).trans rfl⟩
    have HC : Hid (∀ V : World, Below (w.heap.size + 1) (w.alloc (.cells #[.int .i64 s1, .int .i64 s2] 31)) V → Calls Tryz.prog 15 #[tP z, .agg #[.int .i64 s1, .int .i64 s2]] V fun e w' => e = .returned (.bool (T.closed (s1, s2))) ∧ Below V.heap.size V w') := fun V hV => closed_any (h.below (hbx.trans (hV.mono (by omega)))) hok s1 s2 hr
    clear h hok hr hf hbx
    generalize T.closed (s1, s2) = cl at *
    by_cases q : s1 = T.id
    · subst q
      go_enter Tryz.func137, Tryz.ntmps137
      go_wp2
      have hS := HK.out _ (Below.refl _ _)
      go_region_held3 (fun V => (Below (w.heap.size + 1) (w.alloc (.cells #[.int .i64 T.id, .int .i64 s2] 31)) V ∧ V.cell? ⟨z.x, 4, none⟩ = some (.map (some z.m2)) ∧ V.cell? ⟨w.heap.size, 0, none⟩ = some (.int .i64 T.id) ∧ V.cell? ⟨w.heap.size, 1, none⟩ = some (.int .i64 s2) ∧ (Instr.lookup 69 (.map (some z.m2)) (.agg #[.int .i64 T.id, .int .i64 s2]) true).run Tryz.prog V = .ok (.tuple #[iV0, .bool false]) V)) (first | exact HK.out _ (Below.drew (Below.refl _ _)) | exact HK.out _ (Below.drew (Below.alloc (Below.refl _ _) (by simp) _)) | exact HK.out _ (Below.alloc (Below.refl _ _) (by simp) _)) (fail)
      all_goals (rename_i hz; clear hz)
      clear hS
      all_goals go_wp2
      all_goals (
        have d1 : (((w.alloc (.cells #[.int .i64 T.id, .int .i64 s2] 31)).alloc (.cells #[.int .i64 0, .int .i64 0, .int .i64 0, .int .i64 0, .int .i64 0, .slice none 0 0, .slice none 0 0, .bool false, .bool false, .bool false, .bool false, .int .i64 0] 63))).cell? ⟨z.x, 0, none⟩ = some (.int .i64 T.id) := (HK2.out _ (Below.alloc (Below.refl _ _) (by simp) _)).2.1
        go_quiet (fail))
      all_goals go_wp2
      all_goals go_ret
      all_goals exact ⟨by simp, HB.out _ (below_drewN (Below.drew (Below.alloc (Below.refl _ _) (by simp) _)) _)⟩
    · have q1 : (s1 == T.id) = false := by simp [q]
      have q2 : (s1 != T.id) = true := by simp [q]
      have q3 : decide (s1 = T.id) = false := by simp [q]
      go_enter Tryz.func137, Tryz.ntmps137
      go_wp2
      have hS := HK.out _ (Below.refl _ _)
      go_region_held3 (fun V => (Below (w.heap.size + 1) (w.alloc (.cells #[.int .i64 s1, .int .i64 s2] 31)) V ∧ V.cell? ⟨z.x, 4, none⟩ = some (.map (some z.m2)) ∧ V.cell? ⟨w.heap.size, 0, none⟩ = some (.int .i64 s1) ∧ V.cell? ⟨w.heap.size, 1, none⟩ = some (.int .i64 s2) ∧ (Instr.lookup 69 (.map (some z.m2)) (.agg #[.int .i64 s1, .int .i64 s2]) true).run Tryz.prog V = .ok (.tuple #[iV0, .bool false]) V)) (first | exact HK.out _ (Below.drew (Below.refl _ _)) | exact HK.out _ (Below.drew (Below.alloc (Below.refl _ _) (by simp) _)) | exact HK.out _ (Below.alloc (Below.refl _ _) (by simp) _)) (fail)
      all_goals (rename_i hz; clear hz)
      clear hS
      all_goals go_wp2
      all_goals (
        have hS := HK2.out _ (Below.drew (Below.alloc (Below.refl _ _) (by simp) (.cells iC0 63)))
        go_region_held3 (fun V => (Below (w.heap.size + 1) (w.alloc (.cells #[.int .i64 s1, .int .i64 s2] 31)) V ∧ V.cell? ⟨z.x, 0, none⟩ = some (.int .i64 T.id) ∧ V.cell? ⟨w.heap.size, 0, none⟩ = some (.int .i64 s1) ∧ V.cell? ⟨w.heap.size, 1, none⟩ = some (.int .i64 s2))) (first | assumption | exact HK2.out _ (bt (h1 := hb1) (And.left (by assumption)) (by simp)) | exact HK2.out _ (Below.drew (And.left (by assumption)))) (first
          | (go_at_call 15; refine (HC.out _ (And.left (by assumption))).mono ?_; rintro e w1 ⟨rfl, hb1⟩)))
      all_goals (rename_i hz; have HZ := HB.out _ hz.1; clear hz)
      clear hS
      all_goals go_wp2
      all_goals go_ret
      all_goals exact ⟨by simp [q], HZ⟩
  | some o =>
    obtain ⟨e, he, rfl, hes, _⟩ := h.lookI1 hf
    obtain ⟨av, nv, cv, ev⟩ := own_sl8 (h.pI.r e he).1.1
    obtain ⟨au, nu, cu, eu⟩ := own_sl8 (h.pI.r e he).2.1
    have HK : Hid (∀ V : World, Below (w.heap.size + 1) (w.alloc (.cells #[.int .i64 s1, .int .i64 s2] 31)) V → (Below (w.heap.size + 1) (w.alloc (.cells #[.int .i64 s1, .int .i64 s2] 31)) V ∧ V.cell? ⟨z.x, 4, none⟩ = some (.map (some z.m2)) ∧ V.cell? ⟨w.heap.size, 0, none⟩ = some (.int .i64 s1) ∧ V.cell? ⟨w.heap.size, 1, none⟩ = some (.int .i64 s2) ∧ (Instr.lookup 69 (.map (some z.m2)) (.agg #[.int .i64 s1, .int .i64 s2]) true).run Tryz.prog V = .ok (.tuple #[iV e.i (.slice au nu cu) (.slice av nv cv), .bool true]) V)) := fun V hV => by
      have hb := hbx.trans (hV.mono (by omega))
      have hc := (h.below hb).c
      have hp : V.heap[w.heap.size]? = some (.cells #[.int .i64 s1, .int .i64 s2] 31) := (hV.block _ (by omega)).trans (heap_alloc_new' w _)
      exact ⟨hV, hc.2.2.2.2.1, (cell_of_row _ _ _ _ _ _ hp).trans rfl, (cell_of_row _ _ _ _ _ _ hp).trans rfl, eu ▸ ev ▸ lookIE (s := (s1, s2)) (h.below hb) he hes true⟩
    have HK2 : Hid (∀ V : World, Below (w.heap.size + 1) (w.alloc (.cells #[.int .i64 s1, .int .i64 s2] 31)) V → (Below (w.heap.size + 1) (w.alloc (.cells #[.int .i64 s1, .int .i64 s2] 31)) V ∧ V.cell? ⟨z.x, 0, none⟩ = some (.int .i64 T.id) ∧ V.cell? ⟨w.heap.size, 0, none⟩ = some (.int .i64 s1) ∧ V.cell? ⟨w.heap.size, 1, none⟩ = some (.int .i64 s2))) := fun V hV => by
      have hb := hbx.trans (hV.mono (by omega))
      have hc := (h.below hb).c
      have hp : V.heap[w.heap.size]? = some (.cells #[.int .i64 s1, .int .i64 s2] 31) := (hV.block _ (by omega)).trans (heap_alloc_new' w _)
      exact ⟨hV, hc.1, (cell_of_row _ _ _ _ _ _ hp).trans rfl, (cell_of_row _ _ _ _ _ _ hp).trans rfl⟩
    clear h hok hr hf hbx hes he
    go_enter Tryz.func137, Tryz.ntmps137
    go_wp2
    have hS := HK.out _ (Below.refl _ _)
    go_region_held3 (fun V => (Below (w.heap.size + 1) (w.alloc (.cells #[.int .i64 s1, .int .i64 s2] 31)) V ∧ V.cell? ⟨z.x, 4, none⟩ = some (.map (some z.m2)) ∧ V.cell? ⟨w.heap.size, 0, none⟩ = some (.int .i64 s1) ∧ V.cell? ⟨w.heap.size, 1, none⟩ = some (.int .i64 s2) ∧ (Instr.lookup 69 (.map (some z.m2)) (.agg #[.int .i64 s1, .int .i64 s2]) true).run Tryz.prog V = .ok (.tuple #[iV e.i (.slice au nu cu) (.slice av nv cv), .bool true]) V)) (first | exact HK.out _ (Below.drew (Below.refl _ _)) | exact HK.out _ (Below.drew (Below.alloc (Below.refl _ _) (by simp) _)) | exact HK.out _ (Below.alloc (Below.refl _ _) (by simp) _)) (fail)
    all_goals (rename_i hz; clear hz)
    clear hS
    all_goals go_wp2
    all_goals go_quiet (fail)
    all_goals go_wp2
    all_goals go_ret
    all_goals exact ⟨by simp, HB.out _ (below_drewN (Below.drew (Below.alloc (Below.refl _ _) (by simp) _)) _)⟩
end Go.Proofs.YtillgoegiplmkaaGreatDoor.B

namespace Go.Proofs.YtillgoegiplmkaaGreatDoor.B
open C
open Go.RowKit Go.Maps
set_option linter.unusedVariables false
set_option linter.unusedSimpArgs false

set_option maxRecDepth 8000 in
set_option maxHeartbeats 4000000 in
theorem canRecall_any {w : World} {z : Tz} {T : T8} (h : Tw w z T) (hok : T.Ok) (r : Rc) (hr : sW (sR r)) (sv dv : Value) : Calls Tryz.prog 112 #[tP z, .agg (rcC r sv dv)] w fun e w' => e = .returned (.bool (T.beg (sR r))) ∧ Below w.heap.size w w' := by
  have hbx : Below w.heap.size w (w.alloc (rcO r sv dv)) := (Below.refl _ _).alloc (Nat.le_refl _) _
  have HB : Hid (∀ V : World, Below (w.heap.size + 1) (w.alloc (rcO r sv dv)) V → Below w.heap.size w V) := fun V hV => hbx.trans (hV.mono (by omega))
  have HC : Hid (∀ V : World, Below (w.heap.size + 1) (w.alloc (rcO r sv dv)) V → Calls Tryz.prog 137 #[tP z, .agg #[.int .i64 r.org, .int .i64 r.num]] V fun e w' => e = .returned (.bool (T.beg (sR r))) ∧ Below (w.heap.size + 1) (w.alloc (rcO r sv dv)) w') := fun V hV => (canBegin_any (h.below (hbx.trans (hV.mono (by omega)))) hok _ _ hr).mono fun e w' q => ⟨q.1, bt hV (by simp) q.2⟩
  have HU : Hid (∀ V : World, Below (w.heap.size + 1) (w.alloc (rcO r sv dv)) V → Calls Tryz.prog 138 #[tP z, .agg #[.int .i64 r.org, .int .i64 r.num]] V fun e w' => e = .returned (.bool (T.und (sR r))) ∧ Below (w.heap.size + 1) (w.alloc (rcO r sv dv)) w') := fun V hV => (undecided_any (h.below (hbx.trans (hV.mono (by omega)))) _ _ hr).mono fun e w' q => ⟨q.1, bt hV (by simp) q.2⟩
  have HP : Hid (∀ V : World, Below (w.heap.size + 1) (w.alloc (rcO r sv dv)) V → V.heap[w.heap.size]? = some (rcO r sv dv)) := fun V hV => (hV.block _ (by omega)).trans (heap_alloc_new' w _)
  clear h hok hr hbx
  generalize T.beg (sR r) = bg at *
  go_enter Tryz.func112, Tryz.ntmps112
  go_wp2_with (go_at_call 137; refine (HC.out _ (by first | exact Below.refl _ _ | assumption)).mono ?_; rintro e w1 ⟨rfl, hb1⟩)
  go_ret
  exact ⟨rfl, HB.out _ hb1⟩
set_option maxRecDepth 8000 in
set_option maxHeartbeats 4000000 in
theorem canCancel_any {w : World} {z : Tz} {T : T8} (h : Tw w z T) (hok : T.Ok) (r : Rc) (hr : sW (sR r)) (sv dv : Value) : Calls Tryz.prog 104 #[tP z, .agg (rcC r sv dv)] w fun e w' => e = .returned (.bool (T.beg (sR r) || T.und (sR r))) ∧ Below w.heap.size w w' := by
  have hbx : Below w.heap.size w (w.alloc (rcO r sv dv)) := (Below.refl _ _).alloc (Nat.le_refl _) _
  have HB : Hid (∀ V : World, Below (w.heap.size + 1) (w.alloc (rcO r sv dv)) V → Below w.heap.size w V) := fun V hV => hbx.trans (hV.mono (by omega))
  have HC : Hid (∀ V : World, Below (w.heap.size + 1) (w.alloc (rcO r sv dv)) V → Calls Tryz.prog 137 #[tP z, .agg #[.int .i64 r.org, .int .i64 r.num]] V fun e w' => e = .returned (.bool (T.beg (sR r))) ∧ Below (w.heap.size + 1) (w.alloc (rcO r sv dv)) w') := fun V hV => (canBegin_any (h.below (hbx.trans (hV.mono (by omega)))) hok _ _ hr).mono fun e w' q => ⟨q.1, bt hV (by simp) q.2⟩
  have HU : Hid (∀ V : World, Below (w.heap.size + 1) (w.alloc (rcO r sv dv)) V → Calls Tryz.prog 138 #[tP z, .agg #[.int .i64 r.org, .int .i64 r.num]] V fun e w' => e = .returned (.bool (T.und (sR r))) ∧ Below (w.heap.size + 1) (w.alloc (rcO r sv dv)) w') := fun V hV => (undecided_any (h.below (hbx.trans (hV.mono (by omega)))) _ _ hr).mono fun e w' q => ⟨q.1, bt hV (by simp) q.2⟩
  have HP : Hid (∀ V : World, Below (w.heap.size + 1) (w.alloc (rcO r sv dv)) V → V.heap[w.heap.size]? = some (rcO r sv dv)) := fun V hV => (hV.block _ (by omega)).trans (heap_alloc_new' w _)
  clear h hok hr hbx
  generalize T.beg (sR r) = bg at *
  generalize T.und (sR r) = un at *
  cases bg with
  | true =>
    go_enter Tryz.func104, Tryz.ntmps104
    go_wp2_with (go_at_call 137; refine (HC.out _ (by first | exact Below.refl _ _ | assumption)).mono ?_; rintro e w1 ⟨rfl, hb1⟩)
    go_ret
    exact ⟨rfl, HB.out _ hb1⟩
  | false =>
    go_enter Tryz.func104, Tryz.ntmps104
    go_wp2_with (first
      | (go_at_call 137; refine (HC.out _ (Below.refl _ _)).mono ?_; rintro e w1 ⟨rfl, hb1⟩; obtain ⟨k0, k1, k2, k3, k4, k5, k6, k7, k8, k9, k10⟩ := rc_cells (HP.out _ hb1))
      | (go_at_call 138; refine (HU.out _ (by assumption)).mono ?_; rintro e w2 ⟨rfl, hb2⟩))
    go_ret
    exact ⟨by simp, HB.out _ hb2⟩
set_option maxRecDepth 8000 in
set_option maxHeartbeats 4000000 in
theorem canDeliver_any {w : World} {z : Tz} {T : T8} (h : Tw w z T) (hok : T.Ok) (r : Rc) (hr : sW (sR r)) (sv dv : Value) : Calls Tryz.prog 102 #[tP z, .agg (rcC r sv dv)] w fun e w' => e = .returned (.bool (T.und (sR r) && (decide ((T.at (sR r)).red ≠ 0) && cov (T.at (sR r)).hv (0, (T.at (sR r)).red)))) ∧ Below w.heap.size w w' := by
  have hbx : Below w.heap.size w (w.alloc (rcO r sv dv)) := (Below.refl _ _).alloc (Nat.le_refl _) _
  have HB : Hid (∀ V : World, Below (w.heap.size + 1) (w.alloc (rcO r sv dv)) V → Below w.heap.size w V) := fun V hV => hbx.trans (hV.mono (by omega))
  have HC : Hid (∀ V : World, Below (w.heap.size + 1) (w.alloc (rcO r sv dv)) V → Calls Tryz.prog 137 #[tP z, .agg #[.int .i64 r.org, .int .i64 r.num]] V fun e w' => e = .returned (.bool (T.beg (sR r))) ∧ Below (w.heap.size + 1) (w.alloc (rcO r sv dv)) w') := fun V hV => (canBegin_any (h.below (hbx.trans (hV.mono (by omega)))) hok _ _ hr).mono fun e w' q => ⟨q.1, bt hV (by simp) q.2⟩
  have HU : Hid (∀ V : World, Below (w.heap.size + 1) (w.alloc (rcO r sv dv)) V → Calls Tryz.prog 138 #[tP z, .agg #[.int .i64 r.org, .int .i64 r.num]] V fun e w' => e = .returned (.bool (T.und (sR r))) ∧ Below (w.heap.size + 1) (w.alloc (rcO r sv dv)) w') := fun V hV => (undecided_any (h.below (hbx.trans (hV.mono (by omega)))) _ _ hr).mono fun e w' q => ⟨q.1, bt hV (by simp) q.2⟩
  have HP : Hid (∀ V : World, Below (w.heap.size + 1) (w.alloc (rcO r sv dv)) V → V.heap[w.heap.size]? = some (rcO r sv dv)) := fun V hV => (hV.block _ (by omega)).trans (heap_alloc_new' w _)
  cases hf : T.fi (sR r) with
  | none =>
    have hu : T.und (sR r) = false := by unfold T8.und; rw [hf]
    have HK : Hid (∀ V : World, Below (w.heap.size + 1) (w.alloc (rcO r sv dv)) V → (Below (w.heap.size + 1) (w.alloc (rcO r sv dv)) V ∧ V.cell? ⟨z.x, 4, none⟩ = some (.map (some z.m2)) ∧ V.cell? ⟨w.heap.size, 1, none⟩ = some (.int .i64 r.org) ∧ V.cell? ⟨w.heap.size, 2, none⟩ = some (.int .i64 r.num) ∧ (Instr.lookup 69 (.map (some z.m2)) (.agg #[.int .i64 r.org, .int .i64 r.num]) false).run Tryz.prog V = .ok (iV0) V)) := fun V hV => by
      have hb := hbx.trans (hV.mono (by omega))
      have hc := (h.below hb).c
      have hp : V.heap[w.heap.size]? = some (rcO r sv dv) := (hV.block _ (by omega)).trans (heap_alloc_new' w _)
      exact ⟨hV, hc.2.2.2.2.1, (cell_of_row _ _ _ _ _ _ hp).trans rfl, (cell_of_row _ _ _ _ _ _ hp).trans rfl, (h.below hb).lookI0 hr hf false⟩
    rw [hu] at HU ⊢
    clear h hok hr hbx hf hu HC
    go_enter Tryz.func102, Tryz.ntmps102
    go_wp2
    have hS := HK.out _ (Below.refl _ _)
    go_region_held3 (fun V => (Below (w.heap.size + 1) (w.alloc (rcO r sv dv)) V ∧ V.cell? ⟨z.x, 4, none⟩ = some (.map (some z.m2)) ∧ V.cell? ⟨w.heap.size, 1, none⟩ = some (.int .i64 r.org) ∧ V.cell? ⟨w.heap.size, 2, none⟩ = some (.int .i64 r.num) ∧ (Instr.lookup 69 (.map (some z.m2)) (.agg #[.int .i64 r.org, .int .i64 r.num]) false).run Tryz.prog V = .ok (iV0) V)) (first | exact HK.out _ (Below.drew (Below.refl _ _)) | exact HK.out _ (Below.drew (Below.alloc (Below.refl _ _) (by simp) _)) | exact HK.out _ (Below.alloc (Below.refl _ _) (by simp) _)) (fail)
    all_goals (rename_i hz; clear hz)
    clear hS
    all_goals go_wp2_with (go_at_call 138; refine (HU.out _ (by first | assumption | exact Below.drew (Below.alloc (Below.refl _ _) (by simp) _))).mono ?_; rintro e w2 ⟨rfl, hb2⟩)
    all_goals go_ret
    all_goals exact ⟨by simp, HB.out _ hb2⟩
  | some o =>
    obtain ⟨e, he, rfl, hes, _⟩ := h.lookI1 hf
    obtain ⟨av, nv, cv, ev⟩ := own_sl8 (h.pI.r e he).1.1
    obtain ⟨au, nu, cu, eu⟩ := own_sl8 (h.pI.r e he).2.1
    have HK : Hid (∀ V : World, Below (w.heap.size + 1) (w.alloc (rcO r sv dv)) V → (Below (w.heap.size + 1) (w.alloc (rcO r sv dv)) V ∧ V.cell? ⟨z.x, 4, none⟩ = some (.map (some z.m2)) ∧ V.cell? ⟨w.heap.size, 1, none⟩ = some (.int .i64 r.org) ∧ V.cell? ⟨w.heap.size, 2, none⟩ = some (.int .i64 r.num) ∧ (Instr.lookup 69 (.map (some z.m2)) (.agg #[.int .i64 r.org, .int .i64 r.num]) false).run Tryz.prog V = .ok (iV e.i (.slice au nu cu) (.slice av nv cv)) V)) := fun V hV => by
      have hb := hbx.trans (hV.mono (by omega))
      have hc := (h.below hb).c
      have hp : V.heap[w.heap.size]? = some (rcO r sv dv) := (hV.block _ (by omega)).trans (heap_alloc_new' w _)
      exact ⟨hV, hc.2.2.2.2.1, (cell_of_row _ _ _ _ _ _ hp).trans rfl, (cell_of_row _ _ _ _ _ _ hp).trans rfl, eu ▸ ev ▸ lookIE (s := sR r) (h.below hb) he hes false⟩
    have hat : T.at (sR r) = e.i := by unfold T8.at; rw [hf]
    have hio := (hok.fi hf).1
    have hcv : cvB e.i.hv (0, e.i.red) = cov e.i.hv (0, e.i.red) := by
      have ha : Asked (0, e.i.red) := ⟨by simp only; omega, by have := hio.red; have := lst_pos hio.rt; simp only; omega, by have := hio.red; simp only; omega⟩
      unfold cvB cov
      rw [setB_iff.mpr ⟨hio.few, hio.rt⟩, askB_iff.mpr ha, Bool.true_and, Bool.true_and]
      cases gps e.i.hv (0, e.i.red) <;> simp
    have hls : Ls w (.slice au nu cu) e.i.hv := by have := SOwn.ls (h.pI.r e he).2.1 (by have := hio.few; omega); rwa [eu] at this
    have HL : Hid (∀ V : World, Below (w.heap.size + 1) (w.alloc (rcO r sv dv)) V → Calls Tryz.prog 46 #[.slice au nu cu, .agg #[.int .i64 0, .int .i64 e.i.red]] V fun e' w' => e' = .returned (.bool (cov e.i.hv (0, e.i.red))) ∧ Below V.heap.size V w') := fun V hV => by
      have := covers_any 0 e.i.red (hls.below (hbx.trans (hV.mono (by omega))))
      rwa [hcv] at this
    have HU2 : Hid (∀ V : World, Below (w.heap.size + 1 + 1) (((w.alloc (rcO r sv dv)).alloc (.cells #[.int .i64 e.i.org, .int .i64 e.i.num, .int .i64 e.i.srv, .int .i64 e.i.red, .int .i64 e.i.size, .slice au nu cu, .slice av nv cv, .bool e.i.done, .bool e.i.gone, .bool e.i.heard, .bool e.i.shut, .int .i64 e.i.how] 63)).drew) V → Calls Tryz.prog 138 #[tP z, .agg #[.int .i64 r.org, .int .i64 r.num]] V fun e' w' => e' = .returned (.bool (T.und (sR r))) ∧ Below (w.heap.size + 1 + 1) (((w.alloc (rcO r sv dv)).alloc (.cells #[.int .i64 e.i.org, .int .i64 e.i.num, .int .i64 e.i.srv, .int .i64 e.i.red, .int .i64 e.i.size, .slice au nu cu, .slice av nv cv, .bool e.i.done, .bool e.i.gone, .bool e.i.heard, .bool e.i.shut, .int .i64 e.i.how] 63)).drew) w') := fun V hV => (undecided_any (h.below (hbx.trans (((Below.drew (Below.alloc (Below.refl (w.heap.size + 1) _) (by simp) _)).trans (hV.mono (by omega))).mono (by omega)))) _ _ hr).mono fun e w' q => ⟨q.1, bt hV (by simp) q.2⟩
    rw [hat]
    clear h hok hr hbx hf hat hio hcv hls HC hes he HU
    generalize cov e.i.hv (0, e.i.red) = cb at *
    generalize T.und (sR r) = un at *
    have HBx : Hid (∀ V : World, Below (w.heap.size + 1 + 1) (((w.alloc (rcO r sv dv)).alloc (.cells #[.int .i64 e.i.org, .int .i64 e.i.num, .int .i64 e.i.srv, .int .i64 e.i.red, .int .i64 e.i.size, .slice au nu cu, .slice av nv cv, .bool e.i.done, .bool e.i.gone, .bool e.i.heard, .bool e.i.shut, .int .i64 e.i.how] 63)).drew) V → Below (w.heap.size + 1) (w.alloc (rcO r sv dv)) V ∧ V.heap[w.heap.size + 1]? = some (.cells #[.int .i64 e.i.org, .int .i64 e.i.num, .int .i64 e.i.srv, .int .i64 e.i.red, .int .i64 e.i.size, .slice au nu cu, .slice av nv cv, .bool e.i.done, .bool e.i.gone, .bool e.i.heard, .bool e.i.shut, .int .i64 e.i.how] 63)) := fun V hV => ⟨(Below.drew (Below.alloc (Below.refl _ _) (by simp) _)).trans (hV.mono (by omega)), (hV.block _ (by omega)).trans (by have := heap_alloc_new' (w.alloc (rcO r sv dv)) (.cells #[.int .i64 e.i.org, .int .i64 e.i.num, .int .i64 e.i.srv, .int .i64 e.i.red, .int .i64 e.i.size, .slice au nu cu, .slice av nv cv, .bool e.i.done, .bool e.i.gone, .bool e.i.heard, .bool e.i.shut, .int .i64 e.i.how] 63); rw [World.size_alloc] at this; exact this)⟩
    cases un with
    | false =>
      go_enter Tryz.func102, Tryz.ntmps102
      go_wp2
      have hS := HK.out _ (Below.refl _ _)
      go_region_held3 (fun V => (Below (w.heap.size + 1) (w.alloc (rcO r sv dv)) V ∧ V.cell? ⟨z.x, 4, none⟩ = some (.map (some z.m2)) ∧ V.cell? ⟨w.heap.size, 1, none⟩ = some (.int .i64 r.org) ∧ V.cell? ⟨w.heap.size, 2, none⟩ = some (.int .i64 r.num) ∧ (Instr.lookup 69 (.map (some z.m2)) (.agg #[.int .i64 r.org, .int .i64 r.num]) false).run Tryz.prog V = .ok (iV e.i (.slice au nu cu) (.slice av nv cv)) V)) (first | exact HK.out _ (Below.drew (Below.refl _ _)) | exact HK.out _ (Below.drew (Below.alloc (Below.refl _ _) (by simp) _)) | exact HK.out _ (Below.alloc (Below.refl _ _) (by simp) _)) (fail)
      all_goals (rename_i hz; clear hz)
      clear hS
      all_goals go_wp2_with (go_at_call 138; refine (HU2.out _ (by first | assumption | exact Below.refl _ _)).mono ?_; rintro e w2 ⟨rfl, hb2⟩)
      all_goals go_ret
      all_goals exact ⟨by simp, HB.out _ (HBx.out _ hb2).1⟩
    | true =>
      by_cases q : e.i.red = 0
      · have q1 : (e.i.red != 0) = false := by simp [q]
        have HQ : Hid (e.i.red = 0) := q
        have HQ3 : Hid (∀ V : World, V.heap[w.heap.size + 1]? = some (.cells #[.int .i64 e.i.org, .int .i64 e.i.num, .int .i64 e.i.srv, .int .i64 e.i.red, .int .i64 e.i.size, .slice au nu cu, .slice av nv cv, .bool e.i.done, .bool e.i.gone, .bool e.i.heard, .bool e.i.shut, .int .i64 e.i.how] 63) → V.cell? ⟨w.heap.size + 1, 3, none⟩ = some (.int .i64 0) ∧ V.cell? ⟨w.heap.size + 1, 5, none⟩ = some (.slice au nu cu)) := fun V hV => ⟨by rw [← HQ.out]; exact (cell_of_row _ _ _ _ _ _ hV).trans rfl, (cell_of_row _ _ _ _ _ _ hV).trans rfl⟩
        clear q q1
        go_enter Tryz.func102, Tryz.ntmps102
        go_wp2
        have hS := HK.out _ (Below.refl _ _)
        go_region_held3 (fun V => (Below (w.heap.size + 1) (w.alloc (rcO r sv dv)) V ∧ V.cell? ⟨z.x, 4, none⟩ = some (.map (some z.m2)) ∧ V.cell? ⟨w.heap.size, 1, none⟩ = some (.int .i64 r.org) ∧ V.cell? ⟨w.heap.size, 2, none⟩ = some (.int .i64 r.num) ∧ (Instr.lookup 69 (.map (some z.m2)) (.agg #[.int .i64 r.org, .int .i64 r.num]) false).run Tryz.prog V = .ok (iV e.i (.slice au nu cu) (.slice av nv cv)) V)) (first | exact HK.out _ (Below.drew (Below.refl _ _)) | exact HK.out _ (Below.drew (Below.alloc (Below.refl _ _) (by simp) _)) | exact HK.out _ (Below.alloc (Below.refl _ _) (by simp) _)) (fail)
        all_goals (rename_i hz; clear hz)
        clear hS
        all_goals go_wp2_with (go_at_call 138; refine (HU2.out _ (by first | assumption | exact Below.refl _ _)).mono ?_; rintro e w2 ⟨rfl, hb2⟩; obtain ⟨q3, q6⟩ := HQ3.out _ (HBx.out _ hb2).2)
        all_goals go_ret
        all_goals exact ⟨by simp [HQ.out], HB.out _ (HBx.out _ hb2).1⟩
      · have q1 : (e.i.red != 0) = true := by simp [q]
        have q4 : decide (e.i.red = 0) = false := by simp [q]
        have HQ3 : Hid (∀ V : World, V.heap[w.heap.size + 1]? = some (.cells #[.int .i64 e.i.org, .int .i64 e.i.num, .int .i64 e.i.srv, .int .i64 e.i.red, .int .i64 e.i.size, .slice au nu cu, .slice av nv cv, .bool e.i.done, .bool e.i.gone, .bool e.i.heard, .bool e.i.shut, .int .i64 e.i.how] 63) → V.cell? ⟨w.heap.size + 1, 3, none⟩ = some (.int .i64 e.i.red) ∧ V.cell? ⟨w.heap.size + 1, 5, none⟩ = some (.slice au nu cu)) := fun V hV => ⟨(cell_of_row _ _ _ _ _ _ hV).trans rfl, (cell_of_row _ _ _ _ _ _ hV).trans rfl⟩
        clear q
        go_enter Tryz.func102, Tryz.ntmps102
        go_wp2
        have hS := HK.out _ (Below.refl _ _)
        go_region_held3 (fun V => (Below (w.heap.size + 1) (w.alloc (rcO r sv dv)) V ∧ V.cell? ⟨z.x, 4, none⟩ = some (.map (some z.m2)) ∧ V.cell? ⟨w.heap.size, 1, none⟩ = some (.int .i64 r.org) ∧ V.cell? ⟨w.heap.size, 2, none⟩ = some (.int .i64 r.num) ∧ (Instr.lookup 69 (.map (some z.m2)) (.agg #[.int .i64 r.org, .int .i64 r.num]) false).run Tryz.prog V = .ok (iV e.i (.slice au nu cu) (.slice av nv cv)) V)) (first | exact HK.out _ (Below.drew (Below.refl _ _)) | exact HK.out _ (Below.drew (Below.alloc (Below.refl _ _) (by simp) _)) | exact HK.out _ (Below.alloc (Below.refl _ _) (by simp) _)) (fail)
        all_goals (rename_i hz; clear hz)
        clear hS
        all_goals go_wp2_with (first
          | (go_at_call 138; refine (HU2.out _ (by first | assumption | exact Below.refl _ _)).mono ?_; rintro e w2 ⟨rfl, hb2⟩; obtain ⟨q3, q6⟩ := HQ3.out _ (HBx.out _ hb2).2)
          | (go_at_call 46; refine (HL.out _ (HBx.out _ hb2).1).mono ?_; rintro e w3 ⟨rfl, hb3⟩))
        all_goals go_ret
        all_goals exact ⟨by simp [q4], HB.out _ (bt (h1 := hb3) (HBx.out _ hb2).1 (by simp))⟩
end Go.Proofs.YtillgoegiplmkaaGreatDoor.B
