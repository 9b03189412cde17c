import Derived.Test.YtillgoegiplmkaaGreatDoorTbCa
import Derived.Deep.RegionHeld3
namespace Go.Proofs.YtillgoegiplmkaaGreatDoor.B
open C
open Go.RowKit Go.Maps
set_option linter.unusedVariables false
set_option linter.unusedSimpArgs false

/-! ## The program's table: what looks -/
set_option maxRecDepth 8000 in
set_option maxHeartbeats 4000000 in
theorem canEnd_any {w : World} {z : Tz} {T : T8} (h : Tw w z T) (r : Rc) (hr : sW (sR r)) (sv dv : Value) : Calls Tryz.prog 96 #[tP z, .agg (rcC r sv dv)] w fun e w' => e = .returned (.bool (match T.fe (sR r) with | some x => !x.ended | none => false)) ∧ Below w.heap.size w w' := by
  have hbx : Below w.heap.size w (w.alloc (rcO r sv dv)) := (Below.refl _ _).alloc (Nat.le_refl _) _
  cases hf : T.fe (sR r) with
  | none =>
    have HK : Hid (∀ V : World, Below (w.heap.size + 1) (w.alloc (rcO r sv dv)) V → (Below (w.heap.size + 1) (w.alloc (rcO r sv dv)) V ∧ V.cell? ⟨z.x, 3, none⟩ = some (.map (some z.m1)) ∧ V.cell? ⟨w.heap.size, 1, none⟩ = some (.int .i64 r.org) ∧ V.cell? ⟨w.heap.size, 2, none⟩ = some (.int .i64 r.num) ∧ (Instr.lookup 68 (.map (some z.m1)) (.agg #[.int .i64 r.org, .int .i64 r.num]) true).run Tryz.prog V = .ok (.tuple #[oV0, .bool false]) V)) := fun V hV => by
      have hb := hbx.trans (hV.mono (by omega))
      have hc := (h.below hb).c
      have hp : V.heap[w.heap.size]? = some (rcO r sv dv) := (hV.block _ (by omega)).trans (heap_alloc_new' w _)
      exact ⟨hV, hc.2.2.2.1, (cell_of_row _ _ _ _ _ _ hp).trans rfl, (cell_of_row _ _ _ _ _ _ hp).trans rfl, (h.below hb).lookX0 hr hf true⟩
    have HB : Hid (∀ V : World, Below (w.heap.size + 1) (w.alloc (rcO r sv dv)) V → Below w.heap.size w V) := fun V hV => hbx.trans (hV.mono (by omega))
    clear h hr hf hbx
    go_enter Tryz.func96, Tryz.ntmps96
    go_wp2
    have hS := HK.out _ (Below.refl _ _)
    go_region_held3 (fun V => (Below (w.heap.size + 1) (w.alloc (rcO r sv dv)) V ∧ V.cell? ⟨z.x, 3, none⟩ = some (.map (some z.m1)) ∧ V.cell? ⟨w.heap.size, 1, none⟩ = some (.int .i64 r.org) ∧ V.cell? ⟨w.heap.size, 2, none⟩ = some (.int .i64 r.num) ∧ (Instr.lookup 68 (.map (some z.m1)) (.agg #[.int .i64 r.org, .int .i64 r.num]) true).run Tryz.prog V = .ok (.tuple #[oV0, .bool false]) V)) (first | exact HK.out _ (Below.drew (And.left (by assumption))) | exact HK.out _ (Below.alloc (And.left (by assumption)) (by simp) _) | exact HK.out _ (Below.setCell (p := ⟨_, _, none⟩) (And.left (by assumption)) (by simp) _) | exact HK.out _ (Below.drew (Below.alloc (Below.refl _ _) (by simp) _)) | exact HK.out _ (Below.alloc (Below.refl _ _) (by simp) _)) (fail)
    all_goals (rename_i hz; clear hz)
    clear hS
    all_goals go_wp2
    all_goals go_ret
    all_goals exact ⟨by simp [*], HB.out _ (Below.drew (Below.alloc (Below.refl _ _) (by simp) _))⟩
  | some o =>
    obtain ⟨e, he, rfl, hes, _⟩ := h.lookX1 hf
    obtain ⟨av, nv, cv, ev⟩ := own_sl8 (h.pX.r e he).1
    have HK : Hid (∀ V : World, Below (w.heap.size + 1) (w.alloc (rcO r sv dv)) V → (Below (w.heap.size + 1) (w.alloc (rcO r sv dv)) V ∧ V.cell? ⟨z.x, 3, none⟩ = some (.map (some z.m1)) ∧ V.cell? ⟨w.heap.size, 1, none⟩ = some (.int .i64 r.org) ∧ V.cell? ⟨w.heap.size, 2, none⟩ = some (.int .i64 r.num) ∧ (Instr.lookup 68 (.map (some z.m1)) (.agg #[.int .i64 r.org, .int .i64 r.num]) true).run Tryz.prog V = .ok (.tuple #[oV e.o (.slice av nv cv), .bool true]) V)) := fun V hV => by
      have hb := hbx.trans (hV.mono (by omega))
      have hc := (h.below hb).c
      have hp : V.heap[w.heap.size]? = some (rcO r sv dv) := (hV.block _ (by omega)).trans (heap_alloc_new' w _)
      exact ⟨hV, hc.2.2.2.1, (cell_of_row _ _ _ _ _ _ hp).trans rfl, (cell_of_row _ _ _ _ _ _ hp).trans rfl, ev ▸ lookXE (s := sR r) (h.below hb) he hes⟩
    have HB : Hid (∀ V : World, Below (w.heap.size + 1) (w.alloc (rcO r sv dv)) V → Below w.heap.size w V) := fun V hV => hbx.trans (hV.mono (by omega))
    clear h hr hf hbx hes he
    go_enter Tryz.func96, Tryz.ntmps96
    go_wp2
    have hS := HK.out _ (Below.refl _ _)
    go_region_held3 (fun V => (Below (w.heap.size + 1) (w.alloc (rcO r sv dv)) V ∧ V.cell? ⟨z.x, 3, none⟩ = some (.map (some z.m1)) ∧ V.cell? ⟨w.heap.size, 1, none⟩ = some (.int .i64 r.org) ∧ V.cell? ⟨w.heap.size, 2, none⟩ = some (.int .i64 r.num) ∧ (Instr.lookup 68 (.map (some z.m1)) (.agg #[.int .i64 r.org, .int .i64 r.num]) true).run Tryz.prog V = .ok (.tuple #[oV e.o (.slice av nv cv), .bool true]) V)) (first | exact HK.out _ (Below.drew (And.left (by assumption))) | exact HK.out _ (Below.alloc (And.left (by assumption)) (by simp) _) | exact HK.out _ (Below.setCell (p := ⟨_, _, none⟩) (And.left (by assumption)) (by simp) _) | exact HK.out _ (Below.drew (Below.alloc (Below.refl _ _) (by simp) _)) | exact HK.out _ (Below.alloc (Below.refl _ _) (by simp) _)) (fail)
    all_goals (rename_i hz; clear hz)
    clear hS
    all_goals go_wp2
    all_goals go_ret
    all_goals exact ⟨by simp [*], HB.out _ (Below.drew (Below.alloc (Below.refl _ _) (by simp) _))⟩
set_option maxRecDepth 8000 in
set_option maxHeartbeats 4000000 in
theorem canForget_any {w : World} {z : Tz} {T : T8} (h : Tw w z T) (r : Rc) (hr : sW (sR r)) (sv dv : Value) : Calls Tryz.prog 98 #[tP z, .agg (rcC r sv dv)] w fun e w' => e = .returned (.bool (match T.fe (sR r) with | some x => x.ended | none => false)) ∧ Below w.heap.size w w' := by
  have hbx : Below w.heap.size w (w.alloc (rcO r sv dv)) := (Below.refl _ _).alloc (Nat.le_refl _) _
  cases hf : T.fe (sR r) with
  | none =>
    have HK : Hid (∀ V : World, Below (w.heap.size + 1) (w.alloc (rcO r sv dv)) V → (Below (w.heap.size + 1) (w.alloc (rcO r sv dv)) V ∧ V.cell? ⟨z.x, 3, none⟩ = some (.map (some z.m1)) ∧ V.cell? ⟨w.heap.size, 1, none⟩ = some (.int .i64 r.org) ∧ V.cell? ⟨w.heap.size, 2, none⟩ = some (.int .i64 r.num) ∧ (Instr.lookup 68 (.map (some z.m1)) (.agg #[.int .i64 r.org, .int .i64 r.num]) true).run Tryz.prog V = .ok (.tuple #[oV0, .bool false]) V)) := fun V hV => by
      have hb := hbx.trans (hV.mono (by omega))
      have hc := (h.below hb).c
      have hp : V.heap[w.heap.size]? = some (rcO r sv dv) := (hV.block _ (by omega)).trans (heap_alloc_new' w _)
      exact ⟨hV, hc.2.2.2.1, (cell_of_row _ _ _ _ _ _ hp).trans rfl, (cell_of_row _ _ _ _ _ _ hp).trans rfl, (h.below hb).lookX0 hr hf true⟩
    have HB : Hid (∀ V : World, Below (w.heap.size + 1) (w.alloc (rcO r sv dv)) V → Below w.heap.size w V) := fun V hV => hbx.trans (hV.mono (by omega))
    clear h hr hf hbx
    go_enter Tryz.func98, Tryz.ntmps98
    go_wp2
    have hS := HK.out _ (Below.refl _ _)
    go_region_held3 (fun V => (Below (w.heap.size + 1) (w.alloc (rcO r sv dv)) V ∧ V.cell? ⟨z.x, 3, none⟩ = some (.map (some z.m1)) ∧ V.cell? ⟨w.heap.size, 1, none⟩ = some (.int .i64 r.org) ∧ V.cell? ⟨w.heap.size, 2, none⟩ = some (.int .i64 r.num) ∧ (Instr.lookup 68 (.map (some z.m1)) (.agg #[.int .i64 r.org, .int .i64 r.num]) true).run Tryz.prog V = .ok (.tuple #[oV0, .bool false]) V)) (first | exact HK.out _ (Below.drew (And.left (by assumption))) | exact HK.out _ (Below.alloc (And.left (by assumption)) (by simp) _) | exact HK.out _ (Below.setCell (p := ⟨_, _, none⟩) (And.left (by assumption)) (by simp) _) | exact HK.out _ (Below.drew (Below.alloc (Below.refl _ _) (by simp) _)) | exact HK.out _ (Below.alloc (Below.refl _ _) (by simp) _)) (fail)
    all_goals (rename_i hz; clear hz)
    clear hS
    all_goals go_wp2
    all_goals go_ret
    all_goals exact ⟨by simp [*], HB.out _ (Below.drew (Below.alloc (Below.refl _ _) (by simp) _))⟩
  | some o =>
    obtain ⟨e, he, rfl, hes, _⟩ := h.lookX1 hf
    obtain ⟨av, nv, cv, ev⟩ := own_sl8 (h.pX.r e he).1
    have HK : Hid (∀ V : World, Below (w.heap.size + 1) (w.alloc (rcO r sv dv)) V → (Below (w.heap.size + 1) (w.alloc (rcO r sv dv)) V ∧ V.cell? ⟨z.x, 3, none⟩ = some (.map (some z.m1)) ∧ V.cell? ⟨w.heap.size, 1, none⟩ = some (.int .i64 r.org) ∧ V.cell? ⟨w.heap.size, 2, none⟩ = some (.int .i64 r.num) ∧ (Instr.lookup 68 (.map (some z.m1)) (.agg #[.int .i64 r.org, .int .i64 r.num]) true).run Tryz.prog V = .ok (.tuple #[oV e.o (.slice av nv cv), .bool true]) V)) := fun V hV => by
      have hb := hbx.trans (hV.mono (by omega))
      have hc := (h.below hb).c
      have hp : V.heap[w.heap.size]? = some (rcO r sv dv) := (hV.block _ (by omega)).trans (heap_alloc_new' w _)
      exact ⟨hV, hc.2.2.2.1, (cell_of_row _ _ _ _ _ _ hp).trans rfl, (cell_of_row _ _ _ _ _ _ hp).trans rfl, ev ▸ lookXE (s := sR r) (h.below hb) he hes⟩
    have HB : Hid (∀ V : World, Below (w.heap.size + 1) (w.alloc (rcO r sv dv)) V → Below w.heap.size w V) := fun V hV => hbx.trans (hV.mono (by omega))
    clear h hr hf hbx hes he
    go_enter Tryz.func98, Tryz.ntmps98
    go_wp2
    have hS := HK.out _ (Below.refl _ _)
    go_region_held3 (fun V => (Below (w.heap.size + 1) (w.alloc (rcO r sv dv)) V ∧ V.cell? ⟨z.x, 3, none⟩ = some (.map (some z.m1)) ∧ V.cell? ⟨w.heap.size, 1, none⟩ = some (.int .i64 r.org) ∧ V.cell? ⟨w.heap.size, 2, none⟩ = some (.int .i64 r.num) ∧ (Instr.lookup 68 (.map (some z.m1)) (.agg #[.int .i64 r.org, .int .i64 r.num]) true).run Tryz.prog V = .ok (.tuple #[oV e.o (.slice av nv cv), .bool true]) V)) (first | exact HK.out _ (Below.drew (And.left (by assumption))) | exact HK.out _ (Below.alloc (And.left (by assumption)) (by simp) _) | exact HK.out _ (Below.setCell (p := ⟨_, _, none⟩) (And.left (by assumption)) (by simp) _) | exact HK.out _ (Below.drew (Below.alloc (Below.refl _ _) (by simp) _)) | exact HK.out _ (Below.alloc (Below.refl _ _) (by simp) _)) (fail)
    all_goals (rename_i hz; clear hz)
    clear hS
    all_goals go_wp2
    all_goals go_ret
    all_goals exact ⟨by simp [*], HB.out _ (Below.drew (Below.alloc (Below.refl _ _) (by simp) _))⟩
set_option maxRecDepth 8000 in
set_option maxHeartbeats 4000000 in
theorem canHear_any {w : World} {z : Tz} {T : T8} (h : Tw w z T) (r : Rc) (hr : sW (sR r)) (sv dv : Value) : Calls Tryz.prog 106 #[tP z, .agg (rcC r sv dv)] w fun e w' => e = .returned (.bool (match T.fi (sR r) with | some i => (i.done || i.gone) && !i.heard | none => false)) ∧ Below w.heap.size w w' := by
  have hbx : Below w.heap.size w (w.alloc (rcO r sv dv)) := (Below.refl _ _).alloc (Nat.le_refl _) _
  cases hf : T.fi (sR r) with
  | none =>
    have HK : Hid (∀ V : World, Below (w.heap.size + 1) (w.alloc (rcO r sv dv)) V → (Below (w.heap.size + 1) (w.alloc (rcO r sv dv)) V ∧ V.cell? ⟨z.x, 4, none⟩ = some (.map (some z.m2)) ∧ V.cell? ⟨w.heap.size, 1, none⟩ = some (.int .i64 r.org) ∧ V.cell? ⟨w.heap.size, 2, none⟩ = some (.int .i64 r.num) ∧ (Instr.lookup 69 (.map (some z.m2)) (.agg #[.int .i64 r.org, .int .i64 r.num]) true).run Tryz.prog V = .ok (.tuple #[iV0, .bool false]) V)) := fun V hV => by
      have hb := hbx.trans (hV.mono (by omega))
      have hc := (h.below hb).c
      have hp : V.heap[w.heap.size]? = some (rcO r sv dv) := (hV.block _ (by omega)).trans (heap_alloc_new' w _)
      exact ⟨hV, hc.2.2.2.2.1, (cell_of_row _ _ _ _ _ _ hp).trans rfl, (cell_of_row _ _ _ _ _ _ hp).trans rfl, (h.below hb).lookI0 hr hf true⟩
    have HB : Hid (∀ V : World, Below (w.heap.size + 1) (w.alloc (rcO r sv dv)) V → Below w.heap.size w V) := fun V hV => hbx.trans (hV.mono (by omega))
    clear h hr hf hbx
    go_enter Tryz.func106, Tryz.ntmps106
    go_wp2
    have hS := HK.out _ (Below.refl _ _)
    go_region_held3 (fun V => (Below (w.heap.size + 1) (w.alloc (rcO r sv dv)) V ∧ V.cell? ⟨z.x, 4, none⟩ = some (.map (some z.m2)) ∧ V.cell? ⟨w.heap.size, 1, none⟩ = some (.int .i64 r.org) ∧ V.cell? ⟨w.heap.size, 2, none⟩ = some (.int .i64 r.num) ∧ (Instr.lookup 69 (.map (some z.m2)) (.agg #[.int .i64 r.org, .int .i64 r.num]) true).run Tryz.prog V = .ok (.tuple #[iV0, .bool false]) V)) (first | exact HK.out _ (Below.drew (And.left (by assumption))) | exact HK.out _ (Below.alloc (And.left (by assumption)) (by simp) _) | exact HK.out _ (Below.setCell (p := ⟨_, _, none⟩) (And.left (by assumption)) (by simp) _) | exact HK.out _ (Below.drew (Below.alloc (Below.refl _ _) (by simp) _)) | exact HK.out _ (Below.alloc (Below.refl _ _) (by simp) _)) (fail)
    all_goals (rename_i hz; clear hz)
    clear hS
    all_goals go_wp2
    all_goals go_ret
    all_goals exact ⟨by simp [*], HB.out _ (Below.drew (Below.alloc (Below.refl _ _) (by simp) _))⟩
  | some o =>
    obtain ⟨e, he, rfl, hes, _⟩ := h.lookI1 hf
    obtain ⟨av, nv, cv, ev⟩ := own_sl8 (h.pI.r e he).1.1
    obtain ⟨au, nu, cu, eu⟩ := own_sl8 (h.pI.r e he).2.1
    have HK : Hid (∀ V : World, Below (w.heap.size + 1) (w.alloc (rcO r sv dv)) V → (Below (w.heap.size + 1) (w.alloc (rcO r sv dv)) V ∧ V.cell? ⟨z.x, 4, none⟩ = some (.map (some z.m2)) ∧ V.cell? ⟨w.heap.size, 1, none⟩ = some (.int .i64 r.org) ∧ V.cell? ⟨w.heap.size, 2, none⟩ = some (.int .i64 r.num) ∧ (Instr.lookup 69 (.map (some z.m2)) (.agg #[.int .i64 r.org, .int .i64 r.num]) true).run Tryz.prog V = .ok (.tuple #[iV e.i (.slice au nu cu) (.slice av nv cv), .bool true]) V)) := fun V hV => by
      have hb := hbx.trans (hV.mono (by omega))
      have hc := (h.below hb).c
      have hp : V.heap[w.heap.size]? = some (rcO r sv dv) := (hV.block _ (by omega)).trans (heap_alloc_new' w _)
      exact ⟨hV, hc.2.2.2.2.1, (cell_of_row _ _ _ _ _ _ hp).trans rfl, (cell_of_row _ _ _ _ _ _ hp).trans rfl, eu ▸ ev ▸ lookIE (s := sR r) (h.below hb) he hes true⟩
    have HB : Hid (∀ V : World, Below (w.heap.size + 1) (w.alloc (rcO r sv dv)) V → Below w.heap.size w V) := fun V hV => hbx.trans (hV.mono (by omega))
    clear h hr hf hbx hes he
    go_enter Tryz.func106, Tryz.ntmps106
    go_wp2
    have hS := HK.out _ (Below.refl _ _)
    go_region_held3 (fun V => (Below (w.heap.size + 1) (w.alloc (rcO r sv dv)) V ∧ V.cell? ⟨z.x, 4, none⟩ = some (.map (some z.m2)) ∧ V.cell? ⟨w.heap.size, 1, none⟩ = some (.int .i64 r.org) ∧ V.cell? ⟨w.heap.size, 2, none⟩ = some (.int .i64 r.num) ∧ (Instr.lookup 69 (.map (some z.m2)) (.agg #[.int .i64 r.org, .int .i64 r.num]) true).run Tryz.prog V = .ok (.tuple #[iV e.i (.slice au nu cu) (.slice av nv cv), .bool true]) V)) (first | exact HK.out _ (Below.drew (And.left (by assumption))) | exact HK.out _ (Below.alloc (And.left (by assumption)) (by simp) _) | exact HK.out _ (Below.setCell (p := ⟨_, _, none⟩) (And.left (by assumption)) (by simp) _) | exact HK.out _ (Below.drew (Below.alloc (Below.refl _ _) (by simp) _)) | exact HK.out _ (Below.alloc (Below.refl _ _) (by simp) _)) (fail)
    all_goals (rename_i hz; clear hz)
    clear hS
    all_goals go_wp2
    all_goals go_ret
    all_goals exact ⟨by simp [*], HB.out _ (Below.drew (Below.alloc (Below.refl _ _) (by simp) _))⟩
set_option maxRecDepth 8000 in
set_option maxHeartbeats 4000000 in
theorem canShut_any {w : World} {z : Tz} {T : T8} (h : Tw w z T) (r : Rc) (hr : sW (sR r)) (sv dv : Value) : Calls Tryz.prog 108 #[tP z, .agg (rcC r sv dv)] w fun e w' => e = .returned (.bool (match T.fi (sR r) with | some i => i.done && !i.shut | none => false)) ∧ Below w.heap.size w w' := by
  have hbx : Below w.heap.size w (w.alloc (rcO r sv dv)) := (Below.refl _ _).alloc (Nat.le_refl _) _
  cases hf : T.fi (sR r) with
  | none =>
    have HK : Hid (∀ V : World, Below (w.heap.size + 1) (w.alloc (rcO r sv dv)) V → (Below (w.heap.size + 1) (w.alloc (rcO r sv dv)) V ∧ V.cell? ⟨z.x, 4, none⟩ = some (.map (some z.m2)) ∧ V.cell? ⟨w.heap.size, 1, none⟩ = some (.int .i64 r.org) ∧ V.cell? ⟨w.heap.size, 2, none⟩ = some (.int .i64 r.num) ∧ (Instr.lookup 69 (.map (some z.m2)) (.agg #[.int .i64 r.org, .int .i64 r.num]) true).run Tryz.prog V = .ok (.tuple #[iV0, .bool false]) V)) := fun V hV => by
      have hb := hbx.trans (hV.mono (by omega))
      have hc := (h.below hb).c
      have hp : V.heap[w.heap.size]? = some (rcO r sv dv) := (hV.block _ (by omega)).trans (heap_alloc_new' w _)
      exact ⟨hV, hc.2.2.2.2.1, (cell_of_row _ _ _ _ _ _ hp).trans rfl, (cell_of_row _ _ _ _ _ _ hp).trans rfl, (h.below hb).lookI0 hr hf true⟩
    have HB : Hid (∀ V : World, Below (w.heap.size + 1) (w.alloc (rcO r sv dv)) V → Below w.heap.size w V) := fun V hV => hbx.trans (hV.mono (by omega))
    clear h hr hf hbx
    go_enter Tryz.func108, Tryz.ntmps108
    go_wp2
    have hS := HK.out _ (Below.refl _ _)
    go_region_held3 (fun V => (Below (w.heap.size + 1) (w.alloc (rcO r sv dv)) V ∧ V.cell? ⟨z.x, 4, none⟩ = some (.map (some z.m2)) ∧ V.cell? ⟨w.heap.size, 1, none⟩ = some (.int .i64 r.org) ∧ V.cell? ⟨w.heap.size, 2, none⟩ = some (.int .i64 r.num) ∧ (Instr.lookup 69 (.map (some z.m2)) (.agg #[.int .i64 r.org, .int .i64 r.num]) true).run Tryz.prog V = .ok (.tuple #[iV0, .bool false]) V)) (first | exact HK.out _ (Below.drew (And.left (by assumption))) | exact HK.out _ (Below.alloc (And.left (by assumption)) (by simp) _) | exact HK.out _ (Below.setCell (p := ⟨_, _, none⟩) (And.left (by assumption)) (by simp) _) | exact HK.out _ (Below.drew (Below.alloc (Below.refl _ _) (by simp) _)) | exact HK.out _ (Below.alloc (Below.refl _ _) (by simp) _)) (fail)
    all_goals (rename_i hz; clear hz)
    clear hS
    all_goals go_wp2
    all_goals go_ret
    all_goals exact ⟨by simp [*], HB.out _ (Below.drew (Below.alloc (Below.refl _ _) (by simp) _))⟩
  | some o =>
    obtain ⟨e, he, rfl, hes, _⟩ := h.lookI1 hf
    obtain ⟨av, nv, cv, ev⟩ := own_sl8 (h.pI.r e he).1.1
    obtain ⟨au, nu, cu, eu⟩ := own_sl8 (h.pI.r e he).2.1
    have HK : Hid (∀ V : World, Below (w.heap.size + 1) (w.alloc (rcO r sv dv)) V → (Below (w.heap.size + 1) (w.alloc (rcO r sv dv)) V ∧ V.cell? ⟨z.x, 4, none⟩ = some (.map (some z.m2)) ∧ V.cell? ⟨w.heap.size, 1, none⟩ = some (.int .i64 r.org) ∧ V.cell? ⟨w.heap.size, 2, none⟩ = some (.int .i64 r.num) ∧ (Instr.lookup 69 (.map (some z.m2)) (.agg #[.int .i64 r.org, .int .i64 r.num]) true).run Tryz.prog V = .ok (.tuple #[iV e.i (.slice au nu cu) (.slice av nv cv), .bool true]) V)) := fun V hV => by
      have hb := hbx.trans (hV.mono (by omega))
      have hc := (h.below hb).c
      have hp : V.heap[w.heap.size]? = some (rcO r sv dv) := (hV.block _ (by omega)).trans (heap_alloc_new' w _)
      exact ⟨hV, hc.2.2.2.2.1, (cell_of_row _ _ _ _ _ _ hp).trans rfl, (cell_of_row _ _ _ _ _ _ hp).trans rfl, eu ▸ ev ▸ lookIE (s := sR r) (h.below hb) he hes true⟩
    have HB : Hid (∀ V : World, Below (w.heap.size + 1) (w.alloc (rcO r sv dv)) V → Below w.heap.size w V) := fun V hV => hbx.trans (hV.mono (by omega))
    clear h hr hf hbx hes he
    go_enter Tryz.func108, Tryz.ntmps108
    go_wp2
    have hS := HK.out _ (Below.refl _ _)
    go_region_held3 (fun V => (Below (w.heap.size + 1) (w.alloc (rcO r sv dv)) V ∧ V.cell? ⟨z.x, 4, none⟩ = some (.map (some z.m2)) ∧ V.cell? ⟨w.heap.size, 1, none⟩ = some (.int .i64 r.org) ∧ V.cell? ⟨w.heap.size, 2, none⟩ = some (.int .i64 r.num) ∧ (Instr.lookup 69 (.map (some z.m2)) (.agg #[.int .i64 r.org, .int .i64 r.num]) true).run Tryz.prog V = .ok (.tuple #[iV e.i (.slice au nu cu) (.slice av nv cv), .bool true]) V)) (first | exact HK.out _ (Below.drew (And.left (by assumption))) | exact HK.out _ (Below.alloc (And.left (by assumption)) (by simp) _) | exact HK.out _ (Below.setCell (p := ⟨_, _, none⟩) (And.left (by assumption)) (by simp) _) | exact HK.out _ (Below.drew (Below.alloc (Below.refl _ _) (by simp) _)) | exact HK.out _ (Below.alloc (Below.refl _ _) (by simp) _)) (fail)
    all_goals (rename_i hz; clear hz)
    clear hS
    all_goals go_wp2
    all_goals go_ret
    all_goals exact ⟨by simp [*], HB.out _ (Below.drew (Below.alloc (Below.refl _ _) (by simp) _))⟩
set_option maxRecDepth 8000 in
set_option maxHeartbeats 4000000 in
theorem undecided_any {w : World} {z : Tz} {T : T8} (h : Tw w z T) (s1 s2 : Int) (hr : sW (s1, s2)) : Calls Tryz.prog 138 #[tP z, .agg #[.int .i64 s1, .int .i64 s2]] w fun e w' => e = .returned (.bool (match T.fi (s1, s2) with | some i => !i.done && !i.gone | none => false)) ∧ Below w.heap.size w w' := by
  have hbx : Below w.heap.size w (w.alloc (.cells #[.int .i64 s1, .int .i64 s2] 31)) := (Below.refl _ _).alloc (Nat.le_refl _) _
  cases hf : T.fi ((s1, s2)) with
  | none =>
    have HK : Hid (∀ V : World, Below (w.heap.size + 1) (w.alloc (.cells #[.int .i64 s1, .int .i64 s2] 31)) V → (Below (w.heap.size + 1) (w.alloc (.cells #[.int .i64 s1, .int .i64 s2] 31)) V ∧ V.cell? ⟨z.x, 4, none⟩ = some (.map (some z.m2)) ∧ V.cell? ⟨w.heap.size, 0, none⟩ = some (.int .i64 s1) ∧ V.cell? ⟨w.heap.size, 1, none⟩ = some (.int .i64 s2) ∧ (Instr.lookup 69 (.map (some z.m2)) (.agg #[.int .i64 s1, .int .i64 s2]) true).run Tryz.prog V = .ok (.tuple #[iV0, .bool false]) V)) := fun V hV => by
      have hb := hbx.trans (hV.mono (by omega))
      have hc := (h.below hb).c
      have hp : V.heap[w.heap.size]? = some (.cells #[.int .i64 s1, .int .i64 s2] 31) := (hV.block _ (by omega)).trans (heap_alloc_new' w _)
      exact ⟨hV, hc.2.2.2.2.1, (cell_of_row _ _ _ _ _ _ hp).trans rfl, (cell_of_row _ _ _ _ _ _ hp).trans rfl, (h.below hb).lookI0 hr hf true⟩
    have HB : Hid (∀ V : World, Below (w.heap.size + 1) (w.alloc (.cells #[.int .i64 s1, .int .i64 s2] 31)) V → Below w.heap.size w V) := fun V hV => hbx.trans (hV.mono (by omega))
    clear h hr hf hbx
    go_enter Tryz.func138, Tryz.ntmps138
    go_wp2
    have hS := HK.out _ (Below.refl _ _)
    go_region_held3 (fun V => (Below (w.heap.size + 1) (w.alloc (.cells #[.int .i64 s1, .int .i64 s2] 31)) V ∧ V.cell? ⟨z.x, 4, none⟩ = some (.map (some z.m2)) ∧ V.cell? ⟨w.heap.size, 0, none⟩ = some (.int .i64 s1) ∧ V.cell? ⟨w.heap.size, 1, none⟩ = some (.int .i64 s2) ∧ (Instr.lookup 69 (.map (some z.m2)) (.agg #[.int .i64 s1, .int .i64 s2]) true).run Tryz.prog V = .ok (.tuple #[iV0, .bool false]) V)) (first | exact HK.out _ (Below.drew (And.left (by assumption))) | exact HK.out _ (Below.alloc (And.left (by assumption)) (by simp) _) | exact HK.out _ (Below.setCell (p := ⟨_, _, none⟩) (And.left (by assumption)) (by simp) _) | exact HK.out _ (Below.drew (Below.alloc (Below.refl _ _) (by simp) _)) | exact HK.out _ (Below.alloc (Below.refl _ _) (by simp) _)) (fail)
    all_goals (rename_i hz; clear hz)
    clear hS
    all_goals go_wp2
    all_goals go_ret
    all_goals exact ⟨by simp [*], HB.out _ (Below.drew (Below.alloc (Below.refl _ _) (by simp) _))⟩
  | some o =>
    obtain ⟨e, he, rfl, hes, _⟩ := h.lookI1 hf
    obtain ⟨av, nv, cv, ev⟩ := own_sl8 (h.pI.r e he).1.1
    obtain ⟨au, nu, cu, eu⟩ := own_sl8 (h.pI.r e he).2.1
    have HK : Hid (∀ V : World, Below (w.heap.size + 1) (w.alloc (.cells #[.int .i64 s1, .int .i64 s2] 31)) V → (Below (w.heap.size + 1) (w.alloc (.cells #[.int .i64 s1, .int .i64 s2] 31)) V ∧ V.cell? ⟨z.x, 4, none⟩ = some (.map (some z.m2)) ∧ V.cell? ⟨w.heap.size, 0, none⟩ = some (.int .i64 s1) ∧ V.cell? ⟨w.heap.size, 1, none⟩ = some (.int .i64 s2) ∧ (Instr.lookup 69 (.map (some z.m2)) (.agg #[.int .i64 s1, .int .i64 s2]) true).run Tryz.prog V = .ok (.tuple #[iV e.i (.slice au nu cu) (.slice av nv cv), .bool true]) V)) := fun V hV => by
      have hb := hbx.trans (hV.mono (by omega))
      have hc := (h.below hb).c
      have hp : V.heap[w.heap.size]? = some (.cells #[.int .i64 s1, .int .i64 s2] 31) := (hV.block _ (by omega)).trans (heap_alloc_new' w _)
      exact ⟨hV, hc.2.2.2.2.1, (cell_of_row _ _ _ _ _ _ hp).trans rfl, (cell_of_row _ _ _ _ _ _ hp).trans rfl, eu ▸ ev ▸ lookIE (s := (s1, s2)) (h.below hb) he hes true⟩
    have HB : Hid (∀ V : World, Below (w.heap.size + 1) (w.alloc (.cells #[.int .i64 s1, .int .i64 s2] 31)) V → Below w.heap.size w V) := fun V hV => hbx.trans (hV.mono (by omega))
    clear h hr hf hbx hes he
    go_enter Tryz.func138, Tryz.ntmps138
    go_wp2
    have hS := HK.out _ (Below.refl _ _)
    go_region_held3 (fun V => (Below (w.heap.size + 1) (w.alloc (.cells #[.int .i64 s1, .int .i64 s2] 31)) V ∧ V.cell? ⟨z.x, 4, none⟩ = some (.map (some z.m2)) ∧ V.cell? ⟨w.heap.size, 0, none⟩ = some (.int .i64 s1) ∧ V.cell? ⟨w.heap.size, 1, none⟩ = some (.int .i64 s2) ∧ (Instr.lookup 69 (.map (some z.m2)) (.agg #[.int .i64 s1, .int .i64 s2]) true).run Tryz.prog V = .ok (.tuple #[iV e.i (.slice au nu cu) (.slice av nv cv), .bool true]) V)) (first | exact HK.out _ (Below.drew (And.left (by assumption))) | exact HK.out _ (Below.alloc (And.left (by assumption)) (by simp) _) | exact HK.out _ (Below.setCell (p := ⟨_, _, none⟩) (And.left (by assumption)) (by simp) _) | exact HK.out _ (Below.drew (Below.alloc (Below.refl _ _) (by simp) _)) | exact HK.out _ (Below.alloc (Below.refl _ _) (by simp) _)) (fail)
    all_goals (rename_i hz; clear hz)
    clear hS
    all_goals go_wp2
    all_goals go_ret
    all_goals exact ⟨by simp [*], HB.out _ (Below.drew (Below.alloc (Below.refl _ _) (by simp) _))⟩
end Go.Proofs.YtillgoegiplmkaaGreatDoor.B
