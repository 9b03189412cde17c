import Derived.Test.YtillgoegiplmkaaGreatDoorTbCk
import Derived.Test.YtillgoegiplmkaaGreatDoorTbDb
import Derived.Deep.RegionHeld3
import Derived.Test.YtillgoegiplmkaaGreatDoorRcPrt
import Derived.Test.YtillgoegiplmkaaGreatDoorTbCg
namespace Go.Proofs.YtillgoegiplmkaaGreatDoor.B
open C
open Go.RowKit Go.Maps
set_option linter.unusedVariables false
set_option linter.unusedSimpArgs false

/-- The cells of a record's box. -/
def RcS (w : World) (r : Rc) (sv dv : Value) (V : World) : Prop := V.cell? ⟨w.heap.size, 0, none⟩ = some (.int .i64 r.kind) ∧ V.cell? ⟨w.heap.size, 1, none⟩ = some (.int .i64 r.org) ∧ V.cell? ⟨w.heap.size, 2, none⟩ = some (.int .i64 r.num) ∧ V.cell? ⟨w.heap.size, 3, none⟩ = some (.int .i64 r.peer) ∧ V.cell? ⟨w.heap.size, 4, none⟩ = some (.int .i64 r.srv) ∧ V.cell? ⟨w.heap.size, 5, none⟩ = some (.int .i64 r.off) ∧ V.cell? ⟨w.heap.size, 6, none⟩ = some (.int .i64 r.red) ∧ V.cell? ⟨w.heap.size, 7, none⟩ = some (.int .i64 r.size) ∧ V.cell? ⟨w.heap.size, 8, none⟩ = some (.int .i64 r.how) ∧ V.cell? ⟨w.heap.size, 9, none⟩ = some sv ∧ V.cell? ⟨w.heap.size, 10, none⟩ = some dv
theorem RcS.of {w V : World} {r : Rc} {sv dv : Value} (h : V.heap[w.heap.size]? = some (rcO r sv dv)) : RcS w r sv dv V := by
  refine ⟨?_, ?_, ?_, ?_, ?_, ?_, ?_, ?_, ?_, ?_, ?_⟩ <;> exact (cell_of_row _ _ _ _ _ _ h).trans rfl
set_option maxRecDepth 8000 in
set_option maxHeartbeats 4000000 in
theorem apply_no {w : World} {z : Tz} (r : Rc) (s0 da : Option Addr) (ns sc nd dc : Nat) (E : Int) (hE : ¬ E = 0)
    (hcan : ∀ W : World, Below w.heap.size w W → Calls Tryz.prog 12 #[tP z, .agg (rcC r (.slice s0 ns sc) (.slice da nd dc))] W fun e w' => e = .returned (.int .i64 E) ∧ Below W.heap.size W w') :
    Calls Tryz.prog 19 #[tP z, .agg (rcC r (.slice s0 ns sc) (.slice da nd dc))] w fun e w' => e = .returned (.int .i64 E) ∧ Below w.heap.size w w' := by
  have hbx : Below w.heap.size w (w.alloc (rcO r (.slice s0 ns sc) (.slice da nd dc))) := (Below.refl _ _).alloc (Nat.le_refl _) _
  have HC : Hid (Calls Tryz.prog 12 #[tP z, .agg (rcC r (.slice s0 ns sc) (.slice da nd dc))] (w.alloc (rcO r (.slice s0 ns sc) (.slice da nd dc))) fun e w' => e = .returned (.int .i64 E) ∧ Below w.heap.size w w') := (hcan _ hbx).mono fun e w' q => ⟨q.1, bt hbx (Nat.le_refl _) q.2⟩
  have hp : ((w.alloc (rcO r (.slice s0 ns sc) (.slice da nd dc)))).heap[w.heap.size]? = some (rcO r (.slice s0 ns sc) (.slice da nd dc)) := heap_alloc_new' w _
  obtain ⟨k0, k1, k2, k3, k4, k5, k6, k7, k8, k9, k10⟩ := rc_cells hp
  have hE2 : (E != 0) = true := by simp [hE]
  clear hp hcan hbx
  go_enter Tryz.func19, Tryz.ntmps19
  go_wp2_with (go_at_call 12; refine HC.out.mono ?_; rintro e w' ⟨rfl, hb⟩)
  go_ret
  exact ⟨rfl, hb⟩
set_option maxRecDepth 8000 in
set_option maxHeartbeats 4000000 in
theorem apply_gen {w : World} {z : Tz} (r : Rc) (s0 da : Option Addr) (ns sc nd dc : Nat) (fc ft : Nat) (Q : World → Prop) (F : Nat → Prop) (hF : ∀ g, F g → g < w.heap.size)
    (hcan : ∀ W : World, Below w.heap.size w W → Calls Tryz.prog 12 #[tP z, .agg (rcC r (.slice s0 ns sc) (.slice da nd dc))] W fun e w' => e = .returned (.int .i64 0) ∧ Below W.heap.size W w')
    (hrow : ∀ W : World, Calls Tryz.prog 54 #[.int .i64 r.kind] W fun e w' => e = .returned (.agg #[fv fc, fv ft]) ∧ Below W.heap.size W w')
    (hent : ∀ args w, (callFunc ft args).run Tryz.prog w = .ok (.enter ft args) w)
    (hthen : ∀ W : World, Below w.heap.size w W → Calls Tryz.prog ft #[tP z, .agg (rcC r (.slice s0 ns sc) (.slice da nd dc))] W fun e w' => e = .returned (.tuple #[]) ∧ Kl F W w' ∧ Q w') :
    Calls Tryz.prog 19 #[tP z, .agg (rcC r (.slice s0 ns sc) (.slice da nd dc))] w fun e w' => e = .returned (.int .i64 0) ∧ Q w' := by
  have hbx : Below w.heap.size w (w.alloc (rcO r (.slice s0 ns sc) (.slice da nd dc))) := (Below.refl _ _).alloc (Nat.le_refl _) _
  have HC : Hid (Calls Tryz.prog 12 #[tP z, .agg (rcC r (.slice s0 ns sc) (.slice da nd dc))] (w.alloc (rcO r (.slice s0 ns sc) (.slice da nd dc))) fun e w' => e = .returned (.int .i64 0) ∧ Below (w.heap.size + 1) (w.alloc (rcO r (.slice s0 ns sc) (.slice da nd dc))) w') := (hcan _ hbx).mono fun e w' q => ⟨q.1, by have := q.2; rwa [World.size_alloc] at this⟩
  have hp : ((w.alloc (rcO r (.slice s0 ns sc) (.slice da nd dc)))).heap[w.heap.size]? = some (rcO r (.slice s0 ns sc) (.slice da nd dc)) := heap_alloc_new' w _
  have HB : Hid (∀ V : World, Below (w.heap.size + 1) (w.alloc (rcO r (.slice s0 ns sc) (.slice da nd dc))) V → Below w.heap.size w V) := fun V hV => hbx.trans (hV.mono (by omega))
  have HS : Hid (∀ V : World, Below (w.heap.size + 1) (w.alloc (rcO r (.slice s0 ns sc) (.slice da nd dc))) V → RcS w r (.slice s0 ns sc) (.slice da nd dc) V) := fun V hV => RcS.of ((hV.block _ (by omega)).trans hp)
  have HR : Hid (∀ V : World, Below (w.heap.size + 1) (w.alloc (rcO r (.slice s0 ns sc) (.slice da nd dc))) V → Calls Tryz.prog 54 #[.int .i64 r.kind] V fun e w' => e = .returned (.agg #[fv fc, fv ft]) ∧ Below (w.heap.size + 1) (w.alloc (rcO r (.slice s0 ns sc) (.slice da nd dc))) w') := fun V hV => (hrow V).mono fun e w' q => ⟨q.1, bt hV (by simp) q.2⟩
  have HT : Hid (∀ V : World, Below (w.heap.size + 1) (w.alloc (rcO r (.slice s0 ns sc) (.slice da nd dc))) V → Calls Tryz.prog ft #[tP z, .agg (rcC r (.slice s0 ns sc) (.slice da nd dc))] V fun e w' => e = .returned (.tuple #[]) ∧ RcS w r (.slice s0 ns sc) (.slice da nd dc) w' ∧ Q w') := fun V hV => (hthen V (HB.out V hV)).mono fun e w' q => ⟨q.1, RcS.of ((q.2.1.block _ (by have := hV.size; simp at this; omega) (fun e => by have := hF _ e; omega)).trans ((hV.block _ (by omega)).trans hp)), q.2.2⟩
  obtain ⟨k0, k1, k2, k3, k4, k5, k6, k7, k8, k9, k10⟩ := rc_cells hp
  have hfl : ∀ V : World, (Instr.field 103 (.agg #[fv fc, fv ft]) 1).run Tryz.prog V = .ok (fv ft) V := fun V => by kernel_rfl
  clear hp hcan hbx hthen hrow HB hF
  go_enter Tryz.func19, Tryz.ntmps19
  go_upto_region 4 with (go_at_call 12; refine HC.out.mono ?_; rintro e w1 ⟨rfl, hb⟩)
  clear k0 k1 k2 k3 k4 k5 k6 k7 k8 k9 k10
  have hb1 := hb.drew
  have hS0 := HS.out _ hb
  have hS1 := HS.out _ hb1
  go_region_held3 (fun V => V.cell? ⟨w.heap.size, 0, none⟩ = some (.int .i64 r.kind) ∧ V.cell? ⟨w.heap.size, 1, none⟩ = some (.int .i64 r.org) ∧ V.cell? ⟨w.heap.size, 2, none⟩ = some (.int .i64 r.num) ∧ V.cell? ⟨w.heap.size, 3, none⟩ = some (.int .i64 r.peer) ∧ V.cell? ⟨w.heap.size, 4, none⟩ = some (.int .i64 r.srv) ∧ V.cell? ⟨w.heap.size, 5, none⟩ = some (.int .i64 r.off) ∧ V.cell? ⟨w.heap.size, 6, none⟩ = some (.int .i64 r.red) ∧ V.cell? ⟨w.heap.size, 7, none⟩ = some (.int .i64 r.size) ∧ V.cell? ⟨w.heap.size, 8, none⟩ = some (.int .i64 r.how) ∧ V.cell? ⟨w.heap.size, 9, none⟩ = some (.slice s0 ns sc) ∧ V.cell? ⟨w.heap.size, 10, none⟩ = some (.slice da nd dc)) (first | exact hS0 | exact hS1 | exact hS3 | exact HS.out _ hb2)
    (first
      | (go_at_call 54
         refine (HR.out _ hb1).mono ?_
         rintro e w2 ⟨rfl, hb2⟩)
      | (refine (HT.out _ hb2).mono ?_
         rintro e w3 ⟨rfl, hS3, hQ⟩))
  all_goals go_wp2
  all_goals go_ret
  all_goals exact ⟨rfl, hQ⟩
end Go.Proofs.YtillgoegiplmkaaGreatDoor.B

namespace Go.Proofs.YtillgoegiplmkaaGreatDoor.B
open C
open Go.RowKit Go.Maps
set_option linter.unusedVariables false
set_option linter.unusedSimpArgs false

def OpS (w : World) (z : Tz) (r : Rc) (da : Option Addr) (nd dc : Nat) (V : World) : Prop := V.cell? ⟨z.x, 3, none⟩ = some (.map (some z.m1)) ∧ V.cell? ⟨w.heap.size, 1, none⟩ = some (.int .i64 r.org) ∧ V.cell? ⟨w.heap.size, 2, none⟩ = some (.int .i64 r.num) ∧ V.cell? ⟨w.heap.size, 3, none⟩ = some (.int .i64 r.peer) ∧ V.cell? ⟨w.heap.size, 4, none⟩ = some (.int .i64 r.srv) ∧ V.cell? ⟨w.heap.size, 6, none⟩ = some (.int .i64 r.red) ∧ V.cell? ⟨w.heap.size, 7, none⟩ = some (.int .i64 r.size) ∧ V.cell? ⟨w.heap.size, 10, none⟩ = some (.slice da nd dc)
theorem OpS.of {w V : World} {z : Tz} {T : T8} {r : Rc} {sv : Value} {da : Option Addr} {nd dc : Nat} (hT : V.heap[z.x]? = some (.cells #[.int .i64 T.id, .int .i64 T.boots, .int .i64 T.next, .map (some z.m1), .map (some z.m2), .map (some z.m3)] 72 (0, 0))) (h : V.heap[w.heap.size]? = some (rcO r sv (.slice da nd dc))) : OpS w z r da nd dc V := by
  refine ⟨(cell_of_row _ _ _ _ _ _ hT).trans rfl, ?_, ?_, ?_, ?_, ?_, ?_, ?_⟩ <;> exact (cell_of_row _ _ _ _ _ _ h).trans rfl
set_option maxRecDepth 8000 in
set_option maxHeartbeats 4000000 in
theorem open_then {w : World} {z : Tz} {T : T8} (h : Tw w z T) (r : Rc) (hr : sW (sR r)) (hn : r.num < mxN) (hn0 : 1 ≤ r.num) (sv : Value) (da : Option Addr) (nd dc : Nat) (hnd : r.data.length = nd) (hl : Lies .u8 w da r.data) (h0 : da = none → nd = 0 ∧ dc = 0) (hm : nd ≤ 1048576) : Calls Tryz.prog 95 #[tP z, .agg (rcC r sv (.slice da nd dc))] w (ThP z { T with ex := ins ltS Og.s (⟨r.org, r.num, r.peer, r.srv, r.red, r.size, r.data, false, 0⟩ : Og) T.ex, next := r.num + 1 } w) := by
  have hbx : Below w.heap.size w (w.alloc (rcO r sv (.slice da nd dc))) := (Below.refl _ _).alloc (Nat.le_refl _) _
  have hp : ((w.alloc (rcO r sv (.slice da nd dc)))).heap[w.heap.size]? = some (rcO r sv (.slice da nd dc)) := heap_alloc_new' w _
  have hT := h.below hbx
  obtain ⟨W, hW⟩ : ∃ W, (w.alloc (rcO r sv (.slice da nd dc))) = W := ⟨_, rfl⟩
  have HW : Hid ((w.alloc (rcO r sv (.slice da nd dc))) = W) := hW
  have hsz : W.heap.size = w.heap.size + 1 := by rw [← hW]; simp
  rw [hW] at hbx hp hT
  have HC : Hid (∀ V : World, Below W.heap.size W V → Calls Tryz.prog 62 #[.slice da nd dc] V fun e w' => ∃ a c, e = .returned (.slice a nd c) ∧ Below W.heap.size W w' ∧ OpS w z r da nd dc w' ∧ ∃ w2 z', (Instr.mapUpdate 68 (.map (some z.m1)) (.agg #[.int .i64 r.org, .int .i64 r.num]) (.agg #[.int .i64 r.org, .int .i64 r.num, .int .i64 r.peer, .int .i64 r.srv, .int .i64 r.red, .int .i64 r.size, .slice a nd c, .bool false, .int .i64 0])).run Tryz.prog w' = .ok () w2 ∧ OpS w z r da nd dc w2 ∧ Tw w2 z' { T with ex := ins ltS Og.s (⟨r.org, r.num, r.peer, r.srv, r.red, r.size, r.data, false, 0⟩ : Og) T.ex } ∧ Up z z' w w2) := fun V hV => (cloneB_any da dc r.data nd hnd V (hl.below (hbx.trans (hV.mono hbx.size))) h0 hm).mono fun e w' q => by
    obtain ⟨v, rfl, q2, q3⟩ := q
    obtain ⟨a, c, rfl⟩ := own_shape q2
    have hbw : Below W.heap.size W w' := hV.trans (q3.mono hV.size)
    have hbw2 : Below w.heap.size w w' := hbx.trans (hbw.mono hbx.size)
    have hp' : w'.heap[w.heap.size]? = some (rcO r sv (.slice da nd dc)) := (hbw.block _ (by omega)).trans hp
    have q4 : BO w' (.slice a r.data.length c) r.data := ⟨q2.1, q2.2.imp id (fun ⟨g, cap, cur, e1, e2, e3⟩ => ⟨g, cap, cur, e1, Nat.zero_le _, e3⟩)⟩
    obtain ⟨w2, z', r1, r2, r3⟩ := h.putX (o := (⟨r.org, r.num, r.peer, r.srv, r.red, r.size, r.data, false, 0⟩ : Og)) (v := .slice a r.data.length c) hbw2 hr q4 (fun g hg => .inr (by have := (q2.lt g hg).1; have := hV.size; omega))
    have hkl := updX_kl Tryz.underlying68 (h.below hbw2).pX.mp hr r1
    have hm1 : z.m1 < w.heap.size := h.ltp h.pX.pm
    have hxm : z.x ≠ z.m1 := fun q => by have := h.px; rw [q, h.pX.pm] at this; cases this
    have hx' := (h.below hbw2).box
    have hsz' := hbw2.size
    rw [hnd] at r1
    exact ⟨a, c, by rw [hnd], hbw, OpS.of (T := T) hx' hp', w2, z', r1, OpS.of (T := T) ((hkl.block _ (by have := h.ltp h.px; omega) hxm).trans hx') ((hkl.block _ (by have := hbw.size; omega) (by omega)).trans hp'), r2, r3⟩
  have hS0 : OpS w z r da nd dc W := OpS.of (T := T) hT.box hp
  have HB0 : Hid (Below W.heap.size W W.drew) := (Below.refl _ _).drew
  obtain ⟨c0, c1, c2, c3, c4, c5⟩ := hT.c
  obtain ⟨k0, k1, k2, k3, k4, k5, k6, k7, k8, k9, k10⟩ := rc_cells hp
  have hxl := h.ltp h.px
  have HX : Hid (∀ (w2 : World) (z' : Tz), Tw w2 z' { T with ex := ins ltS Og.s (⟨r.org, r.num, r.peer, r.srv, r.red, r.size, r.data, false, 0⟩ : Og) T.ex } → Up z z' w w2 → Tw (w2.setCell ⟨z.x, 2, none⟩ (.int .i64 (r.num + 1))) z' { T with ex := ins ltS Og.s (⟨r.org, r.num, r.peer, r.srv, r.red, r.size, r.data, false, 0⟩ : Og) T.ex, next := r.num + 1 } ∧ Up z z' w (w2.setCell ⟨z.x, 2, none⟩ (.int .i64 (r.num + 1))) ∧ w2.frozen? ⟨z.x, 2, none⟩ = false ∧ w2.cell? ⟨z.x, 2, none⟩ = some (.int .i64 T.next)) := fun w2 z' a1 a2 => by
    have e := a2.x
    obtain ⟨q1, q2⟩ := a1.set1 (T' := { T with ex := ins ltS Og.s (⟨r.org, r.num, r.peer, r.srv, r.red, r.size, r.data, false, 0⟩ : Og) T.ex, next := r.num + 1 }) (Below.refl _ _) (Kl.set w2 z'.x 2 (.int .i64 (r.num + 1))) ((heap_setCell_same _ _ _ _ _ _ a1.box).trans rfl) rfl rfl rfl
    have f := a1.frz 2
    have c := a1.c.2.2.1
    rw [e] at q1 q2 f c
    exact ⟨q1, a2.trans q2, f, c⟩
  have u1 : IntKind.i64.wrap (r.num + 1) = r.num + 1 := by have : r.num < 4611686018427387903 := hn; rw [IntKind.wrap_i64]; omega
  clear h hT hW hbx hp hl hnd hsz hr
  go_enter Tryz.func95, Tryz.ntmps95
  go_upto_region 1 with fail
  rw [HW.out]
  have hS1 : OpS w z r da nd dc W.drew := hS0
  go_region_held3 (fun V => V.cell? ⟨z.x, 3, none⟩ = some (.map (some z.m1)) ∧ V.cell? ⟨w.heap.size, 1, none⟩ = some (.int .i64 r.org) ∧ V.cell? ⟨w.heap.size, 2, none⟩ = some (.int .i64 r.num) ∧ V.cell? ⟨w.heap.size, 3, none⟩ = some (.int .i64 r.peer) ∧ V.cell? ⟨w.heap.size, 4, none⟩ = some (.int .i64 r.srv) ∧ V.cell? ⟨w.heap.size, 6, none⟩ = some (.int .i64 r.red) ∧ V.cell? ⟨w.heap.size, 7, none⟩ = some (.int .i64 r.size) ∧ V.cell? ⟨w.heap.size, 10, none⟩ = some (.slice da nd dc)) (first | exact hS0 | exact hS1 | exact hS2 | exact hS3)
    (first | (go_at_call 62
              refine (HC.out _ HB0.out).mono ?_
              rintro e w1 ⟨a, c, rfl, hb1, hS2, w2, z', hrun, hS3, hT2, hU2⟩
              have HTU : Hid (Tw w2 z' { T with ex := ins ltS Og.s (⟨r.org, r.num, r.peer, r.srv, r.red, r.size, r.data, false, 0⟩ : Og) T.ex } ∧ Up z z' w w2) := ⟨hT2, hU2⟩
              clear hT2 hU2))
  all_goals (
    obtain ⟨_, g1, g2, _⟩ := hS3
    obtain ⟨t1, t2, t3, t4⟩ := HX.out _ _ HTU.out.1 HTU.out.2
    have HF : Hid (Tw (w2.setCell ⟨z.x, 2, none⟩ (.int .i64 (r.num + 1))) z' { T with ex := ins ltS Og.s (⟨r.org, r.num, r.peer, r.srv, r.red, r.size, r.data, false, 0⟩ : Og) T.ex, next := r.num + 1 } ∧ Up z z' w (w2.setCell ⟨z.x, 2, none⟩ (.int .i64 (r.num + 1)))) := ⟨t1, t2⟩
    clear t1 t2
    go_wp2
    go_end0
    exact ⟨rfl, z', HF.out⟩)
end Go.Proofs.YtillgoegiplmkaaGreatDoor.B

namespace Go.Proofs.YtillgoegiplmkaaGreatDoor.B
open C
open Go.RowKit Go.Maps
set_option linter.unusedVariables false
set_option linter.unusedSimpArgs false

set_option maxRecDepth 8000 in
set_option maxHeartbeats 4000000 in
theorem end_then {w : World} {z : Tz} {T : T8} (h : Tw w z T) (r : Rc) (hr : sW (sR r)) {o : Og} (hf : T.fe (sR r) = some o) (sv dv : Value) : Calls Tryz.prog 97 #[tP z, .agg (rcC r sv dv)] w (ThP z ({ T with ex := ins ltS Og.s { o with ended := true, how := r.how } T.ex }) w) := by
  obtain ⟨W, hW⟩ : ∃ W, w.alloc (rcO r sv dv) = W := ⟨_, rfl⟩
  have HW : Hid (w.alloc (rcO r sv dv) = W) := hW
  have hbx : Below w.heap.size w W := by rw [← hW]; exact (Below.refl _ _).alloc (Nat.le_refl _) _
  have hbd : Below w.heap.size w W.drew := hbx.drew
  have hp : W.heap[w.heap.size]? = some (rcO r sv dv) := by rw [← hW]; exact heap_alloc_new' w _
  have hT := h.below hbx
  obtain ⟨c0, c1, c2, c3, c4, c5⟩ := hT.c
  obtain ⟨k0, k1, k2, k3, k4, k5, k6, k7, k8, k9, k10⟩ := rc_cells hp
  obtain ⟨e, he, rfl, hes, _⟩ := h.lookX1 hf
  obtain ⟨av, nv, cv, ev⟩ := own_sl8 (h.pX.r e he).1
  have hbz : Below w.heap.size w (W.alloc (.cells #[.int .i64 0, .int .i64 0, .int .i64 0, .int .i64 0, .int .i64 0, .int .i64 0, .slice none 0 0, .bool false, .int .i64 0] 110)).drew := (hbx.alloc hbx.size _).drew
  have hl : (Instr.lookup 68 (.map (some z.m1)) (.agg #[.int .i64 r.org, .int .i64 r.num]) false).run Tryz.prog W.drew = .ok (oV e.o (.slice av nv cv)) W.drew := by rw [← ev]; exact B.lookX_f (h.below hbd) he hes
  have hl2 : (Instr.lookup 68 (.map (some z.m1)) (.agg #[.int .i64 r.org, .int .i64 r.num]) false).run Tryz.prog (W.alloc (.cells #[.int .i64 0, .int .i64 0, .int .i64 0, .int .i64 0, .int .i64 0, .int .i64 0, .slice none 0 0, .bool false, .int .i64 0] 110)).drew = .ok (oV e.o (.slice av nv cv)) (W.alloc (.cells #[.int .i64 0, .int .i64 0, .int .i64 0, .int .i64 0, .int .i64 0, .int .i64 0, .slice none 0 0, .bool false, .int .i64 0] 110)).drew := by rw [← ev]; exact B.lookX_f (h.below hbz) he hes
  have hbz0 : Below w.heap.size w (W.alloc (.cells #[.int .i64 0, .int .i64 0, .int .i64 0, .int .i64 0, .int .i64 0, .int .i64 0, .slice none 0 0, .bool false, .int .i64 0] 110)) := hbx.alloc hbx.size _
  obtain ⟨y0, y1, y2, y3, y4, y5⟩ := (h.below hbz0).c
  have hpz : (W.alloc (.cells #[.int .i64 0, .int .i64 0, .int .i64 0, .int .i64 0, .int .i64 0, .int .i64 0, .slice none 0 0, .bool false, .int .i64 0] 110)).heap[w.heap.size]? = some (rcO r sv dv) := (Below.heap_alloc _ _ _ (by have := hbx.size; rw [← hW]; simp)).trans hp
  have x1 : (W.alloc (.cells #[.int .i64 0, .int .i64 0, .int .i64 0, .int .i64 0, .int .i64 0, .int .i64 0, .slice none 0 0, .bool false, .int .i64 0] 110)).cell? ⟨w.heap.size, 1, none⟩ = some (.int .i64 r.org) := (cell_of_row _ _ _ _ _ _ hpz).trans rfl
  have x2 : (W.alloc (.cells #[.int .i64 0, .int .i64 0, .int .i64 0, .int .i64 0, .int .i64 0, .int .i64 0, .slice none 0 0, .bool false, .int .i64 0] 110)).cell? ⟨w.heap.size, 2, none⟩ = some (.int .i64 r.num) := (cell_of_row _ _ _ _ _ _ hpz).trans rfl
  obtain ⟨g, hg⟩ : ∃ g, W.heap.size = g := ⟨_, rfl⟩
  have hwg : w.heap.size < g := by rw [← hg, ← hW]; simp
  obtain ⟨W1, hW1⟩ : ∃ W1, (W.alloc (.cells #[.int .i64 e.o.org, .int .i64 e.o.num, .int .i64 e.o.peer, .int .i64 e.o.srv, .int .i64 e.o.red, .int .i64 e.o.size, .slice av nv cv, .bool e.o.ended, .int .i64 e.o.how] 110)).drew = W1 := ⟨_, rfl⟩
  have HW1 : Hid ((W.alloc (.cells #[.int .i64 e.o.org, .int .i64 e.o.num, .int .i64 e.o.peer, .int .i64 e.o.srv, .int .i64 e.o.red, .int .i64 e.o.size, .slice av nv cv, .bool e.o.ended, .int .i64 e.o.how] 110)).drew = W1) := hW1
  have hb1 : Below w.heap.size w W1 := by rw [← hW1]; exact (hbx.alloc hbx.size _).drew
  have hq1 : W1.heap[g]? = some (.cells #[.int .i64 e.o.org, .int .i64 e.o.num, .int .i64 e.o.peer, .int .i64 e.o.srv, .int .i64 e.o.red, .int .i64 e.o.size, .slice av nv cv, .bool e.o.ended, .int .i64 e.o.how] 110) := by rw [← hW1, ← hg]; exact heap_alloc_new' W _
  have hp1 : W1.heap[w.heap.size]? = some (rcO r sv dv) := by rw [← hW1]; exact (Below.heap_alloc _ _ _ (by omega)).trans hp
  have z7 : W1.cell? ⟨g, 7, none⟩ = some (.bool e.o.ended) := (cell_of_row _ _ _ _ _ _ hq1).trans rfl
  have z8 : W1.cell? ⟨g, 8, none⟩ = some (.int .i64 e.o.how) := (cell_of_row _ _ _ _ _ _ hq1).trans rfl
  have f7 : W1.frozen? ⟨g, 7, none⟩ = false := by simp [World.frozen?, hq1]
  have f8 : W1.frozen? ⟨g, 8, none⟩ = false := by simp [World.frozen?, hq1]
  have y8 : W1.cell? ⟨w.heap.size, 8, none⟩ = some (.int .i64 r.how) := (cell_of_row _ _ _ _ _ _ hp1).trans rfl
  have hwg2 : ¬ w.heap.size = g := by omega
  have qq0 := heap_setCell_same W1 g 7 _ _ (.bool true) hq1
  have qq1 := heap_setCell_same (W1.setCell ⟨g, 7, none⟩ (.bool true)) g 8 _ _ (.int .i64 r.how) qq0
  have hq2 : (((W1.setCell ⟨g, 7, none⟩ (.bool true)).setCell ⟨g, 8, none⟩ (.int .i64 r.how)).drew).heap[g]? = some (.cells #[.int .i64 e.o.org, .int .i64 e.o.num, .int .i64 e.o.peer, .int .i64 e.o.srv, .int .i64 e.o.red, .int .i64 e.o.size, .slice av nv cv, .bool true, .int .i64 r.how] 110) := qq1.trans rfl
  have hb2 : Below w.heap.size w (((W1.setCell ⟨g, 7, none⟩ (.bool true)).setCell ⟨g, 8, none⟩ (.int .i64 r.how)).drew) := (Below.setCell (p := ⟨g, 8, none⟩) (Below.setCell (p := ⟨g, 7, none⟩) hb1 (by simp only; omega) (.bool true)) (by simp only; omega) (.int .i64 r.how)).drew
  have hp2 : (((W1.setCell ⟨g, 7, none⟩ (.bool true)).setCell ⟨g, 8, none⟩ (.int .i64 r.how)).drew).heap[w.heap.size]? = some (rcO r sv dv) := ((heap_setCell_other _ _ _ _ (by simp only; omega)).trans (heap_setCell_other _ _ _ _ (by simp only; omega))).trans hp1
  obtain ⟨W2, hW2⟩ : ∃ W2, (((W1.setCell ⟨g, 7, none⟩ (.bool true)).setCell ⟨g, 8, none⟩ (.int .i64 r.how)).drew) = W2 := ⟨_, rfl⟩
  have HW2 : Hid ((((W1.setCell ⟨g, 7, none⟩ (.bool true)).setCell ⟨g, 8, none⟩ (.int .i64 r.how)).drew) = W2) := hW2
  rw [hW2] at hq2 hb2 hp2
  have hb3 : Below w.heap.size w W2.drew := hb2.drew
  have hrd := (h.pX.r e he).1
  obtain ⟨w3, z', hrun, hT3, hU3⟩ := h.putX (o := { e.o with ended := true, how := r.how }) (v := e.v) hb3 (by show sW e.o.s; rw [hes]; exact hr) (own_at hrd (fun x hx => hb3.block x (own_lt hrd hx))) (fun x hx => .inl ⟨e, he, rfl, hx⟩)
  have hrun : (Instr.mapUpdate 68 (.map (some z.m1)) (.agg #[.int .i64 r.org, .int .i64 r.num]) (.agg #[.int .i64 e.o.org, .int .i64 e.o.num, .int .i64 e.o.peer, .int .i64 e.o.srv, .int .i64 e.o.red, .int .i64 e.o.size, .slice av nv cv, .bool true, .int .i64 r.how])).run Tryz.prog W2.drew = .ok () w3 := by
    have q : (e.o.org, e.o.num) = sR r := hes
    have q1 : r.org = e.o.org := (congrArg Prod.fst q).symm
    have q2 : r.num = e.o.num := (congrArg Prod.snd q).symm
    rw [q1, q2, ← ev]
    exact hrun
  have HT : Hid (Tw w3 z' { T with ex := ins ltS Og.s { e.o with ended := true, how := r.how } T.ex } ∧ Up z z' w w3) := ⟨hT3, hU3⟩
  obtain ⟨d0, d1, d2, d3, d4, d5⟩ := (h.below hb2).c
  obtain ⟨m0, m1, m2, m3, m4, m5, m6, m7, m8, m9, m10⟩ := rc_cells hp2
  have i0 : W2.cell? ⟨g, 0, none⟩ = some (.int .i64 e.o.org) := (cell_of_row _ _ _ _ _ _ hq2).trans rfl
  have i1 : W2.cell? ⟨g, 1, none⟩ = some (.int .i64 e.o.num) := (cell_of_row _ _ _ _ _ _ hq2).trans rfl
  have i2 : W2.cell? ⟨g, 2, none⟩ = some (.int .i64 e.o.peer) := (cell_of_row _ _ _ _ _ _ hq2).trans rfl
  have i3 : W2.cell? ⟨g, 3, none⟩ = some (.int .i64 e.o.srv) := (cell_of_row _ _ _ _ _ _ hq2).trans rfl
  have i4 : W2.cell? ⟨g, 4, none⟩ = some (.int .i64 e.o.red) := (cell_of_row _ _ _ _ _ _ hq2).trans rfl
  have i5 : W2.cell? ⟨g, 5, none⟩ = some (.int .i64 e.o.size) := (cell_of_row _ _ _ _ _ _ hq2).trans rfl
  have i6 : W2.cell? ⟨g, 6, none⟩ = some (.slice av nv cv) := (cell_of_row _ _ _ _ _ _ hq2).trans rfl
  have i7 : W2.cell? ⟨g, 7, none⟩ = some (.bool true) := (cell_of_row _ _ _ _ _ _ hq2).trans rfl
  have i8 : W2.cell? ⟨g, 8, none⟩ = some (.int .i64 r.how) := (cell_of_row _ _ _ _ _ _ hq2).trans rfl
  have HG : Hid (W.heap.size = g) := hg
  clear h hT hW hbx hbd hp hT3 hU3 hW1 hW2 hb1 hb2 hb3 hq1 hq2 hp1 hp2 hrd he hes hf hbz hbz0 hpz hg ev qq0 qq1
  go_enter Tryz.func97, Tryz.ntmps97
  go_wp2
  rw [HW.out]
  go_region
  all_goals rw [HW1.out, HG.out]
  all_goals go_wp2
  all_goals go_region
  all_goals rw [HW2.out]
  all_goals go_wp2
  all_goals go_region
  all_goals go_wp2
  all_goals go_end0
  all_goals exact ⟨rfl, z', HT.out⟩
set_option maxRecDepth 8000 in
set_option maxHeartbeats 4000000 in
theorem buryAll_then {w : World} {z : Tz} {T : T8} (h : Tw w z T) (hok : T.Ok) (r : Rc) (sa : Option Addr) (ns sc : Nat) (dv : Value) (hl : Ls w (.slice sa ns sc) r.spans) (hl1 : Rt 1 r.spans) (hl2 : r.spans.length ≤ 500) : Calls Tryz.prog 111 #[tP z, .agg (rcC r (.slice sa ns sc) dv)] w (ThP z (T.bury r.size r.spans) w) := by
  have hbx : Below w.heap.size w (w.alloc (rcO r (.slice sa ns sc) dv)) := (Below.refl _ _).alloc (Nat.le_refl _) _
  have HB : Hid (Calls Tryz.prog 142 #[tP z, .int .i64 r.size, .slice sa ns sc] (w.alloc (rcO r (.slice sa ns sc) dv)) fun e' w' => e' = .returned (.tuple #[]) ∧ ∃ z', Tw w' z' (T.bury r.size r.spans) ∧ Up z z' w w') := (bury_any (h.below hbx) hok r.size sa ns sc (hl.below hbx) hl1 hl2).mono fun e' w' ⟨q1, z', q2, q3⟩ => ⟨q1, z', q2, (Up.below hbx).trans q3⟩
  clear h hok hl hl1 hl2 hbx
  go_enter Tryz.func111, Tryz.ntmps111
  go_wp2_with (go_at_call 142; refine HB.out.mono ?_; rintro e' w' ⟨rfl, HT⟩)
  go_end0
  exact ⟨rfl, HT⟩
/-- A new table. -/
def zNew (n : Nat) : Tz := ⟨n + 3, n, n + 1, n + 2, 0, 0, 0, [], [], [], fun g => if g = n + 3 then some (1, (0, 0)) else if g = n then some (2, (0, 0)) else if g = n + 1 then some (3, (0, 0)) else if g = n + 2 then some (4, (0, 0)) else none⟩
set_option maxRecDepth 8000 in
set_option maxHeartbeats 4000000 in
theorem new8_any (w : World) : Calls Tryz.prog 9 #[] w fun e w' => e = .returned (tP (zNew w.heap.size)) ∧ Tw w' (zNew w.heap.size) t0 ∧ Below w.heap.size w w' := by
  have m1 : ∀ V : World, (Instr.makeMap 68 none).run Tryz.prog V = .ok (.map (some V.heap.size)) (V.alloc (.map #[] 0)) := fun V => by first | rfl | kernel_rfl | simp [Instr.makeMap, run_underlying Tryz.underlying68]
  have m2 : ∀ V : World, (Instr.makeMap 69 none).run Tryz.prog V = .ok (.map (some V.heap.size)) (V.alloc (.map #[] 0)) := fun V => by first | rfl | kernel_rfl | simp [Instr.makeMap, run_underlying Tryz.underlying69]
  have m3 : ∀ V : World, (Instr.makeMap 70 none).run Tryz.prog V = .ok (.map (some V.heap.size)) (V.alloc (.map #[] 0)) := fun V => by first | rfl | kernel_rfl | simp [Instr.makeMap, run_underlying Tryz.underlying70]
  have HR : Hid (Tw ((((w.alloc (.map #[] 0)).alloc (.map #[] 0)).alloc (.map #[] 0)).alloc (.cells #[.int .i64 0, .int .i64 0, .int .i64 1, .map (some w.heap.size), .map (some (w.heap.size + 1)), .map (some (w.heap.size + 2))] 72)) (zNew w.heap.size) t0 ∧ Below w.heap.size w ((((w.alloc (.map #[] 0)).alloc (.map #[] 0)).alloc (.map #[] 0)).alloc (.cells #[.int .i64 0, .int .i64 0, .int .i64 1, .map (some w.heap.size), .map (some (w.heap.size + 1)), .map (some (w.heap.size + 2))] 72))) := by
    have b0 : ((((w.alloc (.map #[] 0)).alloc (.map #[] 0)).alloc (.map #[] 0)).alloc (.cells #[.int .i64 0, .int .i64 0, .int .i64 1, .map (some w.heap.size), .map (some (w.heap.size + 1)), .map (some (w.heap.size + 2))] 72)).heap[w.heap.size]? = some (.map #[] 0) := (Below.heap_alloc _ _ _ (by first | (simp; done) | (simp; omega))).trans ((Below.heap_alloc _ _ _ (by first | (simp; done) | (simp; omega))).trans ((Below.heap_alloc _ _ _ (by simp)).trans (heap_alloc_new' w _)))
    have b1 : ((((w.alloc (.map #[] 0)).alloc (.map #[] 0)).alloc (.map #[] 0)).alloc (.cells #[.int .i64 0, .int .i64 0, .int .i64 1, .map (some w.heap.size), .map (some (w.heap.size + 1)), .map (some (w.heap.size + 2))] 72)).heap[w.heap.size + 1]? = some (.map #[] 0) := (Below.heap_alloc _ _ _ (by first | (simp; done) | (simp; omega))).trans ((Below.heap_alloc _ _ _ (by simp)).trans (by have := heap_alloc_new' (w.alloc (.map #[] 0)) (.map #[] 0); rw [World.size_alloc] at this; exact this))
    have b2 : ((((w.alloc (.map #[] 0)).alloc (.map #[] 0)).alloc (.map #[] 0)).alloc (.cells #[.int .i64 0, .int .i64 0, .int .i64 1, .map (some w.heap.size), .map (some (w.heap.size + 1)), .map (some (w.heap.size + 2))] 72)).heap[w.heap.size + 2]? = some (.map #[] 0) := (Below.heap_alloc _ _ _ (by simp)).trans (by have := heap_alloc_new' ((w.alloc (.map #[] 0)).alloc (.map #[] 0)) (.map #[] 0); rw [World.size_alloc, World.size_alloc] at this; exact this)
    have b3 : ((((w.alloc (.map #[] 0)).alloc (.map #[] 0)).alloc (.map #[] 0)).alloc (.cells #[.int .i64 0, .int .i64 0, .int .i64 1, .map (some w.heap.size), .map (some (w.heap.size + 1)), .map (some (w.heap.size + 2))] 72)).heap[w.heap.size + 3]? = some (.cells #[.int .i64 0, .int .i64 0, .int .i64 1, .map (some w.heap.size), .map (some (w.heap.size + 1)), .map (some (w.heap.size + 2))] 72) := by have := heap_alloc_new' (((w.alloc (.map #[] 0)).alloc (.map #[] 0)).alloc (.map #[] 0)) (.cells #[.int .i64 0, .int .i64 0, .int .i64 1, .map (some w.heap.size), .map (some (w.heap.size + 1)), .map (some (w.heap.size + 2))] 72); rw [World.size_alloc, World.size_alloc, World.size_alloc] at this; exact this
    have hb : Below w.heap.size w ((((w.alloc (.map #[] 0)).alloc (.map #[] 0)).alloc (.map #[] 0)).alloc (.cells #[.int .i64 0, .int .i64 0, .int .i64 1, .map (some w.heap.size), .map (some (w.heap.size + 1)), .map (some (w.heap.size + 2))] 72)) := ((((Below.refl _ _).alloc (Nat.le_refl _) _).alloc (by simp) _).alloc (by first | (simp; done) | (simp; omega)) _).alloc (by first | (simp; done) | (simp; omega)) _
    have hsz : ((((w.alloc (.map #[] 0)).alloc (.map #[] 0)).alloc (.map #[] 0)).alloc (.cells #[.int .i64 0, .int .i64 0, .int .i64 1, .map (some w.heap.size), .map (some (w.heap.size + 1)), .map (some (w.heap.size + 2))] 72)).heap.size = w.heap.size + 4 := by simp
    generalize ((((w.alloc (.map #[] 0)).alloc (.map #[] 0)).alloc (.map #[] 0)).alloc (.cells #[.int .i64 0, .int .i64 0, .int .i64 1, .map (some w.heap.size), .map (some (w.heap.size + 1)), .map (some (w.heap.size + 2))] 72)) = V at *
    refine ⟨⟨b3, by simp [zNew], ⟨⟨b0, List.Pairwise.nil, List.Pairwise.nil, (fun e he => (by cases he)), (fun e he => (by cases he))⟩, by simp [zNew], (fun e he => (by cases he)), List.Pairwise.nil, fun s => rfl⟩, ⟨⟨b1, List.Pairwise.nil, List.Pairwise.nil, (fun e he => (by cases he)), (fun e he => (by cases he))⟩, by simp [zNew], (fun e he => (by cases he)), List.Pairwise.nil, fun s => rfl⟩, ⟨⟨b2, List.Pairwise.nil, List.Pairwise.nil, (fun e he => (by cases he)), (fun e he => (by cases he))⟩, by simp [zNew], (fun e he => (by cases he)), List.Pairwise.nil, fun s => rfl⟩, fun g hg => ?_⟩, hb⟩
    simp only [zNew] at hg
    split at hg
    · omega
    · split at hg
      · omega
      · split at hg
        · omega
        · split at hg
          · omega
          · exact absurd rfl hg
  go_enter Tryz.func9, Tryz.ntmps9
  go_wp2
  go_ret
  exact ⟨rfl, HR.out⟩
end Go.Proofs.YtillgoegiplmkaaGreatDoor.B
