import Derived.Test.YtillgoegiplmkaaGreatDoorTbG
import Derived.BigQuiet
import Derived.Laws.EntriesVeiled
import Derived.Deep.CutBlock
import Derived.Deep.WholeRow
import Derived.Test.YtillgoegiplmkaaGreatDoorTbCd
import Derived.Test.YtillgoegiplmkaaGreatDoorTbCa
import Derived.IntWalk
namespace Go.Proofs.YtillgoegiplmkaaGreatDoor.B
open C
open Go.RowKit Go.Maps
set_option linter.unusedVariables false
set_option linter.unusedSimpArgs false

/-! ## Worlds behind a world -/
structure BW (n : Nat) (V : World) where
  W : World
  h : Below n V W
instance {n : Nat} {V : World} : Inhabited (BW n V) := ⟨⟨V, Below.refl _ _⟩⟩
def bw {n : Nat} {V : World} (x : BW n V) : World := x.W
theorem bw_b {n : Nat} {V : World} (x : BW n V) : Below n V (bw x) := x.h
theorem wp_region_bw {P : Program} {id : Nat} {Q : Exit → Act → World → Prop} {a : Act} {w : World} {l : List Oper} {n : Nat} {V : World} (hw : Below n V w) (hm : P.follows .mixedOrders = true) (hB : Region.lexB .any l.toArray = true)
    (h : wpQuiet P l.toArray (fun w' => ∃ x : BW n V, w' = bw x) (fun a' => ∀ w', (∃ x : BW n V, w' = bw x) → Q .normal a' w') l a) : (Code.region id l.toArray true).wp P Q a w :=
  wp_region_quiet (C := fun w' => ∃ x : BW n V, w' = bw x) hm hB ⟨⟨_, hw.drew⟩, rfl⟩ (by simpa using h)
theorem bw_more {P : Program} {f : FuncId} {args : Array Value} {n : Nat} {V : World} {W : World} {v : Value}
    (h : Calls P f args W fun e w' => e = .returned v ∧ Below n V w') : Calls P f args W fun e w'' => e = .returned v ∧ ∃ y : BW n V, w'' = bw y :=
  h.mono fun _ w' ⟨he, hm⟩ => ⟨he, ⟨w', hm⟩, rfl⟩
def Stor8 (P : Program) (ty : TypeId) (w : World) (vx vy : Value) : Prop := ∃ (g : Nat) (cells old : Array Value) (t : TypeId), vx = .pointer (some ⟨g, 0, none⟩) ∧ vy = .agg cells ∧ w.heap[g]? = some (.cells old t (0, 0)) ∧ old.size = cells.size ∧ (P.info? ty).map (·.size) = some cells.size ∧ cells.all (·.oneCell') = true
def pBlk8 : Value → Nat
  | .pointer (some a) => a.block
  | _ => 0
def pAgg8 : Value → Array Value
  | .agg c => c
  | _ => #[]
theorem pBlk8_ptr (a : Addr) : pBlk8 (.pointer (some a)) = a.block := rfl
theorem pAgg8_agg (c : Array Value) : pAgg8 (.agg c) = c := rfl
theorem wp_store8 {P : Program} {ty tp : TypeId} {x y : Operand} {d : Option Tmp} {ps : String} {af : Array Edge} {a : Act} {w : World} {K : Act → World → Prop} {Q : Exit → Act → World → Prop}
    (hs : Stor8 P ty w (a.eval x) (a.eval y)) :
    Oper.wp P { dst := d, op := .store ty x y, type := tp, pos := ps, after := af, guard := none } a w K Q = K (a.put d undef) (w.setRow (pBlk8 (a.eval x)) (pAgg8 (a.eval y))) := by
  obtain ⟨g, cells, old, t, hx, hy, hg, ho, hi, h1⟩ := hs
  have hr := run_storeVar_row (P := P) w g t ty old cells hg hi ho h1
  unfold Oper.wp execOp
  simp only [hx, hy, pBlk8_ptr, pAgg8_agg, Instr.storeAt, Instr.sureAddr, Sem.run_bind, Sem.run_pure, Result.andThen_ok, hr]
  rfl
attribute [local go_sem ↓] wp_store8
attribute [local go_sem] pBlk8_ptr pAgg8_agg
abbrev fv (n : Nat) : Value := .func (.func n) #[] #[]
abbrev rowsC : Array Value := #[.nilFunc, .nilFunc, fv 90, fv 91, fv 92, fv 93, fv 94, fv 95, fv 96, fv 97, fv 98, fv 99, fv 100, fv 101, fv 102, fv 103, fv 104, fv 105, fv 106, fv 107, fv 108, fv 109, fv 110, fv 111, fv 112, fv 113]
abbrev rowsZ : Array Value := #[.nilFunc, .nilFunc, .nilFunc, .nilFunc, .nilFunc, .nilFunc, .nilFunc, .nilFunc, .nilFunc, .nilFunc, .nilFunc, .nilFunc, .nilFunc, .nilFunc, .nilFunc, .nilFunc, .nilFunc, .nilFunc, .nilFunc, .nilFunc, .nilFunc, .nilFunc, .nilFunc, .nilFunc, .nilFunc, .nilFunc]
theorem size_rows : (Tryz.prog.info? 138).map (·.size) = some 26 := by kernel_rfl
set_option maxRecDepth 8000 in
set_option maxHeartbeats 2000000 in
theorem rowOf_any (n fa fb : Nat) (ha : rowsC[n * 2]? = some (fv fa)) (hb : rowsC[n * 2 + 1]? = some (fv fb)) (hn : n < 13) (w : World) : Calls Tryz.prog 54 #[.int .i64 n] w fun e w' => e = .returned (.agg #[fv fa, fv fb]) ∧ Below w.heap.size w w' := by
  have hst : Stor8 Tryz.prog 138 ((w.alloc (.cells #[.nilFunc, .nilFunc] 103)).alloc (.cells rowsZ 138)) (.pointer (some ⟨w.heap.size + 1, 0, none⟩)) (.agg rowsC) := ⟨w.heap.size + 1, rowsC, rowsZ, 138, rfl, rfl, by have := heap_alloc_new' (w.alloc (.cells #[.nilFunc, .nilFunc] 103)) (.cells rowsZ 138); rw [World.size_alloc] at this; exact this, rfl, size_rows, by simp [Value.oneCell']⟩
  have hV : ((w.alloc (.cells #[.nilFunc, .nilFunc] 103)).alloc (.cells rowsZ 138)).setRow (w.heap.size + 1) rowsC = (w.alloc (.cells #[.nilFunc, .nilFunc] 103)).alloc (.cells rowsC 138) := by
    have := World.setRow_alloc_new (w.alloc (.cells #[.nilFunc, .nilFunc] 103)) rowsZ rowsC 138
    rwa [World.size_alloc] at this
  have h1 : ((w.alloc (.cells #[.nilFunc, .nilFunc] 103)).alloc (.cells rowsC 138)).heap[w.heap.size + 1]? = some (.cells rowsC 138) := by
    have := heap_alloc_new' (w.alloc (.cells #[.nilFunc, .nilFunc] 103)) (.cells rowsC 138); rw [World.size_alloc] at this; exact this
  have h2 : ((w.alloc (.cells #[.nilFunc, .nilFunc] 103)).alloc (.cells rowsC 138)).heap[w.heap.size]? = some (.cells #[.nilFunc, .nilFunc] 103) := (Below.heap_alloc _ _ _ (by simp)).trans (heap_alloc_new' w _)
  have hbl : Below w.heap.size w ((w.alloc (.cells #[.nilFunc, .nilFunc] 103)).alloc (.cells rowsC 138)) := ((Below.refl _ _).alloc (Nat.le_refl _) _).alloc (by simp) _
  have k1 : ((w.alloc (.cells #[.nilFunc, .nilFunc] 103)).alloc (.cells rowsC 138)).cell? ⟨w.heap.size + 1, n * 2, none⟩ = some (fv fa) := (cell_of_row _ _ _ _ _ _ h1).trans ha
  have k2 : ((w.alloc (.cells #[.nilFunc, .nilFunc] 103)).alloc (.cells rowsC 138)).cell? ⟨w.heap.size + 1, n * 2 + 1, none⟩ = some (fv fb) := (cell_of_row _ _ _ _ _ _ h1).trans hb
  obtain ⟨V2, hV2⟩ : ∃ V2, ((w.alloc (.cells #[.nilFunc, .nilFunc] 103)).alloc (.cells rowsC 138)) = V2 := ⟨_, rfl⟩
  rw [hV2] at hV h1 h2 hbl k1 k2
  have k3 : V2.cell? ⟨w.heap.size, 0, none⟩ = some .nilFunc := (cell_of_row _ _ _ _ _ _ h2).trans rfl
  have k4 : V2.cell? ⟨w.heap.size, 1, none⟩ = some .nilFunc := (cell_of_row _ _ _ _ _ _ h2).trans rfl
  have f3 : V2.frozen? ⟨w.heap.size, 0, none⟩ = false := by simp [World.frozen?, h2]
  have f4 : V2.frozen? ⟨w.heap.size, 1, none⟩ = false := by simp [World.frozen?, h2]
  have n0 : (0 : Int) ≤ (n : Int) := by omega
  have n1 : (n : Int) < 13 := by omega
  have HBl : Hid (Below w.heap.size w V2) := hbl
  clear hV2 h1 h2 ha hb hbl
  go_enter Tryz.func54, Tryz.ntmps54
  go_upto_region 2 with fail
  try rw [hV]
  clear hst hV
  go_wp2
  exact bodyPost_ret (v := .agg #[fv fa, fv fb]) (by simp [results, Tryz.results54, go_sem, k3, k4]) rfl ⟨rfl, (HBl.out.setCell (p := ⟨w.heap.size, 0, none⟩) (by simp) _).setCell (p := ⟨w.heap.size, 1, none⟩) (by simp) _⟩
end Go.Proofs.YtillgoegiplmkaaGreatDoor.B

namespace Go.Proofs.YtillgoegiplmkaaGreatDoor.B
open C
open Go.RowKit Go.Maps
set_option linter.unusedVariables false
set_option linter.unusedSimpArgs false

/-! ## What asks, by kinds -/
set_option maxRecDepth 8000 in
set_option maxHeartbeats 4000000 in
theorem follows_gen {w : World} {z : Tz} {T : T8} (h : Tw w z T) (r : Rc) (s0 da : Option Addr) (ns sc nd dc : Nat) (fc ft : Nat) (B : Bool) (hid : T.id ≠ 0 ∨ T.id = 0 ∧ r.kind = 1)
    (hrow : ∀ W : World, Calls Tryz.prog 54 #[.int .i64 r.kind] W fun e w' => e = .returned (.agg #[fv fc, fv ft]) ∧ Below W.heap.size W w')
    (hent : ∀ args w, (callFunc fc args).run Tryz.prog w = .ok (.enter fc args) w)
    (hcan : ∀ W : World, Below w.heap.size w W → Calls Tryz.prog fc #[tP z, .agg (rcC r (.slice s0 ns sc) (.slice da nd dc))] W fun e w' => e = .returned (.bool B) ∧ Below W.heap.size W w') :
    Calls Tryz.prog 34 #[tP z, .agg (rcC r (.slice s0 ns sc) (.slice da nd dc))] w fun e w' => e = .returned (.bool B) ∧ Below w.heap.size w w' := by
  have hbx : Below w.heap.size w (w.alloc (rcO r (.slice s0 ns sc) (.slice da nd dc))) := (Below.refl _ _).alloc (Nat.le_refl _) _
  have HB : Hid (∀ V : World, Below (w.heap.size + 1) (w.alloc (rcO r (.slice s0 ns sc) (.slice da nd dc))) V → Below w.heap.size w V) := fun V hV => hbx.trans (hV.mono (by omega))
  have c0 : ∀ x : BW (w.heap.size + 1) (w.alloc (rcO r (.slice s0 ns sc) (.slice da nd dc))), (bw x).cell? ⟨z.x, 0, none⟩ = some (.int .i64 T.id) := fun x => (h.below (HB.out _ (bw_b x))).c.1
  have hp : ∀ x : BW (w.heap.size + 1) (w.alloc (rcO r (.slice s0 ns sc) (.slice da nd dc))), (bw x).heap[w.heap.size]? = some (rcO r (.slice s0 ns sc) (.slice da nd dc)) := fun x => ((bw_b x).block _ (by omega)).trans (heap_alloc_new' w _)
  have k0 : ∀ x : BW (w.heap.size + 1) (w.alloc (rcO r (.slice s0 ns sc) (.slice da nd dc))), (bw x).cell? ⟨w.heap.size, 0, none⟩ = some (.int .i64 r.kind) := fun x => (cell_of_row _ _ _ _ _ _ (hp x)).trans rfl
  have k1 : ∀ x : BW (w.heap.size + 1) (w.alloc (rcO r (.slice s0 ns sc) (.slice da nd dc))), (bw x).cell? ⟨w.heap.size, 1, none⟩ = some (.int .i64 r.org) := fun x => (cell_of_row _ _ _ _ _ _ (hp x)).trans rfl
  have k2 : ∀ x : BW (w.heap.size + 1) (w.alloc (rcO r (.slice s0 ns sc) (.slice da nd dc))), (bw x).cell? ⟨w.heap.size, 2, none⟩ = some (.int .i64 r.num) := fun x => (cell_of_row _ _ _ _ _ _ (hp x)).trans rfl
  have k3 : ∀ x : BW (w.heap.size + 1) (w.alloc (rcO r (.slice s0 ns sc) (.slice da nd dc))), (bw x).cell? ⟨w.heap.size, 3, none⟩ = some (.int .i64 r.peer) := fun x => (cell_of_row _ _ _ _ _ _ (hp x)).trans rfl
  have k4 : ∀ x : BW (w.heap.size + 1) (w.alloc (rcO r (.slice s0 ns sc) (.slice da nd dc))), (bw x).cell? ⟨w.heap.size, 4, none⟩ = some (.int .i64 r.srv) := fun x => (cell_of_row _ _ _ _ _ _ (hp x)).trans rfl
  have k5 : ∀ x : BW (w.heap.size + 1) (w.alloc (rcO r (.slice s0 ns sc) (.slice da nd dc))), (bw x).cell? ⟨w.heap.size, 5, none⟩ = some (.int .i64 r.off) := fun x => (cell_of_row _ _ _ _ _ _ (hp x)).trans rfl
  have k6 : ∀ x : BW (w.heap.size + 1) (w.alloc (rcO r (.slice s0 ns sc) (.slice da nd dc))), (bw x).cell? ⟨w.heap.size, 6, none⟩ = some (.int .i64 r.red) := fun x => (cell_of_row _ _ _ _ _ _ (hp x)).trans rfl
  have k7 : ∀ x : BW (w.heap.size + 1) (w.alloc (rcO r (.slice s0 ns sc) (.slice da nd dc))), (bw x).cell? ⟨w.heap.size, 7, none⟩ = some (.int .i64 r.size) := fun x => (cell_of_row _ _ _ _ _ _ (hp x)).trans rfl
  have k8 : ∀ x : BW (w.heap.size + 1) (w.alloc (rcO r (.slice s0 ns sc) (.slice da nd dc))), (bw x).cell? ⟨w.heap.size, 8, none⟩ = some (.int .i64 r.how) := fun x => (cell_of_row _ _ _ _ _ _ (hp x)).trans rfl
  have k9 : ∀ x : BW (w.heap.size + 1) (w.alloc (rcO r (.slice s0 ns sc) (.slice da nd dc))), (bw x).cell? ⟨w.heap.size, 9, none⟩ = some (.slice s0 ns sc) := fun x => (cell_of_row _ _ _ _ _ _ (hp x)).trans rfl
  have k10 : ∀ x : BW (w.heap.size + 1) (w.alloc (rcO r (.slice s0 ns sc) (.slice da nd dc))), (bw x).cell? ⟨w.heap.size, 10, none⟩ = some (.slice da nd dc) := fun x => (cell_of_row _ _ _ _ _ _ (hp x)).trans rfl
  have HR : Hid (∀ x : BW (w.heap.size + 1) (w.alloc (rcO r (.slice s0 ns sc) (.slice da nd dc))), Calls Tryz.prog 54 #[.int .i64 r.kind] (bw x) fun e w' => e = .returned (.agg #[fv fc, fv ft]) ∧ Below (w.heap.size + 1) (w.alloc (rcO r (.slice s0 ns sc) (.slice da nd dc))) w') := fun x => (hrow (bw x)).mono fun e w' q => ⟨q.1, bt (bw_b x) (by simp) q.2⟩
  have HC : Hid (∀ x : BW (w.heap.size + 1) (w.alloc (rcO r (.slice s0 ns sc) (.slice da nd dc))), Calls Tryz.prog fc #[tP z, .agg (rcC r (.slice s0 ns sc) (.slice da nd dc))] (bw x) fun e w' => e = .returned (.bool B) ∧ Below (w.heap.size + 1) (w.alloc (rcO r (.slice s0 ns sc) (.slice da nd dc))) w') := fun x => (hcan (bw x) (HB.out _ (bw_b x))).mono fun e w' q => ⟨q.1, bt (bw_b x) (by simp) q.2⟩
  have hfl : ∀ V : World, (Instr.field 103 (.agg #[fv fc, fv ft]) 0).run Tryz.prog V = .ok (fv fc) V := fun V => by kernel_rfl
  clear h hp hrow hcan hbx
  rcases hid with q | ⟨q, q1⟩
  · have q2 : (T.id != 0) = true := by simp [q]
    have q3 : decide (T.id = 0) = false := by simp [q]
    clear q
    go_enter Tryz.func34, Tryz.ntmps34
    go_wp2
    refine wp_region_bw (Below.refl (w.heap.size + 1) (w.alloc (rcO r (.slice s0 ns sc) (.slice da nd dc)))) (by kernel_rfl) (by kernel_rfl) ?_
    repeat (go_big_quiet_step (first | (go_at_call 54; exact bw_more (HR.out _)) | exact bw_more (HC.out _)))
    refine wpQuiet_nil ?_
    rintro _ ⟨x, rfl⟩
    go_wp2
    go_ret
    exact ⟨rfl, HB.out _ (bw_b x)⟩
  · have q4 : decide (r.kind = 1) = true := by simp [q1]
    have q6 : (r.kind == 1) = true := by simp [q1]
    rw [q] at c0
    have HQ : Hid (r.kind = 1) := q1
    clear q1 q
    go_enter Tryz.func34, Tryz.ntmps34
    go_wp2
    refine wp_region_bw (Below.refl (w.heap.size + 1) (w.alloc (rcO r (.slice s0 ns sc) (.slice da nd dc)))) (by kernel_rfl) (by kernel_rfl) ?_
    repeat (go_big_quiet_step (first | (go_at_call 54; exact bw_more (HR.out _)) | exact bw_more (HC.out _)))
    refine wpQuiet_nil ?_
    rintro _ ⟨x, rfl⟩
    go_wp2
    go_ret
    exact ⟨rfl, HB.out _ (bw_b x)⟩
set_option maxRecDepth 8000 in
set_option maxHeartbeats 4000000 in
theorem follows_no {w : World} {z : Tz} {T : T8} (h : Tw w z T) (r : Rc) (s0 da : Option Addr) (ns sc nd dc : Nat) (hid : T.id = 0) (hk : r.kind ≠ 1) :
    Calls Tryz.prog 34 #[tP z, .agg (rcC r (.slice s0 ns sc) (.slice da nd dc))] w fun e w' => e = .returned (.bool false) ∧ Below w.heap.size w w' := by
  have hbx : Below w.heap.size w (w.alloc (rcO r (.slice s0 ns sc) (.slice da nd dc))) := (Below.refl _ _).alloc (Nat.le_refl _) _
  have HB : Hid (∀ V : World, Below (w.heap.size + 1) (w.alloc (rcO r (.slice s0 ns sc) (.slice da nd dc))) V → Below w.heap.size w V) := fun V hV => hbx.trans (hV.mono (by omega))
  have c0 : ∀ x : BW (w.heap.size + 1) (w.alloc (rcO r (.slice s0 ns sc) (.slice da nd dc))), (bw x).cell? ⟨z.x, 0, none⟩ = some (.int .i64 0) := fun x => hid ▸ (h.below (HB.out _ (bw_b x))).c.1
  have k0 : ∀ x : BW (w.heap.size + 1) (w.alloc (rcO r (.slice s0 ns sc) (.slice da nd dc))), (bw x).cell? ⟨w.heap.size, 0, none⟩ = some (.int .i64 r.kind) := fun x => (cell_of_row _ _ _ _ _ _ (((bw_b x).block _ (by omega)).trans (heap_alloc_new' w _))).trans rfl
  have q4 : decide (r.kind = 1) = false := by simp [hk]
  have q5 : (r.kind == 1) = false := by simp [hk]
  clear h hbx hk hid
  go_enter Tryz.func34, Tryz.ntmps34
  go_wp2
  refine wp_region_bw (Below.refl (w.heap.size + 1) (w.alloc (rcO r (.slice s0 ns sc) (.slice da nd dc)))) (by kernel_rfl) (by kernel_rfl) ?_
  repeat (go_big_quiet_step (fail))
  refine wpQuiet_nil ?_
  rintro _ ⟨x, rfl⟩
  go_wp2
  go_ret
  exact ⟨rfl, HB.out _ (bw_b x)⟩
end Go.Proofs.YtillgoegiplmkaaGreatDoor.B

namespace Go.Proofs.YtillgoegiplmkaaGreatDoor.B
open C
open Go.RowKit Go.Maps
set_option linter.unusedVariables false
set_option linter.unusedSimpArgs false

set_option maxRecDepth 8000 in
set_option maxHeartbeats 4000000 in
theorem canTake_any {w : World} {z : Tz} {T : T8} (h : Tw w z T) (hok : T.Ok) (r : Rc) (hr : sW (sR r)) (sv dv : Value) : Calls Tryz.prog 100 #[tP z, .agg (rcC r sv dv)] w fun e w' => e = .returned (.bool (T.beg (sR r) || (T.und (sR r) && ((T.at (sR r)).srv == r.srv && (agr (T.at (sR r)).red r.red (T.at (sR r)).data.length && agr (T.at (sR r)).size r.size (T.at (sR r)).data.length))))) ∧ Below w.heap.size w w' := by
  have hbx : Below w.heap.size w (w.alloc (rcO r sv dv)) := (Below.refl _ _).alloc (Nat.le_refl _) _
  have HB : Hid (∀ V : World, Below (w.heap.size + 1) (w.alloc (rcO r sv dv)) V → Below w.heap.size w V) := fun V hV => hbx.trans (hV.mono (by omega))
  have HC : Hid (∀ V : World, Below (w.heap.size + 1) (w.alloc (rcO r sv dv)) V → Calls Tryz.prog 137 #[tP z, .agg #[.int .i64 r.org, .int .i64 r.num]] V fun e w' => e = .returned (.bool (T.beg (sR r))) ∧ Below (w.heap.size + 1) (w.alloc (rcO r sv dv)) w') := fun V hV => (canBegin_any (h.below (hbx.trans (hV.mono (by omega)))) hok _ _ hr).mono fun e w' q => ⟨q.1, bt hV (by simp) q.2⟩
  have HU : Hid (∀ V : World, Below (w.heap.size + 1) (w.alloc (rcO r sv dv)) V → Calls Tryz.prog 138 #[tP z, .agg #[.int .i64 r.org, .int .i64 r.num]] V fun e w' => e = .returned (.bool (T.und (sR r))) ∧ Below (w.heap.size + 1) (w.alloc (rcO r sv dv)) w') := fun V hV => (undecided_any (h.below (hbx.trans (hV.mono (by omega)))) _ _ hr).mono fun e w' q => ⟨q.1, bt hV (by simp) q.2⟩
  have HP : Hid (∀ V : World, Below (w.heap.size + 1) (w.alloc (rcO r sv dv)) V → V.heap[w.heap.size]? = some (rcO r sv dv)) := fun V hV => (hV.block _ (by omega)).trans (heap_alloc_new' w _)
  cases hf : T.fi (sR r) with
  | none =>
    have hu : T.und (sR r) = false := by unfold T8.und; rw [hf]
    have HK : Hid (∀ V : World, Below (w.heap.size + 1) (w.alloc (rcO r sv dv)) V → (Below (w.heap.size + 1) (w.alloc (rcO r sv dv)) V ∧ V.cell? ⟨z.x, 4, none⟩ = some (.map (some z.m2)) ∧ V.cell? ⟨w.heap.size, 1, none⟩ = some (.int .i64 r.org) ∧ V.cell? ⟨w.heap.size, 2, none⟩ = some (.int .i64 r.num) ∧ (Instr.lookup 69 (.map (some z.m2)) (.agg #[.int .i64 r.org, .int .i64 r.num]) false).run Tryz.prog V = .ok (iV0) V)) := fun V hV => by
      have hb := hbx.trans (hV.mono (by omega))
      have hc := (h.below hb).c
      have hp : V.heap[w.heap.size]? = some (rcO r sv dv) := (hV.block _ (by omega)).trans (heap_alloc_new' w _)
      exact ⟨hV, hc.2.2.2.2.1, (cell_of_row _ _ _ _ _ _ hp).trans rfl, (cell_of_row _ _ _ _ _ _ hp).trans rfl, (h.below hb).lookI0 hr hf false⟩
    have HQ : Hid (∀ w1 V : World, Below (w.heap.size + 1) (w.alloc (rcO r sv dv)) w1 → Below (w1.heap.size + 1) ((w1.alloc (.cells iC0 63)).drew) V → Below (w.heap.size + 1) (w.alloc (rcO r sv dv)) V ∧ V.heap[w1.heap.size]? = some (.cells iC0 63) ∧ V.heap[w.heap.size]? = some (rcO r sv dv)) := fun w1 V h1 hV => by
      have hs := h1.size
      simp at hs
      have hb : Below (w.heap.size + 1) (w.alloc (rcO r sv dv)) V := (Below.drew (Below.alloc h1 (by omega) _)).trans (hV.mono (by omega))
      exact ⟨hb, (hV.block _ (by omega)).trans (heap_alloc_new' w1 _), (hb.block _ (by omega)).trans (heap_alloc_new' w _)⟩
    have HU2 : Hid (∀ w1 V : World, Below (w.heap.size + 1) (w.alloc (rcO r sv dv)) w1 → Below (w1.heap.size + 1) ((w1.alloc (.cells iC0 63)).drew) V → Calls Tryz.prog 138 #[tP z, .agg #[.int .i64 r.org, .int .i64 r.num]] V fun e' w' => e' = .returned (.bool (T.und (sR r))) ∧ Below (w1.heap.size + 1) ((w1.alloc (.cells iC0 63)).drew) w') := fun w1 V h1 hV => (undecided_any (h.below (hbx.trans ((HQ.out w1 V h1 hV).1.mono (by omega)))) _ _ hr).mono fun e w' q => ⟨q.1, bt hV (by simp) q.2⟩
    rw [hu] at HU2 ⊢
    have HI : Hid (∀ (g : Nat) (V : World), V.heap[g]? = some (.cells iC0 63) → V.cell? ⟨g, 2, none⟩ = some (.int .i64 0) ∧ V.cell? ⟨g, 3, none⟩ = some (.int .i64 0) ∧ V.cell? ⟨g, 4, none⟩ = some (.int .i64 0) ∧ V.cell? ⟨g, 6, none⟩ = some (.slice none 0 0)) := fun g V q => ⟨(cell_of_row _ _ _ _ _ _ q).trans rfl, (cell_of_row _ _ _ _ _ _ q).trans rfl, (cell_of_row _ _ _ _ _ _ q).trans rfl, (cell_of_row _ _ _ _ _ _ q).trans rfl⟩
    clear h hok hr hbx hf hu HU
    generalize T.beg (sR r) = bg at *
    cases bg with
    | true =>
      go_enter Tryz.func100, Tryz.ntmps100
      go_wp2_with (go_at_call 137; refine (HC.out _ (Below.refl _ _)).mono ?_; rintro e w1 ⟨rfl, hb1⟩)
      go_ret
      exact ⟨by simp, HB.out _ hb1⟩
    | false =>
      go_enter Tryz.func100, Tryz.ntmps100
      go_wp2_with (go_at_call 137; refine (HC.out _ (Below.refl _ _)).mono ?_; rintro e w1 ⟨rfl, hb1⟩; obtain ⟨k0, k1, k2, k3, k4, k5, k6, k7, k8, k9, k10⟩ := rc_cells (HP.out _ hb1))
      clear k0 k1 k2 k3 k4 k5 k6 k7 k8 k9 k10
      have hS := HK.out _ hb1
      go_region_held3 (fun V => (Below (w.heap.size + 1) (w.alloc (rcO r sv dv)) V ∧ V.cell? ⟨z.x, 4, none⟩ = some (.map (some z.m2)) ∧ V.cell? ⟨w.heap.size, 1, none⟩ = some (.int .i64 r.org) ∧ V.cell? ⟨w.heap.size, 2, none⟩ = some (.int .i64 r.num) ∧ (Instr.lookup 69 (.map (some z.m2)) (.agg #[.int .i64 r.org, .int .i64 r.num]) false).run Tryz.prog V = .ok (iV0) V)) (first | exact HK.out _ (Below.drew hb1) | exact HK.out _ (Below.drew (Below.alloc hb1 (by have := hb1.size; simp at this; omega) _)) | exact HK.out _ (Below.alloc hb1 (by have := hb1.size; simp at this; omega) _)) (fail)
      all_goals (rename_i hz; clear hz)
      clear hS
      all_goals have e1 := (HK.out _ (Below.alloc hb1 (by have := hb1.size; simp at this; omega) (.cells #[.int .i64 0, .int .i64 0, .int .i64 0, .int .i64 0, .int .i64 0, .slice none 0 0, .slice none 0 0, .bool false, .bool false, .bool false, .bool false, .int .i64 0] 63))).2.2.1
      all_goals have e2 := (HK.out _ (Below.alloc hb1 (by have := hb1.size; simp at this; omega) (.cells #[.int .i64 0, .int .i64 0, .int .i64 0, .int .i64 0, .int .i64 0, .slice none 0 0, .slice none 0 0, .bool false, .bool false, .bool false, .bool false, .int .i64 0] 63))).2.2.2.1
      all_goals go_wp2_with (first
        | (go_at_call 138; refine (HU2.out w1 _ hb1 (by first | assumption | exact Below.refl _ _)).mono ?_; rintro e w2 ⟨rfl, hb2⟩; obtain ⟨_, q1, q2⟩ := HQ.out w1 _ hb1 hb2; obtain ⟨k0, k1, k2, k3, k4, k5, k6, k7, k8, k9, k10⟩ := rc_cells q2; obtain ⟨i2, i3, i4, i6⟩ := HI.out _ _ q1; clear q1 q2)
        | (go_at_call 139; refine (agree_any _ _ _ _).mono ?_; rintro e w3 ⟨rfl, rfl⟩))
      all_goals go_ret
      all_goals exact ⟨by simp, HB.out _ (HQ.out w1 _ hb1 hb2).1⟩
  | some o =>
    obtain ⟨e, he, rfl, hes, _⟩ := h.lookI1 hf
    obtain ⟨av, cv, ev⟩ := own_shape (h.pI.r e he).1.1
    obtain ⟨au, nu, cu, eu⟩ := own_sl8 (h.pI.r e he).2.1
    obtain ⟨nv, hnv⟩ : ∃ n, e.i.data.length = n := ⟨_, rfl⟩
    rw [hnv] at ev
    have hat : T.at (sR r) = e.i := by unfold T8.at; rw [hf]
    have HK : Hid (∀ V : World, Below (w.heap.size + 1) (w.alloc (rcO r sv dv)) V → (Below (w.heap.size + 1) (w.alloc (rcO r sv dv)) V ∧ V.cell? ⟨z.x, 4, none⟩ = some (.map (some z.m2)) ∧ V.cell? ⟨w.heap.size, 1, none⟩ = some (.int .i64 r.org) ∧ V.cell? ⟨w.heap.size, 2, none⟩ = some (.int .i64 r.num) ∧ (Instr.lookup 69 (.map (some z.m2)) (.agg #[.int .i64 r.org, .int .i64 r.num]) false).run Tryz.prog V = .ok (iV e.i (.slice au nu cu) (.slice av nv cv)) V)) := fun V hV => by
      have hb := hbx.trans (hV.mono (by omega))
      have hc := (h.below hb).c
      have hp : V.heap[w.heap.size]? = some (rcO r sv dv) := (hV.block _ (by omega)).trans (heap_alloc_new' w _)
      exact ⟨hV, hc.2.2.2.2.1, (cell_of_row _ _ _ _ _ _ hp).trans rfl, (cell_of_row _ _ _ _ _ _ hp).trans rfl, eu ▸ ev ▸ lookIE (s := sR r) (h.below hb) he hes false⟩
    have HQ : Hid (∀ w1 V : World, Below (w.heap.size + 1) (w.alloc (rcO r sv dv)) w1 → Below (w1.heap.size + 1) ((w1.alloc (.cells #[.int .i64 e.i.org, .int .i64 e.i.num, .int .i64 e.i.srv, .int .i64 e.i.red, .int .i64 e.i.size, .slice au nu cu, .slice av nv cv, .bool e.i.done, .bool e.i.gone, .bool e.i.heard, .bool e.i.shut, .int .i64 e.i.how] 63)).drew) V → Below (w.heap.size + 1) (w.alloc (rcO r sv dv)) V ∧ V.heap[w1.heap.size]? = some (.cells #[.int .i64 e.i.org, .int .i64 e.i.num, .int .i64 e.i.srv, .int .i64 e.i.red, .int .i64 e.i.size, .slice au nu cu, .slice av nv cv, .bool e.i.done, .bool e.i.gone, .bool e.i.heard, .bool e.i.shut, .int .i64 e.i.how] 63) ∧ V.heap[w.heap.size]? = some (rcO r sv dv)) := fun w1 V h1 hV => by
      have hs := h1.size
      simp at hs
      have hb : Below (w.heap.size + 1) (w.alloc (rcO r sv dv)) V := (Below.drew (Below.alloc h1 (by omega) _)).trans (hV.mono (by omega))
      exact ⟨hb, (hV.block _ (by omega)).trans (heap_alloc_new' w1 _), (hb.block _ (by omega)).trans (heap_alloc_new' w _)⟩
    have HU2 : Hid (∀ w1 V : World, Below (w.heap.size + 1) (w.alloc (rcO r sv dv)) w1 → Below (w1.heap.size + 1) ((w1.alloc (.cells #[.int .i64 e.i.org, .int .i64 e.i.num, .int .i64 e.i.srv, .int .i64 e.i.red, .int .i64 e.i.size, .slice au nu cu, .slice av nv cv, .bool e.i.done, .bool e.i.gone, .bool e.i.heard, .bool e.i.shut, .int .i64 e.i.how] 63)).drew) V → Calls Tryz.prog 138 #[tP z, .agg #[.int .i64 r.org, .int .i64 r.num]] V fun e' w' => e' = .returned (.bool (T.und (sR r))) ∧ Below (w1.heap.size + 1) ((w1.alloc (.cells #[.int .i64 e.i.org, .int .i64 e.i.num, .int .i64 e.i.srv, .int .i64 e.i.red, .int .i64 e.i.size, .slice au nu cu, .slice av nv cv, .bool e.i.done, .bool e.i.gone, .bool e.i.heard, .bool e.i.shut, .int .i64 e.i.how] 63)).drew) w') := fun w1 V h1 hV => (undecided_any (h.below (hbx.trans ((HQ.out w1 V h1 hV).1.mono (by omega)))) _ _ hr).mono fun e w' q => ⟨q.1, bt hV (by simp) q.2⟩
    have HI : Hid (∀ (g : Nat) (V : World), V.heap[g]? = some (.cells #[.int .i64 e.i.org, .int .i64 e.i.num, .int .i64 e.i.srv, .int .i64 e.i.red, .int .i64 e.i.size, .slice au nu cu, .slice av nv cv, .bool e.i.done, .bool e.i.gone, .bool e.i.heard, .bool e.i.shut, .int .i64 e.i.how] 63) → V.cell? ⟨g, 2, none⟩ = some (.int .i64 e.i.srv) ∧ V.cell? ⟨g, 3, none⟩ = some (.int .i64 e.i.red) ∧ V.cell? ⟨g, 4, none⟩ = some (.int .i64 e.i.size) ∧ V.cell? ⟨g, 6, none⟩ = some (.slice av nv cv)) := fun g V q => ⟨(cell_of_row _ _ _ _ _ _ q).trans rfl, (cell_of_row _ _ _ _ _ _ q).trans rfl, (cell_of_row _ _ _ _ _ _ q).trans rfl, (cell_of_row _ _ _ _ _ _ q).trans rfl⟩
    rw [hat, hnv]
    clear h hok hr hbx hf HU hat hnv hes he
    generalize T.und (sR r) = un at *
    generalize T.beg (sR r) = bg at *
    cases bg with
    | true =>
      go_enter Tryz.func100, Tryz.ntmps100
      go_wp2_with (go_at_call 137; refine (HC.out _ (Below.refl _ _)).mono ?_; rintro e w1 ⟨rfl, hb1⟩)
      go_ret
      exact ⟨by simp, HB.out _ hb1⟩
    | false =>
      go_enter Tryz.func100, Tryz.ntmps100
      go_wp2_with (go_at_call 137; refine (HC.out _ (Below.refl _ _)).mono ?_; rintro e w1 ⟨rfl, hb1⟩; obtain ⟨k0, k1, k2, k3, k4, k5, k6, k7, k8, k9, k10⟩ := rc_cells (HP.out _ hb1))
      clear k0 k1 k2 k3 k4 k5 k6 k7 k8 k9 k10
      have hS := HK.out _ hb1
      go_region_held3 (fun V => (Below (w.heap.size + 1) (w.alloc (rcO r sv dv)) V ∧ V.cell? ⟨z.x, 4, none⟩ = some (.map (some z.m2)) ∧ V.cell? ⟨w.heap.size, 1, none⟩ = some (.int .i64 r.org) ∧ V.cell? ⟨w.heap.size, 2, none⟩ = some (.int .i64 r.num) ∧ (Instr.lookup 69 (.map (some z.m2)) (.agg #[.int .i64 r.org, .int .i64 r.num]) false).run Tryz.prog V = .ok (iV e.i (.slice au nu cu) (.slice av nv cv)) V)) (first | exact HK.out _ (Below.drew hb1) | exact HK.out _ (Below.drew (Below.alloc hb1 (by have := hb1.size; simp at this; omega) _)) | exact HK.out _ (Below.alloc hb1 (by have := hb1.size; simp at this; omega) _)) (fail)
      all_goals (rename_i hz; clear hz)
      clear hS
      all_goals have e1 := (HK.out _ (Below.alloc hb1 (by have := hb1.size; simp at this; omega) (.cells #[.int .i64 e.i.org, .int .i64 e.i.num, .int .i64 e.i.srv, .int .i64 e.i.red, .int .i64 e.i.size, .slice au nu cu, .slice av nv cv, .bool e.i.done, .bool e.i.gone, .bool e.i.heard, .bool e.i.shut, .int .i64 e.i.how] 63))).2.2.1
      all_goals have e2 := (HK.out _ (Below.alloc hb1 (by have := hb1.size; simp at this; omega) (.cells #[.int .i64 e.i.org, .int .i64 e.i.num, .int .i64 e.i.srv, .int .i64 e.i.red, .int .i64 e.i.size, .slice au nu cu, .slice av nv cv, .bool e.i.done, .bool e.i.gone, .bool e.i.heard, .bool e.i.shut, .int .i64 e.i.how] 63))).2.2.2.1
      all_goals go_wp2_with (first
        | (go_at_call 138; refine (HU2.out w1 _ hb1 (by first | assumption | exact Below.refl _ _)).mono ?_; rintro e w2 ⟨rfl, hb2⟩; obtain ⟨_, q1, q2⟩ := HQ.out w1 _ hb1 hb2; obtain ⟨k0, k1, k2, k3, k4, k5, k6, k7, k8, k9, k10⟩ := rc_cells q2; obtain ⟨i2, i3, i4, i6⟩ := HI.out _ _ q1; clear q1 q2)
        | (go_at_call 139; refine (agree_any _ _ _ _).mono ?_; rintro e w3 ⟨rfl, rfl⟩))
      all_goals go_ret
      all_goals exact ⟨by simp_all, HB.out _ (HQ.out w1 _ hb1 hb2).1⟩
end Go.Proofs.YtillgoegiplmkaaGreatDoor.B

namespace Go.Proofs.YtillgoegiplmkaaGreatDoor.B
open C
open Go.RowKit Go.Maps
set_option linter.unusedVariables false
set_option linter.unusedSimpArgs false

set_option maxHeartbeats 2000000 in
theorem canBoot_any {w : World} {z : Tz} {T : T8} (h : Tw w z T) (hok : 0 ≤ T.boots ∧ T.boots ≤ 1073741824) (r : Rc) (sv dv : Value) : Calls Tryz.prog 90 #[tP z, .agg (rcC r sv dv)] w fun e w' => e = .returned (.bool ((T.id == 0 || T.id == r.org) && (T.boots == 0 || T.boots + 1 == r.size))) ∧ Below w.heap.size w w' := by
  obtain ⟨c0, c1, c2, c3, c4, c5⟩ := h.c
  have hx := h.ltp h.px
  have hx1 : z.x ≠ w.heap.size := by omega
  have HB : Hid (∀ n, Below w.heap.size w ((w.alloc (rcO r sv dv)).drewN n)) := fun n => below_drewN (rbx w r sv dv) n
  have hw : IntKind.i64.wrap (T.boots + 1) = T.boots + 1 := by rw [IntKind.wrap_i64]; omega
  clear h hok
  by_cases q1 : T.id = 0
  · by_cases q3 : T.boots = 0
    · rw [q3] at c1 hw
      rw [q1] at c0
      go_enter Tryz.func90, Tryz.ntmps90
      go_wp2
      go_quiet (fail)
      go_wp2
      go_ret
      exact ⟨by simp [q1, q3], HB.out _⟩
    · have q4 : decide (T.boots = 0) = false := decide_eq_false q3
      have q4' : (T.boots == 0) = false := by simp [q3]
      rw [q1] at c0
      go_enter Tryz.func90, Tryz.ntmps90
      go_wp2
      go_quiet (fail)
      go_wp2
      go_ret
      exact ⟨by simp [q1, q3], HB.out _⟩
  · have q5 : decide (T.id = 0) = false := decide_eq_false q1
    have q5' : (T.id == 0) = false := by simp [q1]
    by_cases q2 : T.id = r.org
    · rw [q2] at c0 q5 q5'
      by_cases q3 : T.boots = 0
      · rw [q3] at c1 hw
        go_enter Tryz.func90, Tryz.ntmps90
        go_wp2
        go_quiet (fail)
        go_wp2
        go_ret
        exact ⟨by simp [q1, q2, q3], HB.out _⟩
      · have q4 : decide (T.boots = 0) = false := decide_eq_false q3
        have q4' : (T.boots == 0) = false := by simp [q3]
        go_enter Tryz.func90, Tryz.ntmps90
        go_wp2
        go_quiet (fail)
        go_wp2
        go_ret
        exact ⟨by simp [q1, q2, q3], HB.out _⟩
    · have q6 : decide (T.id = r.org) = false := decide_eq_false q2
      have q6' : (T.id == r.org) = false := by simp [q2]
      go_enter Tryz.func90, Tryz.ntmps90
      go_wp2
      go_quiet (fail)
      go_wp2
      go_ret
      exact ⟨by simp [q1, q2], HB.out _⟩
end Go.Proofs.YtillgoegiplmkaaGreatDoor.B
