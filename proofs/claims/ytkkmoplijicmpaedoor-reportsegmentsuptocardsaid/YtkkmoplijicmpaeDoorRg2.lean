import Derived.Test.YtkkmoplijicmpaeDoorRg1
import Derived.BigQuiet
namespace Go.Proofs.YtkkmoplijicmpaeDoor
open Go.RowKit
set_option linter.unusedVariables false
set_option linter.unusedSimpArgs false

/-- A report may be. -/
def mb5 (r : Rr) : Bool := decide (1 ≤ r.ser ∧ r.ser ≤ 4611686018427387903) && (decide (0 ≤ r.chk ∧ r.chk ≤ 4611686018427387903) && (decide (0 ≤ r.low ∧ r.low < r.upp ∧ r.upp ≤ 65536) && (decide ((1 : Int) ≤ (r.clm.length : Int) ∧ (r.clm.length : Int) ≤ 1000) && clOk r.upp r.low r.clm)))
theorem mb5_iff (r : Rr) : mb5 r = true ↔ (1 ≤ r.ser ∧ r.ser ≤ 4611686018427387903) ∧ (0 ≤ r.chk ∧ r.chk ≤ 4611686018427387903) ∧ (0 ≤ r.low ∧ r.low < r.upp ∧ r.upp ≤ 65536) ∧ ((1 : Int) ≤ (r.clm.length : Int) ∧ (r.clm.length : Int) ≤ 1000) ∧ clOk r.upp r.low r.clm = true := by
  simp only [mb5, Bool.and_eq_true, decide_eq_true_eq]
theorem mb5_ok {r : Rr} (h : mb5 r = true) : r.Ok := by
  obtain ⟨h1, h2, h3, h4, h5⟩ := (mb5_iff r).mp h
  exact ⟨h1, h2, h3.1, h3.2.1, h3.2.2, by omega, by omega, h5⟩

set_option maxRecDepth 100000 in
set_option maxHeartbeats 8000000 in
theorem mayBe5_n0 (r : Rr) (a : Option Addr) (n c : Nat) (hn : r.clm.length = n) (w : World) (hC : CIn w (.slice a n c) r.clm) (hf : ¬ (1 ≤ r.ser ∧ r.ser ≤ 4611686018427387903)) :
    Calls Tryd.prog 90 #[.agg (rpA r n a c)] w fun e w' => e = .returned (.bool false) ∧ Below w.heap.size w w' := by
  obtain ⟨W, hW⟩ : ∃ W, w.alloc (.cells (rpA r n a c) 75) = W := ⟨_, rfl⟩
  have HWe : Hid (w.alloc (.cells (rpA r n a c) 75) = W) := hW
  have hbW : Below w.heap.size w W := by rw [← hW]; exact (Below.refl _ _).alloc (Nat.le_refl _) _
  have HBW : Hid (Below w.heap.size w W) := hbW
  have HRo : Hid (∀ V, Below W.heap.size W V → V.heap[w.heap.size]? = some (.cells (rpA r n a c) 75 (0, 0))) := fun V hV => by
    have h1 : W.heap[w.heap.size]? = some (.cells (rpA r n a c) 75 (0, 0)) := by rw [← hW]; exact al_new _ _
    exact (hV.block _ (Array.getElem?_eq_some_iff.1 h1).1).trans h1
  have s1 : decide (1 ≤ r.ser ∧ r.ser ≤ 4611686018427387903) = false := decide_eq_false (by exact hf)
  have HYs : Hid (∀ V, Below W.heap.size W V → V.cell? ⟨w.heap.size, 0, none⟩ = some (.int .i64 r.ser) ∧ V.cell? ⟨w.heap.size, 1, none⟩ = some (.int .i64 r.chk) ∧ V.cell? ⟨w.heap.size, 2, none⟩ = some (.int .i64 r.upp) ∧ V.cell? ⟨w.heap.size, 3, none⟩ = some (.int .i64 r.low) ∧ V.cell? ⟨w.heap.size, 4, none⟩ = some (.slice a n c)) := fun V hV => ⟨(cell_of_row _ _ _ _ _ _ (HRo.out V hV)).trans rfl, (cell_of_row _ _ _ _ _ _ (HRo.out V hV)).trans rfl, (cell_of_row _ _ _ _ _ _ (HRo.out V hV)).trans rfl, (cell_of_row _ _ _ _ _ _ (HRo.out V hV)).trans rfl, (cell_of_row _ _ _ _ _ _ (HRo.out V hV)).trans rfl⟩
  have p0 := fun y => (HYs.out _ (ext_below W y)).1
  have p1 := fun y => (HYs.out _ (ext_below W y)).2.1
  have p2 := fun y => (HYs.out _ (ext_below W y)).2.2.1
  have p3 := fun y => (HYs.out _ (ext_below W y)).2.2.2.1
  have p4 := fun y => (HYs.out _ (ext_below W y)).2.2.2.2
  have HQb : ∀ x (v lo hi : Int) (q : Bool), decide (lo ≤ v ∧ v ≤ hi) = q → Calls Tryd.prog 75 #[.int .i64 v, .int .i64 lo, .int .i64 hi] (ext W x) fun e w'' => e = .returned (.bool q) ∧ ∃ y, w'' = ext W y := fun x v lo hi q h => by
    have q2 := C.between5_any v lo hi (ext W x)
    rw [h] at q2
    exact ext_same q2
  have HBE : Hid (∀ y, Below w.heap.size w (ext W y)) := fun y => HBW.out.trans ((ext_below W y).mono HBW.out.size)
  clear hW hbW hC hn HRo HYs hf
  go_enter Tryd.func90, Tryd.ntmps90
  go_wp2_with fail
  rw [HWe.out]
  refine wp_region_ext (by kernel_rfl) (by kernel_rfl) ?_
  repeat (go_big_quiet_step (first
    | (go_at_call 75; exact HQb _ _ _ _ _ (by first | exact s1))))
  refine wpQuiet_nil ?_
  intro w' hw'
  obtain ⟨y, hw''⟩ := hw'
  subst hw''
  go_wp2
  go_ret
  exact ⟨rfl, HBE.out y⟩
set_option maxRecDepth 100000 in
set_option maxHeartbeats 8000000 in
theorem mayBe5_n1 (r : Rr) (a : Option Addr) (n c : Nat) (hn : r.clm.length = n) (w : World) (hC : CIn w (.slice a n c) r.clm) (h1 : (1 ≤ r.ser ∧ r.ser ≤ 4611686018427387903)) (hf : ¬ (0 ≤ r.chk ∧ r.chk ≤ 4611686018427387903)) :
    Calls Tryd.prog 90 #[.agg (rpA r n a c)] w fun e w' => e = .returned (.bool false) ∧ Below w.heap.size w w' := by
  obtain ⟨W, hW⟩ : ∃ W, w.alloc (.cells (rpA r n a c) 75) = W := ⟨_, rfl⟩
  have HWe : Hid (w.alloc (.cells (rpA r n a c) 75) = W) := hW
  have hbW : Below w.heap.size w W := by rw [← hW]; exact (Below.refl _ _).alloc (Nat.le_refl _) _
  have HBW : Hid (Below w.heap.size w W) := hbW
  have HRo : Hid (∀ V, Below W.heap.size W V → V.heap[w.heap.size]? = some (.cells (rpA r n a c) 75 (0, 0))) := fun V hV => by
    have h1 : W.heap[w.heap.size]? = some (.cells (rpA r n a c) 75 (0, 0)) := by rw [← hW]; exact al_new _ _
    exact (hV.block _ (Array.getElem?_eq_some_iff.1 h1).1).trans h1
  have s1 : decide (1 ≤ r.ser ∧ r.ser ≤ 4611686018427387903) = true := decide_eq_true (by exact h1)
  have s2 : decide (0 ≤ r.chk ∧ r.chk ≤ 4611686018427387903) = false := decide_eq_false (by exact hf)
  have HYs : Hid (∀ V, Below W.heap.size W V → V.cell? ⟨w.heap.size, 0, none⟩ = some (.int .i64 r.ser) ∧ V.cell? ⟨w.heap.size, 1, none⟩ = some (.int .i64 r.chk) ∧ V.cell? ⟨w.heap.size, 2, none⟩ = some (.int .i64 r.upp) ∧ V.cell? ⟨w.heap.size, 3, none⟩ = some (.int .i64 r.low) ∧ V.cell? ⟨w.heap.size, 4, none⟩ = some (.slice a n c)) := fun V hV => ⟨(cell_of_row _ _ _ _ _ _ (HRo.out V hV)).trans rfl, (cell_of_row _ _ _ _ _ _ (HRo.out V hV)).trans rfl, (cell_of_row _ _ _ _ _ _ (HRo.out V hV)).trans rfl, (cell_of_row _ _ _ _ _ _ (HRo.out V hV)).trans rfl, (cell_of_row _ _ _ _ _ _ (HRo.out V hV)).trans rfl⟩
  have p0 := fun y => (HYs.out _ (ext_below W y)).1
  have p1 := fun y => (HYs.out _ (ext_below W y)).2.1
  have p2 := fun y => (HYs.out _ (ext_below W y)).2.2.1
  have p3 := fun y => (HYs.out _ (ext_below W y)).2.2.2.1
  have p4 := fun y => (HYs.out _ (ext_below W y)).2.2.2.2
  have HQb : ∀ x (v lo hi : Int) (q : Bool), decide (lo ≤ v ∧ v ≤ hi) = q → Calls Tryd.prog 75 #[.int .i64 v, .int .i64 lo, .int .i64 hi] (ext W x) fun e w'' => e = .returned (.bool q) ∧ ∃ y, w'' = ext W y := fun x v lo hi q h => by
    have q2 := C.between5_any v lo hi (ext W x)
    rw [h] at q2
    exact ext_same q2
  have HBE : Hid (∀ y, Below w.heap.size w (ext W y)) := fun y => HBW.out.trans ((ext_below W y).mono HBW.out.size)
  clear hW hbW hC hn HRo HYs h1 hf
  go_enter Tryd.func90, Tryd.ntmps90
  go_wp2_with fail
  rw [HWe.out]
  refine wp_region_ext (by kernel_rfl) (by kernel_rfl) ?_
  repeat (go_big_quiet_step (first
    | (go_at_call 75; exact HQb _ _ _ _ _ (by first | exact s1 | exact s2))))
  refine wpQuiet_nil ?_
  intro w' hw'
  obtain ⟨y, hw''⟩ := hw'
  subst hw''
  go_wp2
  go_ret
  exact ⟨rfl, HBE.out y⟩
set_option maxRecDepth 100000 in
set_option maxHeartbeats 8000000 in
theorem mayBe5_n2 (r : Rr) (a : Option Addr) (n c : Nat) (hn : r.clm.length = n) (w : World) (hC : CIn w (.slice a n c) r.clm) (h1 : (1 ≤ r.ser ∧ r.ser ≤ 4611686018427387903)) (h2 : (0 ≤ r.chk ∧ r.chk ≤ 4611686018427387903)) (hf : ¬ (0 ≤ r.low ∧ r.low < r.upp ∧ r.upp ≤ 65536)) :
    Calls Tryd.prog 90 #[.agg (rpA r n a c)] w fun e w' => e = .returned (.bool false) ∧ Below w.heap.size w w' := by
  obtain ⟨W, hW⟩ : ∃ W, w.alloc (.cells (rpA r n a c) 75) = W := ⟨_, rfl⟩
  have HWe : Hid (w.alloc (.cells (rpA r n a c) 75) = W) := hW
  have hbW : Below w.heap.size w W := by rw [← hW]; exact (Below.refl _ _).alloc (Nat.le_refl _) _
  have HBW : Hid (Below w.heap.size w W) := hbW
  have HRo : Hid (∀ V, Below W.heap.size W V → V.heap[w.heap.size]? = some (.cells (rpA r n a c) 75 (0, 0))) := fun V hV => by
    have h1 : W.heap[w.heap.size]? = some (.cells (rpA r n a c) 75 (0, 0)) := by rw [← hW]; exact al_new _ _
    exact (hV.block _ (Array.getElem?_eq_some_iff.1 h1).1).trans h1
  have s1 : decide (1 ≤ r.ser ∧ r.ser ≤ 4611686018427387903) = true := decide_eq_true (by exact h1)
  have s2 : decide (0 ≤ r.chk ∧ r.chk ≤ 4611686018427387903) = true := decide_eq_true (by exact h2)
  have s3 : decide (0 ≤ r.low ∧ r.low < r.upp ∧ r.upp ≤ 65536) = false := decide_eq_false (by exact hf)
  have HYs : Hid (∀ V, Below W.heap.size W V → V.cell? ⟨w.heap.size, 0, none⟩ = some (.int .i64 r.ser) ∧ V.cell? ⟨w.heap.size, 1, none⟩ = some (.int .i64 r.chk) ∧ V.cell? ⟨w.heap.size, 2, none⟩ = some (.int .i64 r.upp) ∧ V.cell? ⟨w.heap.size, 3, none⟩ = some (.int .i64 r.low) ∧ V.cell? ⟨w.heap.size, 4, none⟩ = some (.slice a n c)) := fun V hV => ⟨(cell_of_row _ _ _ _ _ _ (HRo.out V hV)).trans rfl, (cell_of_row _ _ _ _ _ _ (HRo.out V hV)).trans rfl, (cell_of_row _ _ _ _ _ _ (HRo.out V hV)).trans rfl, (cell_of_row _ _ _ _ _ _ (HRo.out V hV)).trans rfl, (cell_of_row _ _ _ _ _ _ (HRo.out V hV)).trans rfl⟩
  have p0 := fun y => (HYs.out _ (ext_below W y)).1
  have p1 := fun y => (HYs.out _ (ext_below W y)).2.1
  have p2 := fun y => (HYs.out _ (ext_below W y)).2.2.1
  have p3 := fun y => (HYs.out _ (ext_below W y)).2.2.2.1
  have p4 := fun y => (HYs.out _ (ext_below W y)).2.2.2.2
  have HQb : ∀ x (v lo hi : Int) (q : Bool), decide (lo ≤ v ∧ v ≤ hi) = q → Calls Tryd.prog 75 #[.int .i64 v, .int .i64 lo, .int .i64 hi] (ext W x) fun e w'' => e = .returned (.bool q) ∧ ∃ y, w'' = ext W y := fun x v lo hi q h => by
    have q2 := C.between5_any v lo hi (ext W x)
    rw [h] at q2
    exact ext_same q2
  have HQ3 : ∀ x, Calls Tryd.prog 77 #[.int .i64 r.low, .int .i64 r.upp] (ext W x) fun e w'' => e = .returned (.bool false) ∧ ∃ y, w'' = ext W y := fun x => by
    have q2 := bounds5_any r.low r.upp (ext W x)
    rw [s3] at q2
    exact ext_same q2
  have HBE : Hid (∀ y, Below w.heap.size w (ext W y)) := fun y => HBW.out.trans ((ext_below W y).mono HBW.out.size)
  clear hW hbW hC hn HRo HYs h1 h2 hf
  go_enter Tryd.func90, Tryd.ntmps90
  go_wp2_with fail
  rw [HWe.out]
  refine wp_region_ext (by kernel_rfl) (by kernel_rfl) ?_
  repeat (go_big_quiet_step (first
    | (go_at_call 75; exact HQb _ _ _ _ _ (by first | exact s1 | exact s2))
    | (go_at_call 77; exact HQ3 _)))
  refine wpQuiet_nil ?_
  intro w' hw'
  obtain ⟨y, hw''⟩ := hw'
  subst hw''
  go_wp2
  go_ret
  exact ⟨rfl, HBE.out y⟩
set_option maxRecDepth 100000 in
set_option maxHeartbeats 8000000 in
theorem mayBe5_n3 (r : Rr) (a : Option Addr) (n c : Nat) (hn : r.clm.length = n) (w : World) (hC : CIn w (.slice a n c) r.clm) (h1 : (1 ≤ r.ser ∧ r.ser ≤ 4611686018427387903)) (h2 : (0 ≤ r.chk ∧ r.chk ≤ 4611686018427387903)) (h3 : (0 ≤ r.low ∧ r.low < r.upp ∧ r.upp ≤ 65536)) (hf : ¬ ((1 : Int) ≤ (r.clm.length : Int) ∧ (r.clm.length : Int) ≤ 1000)) :
    Calls Tryd.prog 90 #[.agg (rpA r n a c)] w fun e w' => e = .returned (.bool false) ∧ Below w.heap.size w w' := by
  obtain ⟨W, hW⟩ : ∃ W, w.alloc (.cells (rpA r n a c) 75) = W := ⟨_, rfl⟩
  have HWe : Hid (w.alloc (.cells (rpA r n a c) 75) = W) := hW
  have hbW : Below w.heap.size w W := by rw [← hW]; exact (Below.refl _ _).alloc (Nat.le_refl _) _
  have HBW : Hid (Below w.heap.size w W) := hbW
  have HRo : Hid (∀ V, Below W.heap.size W V → V.heap[w.heap.size]? = some (.cells (rpA r n a c) 75 (0, 0))) := fun V hV => by
    have h1 : W.heap[w.heap.size]? = some (.cells (rpA r n a c) 75 (0, 0)) := by rw [← hW]; exact al_new _ _
    exact (hV.block _ (Array.getElem?_eq_some_iff.1 h1).1).trans h1
  have s1 : decide (1 ≤ r.ser ∧ r.ser ≤ 4611686018427387903) = true := decide_eq_true (by exact h1)
  have s2 : decide (0 ≤ r.chk ∧ r.chk ≤ 4611686018427387903) = true := decide_eq_true (by exact h2)
  have s3 : decide (0 ≤ r.low ∧ r.low < r.upp ∧ r.upp ≤ 65536) = true := decide_eq_true (by exact h3)
  have s4 : decide ((1 : Int) ≤ (n : Int) ∧ (n : Int) ≤ 1000) = false := decide_eq_false (by rw [← hn]; exact hf)
  have HYs : Hid (∀ V, Below W.heap.size W V → V.cell? ⟨w.heap.size, 0, none⟩ = some (.int .i64 r.ser) ∧ V.cell? ⟨w.heap.size, 1, none⟩ = some (.int .i64 r.chk) ∧ V.cell? ⟨w.heap.size, 2, none⟩ = some (.int .i64 r.upp) ∧ V.cell? ⟨w.heap.size, 3, none⟩ = some (.int .i64 r.low) ∧ V.cell? ⟨w.heap.size, 4, none⟩ = some (.slice a n c)) := fun V hV => ⟨(cell_of_row _ _ _ _ _ _ (HRo.out V hV)).trans rfl, (cell_of_row _ _ _ _ _ _ (HRo.out V hV)).trans rfl, (cell_of_row _ _ _ _ _ _ (HRo.out V hV)).trans rfl, (cell_of_row _ _ _ _ _ _ (HRo.out V hV)).trans rfl, (cell_of_row _ _ _ _ _ _ (HRo.out V hV)).trans rfl⟩
  have p0 := fun y => (HYs.out _ (ext_below W y)).1
  have p1 := fun y => (HYs.out _ (ext_below W y)).2.1
  have p2 := fun y => (HYs.out _ (ext_below W y)).2.2.1
  have p3 := fun y => (HYs.out _ (ext_below W y)).2.2.2.1
  have p4 := fun y => (HYs.out _ (ext_below W y)).2.2.2.2
  have HQb : ∀ x (v lo hi : Int) (q : Bool), decide (lo ≤ v ∧ v ≤ hi) = q → Calls Tryd.prog 75 #[.int .i64 v, .int .i64 lo, .int .i64 hi] (ext W x) fun e w'' => e = .returned (.bool q) ∧ ∃ y, w'' = ext W y := fun x v lo hi q h => by
    have q2 := C.between5_any v lo hi (ext W x)
    rw [h] at q2
    exact ext_same q2
  have HQ3 : ∀ x, Calls Tryd.prog 77 #[.int .i64 r.low, .int .i64 r.upp] (ext W x) fun e w'' => e = .returned (.bool true) ∧ ∃ y, w'' = ext W y := fun x => by
    have q2 := bounds5_any r.low r.upp (ext W x)
    rw [s3] at q2
    exact ext_same q2
  have HBE : Hid (∀ y, Below w.heap.size w (ext W y)) := fun y => HBW.out.trans ((ext_below W y).mono HBW.out.size)
  clear hW hbW hC hn HRo HYs h1 h2 h3 hf
  go_enter Tryd.func90, Tryd.ntmps90
  go_wp2_with fail
  rw [HWe.out]
  refine wp_region_ext (by kernel_rfl) (by kernel_rfl) ?_
  repeat (go_big_quiet_step (first
    | (go_at_call 75; exact HQb _ _ _ _ _ (by first | exact s1 | exact s2 | exact s4))
    | (go_at_call 77; exact HQ3 _)))
  refine wpQuiet_nil ?_
  intro w' hw'
  obtain ⟨y, hw''⟩ := hw'
  subst hw''
  go_wp2
  go_ret
  exact ⟨rfl, HBE.out y⟩
set_option maxRecDepth 100000 in
set_option maxHeartbeats 8000000 in
theorem mayBe5_rt (r : Rr) (a : Option Addr) (n c : Nat) (hn : r.clm.length = n) (w : World) (hC : CIn w (.slice a n c) r.clm) (h1 : (1 ≤ r.ser ∧ r.ser ≤ 4611686018427387903)) (h2 : (0 ≤ r.chk ∧ r.chk ≤ 4611686018427387903)) (h3 : (0 ≤ r.low ∧ r.low < r.upp ∧ r.upp ≤ 65536)) (h4 : ((1 : Int) ≤ (r.clm.length : Int) ∧ (r.clm.length : Int) ≤ 1000)) (hf : rtB 0 r.clm = false) :
    Calls Tryd.prog 90 #[.agg (rpA r n a c)] w fun e w' => e = .returned (.bool false) ∧ Below w.heap.size w w' := by
  obtain ⟨W, hW⟩ : ∃ W, w.alloc (.cells (rpA r n a c) 75) = W := ⟨_, rfl⟩
  have HWe : Hid (w.alloc (.cells (rpA r n a c) 75) = W) := hW
  have hbW : Below w.heap.size w W := by rw [← hW]; exact (Below.refl _ _).alloc (Nat.le_refl _) _
  have HBW : Hid (Below w.heap.size w W) := hbW
  have HRo : Hid (∀ V, Below W.heap.size W V → V.heap[w.heap.size]? = some (.cells (rpA r n a c) 75 (0, 0))) := fun V hV => by
    have h1 : W.heap[w.heap.size]? = some (.cells (rpA r n a c) 75 (0, 0)) := by rw [← hW]; exact al_new _ _
    exact (hV.block _ (Array.getElem?_eq_some_iff.1 h1).1).trans h1
  have s1 : decide (1 ≤ r.ser ∧ r.ser ≤ 4611686018427387903) = true := decide_eq_true (by exact h1)
  have s2 : decide (0 ≤ r.chk ∧ r.chk ≤ 4611686018427387903) = true := decide_eq_true (by exact h2)
  have s3 : decide (0 ≤ r.low ∧ r.low < r.upp ∧ r.upp ≤ 65536) = true := decide_eq_true (by exact h3)
  have s4 : decide ((1 : Int) ≤ (n : Int) ∧ (n : Int) ≤ 1000) = true := decide_eq_true (by rw [← hn]; exact h4)
  have hn1 : 1 ≤ n := by rw [← hn]; omega
  have hn2 : n ≤ 1000 := by rw [← hn]; omega
  have HRi : Hid (∀ x, Calls Tryd.prog 76 #[.slice a n c] (ext W x) fun e w' => e = .returned (.bool false) ∧ ∃ y, w' = ext (ext W x) y) := fun x => right_g a n c r.clm _ ((hC.below hbW).below (ext_below W x)) hn hn2 false hf
  have HYs : Hid (∀ V, Below W.heap.size W V → V.cell? ⟨w.heap.size, 0, none⟩ = some (.int .i64 r.ser) ∧ V.cell? ⟨w.heap.size, 1, none⟩ = some (.int .i64 r.chk) ∧ V.cell? ⟨w.heap.size, 2, none⟩ = some (.int .i64 r.upp) ∧ V.cell? ⟨w.heap.size, 3, none⟩ = some (.int .i64 r.low) ∧ V.cell? ⟨w.heap.size, 4, none⟩ = some (.slice a n c)) := fun V hV => ⟨(cell_of_row _ _ _ _ _ _ (HRo.out V hV)).trans rfl, (cell_of_row _ _ _ _ _ _ (HRo.out V hV)).trans rfl, (cell_of_row _ _ _ _ _ _ (HRo.out V hV)).trans rfl, (cell_of_row _ _ _ _ _ _ (HRo.out V hV)).trans rfl, (cell_of_row _ _ _ _ _ _ (HRo.out V hV)).trans rfl⟩
  have p0 := fun y => (HYs.out _ (ext_below W y)).1
  have p1 := fun y => (HYs.out _ (ext_below W y)).2.1
  have p2 := fun y => (HYs.out _ (ext_below W y)).2.2.1
  have p3 := fun y => (HYs.out _ (ext_below W y)).2.2.2.1
  have p4 := fun y => (HYs.out _ (ext_below W y)).2.2.2.2
  have HQb : ∀ x (v lo hi : Int) (q : Bool), decide (lo ≤ v ∧ v ≤ hi) = q → Calls Tryd.prog 75 #[.int .i64 v, .int .i64 lo, .int .i64 hi] (ext W x) fun e w'' => e = .returned (.bool q) ∧ ∃ y, w'' = ext W y := fun x v lo hi q h => by
    have q2 := C.between5_any v lo hi (ext W x)
    rw [h] at q2
    exact ext_same q2
  have HQ3 : ∀ x, Calls Tryd.prog 77 #[.int .i64 r.low, .int .i64 r.upp] (ext W x) fun e w'' => e = .returned (.bool true) ∧ ∃ y, w'' = ext W y := fun x => by
    have q2 := bounds5_any r.low r.upp (ext W x)
    rw [s3] at q2
    exact ext_same q2
  have HQ5 : ∀ x, Calls Tryd.prog 76 #[.slice a n c] (ext W x) fun e w'' => e = .returned (.bool false) ∧ ∃ y, w'' = ext W y := fun x => ext_more (HRi.out x)
  have HBE : Hid (∀ y, Below w.heap.size w (ext W y)) := fun y => HBW.out.trans ((ext_below W y).mono HBW.out.size)
  clear hW hbW hC hn HRo HYs h1 h2 h3 h4 HRi hf hn1
  go_enter Tryd.func90, Tryd.ntmps90
  go_wp2_with fail
  rw [HWe.out]
  refine wp_region_ext (by kernel_rfl) (by kernel_rfl) ?_
  repeat (go_big_quiet_step (first
    | (go_at_call 75; exact HQb _ _ _ _ _ (by first | exact s1 | exact s2 | exact s4))
    | (go_at_call 77; exact HQ3 _)
    | (go_at_call 76; exact HQ5 _)))
  refine wpQuiet_nil ?_
  intro w' hw'
  obtain ⟨y, hw''⟩ := hw'
  subst hw''
  go_wp2
  go_ret
  exact ⟨rfl, HBE.out y⟩
set_option maxRecDepth 100000 in
set_option maxHeartbeats 8000000 in
theorem mayBe5_fi (r : Rr) (a : Option Addr) (n c : Nat) (hn : r.clm.length = n) (w : World) (hC : CIn w (.slice a n c) r.clm) (h1 : (1 ≤ r.ser ∧ r.ser ≤ 4611686018427387903)) (h2 : (0 ≤ r.chk ∧ r.chk ≤ 4611686018427387903)) (h3 : (0 ≤ r.low ∧ r.low < r.upp ∧ r.upp ≤ 65536)) (h4 : ((1 : Int) ≤ (r.clm.length : Int) ∧ (r.clm.length : Int) ≤ 1000)) (hr : rtB 0 r.clm = true) (hf : ∃ p, r.clm[0]? = some p ∧ ¬ r.low ≤ p.1) :
    Calls Tryd.prog 90 #[.agg (rpA r n a c)] w fun e w' => e = .returned (.bool false) ∧ Below w.heap.size w w' := by
  obtain ⟨W, hW⟩ : ∃ W, w.alloc (.cells (rpA r n a c) 75) = W := ⟨_, rfl⟩
  have HWe : Hid (w.alloc (.cells (rpA r n a c) 75) = W) := hW
  have hbW : Below w.heap.size w W := by rw [← hW]; exact (Below.refl _ _).alloc (Nat.le_refl _) _
  have HBW : Hid (Below w.heap.size w W) := hbW
  have HRo : Hid (∀ V, Below W.heap.size W V → V.heap[w.heap.size]? = some (.cells (rpA r n a c) 75 (0, 0))) := fun V hV => by
    have h1 : W.heap[w.heap.size]? = some (.cells (rpA r n a c) 75 (0, 0)) := by rw [← hW]; exact al_new _ _
    exact (hV.block _ (Array.getElem?_eq_some_iff.1 h1).1).trans h1
  have s1 : decide (1 ≤ r.ser ∧ r.ser ≤ 4611686018427387903) = true := decide_eq_true (by exact h1)
  have s2 : decide (0 ≤ r.chk ∧ r.chk ≤ 4611686018427387903) = true := decide_eq_true (by exact h2)
  have s3 : decide (0 ≤ r.low ∧ r.low < r.upp ∧ r.upp ≤ 65536) = true := decide_eq_true (by exact h3)
  have s4 : decide ((1 : Int) ≤ (n : Int) ∧ (n : Int) ≤ 1000) = true := decide_eq_true (by rw [← hn]; exact h4)
  have hn1 : 1 ≤ n := by rw [← hn]; omega
  have hn2 : n ≤ 1000 := by rw [← hn]; omega
  have HRi : Hid (∀ x, Calls Tryd.prog 76 #[.slice a n c] (ext W x) fun e w' => e = .returned (.bool true) ∧ ∃ y, w' = ext (ext W x) y) := fun x => right_g a n c r.clm _ ((hC.below hbW).below (ext_below W x)) hn hn2 true hr
  obtain ⟨p, hp⟩ := get_one r.clm 0 (by omega)
  obtain ⟨z, hz⟩ := get_one r.clm (n - 1) (by omega)
  obtain ⟨g, off, rfl, _⟩ := hC.at hp
  have HG : Hid (∀ V, Below w.heap.size w V → V.cell? ⟨g, off, none⟩ = some (.int .i64 p.1) ∧ V.cell? ⟨g, off + (n - 1) * 2 + 1, none⟩ = some (.int .i64 z.2)) := fun V hV => by
    obtain ⟨g1, o1, e1, x0, _⟩ := (hC.below hV).at hp
    cases e1
    obtain ⟨g2, o2, e2, _, x3⟩ := (hC.below hV).at hz
    cases e2
    exact ⟨by simpa using x0, x3⟩
  have db1 : decide (r.low ≤ p.1) = false := decide_eq_false (by obtain ⟨p2, e1, e2⟩ := hf; rw [hp] at e1; cases e1; exact e2)
  obtain ⟨m, rfl⟩ : ∃ m, n = m + 1 := ⟨n - 1, by omega⟩
  rw [Nat.add_sub_cancel] at HG
  have hwm : IntKind.i64.wrap ((m : Int) + 1 - 1) = (m : Int) := by rw [IntKind.wrap_i64]; omega
  have hmm : (m : Int) < (m : Int) + 1 := by omega
  have hm0 : (0 : Int) < (m : Int) + 1 := by omega
  have s4 : decide ((1 : Int) ≤ (m : Int) + 1 ∧ (m : Int) + 1 ≤ 1000) = true := decide_eq_true ⟨by omega, by omega⟩
  have HYs : Hid (∀ V, Below W.heap.size W V → V.cell? ⟨w.heap.size, 0, none⟩ = some (.int .i64 r.ser) ∧ V.cell? ⟨w.heap.size, 1, none⟩ = some (.int .i64 r.chk) ∧ V.cell? ⟨w.heap.size, 2, none⟩ = some (.int .i64 r.upp) ∧ V.cell? ⟨w.heap.size, 3, none⟩ = some (.int .i64 r.low) ∧ V.cell? ⟨w.heap.size, 4, none⟩ = some (.slice (some ⟨g, off, none⟩) (m + 1) c)) := fun V hV => ⟨(cell_of_row _ _ _ _ _ _ (HRo.out V hV)).trans rfl, (cell_of_row _ _ _ _ _ _ (HRo.out V hV)).trans rfl, (cell_of_row _ _ _ _ _ _ (HRo.out V hV)).trans rfl, (cell_of_row _ _ _ _ _ _ (HRo.out V hV)).trans rfl, (cell_of_row _ _ _ _ _ _ (HRo.out V hV)).trans rfl⟩
  have p0 := fun y => (HYs.out _ (ext_below W y)).1
  have p1 := fun y => (HYs.out _ (ext_below W y)).2.1
  have p2 := fun y => (HYs.out _ (ext_below W y)).2.2.1
  have p3 := fun y => (HYs.out _ (ext_below W y)).2.2.2.1
  have p4 := fun y => (HYs.out _ (ext_below W y)).2.2.2.2
  have p5 := fun y => (HG.out _ (hbW.trans ((ext_below W y).mono hbW.size))).1
  have p6 := fun y => (HG.out _ (hbW.trans ((ext_below W y).mono hbW.size))).2
  have HQb : ∀ x (v lo hi : Int) (q : Bool), decide (lo ≤ v ∧ v ≤ hi) = q → Calls Tryd.prog 75 #[.int .i64 v, .int .i64 lo, .int .i64 hi] (ext W x) fun e w'' => e = .returned (.bool q) ∧ ∃ y, w'' = ext W y := fun x v lo hi q h => by
    have q2 := C.between5_any v lo hi (ext W x)
    rw [h] at q2
    exact ext_same q2
  have HQ3 : ∀ x, Calls Tryd.prog 77 #[.int .i64 r.low, .int .i64 r.upp] (ext W x) fun e w'' => e = .returned (.bool true) ∧ ∃ y, w'' = ext W y := fun x => by
    have q2 := bounds5_any r.low r.upp (ext W x)
    rw [s3] at q2
    exact ext_same q2
  have HQ5 : ∀ x, Calls Tryd.prog 76 #[.slice (some ⟨g, off, none⟩) (m + 1) c] (ext W x) fun e w'' => e = .returned (.bool true) ∧ ∃ y, w'' = ext W y := fun x => ext_more (HRi.out x)
  have HBE : Hid (∀ y, Below w.heap.size w (ext W y)) := fun y => HBW.out.trans ((ext_below W y).mono HBW.out.size)
  clear hW hbW hC hn HRo HYs h1 h2 h3 h4 HRi hp hz HG hr hn1 hf
  go_enter Tryd.func90, Tryd.ntmps90
  go_wp2_with fail
  rw [HWe.out]
  refine wp_region_ext (by kernel_rfl) (by kernel_rfl) ?_
  repeat (go_big_quiet_step (first
    | (go_at_call 75; exact HQb _ _ _ _ _ (by first | exact s1 | exact s2 | exact s4))
    | (go_at_call 77; exact HQ3 _)
    | (go_at_call 76; exact HQ5 _)))
  refine wpQuiet_nil ?_
  intro w' hw'
  obtain ⟨y, hw''⟩ := hw'
  subst hw''
  go_wp2
  go_ret
  exact ⟨rfl, HBE.out y⟩
set_option maxRecDepth 100000 in
set_option maxHeartbeats 8000000 in
theorem mayBe5_la (r : Rr) (a : Option Addr) (n c : Nat) (hn : r.clm.length = n) (w : World) (hC : CIn w (.slice a n c) r.clm) (h1 : (1 ≤ r.ser ∧ r.ser ≤ 4611686018427387903)) (h2 : (0 ≤ r.chk ∧ r.chk ≤ 4611686018427387903)) (h3 : (0 ≤ r.low ∧ r.low < r.upp ∧ r.upp ≤ 65536)) (h4 : ((1 : Int) ≤ (r.clm.length : Int) ∧ (r.clm.length : Int) ≤ 1000)) (hr : rtB 0 r.clm = true) (g1 : ∀ p, r.clm[0]? = some p → r.low ≤ p.1) (hf : ∃ p, r.clm[r.clm.length - 1]? = some p ∧ ¬ p.2 ≤ r.upp) :
    Calls Tryd.prog 90 #[.agg (rpA r n a c)] w fun e w' => e = .returned (.bool false) ∧ Below w.heap.size w w' := by
  obtain ⟨W, hW⟩ : ∃ W, w.alloc (.cells (rpA r n a c) 75) = W := ⟨_, rfl⟩
  have HWe : Hid (w.alloc (.cells (rpA r n a c) 75) = W) := hW
  have hbW : Below w.heap.size w W := by rw [← hW]; exact (Below.refl _ _).alloc (Nat.le_refl _) _
  have HBW : Hid (Below w.heap.size w W) := hbW
  have HRo : Hid (∀ V, Below W.heap.size W V → V.heap[w.heap.size]? = some (.cells (rpA r n a c) 75 (0, 0))) := fun V hV => by
    have h1 : W.heap[w.heap.size]? = some (.cells (rpA r n a c) 75 (0, 0)) := by rw [← hW]; exact al_new _ _
    exact (hV.block _ (Array.getElem?_eq_some_iff.1 h1).1).trans h1
  have s1 : decide (1 ≤ r.ser ∧ r.ser ≤ 4611686018427387903) = true := decide_eq_true (by exact h1)
  have s2 : decide (0 ≤ r.chk ∧ r.chk ≤ 4611686018427387903) = true := decide_eq_true (by exact h2)
  have s3 : decide (0 ≤ r.low ∧ r.low < r.upp ∧ r.upp ≤ 65536) = true := decide_eq_true (by exact h3)
  have s4 : decide ((1 : Int) ≤ (n : Int) ∧ (n : Int) ≤ 1000) = true := decide_eq_true (by rw [← hn]; exact h4)
  have hn1 : 1 ≤ n := by rw [← hn]; omega
  have hn2 : n ≤ 1000 := by rw [← hn]; omega
  have HRi : Hid (∀ x, Calls Tryd.prog 76 #[.slice a n c] (ext W x) fun e w' => e = .returned (.bool true) ∧ ∃ y, w' = ext (ext W x) y) := fun x => right_g a n c r.clm _ ((hC.below hbW).below (ext_below W x)) hn hn2 true hr
  obtain ⟨p, hp⟩ := get_one r.clm 0 (by omega)
  obtain ⟨z, hz⟩ := get_one r.clm (n - 1) (by omega)
  obtain ⟨g, off, rfl, _⟩ := hC.at hp
  have HG : Hid (∀ V, Below w.heap.size w V → V.cell? ⟨g, off, none⟩ = some (.int .i64 p.1) ∧ V.cell? ⟨g, off + (n - 1) * 2 + 1, none⟩ = some (.int .i64 z.2)) := fun V hV => by
    obtain ⟨g1, o1, e1, x0, _⟩ := (hC.below hV).at hp
    cases e1
    obtain ⟨g2, o2, e2, _, x3⟩ := (hC.below hV).at hz
    cases e2
    exact ⟨by simpa using x0, x3⟩
  have db1 : decide (r.low ≤ p.1) = true := decide_eq_true (g1 p hp)
  have db2 : decide (z.2 ≤ r.upp) = false := decide_eq_false (by obtain ⟨p2, e1, e2⟩ := hf; rw [hn, hz] at e1; cases e1; exact e2)
  obtain ⟨m, rfl⟩ : ∃ m, n = m + 1 := ⟨n - 1, by omega⟩
  rw [Nat.add_sub_cancel] at HG
  have hwm : IntKind.i64.wrap ((m : Int) + 1 - 1) = (m : Int) := by rw [IntKind.wrap_i64]; omega
  have hmm : (m : Int) < (m : Int) + 1 := by omega
  have hm0 : (0 : Int) < (m : Int) + 1 := by omega
  have s4 : decide ((1 : Int) ≤ (m : Int) + 1 ∧ (m : Int) + 1 ≤ 1000) = true := decide_eq_true ⟨by omega, by omega⟩
  have HYs : Hid (∀ V, Below W.heap.size W V → V.cell? ⟨w.heap.size, 0, none⟩ = some (.int .i64 r.ser) ∧ V.cell? ⟨w.heap.size, 1, none⟩ = some (.int .i64 r.chk) ∧ V.cell? ⟨w.heap.size, 2, none⟩ = some (.int .i64 r.upp) ∧ V.cell? ⟨w.heap.size, 3, none⟩ = some (.int .i64 r.low) ∧ V.cell? ⟨w.heap.size, 4, none⟩ = some (.slice (some ⟨g, off, none⟩) (m + 1) c)) := fun V hV => ⟨(cell_of_row _ _ _ _ _ _ (HRo.out V hV)).trans rfl, (cell_of_row _ _ _ _ _ _ (HRo.out V hV)).trans rfl, (cell_of_row _ _ _ _ _ _ (HRo.out V hV)).trans rfl, (cell_of_row _ _ _ _ _ _ (HRo.out V hV)).trans rfl, (cell_of_row _ _ _ _ _ _ (HRo.out V hV)).trans rfl⟩
  have p0 := fun y => (HYs.out _ (ext_below W y)).1
  have p1 := fun y => (HYs.out _ (ext_below W y)).2.1
  have p2 := fun y => (HYs.out _ (ext_below W y)).2.2.1
  have p3 := fun y => (HYs.out _ (ext_below W y)).2.2.2.1
  have p4 := fun y => (HYs.out _ (ext_below W y)).2.2.2.2
  have p5 := fun y => (HG.out _ (hbW.trans ((ext_below W y).mono hbW.size))).1
  have p6 := fun y => (HG.out _ (hbW.trans ((ext_below W y).mono hbW.size))).2
  have HQb : ∀ x (v lo hi : Int) (q : Bool), decide (lo ≤ v ∧ v ≤ hi) = q → Calls Tryd.prog 75 #[.int .i64 v, .int .i64 lo, .int .i64 hi] (ext W x) fun e w'' => e = .returned (.bool q) ∧ ∃ y, w'' = ext W y := fun x v lo hi q h => by
    have q2 := C.between5_any v lo hi (ext W x)
    rw [h] at q2
    exact ext_same q2
  have HQ3 : ∀ x, Calls Tryd.prog 77 #[.int .i64 r.low, .int .i64 r.upp] (ext W x) fun e w'' => e = .returned (.bool true) ∧ ∃ y, w'' = ext W y := fun x => by
    have q2 := bounds5_any r.low r.upp (ext W x)
    rw [s3] at q2
    exact ext_same q2
  have HQ5 : ∀ x, Calls Tryd.prog 76 #[.slice (some ⟨g, off, none⟩) (m + 1) c] (ext W x) fun e w'' => e = .returned (.bool true) ∧ ∃ y, w'' = ext W y := fun x => ext_more (HRi.out x)
  have HBE : Hid (∀ y, Below w.heap.size w (ext W y)) := fun y => HBW.out.trans ((ext_below W y).mono HBW.out.size)
  clear hW hbW hC hn HRo HYs h1 h2 h3 h4 HRi hp hz HG hr hn1 hf g1
  go_enter Tryd.func90, Tryd.ntmps90
  go_wp2_with fail
  rw [HWe.out]
  refine wp_region_ext (by kernel_rfl) (by kernel_rfl) ?_
  repeat (go_big_quiet_step (first
    | (go_at_call 75; exact HQb _ _ _ _ _ (by first | exact s1 | exact s2 | exact s4))
    | (go_at_call 77; exact HQ3 _)
    | (go_at_call 76; exact HQ5 _)))
  refine wpQuiet_nil ?_
  intro w' hw'
  obtain ⟨y, hw''⟩ := hw'
  subst hw''
  go_wp2
  go_ret
  exact ⟨rfl, HBE.out y⟩
set_option maxRecDepth 100000 in
set_option maxHeartbeats 8000000 in
theorem mayBe5_go (r : Rr) (a : Option Addr) (n c : Nat) (hn : r.clm.length = n) (w : World) (hC : CIn w (.slice a n c) r.clm) (h1 : (1 ≤ r.ser ∧ r.ser ≤ 4611686018427387903)) (h2 : (0 ≤ r.chk ∧ r.chk ≤ 4611686018427387903)) (h3 : (0 ≤ r.low ∧ r.low < r.upp ∧ r.upp ≤ 65536)) (h4 : ((1 : Int) ≤ (r.clm.length : Int) ∧ (r.clm.length : Int) ≤ 1000)) (hr : rtB 0 r.clm = true) (g1 : ∀ p, r.clm[0]? = some p → r.low ≤ p.1) (g2 : ∀ p, r.clm[r.clm.length - 1]? = some p → p.2 ≤ r.upp) :
    Calls Tryd.prog 90 #[.agg (rpA r n a c)] w fun e w' => e = .returned (.bool true) ∧ Below w.heap.size w w' := by
  obtain ⟨W, hW⟩ : ∃ W, w.alloc (.cells (rpA r n a c) 75) = W := ⟨_, rfl⟩
  have HWe : Hid (w.alloc (.cells (rpA r n a c) 75) = W) := hW
  have hbW : Below w.heap.size w W := by rw [← hW]; exact (Below.refl _ _).alloc (Nat.le_refl _) _
  have HBW : Hid (Below w.heap.size w W) := hbW
  have HRo : Hid (∀ V, Below W.heap.size W V → V.heap[w.heap.size]? = some (.cells (rpA r n a c) 75 (0, 0))) := fun V hV => by
    have h1 : W.heap[w.heap.size]? = some (.cells (rpA r n a c) 75 (0, 0)) := by rw [← hW]; exact al_new _ _
    exact (hV.block _ (Array.getElem?_eq_some_iff.1 h1).1).trans h1
  have s1 : decide (1 ≤ r.ser ∧ r.ser ≤ 4611686018427387903) = true := decide_eq_true (by exact h1)
  have s2 : decide (0 ≤ r.chk ∧ r.chk ≤ 4611686018427387903) = true := decide_eq_true (by exact h2)
  have s3 : decide (0 ≤ r.low ∧ r.low < r.upp ∧ r.upp ≤ 65536) = true := decide_eq_true (by exact h3)
  have s4 : decide ((1 : Int) ≤ (n : Int) ∧ (n : Int) ≤ 1000) = true := decide_eq_true (by rw [← hn]; exact h4)
  have hn1 : 1 ≤ n := by rw [← hn]; omega
  have hn2 : n ≤ 1000 := by rw [← hn]; omega
  have HRi : Hid (∀ x, Calls Tryd.prog 76 #[.slice a n c] (ext W x) fun e w' => e = .returned (.bool true) ∧ ∃ y, w' = ext (ext W x) y) := fun x => right_g a n c r.clm _ ((hC.below hbW).below (ext_below W x)) hn hn2 true hr
  obtain ⟨p, hp⟩ := get_one r.clm 0 (by omega)
  obtain ⟨z, hz⟩ := get_one r.clm (n - 1) (by omega)
  obtain ⟨g, off, rfl, _⟩ := hC.at hp
  have HG : Hid (∀ V, Below w.heap.size w V → V.cell? ⟨g, off, none⟩ = some (.int .i64 p.1) ∧ V.cell? ⟨g, off + (n - 1) * 2 + 1, none⟩ = some (.int .i64 z.2)) := fun V hV => by
    obtain ⟨g1, o1, e1, x0, _⟩ := (hC.below hV).at hp
    cases e1
    obtain ⟨g2, o2, e2, _, x3⟩ := (hC.below hV).at hz
    cases e2
    exact ⟨by simpa using x0, x3⟩
  have db1 : decide (r.low ≤ p.1) = true := decide_eq_true (g1 p hp)
  have db2 : decide (z.2 ≤ r.upp) = true := decide_eq_true (g2 z (by rw [hn]; exact hz))
  obtain ⟨m, rfl⟩ : ∃ m, n = m + 1 := ⟨n - 1, by omega⟩
  rw [Nat.add_sub_cancel] at HG
  have hwm : IntKind.i64.wrap ((m : Int) + 1 - 1) = (m : Int) := by rw [IntKind.wrap_i64]; omega
  have hmm : (m : Int) < (m : Int) + 1 := by omega
  have hm0 : (0 : Int) < (m : Int) + 1 := by omega
  have s4 : decide ((1 : Int) ≤ (m : Int) + 1 ∧ (m : Int) + 1 ≤ 1000) = true := decide_eq_true ⟨by omega, by omega⟩
  have HYs : Hid (∀ V, Below W.heap.size W V → V.cell? ⟨w.heap.size, 0, none⟩ = some (.int .i64 r.ser) ∧ V.cell? ⟨w.heap.size, 1, none⟩ = some (.int .i64 r.chk) ∧ V.cell? ⟨w.heap.size, 2, none⟩ = some (.int .i64 r.upp) ∧ V.cell? ⟨w.heap.size, 3, none⟩ = some (.int .i64 r.low) ∧ V.cell? ⟨w.heap.size, 4, none⟩ = some (.slice (some ⟨g, off, none⟩) (m + 1) c)) := fun V hV => ⟨(cell_of_row _ _ _ _ _ _ (HRo.out V hV)).trans rfl, (cell_of_row _ _ _ _ _ _ (HRo.out V hV)).trans rfl, (cell_of_row _ _ _ _ _ _ (HRo.out V hV)).trans rfl, (cell_of_row _ _ _ _ _ _ (HRo.out V hV)).trans rfl, (cell_of_row _ _ _ _ _ _ (HRo.out V hV)).trans rfl⟩
  have p0 := fun y => (HYs.out _ (ext_below W y)).1
  have p1 := fun y => (HYs.out _ (ext_below W y)).2.1
  have p2 := fun y => (HYs.out _ (ext_below W y)).2.2.1
  have p3 := fun y => (HYs.out _ (ext_below W y)).2.2.2.1
  have p4 := fun y => (HYs.out _ (ext_below W y)).2.2.2.2
  have p5 := fun y => (HG.out _ (hbW.trans ((ext_below W y).mono hbW.size))).1
  have p6 := fun y => (HG.out _ (hbW.trans ((ext_below W y).mono hbW.size))).2
  have HQb : ∀ x (v lo hi : Int) (q : Bool), decide (lo ≤ v ∧ v ≤ hi) = q → Calls Tryd.prog 75 #[.int .i64 v, .int .i64 lo, .int .i64 hi] (ext W x) fun e w'' => e = .returned (.bool q) ∧ ∃ y, w'' = ext W y := fun x v lo hi q h => by
    have q2 := C.between5_any v lo hi (ext W x)
    rw [h] at q2
    exact ext_same q2
  have HQ3 : ∀ x, Calls Tryd.prog 77 #[.int .i64 r.low, .int .i64 r.upp] (ext W x) fun e w'' => e = .returned (.bool true) ∧ ∃ y, w'' = ext W y := fun x => by
    have q2 := bounds5_any r.low r.upp (ext W x)
    rw [s3] at q2
    exact ext_same q2
  have HQ5 : ∀ x, Calls Tryd.prog 76 #[.slice (some ⟨g, off, none⟩) (m + 1) c] (ext W x) fun e w'' => e = .returned (.bool true) ∧ ∃ y, w'' = ext W y := fun x => ext_more (HRi.out x)
  have HBE : Hid (∀ y, Below w.heap.size w (ext W y)) := fun y => HBW.out.trans ((ext_below W y).mono HBW.out.size)
  clear hW hbW hC hn HRo HYs h1 h2 h3 h4 HRi hp hz HG hr hn1 g1 g2
  go_enter Tryd.func90, Tryd.ntmps90
  go_wp2_with fail
  rw [HWe.out]
  refine wp_region_ext (by kernel_rfl) (by kernel_rfl) ?_
  repeat (go_big_quiet_step (first
    | (go_at_call 75; exact HQb _ _ _ _ _ (by first | exact s1 | exact s2 | exact s4))
    | (go_at_call 77; exact HQ3 _)
    | (go_at_call 76; exact HQ5 _)))
  refine wpQuiet_nil ?_
  intro w' hw'
  obtain ⟨y, hw''⟩ := hw'
  subst hw''
  go_wp2
  go_ret
  exact ⟨rfl, HBE.out y⟩
/-- report.mayBe of any report. -/
theorem mayBe5_any (r : Rr) (a : Option Addr) (n c : Nat) (hn : r.clm.length = n) (w : World) (hC : CIn w (.slice a n c) r.clm) :
    Calls Tryd.prog 90 #[.agg (rpA r n a c)] w fun e w' => e = .returned (.bool (mb5 r)) ∧ Below w.heap.size w w' := by
  have bad : ∀ {w' : World}, (mb5 r = true → False) → mb5 r = false := fun h => Bool.eq_false_iff.mpr h
  by_cases h1 : (1 ≤ r.ser ∧ r.ser ≤ 4611686018427387903)
  rotate_left
  · rw [bad (w' := w) fun h => h1 ((mb5_iff r).mp h).1]; exact mayBe5_n0 r a n c hn w hC h1
  by_cases h2 : (0 ≤ r.chk ∧ r.chk ≤ 4611686018427387903)
  rotate_left
  · rw [bad (w' := w) fun h => h2 ((mb5_iff r).mp h).2.1]; exact mayBe5_n1 r a n c hn w hC h1 h2
  by_cases h3 : (0 ≤ r.low ∧ r.low < r.upp ∧ r.upp ≤ 65536)
  rotate_left
  · rw [bad (w' := w) fun h => h3 ((mb5_iff r).mp h).2.2.1]; exact mayBe5_n2 r a n c hn w hC h1 h2 h3
  by_cases h4 : ((1 : Int) ≤ (r.clm.length : Int) ∧ (r.clm.length : Int) ≤ 1000)
  rotate_left
  · rw [bad (w' := w) fun h => h4 ((mb5_iff r).mp h).2.2.2.1]; exact mayBe5_n3 r a n c hn w hC h1 h2 h3 h4
  by_cases h5 : rtB 0 r.clm = true
  rotate_left
  · rw [bad (w' := w) fun h => h5 (rtB_of ((mb5_iff r).mp h).2.2.2.2 h3.1 h3.1 h3.2.2)]; exact mayBe5_rt r a n c hn w hC h1 h2 h3 h4 (by simpa using h5)
  by_cases h6 : ∀ p, r.clm[0]? = some p → r.low ≤ p.1
  rotate_left
  · have h6' : ∃ p, r.clm[0]? = some p ∧ ¬ r.low ≤ p.1 := by
      obtain ⟨p, hp⟩ := get_one r.clm 0 (by omega)
      exact ⟨p, hp, fun h => h6 fun q hq => by rw [hp] at hq; cases hq; exact h⟩
    rw [bad (w' := w) fun h => h6 fun p hp => (clOk_at ((mb5_iff r).mp h).2.2.2.2 0 p hp).1]; exact mayBe5_fi r a n c hn w hC h1 h2 h3 h4 h5 h6'
  by_cases h7 : ∀ p, r.clm[r.clm.length - 1]? = some p → p.2 ≤ r.upp
  rotate_left
  · have h7' : ∃ p, r.clm[r.clm.length - 1]? = some p ∧ ¬ p.2 ≤ r.upp := by
      obtain ⟨p, hp⟩ := get_one r.clm (r.clm.length - 1) (by omega)
      exact ⟨p, hp, fun h => h7 fun q hq => by rw [hp] at hq; cases hq; exact h⟩
    rw [bad (w' := w) fun h => h7 fun p hp => (clOk_at ((mb5_iff r).mp h).2.2.2.2 _ p hp).2.2.1]; exact mayBe5_la r a n c hn w hC h1 h2 h3 h4 h5 h6 h7'
  rw [(mb5_iff r).mpr ⟨h1, h2, h3, h4, rtB_to h5 h6 h7⟩]
  exact mayBe5_go r a n c hn w hC h1 h2 h3 h4 h5 h6 h7

set_option maxRecDepth 100000 in
set_option maxHeartbeats 4000000 in
theorem rqMay_any (r : Rr) (a : Option Addr) (n c : Nat) (hn : r.clm.length = n) (w : World) (hC : CIn w (.slice a n c) r.clm) :
    Calls Tryd.prog 85 #[.agg (rpA r n a c)] w fun e w' => e = .returned (.bool (mb5 r)) ∧ Below w.heap.size w w' := by
  obtain ⟨W, hW⟩ : ∃ W, w.alloc (.cells (rpA r n a c) 75) = W := ⟨_, rfl⟩
  have HWe : Hid (w.alloc (.cells (rpA r n a c) 75) = W) := hW
  have hbW : Below w.heap.size w W := by rw [← hW]; exact (Below.refl _ _).alloc (Nat.le_refl _) _
  have HBW : Hid (Below w.heap.size w W) := hbW
  have HRo : Hid (∀ V, Below W.heap.size W V → V.heap[w.heap.size]? = some (.cells (rpA r n a c) 75 (0, 0))) := fun V hV => by
    have h1 : W.heap[w.heap.size]? = some (.cells (rpA r n a c) 75 (0, 0)) := by rw [← hW]; exact al_new _ _
    exact (hV.block _ (Array.getElem?_eq_some_iff.1 h1).1).trans h1
  obtain ⟨qm, hqm⟩ : ∃ q, mb5 r = q := ⟨_, rfl⟩
  have HM : Hid (qm = true ↔ (1 ≤ r.ser ∧ r.ser ≤ 4611686018427387903) ∧ (0 ≤ r.chk ∧ r.chk ≤ 4611686018427387903) ∧ (0 ≤ r.low ∧ r.low < r.upp ∧ r.upp ≤ 65536) ∧ ((1 : Int) ≤ (r.clm.length : Int) ∧ (r.clm.length : Int) ≤ 1000) ∧ clOk r.upp r.low r.clm = true) := by show _ ↔ _; rw [← hqm]; exact mb5_iff r
  have HN : Hid (r.clm.length = n) := hn
  rw [hqm]
  have hSc := rqScope_any r.low r.upp W
  obtain ⟨qs, hqs⟩ : ∃ q, decide (0 ≤ r.low ∧ r.low < r.upp ∧ r.upp ≤ 65536) = q := ⟨_, rfl⟩
  have HQs : Hid (qs = true ↔ (0 ≤ r.low ∧ r.low < r.upp ∧ r.upp ≤ 65536)) := by show _ ↔ _; rw [← hqs, decide_eq_true_eq]
  rw [hqs] at hSc
  obtain ⟨qc, hqc⟩ : ∃ q, (decide (1 ≤ n ∧ n ≤ 1000) && clOk r.upp r.low r.clm) = q := ⟨_, rfl⟩
  have HQc : Hid (qc = true ↔ (1 ≤ n ∧ n ≤ 1000) ∧ clOk r.upp r.low r.clm = true) := by show _ ↔ _; rw [← hqc, Bool.and_eq_true, decide_eq_true_eq]
  have hCl := rqClaims_any a n c r.clm r.low r.upp W (hC.below hbW) hn qc hqc
  have HBad : Hid ((qm = true → False) → qm = false) := fun h => Bool.eq_false_iff.mpr h
  have HYs : Hid (∀ V, Below W.heap.size W V → V.cell? ⟨w.heap.size, 0, none⟩ = some (.int .i64 r.ser) ∧ V.cell? ⟨w.heap.size, 1, none⟩ = some (.int .i64 r.chk) ∧ V.cell? ⟨w.heap.size, 2, none⟩ = some (.int .i64 r.upp) ∧ V.cell? ⟨w.heap.size, 3, none⟩ = some (.int .i64 r.low) ∧ V.cell? ⟨w.heap.size, 4, none⟩ = some (.slice a n c)) := fun V hV => ⟨(cell_of_row _ _ _ _ _ _ (HRo.out V hV)).trans rfl, (cell_of_row _ _ _ _ _ _ (HRo.out V hV)).trans rfl, (cell_of_row _ _ _ _ _ _ (HRo.out V hV)).trans rfl, (cell_of_row _ _ _ _ _ _ (HRo.out V hV)).trans rfl, (cell_of_row _ _ _ _ _ _ (HRo.out V hV)).trans rfl⟩
  obtain ⟨y0, y1, y2, y3, y4⟩ := HYs.out W (Below.refl _ _)
  clear hW hbW hC hn hqm hqs hqc
  go_enter Tryd.func85, Tryd.ntmps85
  go_wp2_with fail
  rw [HWe.out]
  refine hSc.mono ?_
  rintro e w1 ⟨rfl, hw1⟩
  subst hw1
  clear hSc
  go_wp2_with fail
  refine hCl.mono ?_
  rintro e w2 ⟨rfl, hb2⟩
  have HF : Hid (Below w.heap.size w w2) := HBW.out.trans (hb2.mono HBW.out.size)
  clear y0 y1 y2 y3 y4 hCl
  obtain ⟨y0, y1, y2, y3, y4⟩ := HYs.out w2 hb2
  clear hb2
  cases qs with
  | false =>
    have HV : Hid (qm = false) := HBad.out fun h => by have := HQs.out.mpr (HM.out.mp h).2.2.1; cases this
    go_wp2
    go_ret
    exact ⟨retB HV.out, HF.out⟩
  | true =>
  cases qc with
  | false =>
    have HV : Hid (qm = false) := HBad.out fun h => by have := HQc.out.mpr ⟨by have := (HM.out.mp h).2.2.2.1; have := HN.out; omega, (HM.out.mp h).2.2.2.2⟩; cases this
    go_wp2
    go_ret
    exact ⟨retB HV.out, HF.out⟩
  | true =>
  by_cases h1 : 1 ≤ r.ser
  rotate_left
  · have d1 : decide (1 ≤ r.ser) = false := decide_eq_false h1
    have HV : Hid (qm = false) := HBad.out fun h => by have := (HM.out.mp h).1; omega
    go_wp2
    go_ret
    exact ⟨retB HV.out, HF.out⟩
  have d1 : decide (1 ≤ r.ser) = true := decide_eq_true h1
  by_cases h2 : r.ser ≤ 4611686018427387903
  rotate_left
  · have d2 : decide (r.ser ≤ 4611686018427387903) = false := decide_eq_false h2
    have HV : Hid (qm = false) := HBad.out fun h => by have := (HM.out.mp h).1; omega
    go_wp2
    go_ret
    exact ⟨retB HV.out, HF.out⟩
  have d2 : decide (r.ser ≤ 4611686018427387903) = true := decide_eq_true h2
  by_cases h3 : 0 ≤ r.chk
  rotate_left
  · have d3 : decide (0 ≤ r.chk) = false := decide_eq_false h3
    have HV : Hid (qm = false) := HBad.out fun h => by have := (HM.out.mp h).2.1; omega
    go_wp2
    go_ret
    exact ⟨retB HV.out, HF.out⟩
  have d3 : decide (0 ≤ r.chk) = true := decide_eq_true h3
  by_cases h4 : r.chk ≤ 4611686018427387903
  rotate_left
  · have d4 : decide (r.chk ≤ 4611686018427387903) = false := decide_eq_false h4
    have HV : Hid (qm = false) := HBad.out fun h => by have := (HM.out.mp h).2.1; omega
    go_wp2
    go_ret
    exact ⟨retB HV.out, HF.out⟩
  have d4 : decide (r.chk ≤ 4611686018427387903) = true := decide_eq_true h4
  have HV : Hid (qm = true) := HM.out.mpr ⟨⟨h1, h2⟩, ⟨h3, h4⟩, HQs.out.mp (by trivial), by have := (HQc.out.mp (by trivial)).1; have := HN.out; omega, (HQc.out.mp (by trivial)).2⟩
  go_wp2
  go_ret
  exact ⟨retB HV.out, HF.out⟩

end Go.Proofs.YtkkmoplijicmpaeDoor
