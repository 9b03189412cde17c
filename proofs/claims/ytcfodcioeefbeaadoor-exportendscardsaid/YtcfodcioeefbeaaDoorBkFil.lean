import Derived.Test.YtcfodcioeefbeaaDoorBkLay
namespace Go.Proofs.YtcfodcioeefbeaaDoor
open Go.RowKit

def PcPost (x : Pc) (w : World) (e : Ending) (w' : World) : Prop := e = .returned (.agg (pcC x)) ∧ Below w.heap.size w w'

abbrev pz : Array Value := #[.int .i64 0, .int .i64 0, .int .i64 0, .int .i64 0, .int .i64 0]
theorem heapA {W : World} {i : Nat} {o : Obj} (h : W.heap[i]? = some o) (ob : Obj) : (W.alloc ob).heap[i]? = some o :=
  (Below.heap_alloc W ob i (by obtain ⟨hi, _⟩ := Array.getElem?_eq_some_iff.mp h; exact hi)).trans h
theorem tab_pos {w : World} (h : Tab w) : 0 < w.heap.size := World.block_lt_of_cell? w ⟨0, 0, none⟩ (h 0 (by omega))

set_option maxHeartbeats 2000000 in
theorem fill_go {k : Pk} (ok : k.Ok) (x : Pc) (en : Int) (R : Nat) (hR : rmz (frX k x) k.mtu = R) (w : World) (hT : Tab w) (ht : PTy x.typ) (hn : PNo x) (h0 : 0 ≤ x.frm) (h1 : x.frm ≤ 65535) (hf0 : 0 ≤ frX k x) (hf1 : frX k x ≤ 60) (hR1 : R ≤ 4096) :
    Calls Tryd.prog 27 #[.agg (knC k), .agg (pcC x), .int .i64 en] w (PcPost ⟨x.typ, x.frm, min (x.frm + R) en, x.chk, x.rep⟩ w) := by
  have hz : (1 : Nat) = 1 := rfl
  have HB1 : Hid (Below w.heap.size w ((((w.alloc (.cells (knC k) 71)).alloc (.cells (pcC x) 56)).alloc (.cells pz 56)).drew)) := ((((Below.refl _ _).alloc (Nat.le_refl _) _).alloc (by simp) _).alloc (by simp; omega) _).drew
  have hrm := room_any ok x (((w.alloc (.cells (knC k) 71)).alloc (.cells (pcC x) 56)).alloc (.cells pz 56)).drew (hT.below HB1.out (tab_pos hT)) ht hn h0 h1 hf0 hf1
  unfold RoomPost at hrm
  rw [hR] at hrm
  have HSz : Hid ((((w.alloc (.cells (knC k) 71)).alloc (.cells (pcC x) 56)).alloc (.cells pz 56)).drew.heap.size = w.heap.size + 1 + 1 + 1) := by unfold Hid; simp
  have HX : Hid ((((w.alloc (.cells (knC k) 71)).alloc (.cells (pcC x) 56)).alloc (.cells pz 56)).drew.heap[w.heap.size + 1]? = some (.cells (pcC x) 56)) := by
    have := heapA (heap_alloc_new' (w.alloc (.cells (knC k) 71)) (.cells (pcC x) 56)) (.cells pz 56)
    rw [World.size_alloc] at this; exact this
  have HZ : Hid ((((w.alloc (.cells (knC k) 71)).alloc (.cells (pcC x) 56)).alloc (.cells pz 56)).drew.heap[w.heap.size + 1 + 1]? = some (.cells pz 56)) := by
    have := heap_alloc_new' ((w.alloc (.cells (knC k) 71)).alloc (.cells (pcC x) 56)) (.cells pz 56)
    rw [World.size_alloc, World.size_alloc] at this; exact this
  have k0 : ∀ j u, (knC k)[j]? = some u → (((w.alloc (.cells (knC k) 71)).alloc (.cells (pcC x) 56)).alloc (.cells pz 56)).cell? ⟨w.heap.size, j, none⟩ = some u := fun j u h => cellA (cellA (cellN _ _ _ j _ h) _) _
  have x0 : ∀ j u, (pcC x)[j]? = some u → (((w.alloc (.cells (knC k) 71)).alloc (.cells (pcC x) 56)).alloc (.cells pz 56)).cell? ⟨w.heap.size + 1, j, none⟩ = some u := fun j u h => (cell_of_row _ _ j _ _ _ HX.out).trans h
  have a0 := k0 0 (.int .i64 k.org) rfl
  have a1 := k0 1 (.int .i64 k.num) rfl
  have a2 := k0 2 (.int .i64 k.srv) rfl
  have a3 := k0 3 (.int .i64 k.size) rfl
  have a4 := k0 4 (.int .i64 k.red) rfl
  have a5 := k0 5 (.int .i64 k.mtu) rfl
  have a6 := k0 6 (.int .i64 k.every) rfl
  have b0 := x0 0 (.int .i64 x.typ) rfl
  have b1 := x0 1 (.int .i64 x.frm) rfl
  have b2 := x0 2 (.int .i64 x.to) rfl
  have b3 := x0 3 (.int .i64 x.chk) rfl
  have b4 := x0 4 (.int .i64 x.rep) rfl
  clear hT ht hn hz k0 x0
  have hw1 : IntKind.i64.wrap (x.frm + R) = x.frm + R := by rw [IntKind.wrap_i64]; omega
  go_enter Tryd.func27, Tryd.ntmps27
  go_wp2_with fail
  go_region_with (first
    | (go_at_call 32
       refine hrm.mono ?_
       rintro e w2 ⟨rfl, hb2⟩
       have HX2 : Hid (w2.heap[w.heap.size + 1]? = some (.cells (pcC x) 56)) := (hb2.block _ (by rw [HSz.out]; omega)).trans HX.out
       have HZ2 : Hid (w2.heap[w.heap.size + 1 + 1]? = some (.cells pz 56)) := (hb2.block _ (by rw [HSz.out]; omega)).trans HZ.out
       have q1 : w2.cell? ⟨w.heap.size + 1, 2, none⟩ = some (.int .i64 x.to) := cell_of_row _ _ 2 _ _ _ HX2.out
       have c0 : w2.cell? ⟨w.heap.size + 1, 0, none⟩ = some (.int .i64 x.typ) := cell_of_row _ _ 0 _ _ _ HX2.out
       have c1 : w2.cell? ⟨w.heap.size + 1, 1, none⟩ = some (.int .i64 x.frm) := cell_of_row _ _ 1 _ _ _ HX2.out
       have c3 : w2.cell? ⟨w.heap.size + 1, 3, none⟩ = some (.int .i64 x.chk) := cell_of_row _ _ 3 _ _ _ HX2.out
       have c4 : w2.cell? ⟨w.heap.size + 1, 4, none⟩ = some (.int .i64 x.rep) := cell_of_row _ _ 4 _ _ _ HX2.out
       have q2 : w2.frozen? ⟨w.heap.size + 1, 2, none⟩ = false := frozen_of_row _ _ 2 _ _ HX2.out))
  all_goals (
    have z0 : w2.cell? ⟨w.heap.size + 1 + 1, 0, none⟩ = some (.int .i64 0) := cell_of_row _ _ 0 _ _ _ HZ2.out
    have z1 : w2.cell? ⟨w.heap.size + 1 + 1, 1, none⟩ = some (.int .i64 0) := cell_of_row _ _ 1 _ _ _ HZ2.out
    have z2 : w2.cell? ⟨w.heap.size + 1 + 1, 2, none⟩ = some (.int .i64 0) := cell_of_row _ _ 2 _ _ _ HZ2.out
    have z3 : w2.cell? ⟨w.heap.size + 1 + 1, 3, none⟩ = some (.int .i64 0) := cell_of_row _ _ 3 _ _ _ HZ2.out
    have z4 : w2.cell? ⟨w.heap.size + 1 + 1, 4, none⟩ = some (.int .i64 0) := cell_of_row _ _ 4 _ _ _ HZ2.out
    have f0 : w2.frozen? ⟨w.heap.size + 1 + 1, 0, none⟩ = false := frozen_of_row _ _ 0 _ _ HZ2.out
    have f1 : w2.frozen? ⟨w.heap.size + 1 + 1, 1, none⟩ = false := frozen_of_row _ _ 1 _ _ HZ2.out
    have f2 : w2.frozen? ⟨w.heap.size + 1 + 1, 2, none⟩ = false := frozen_of_row _ _ 2 _ _ HZ2.out
    have f3 : w2.frozen? ⟨w.heap.size + 1 + 1, 3, none⟩ = false := frozen_of_row _ _ 3 _ _ HZ2.out
    have f4 : w2.frozen? ⟨w.heap.size + 1 + 1, 4, none⟩ = false := frozen_of_row _ _ 4 _ _ HZ2.out
    have HB2 : Hid (Below w.heap.size w w2) := HB1.out.trans (hb2.mono (by rw [HSz.out]; omega))
    clear hb2 hrm HX2 HZ2 HX HZ HB1 HSz a0 a1 a2 a3 a4 a5 a6 b0 b1 b2 b3 b4
    generalize min (x.frm + R) en = T at *
    go_wp2
    refine bodyPost_ret (v := .agg #[.int .i64 x.typ, .int .i64 x.frm, .int .i64 T, .int .i64 x.chk, .int .i64 x.rep]) (by simp [results, Tryd.results27, go_sem, z0, z1, z2, z3, z4]) rfl ?_
    exact ⟨rfl, (((((HB2.out.setCell (by simp) _).setCell (by simp; omega) _).setCell (by simp; omega) _).setCell (by simp; omega) _).setCell (by simp; omega) _).setCell (by simp; omega) _⟩)

end Go.Proofs.YtcfodcioeefbeaaDoor
