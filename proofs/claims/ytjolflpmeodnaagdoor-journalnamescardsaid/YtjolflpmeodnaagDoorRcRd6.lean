import Derived.Test.YtjolflpmeodnaagDoorRcRd5
import Derived.Defers
import Derived.Recover
import Derived.Laws.Pointers
namespace Go.Proofs.YtjolflpmeodnaagDoor
open Go.RowKit
set_option linter.unusedVariables false
set_option linter.unusedSimpArgs false

abbrev erO (x : Int) : Obj := .cells #[.int .i64 x] 29
set_option maxRecDepth 100000 in
set_option maxHeartbeats 2000000 in
theorem catch6_panic (h0 h1 : Nat) (x : Int) (w : World) (hx : w.heap[h0]? = some (rcO rz0 (.slice none 0 0) (.slice none 0 0))) (hy : w.heap[h1]? = some (erO x)) (hne : h0 ≠ h1) :
    CallsD Tryd.prog 20 #[.pointer (some ⟨h0, 0, none⟩), .pointer (some ⟨h1, 0, none⟩)] (.panicking pcV) w fun e u' w' =>
      e = .returned (.tuple #[]) ∧ u' = .panicking [{ v := .iface 29 (.int .i64 61), recovered := true }] ∧ w' = (rS w h0 rz0 (.slice none 0 0) (.slice none 0 0)).setCell ⟨h1, 0, none⟩ (.int .i64 61) := by
  obtain ⟨x0, x1, x2, x3, x4, x5, x6, x7, x8, x9, x10⟩ := rc_cells hx
  have fx := rc_frozen hx
  have y0 : w.cell? ⟨h1, 0, none⟩ = some (.int .i64 x) := cell_of_row _ _ 0 _ _ _ hy
  have fy : w.frozen? ⟨h1, 0, none⟩ = false := by simp [World.frozen?, hy]
  clear hx hy
  refine callsD_of_wpS Tryd.func20 rfl fun c₀ cs hu => ?_
  apply wpS_seq
  apply wpS_region
  simp [wpOpsS, go_sem, recoverD, hu, Tryd.ntmps20, Exit.thenS]
  refine wpS_cond (t := true) (by simp [Act.eval, Array.replicate]) ?_
  simp only [if_true]
  apply wpS_region
  simp [wpOpsS, go_sem, bodyPostS, results, Tryd.results20, x0, x1, x2, x3, x4, x5, x6, x7, x8, x9, x10, fx, y0, fy, hne, hne.symm, rS]
theorem catch6_idle (p q : Addr) (w : World) :
    CallsD Tryd.prog 20 #[.pointer (some p), .pointer (some q)] .returning w fun e u' w' => e = .returned (.tuple #[]) ∧ u' = .returning ∧ w' = w := by
  refine callsD_of_wpS Tryd.func20 rfl fun c₀ cs hu => ?_
  apply wpS_seq
  apply wpS_region
  simp [wpOpsS, go_sem, recoverD, hu, Tryd.ntmps20, Exit.thenS]
  refine wpS_cond (t := false) (by simp [Act.eval, Array.replicate]) ?_
  simp only [Bool.false_eq_true, if_false]
  refine wpS_of_wp (wp_skip ?_)
  cases c₀
  simp_all [bodyPostS, results, Tryd.results20]

/-- What Read answers. -/
def rdR (zs : List Int) : Rc × Int := if 131072 < zs.length then (rz0, 2) else match readP zs with
  | some r => (r, 0)
  | none => (rz0, 61)
def RdPost (q : Rc × Int) (w : World) (e : Ending) (w' : World) : Prop :=
  ∃ sa da sc dc, e = .returned (.tuple #[.agg (rcC q.1 (.slice sa q.1.spans.length sc) (.slice da q.1.data.length dc)), .int .i64 q.2]) ∧ C.SOwn w' w.heap.size (.slice sa q.1.spans.length sc) q.1.spans ∧ w'.ownsRow w.heap.size 5 1 (.slice da q.1.data.length dc) q.1.data.length (q.1.data.map (Value.int .u8)) ∧ (∀ j, (Value.slice sa q.1.spans.length sc).ownBlock = some j → (Value.slice da q.1.data.length dc).ownBlock ≠ some j) ∧ Below w.heap.size w w'

set_option maxRecDepth 100000 in
set_option maxHeartbeats 4000000 in
theorem rread_any (a : Option Addr) (zs : List Int) (n c : Nat) (w : World) (hT : Tab6 w) (hb : Bytey zs) (hl : zs.length = n) (hnc : n ≤ c) (hc : c ≤ 9223372036854775807) (hz : Lies .u8 w a zs) :
    Calls Tryd.prog 9 #[.slice a n c] w (RdPost (rdR zs) w) := by
  have hmf : ∀ (fn : Fn) (first cap : Array Value) (w : World), (Instr.makeFunc fn first cap).run Tryd.prog w = .ok (.func fn first cap) w := fun _ _ _ _ => rfl
  have hb1 : Below w.heap.size w ((w.alloc (rcO rz0 (.slice none 0 0) (.slice none 0 0))).alloc (erO 0)) := ((Below.refl _ _).alloc (Nat.le_refl _) _).alloc (by simp) _
  have hz1 : ((w.alloc (rcO rz0 (.slice none 0 0) (.slice none 0 0))).alloc (erO 0)).heap[w.heap.size]? = some (rcO rz0 (.slice none 0 0) (.slice none 0 0)) := (((Below.refl _ _).alloc (Nat.le_refl _) _).block _ (by simp)).trans (heap_new6 w _)
  have he1 : ((w.alloc (rcO rz0 (.slice none 0 0) (.slice none 0 0))).alloc (erO 0)).heap[w.heap.size + 1]? = some (erO 0) := by
    have := heap_new6 (w.alloc (rcO rz0 (.slice none 0 0) (.slice none 0 0))) (erO 0)
    simpa using this
  have hs1 : ((w.alloc (rcO rz0 (.slice none 0 0) (.slice none 0 0))).alloc (erO 0)).heap.size = w.heap.size + 1 + 1 := by simp
  by_cases hlong : 131072 < n
  · have HQ : Hid (rdR zs = (rz0, 2)) := by unfold Hid rdR; rw [if_pos (by omega)]
    have hlong' : (131072 : Int) < (n : Int) := by omega
    rw [HQ.out]
    go_enter_defers Tryd.func9, Tryd.ntmps9
    go_wp2_with fail
    refine ⟨.tuple #[.agg (rcC rz0 (.slice none 0 0) (.slice none 0 0)), .int .i64 2], by simp [results, Tryd.results9, go_sem, rcC], ?_⟩
    exact ⟨none, none, 0, 0, rfl, C.SOwn.nil _ _, World.ownsRow_nil _ _ _ _, fun j hj => by simp [Value.ownBlock] at hj, ((Below.refl _ _).alloc (Nat.le_refl _) _).alloc (by simp) _⟩
  · have HW := whole_any a zs n c ((w.alloc (rcO rz0 (.slice none 0 0) (.slice none 0 0))).alloc (erO 0)) (hT.below hb1 (tab6_pos hT)) hb hl (by omega) hnc hc (hz.below hb1)
    have hlong' : ¬ (131072 : Int) < (n : Int) := by omega
    cases hq : readP zs with
    | none =>
      have HQ : Hid (rdR zs = (rz0, 61)) := by unfold Hid rdR; rw [if_neg (by omega), hq]
      rw [hq] at HW
      rw [HQ.out]
      go_enter_defers Tryd.func9, Tryd.ntmps9
      go_wp2_with (go_at_call 21; refine HW.mono ?_; rintro e w2 ⟨hee, hb2⟩; simp only at hee; subst hee)
      have hz2 : w2.heap[w.heap.size]? = some (rcO rz0 (.slice none 0 0) (.slice none 0 0)) := (hb2.block _ (by omega)).trans hz1
      have he2 : w2.heap[w.heap.size + 1]? = some (erO 0) := (hb2.block _ (by omega)).trans he1
      have hB2 : Below w.heap.size w w2 := hb1.trans (hb2.mono hb1.size)
      refine leaves_cons (f := 20) (args := #[.pointer (some ⟨w.heap.size, 0, none⟩), .pointer (some ⟨w.heap.size + 1, 0, none⟩)]) (by simp) (by simp [go_sem]) ?_
      refine (catch6_panic w.heap.size (w.heap.size + 1) 0 _ hz2 he2 (by omega)).mono ?_
      rintro e u' w'' ⟨rfl, rfl, rfl⟩
      have hg3 := rS_grown w2 w.heap.size rz0 (.slice none 0 0) (.slice none 0 0)
      have hz3 := rS_heap w2 w.heap.size rz0 rz0 (.slice none 0 0) (.slice none 0 0) _ _ hz2
      have he3 : (rS w2 w.heap.size rz0 (.slice none 0 0) (.slice none 0 0)).heap[w.heap.size + 1]? = some (erO 0) := (hg3.block _ (Array.getElem?_eq_some_iff.mp he2).1 (by simp)).trans he2
      generalize rS w2 w.heap.size rz0 (.slice none 0 0) (.slice none 0 0) = w3 at *
      have hg4 := grown_set w3 (w.heap.size + 1) 0 (.int .i64 61)
      have hz4 : (w3.setCell ⟨w.heap.size + 1, 0, none⟩ (.int .i64 61)).heap[w.heap.size]? = some (rcO rz0 (.slice none 0 0) (.slice none 0 0)) := (hg4.block _ (Array.getElem?_eq_some_iff.mp hz3).1 (by simp)).trans hz3
      have he4 : (w3.setCell ⟨w.heap.size + 1, 0, none⟩ (.int .i64 61)).heap[w.heap.size + 1]? = some (erO 61) := by simp [World.setCell, Array.getElem?_modify, he3]
      generalize w3.setCell ⟨w.heap.size + 1, 0, none⟩ (.int .i64 61) = w4 at *
      have hlv := fun j => cell_of_row _ w.heap.size j _ _ _ hz4
      have hle := fun j => cell_of_row _ (w.heap.size + 1) j _ _ _ he4
      refine ⟨.tuple #[.agg (rcC rz0 (.slice none 0 0) (.slice none 0 0)), .int .i64 61], by simp [results, Tryd.results9, go_sem, rcC, hlv, hle], ?_⟩
      exact ⟨none, none, 0, 0, rfl, C.SOwn.nil _ _, World.ownsRow_nil _ _ _ _, fun j hj => by simp [Value.ownBlock] at hj, (hB2.grown hg3 hB2.size (by simp)).grown hg4 (by have := hg3.size; have := hB2.size; omega) (by simp)⟩
    | some r =>
      have HQ : Hid (rdR zs = (r, 0)) := by unfold Hid rdR; rw [if_neg (by omega), hq]
      rw [hq] at HW
      rw [HQ.out]
      go_enter_defers Tryd.func9, Tryd.ntmps9
      go_upto_region 4 with fail
      clear hmf
      go_wp2_with (go_at_call 21; refine HW.mono ?_; rintro e w2 ⟨⟨sa, da, sc, dc, rfl, hso, hdo, hpt⟩, hb2⟩; have hz2 : w2.heap[w.heap.size]? = some (rcO rz0 (.slice none 0 0) (.slice none 0 0)) := (hb2.block _ (by omega)).trans hz1; have he2 : w2.heap[w.heap.size + 1]? = some (erO 0) := (hb2.block _ (by omega)).trans he1; obtain ⟨x0, x1, x2, x3, x4, x5, x6, x7, x8, x9, x10⟩ := rc_cells hz2; have fx := rc_frozen hz2; have y0 : w2.cell? ⟨w.heap.size + 1, 0, none⟩ = some (.int .i64 0) := cell_of_row _ _ 0 _ _ _ he2; have fy : w2.frozen? ⟨w.heap.size + 1, 0, none⟩ = false := (by simp [World.frozen?, he2]))
      refine leaves_cons (f := 20) (args := #[.pointer (some ⟨w.heap.size, 0, none⟩), .pointer (some ⟨w.heap.size + 1, 0, none⟩)]) (by simp) (by simp [go_sem]) ?_
      refine (catch6_idle _ _ _).mono ?_
      rintro e u' w'' ⟨rfl, rfl, rfl⟩
      change Leaves _ _ _ _ [] .returning ((rS w2 w.heap.size r (.slice sa r.spans.length sc) (.slice da r.data.length dc)).setCell ⟨w.heap.size + 1, 0, none⟩ (.int .i64 0))
      have hB2 : Below w.heap.size w w2 := hb1.trans (hb2.mono hb1.size)
      have hg3 := rS_grown w2 w.heap.size r (.slice sa r.spans.length sc) (.slice da r.data.length dc)
      have hz3 := rS_heap w2 w.heap.size r rz0 (.slice sa r.spans.length sc) (.slice da r.data.length dc) _ _ hz2
      have he3 : (rS w2 w.heap.size r (.slice sa r.spans.length sc) (.slice da r.data.length dc)).heap[w.heap.size + 1]? = some (erO 0) := (hg3.block _ (Array.getElem?_eq_some_iff.mp he2).1 (by simp)).trans he2
      generalize rS w2 w.heap.size r (.slice sa r.spans.length sc) (.slice da r.data.length dc) = w3 at *
      have hg4 := grown_set w3 (w.heap.size + 1) 0 (.int .i64 0)
      have hz4 : (w3.setCell ⟨w.heap.size + 1, 0, none⟩ (.int .i64 0)).heap[w.heap.size]? = some (rcO r (.slice sa r.spans.length sc) (.slice da r.data.length dc)) := (hg4.block _ (Array.getElem?_eq_some_iff.mp hz3).1 (by simp)).trans hz3
      have he4 : (w3.setCell ⟨w.heap.size + 1, 0, none⟩ (.int .i64 0)).heap[w.heap.size + 1]? = some (erO 0) := by simp [World.setCell, Array.getElem?_modify, he3]
      generalize w3.setCell ⟨w.heap.size + 1, 0, none⟩ (.int .i64 0) = w4 at *
      have hlv := fun j => cell_of_row _ w.heap.size j _ _ _ hz4
      have hle := fun j => cell_of_row _ (w.heap.size + 1) j _ _ _ he4
      rw [hs1] at hso hdo
      refine ⟨.tuple #[.agg (rcC r (.slice sa r.spans.length sc) (.slice da r.data.length dc)), .int .i64 0], by simp [results, Tryd.results9, go_sem, rcC, hlv, hle], ?_⟩
      exact ⟨sa, da, sc, dc, rfl, own_base6 (own_keep6 (own_keep6 hso hg3 (by intro j hj; have := (hso.lt j hj).1; simp; omega)) hg4 (by intro j hj; have := (hso.lt j hj).1; simp; omega)) (by omega), own_base6 (own_keep6 (own_keep6 hdo hg3 (by intro j hj; have := (hdo.lt j hj).1; simp; omega)) hg4 (by intro j hj; have := (hdo.lt j hj).1; simp; omega)) (by omega), hpt, (hB2.grown hg3 hB2.size (by simp)).grown hg4 (by have := hg3.size; have := hB2.size; omega) (by simp)⟩
end Go.Proofs.YtjolflpmeodnaagDoor
