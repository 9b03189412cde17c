import Derived.Test.YtllhbhogfffedaaGreatDoorRcRd5
import Derived.Defers
import Derived.Recover
import Derived.Laws.Pointers
namespace Go.Proofs.YtllhbhogfffedaaGreatDoor
open Go.RowKit
set_option linter.unusedVariables false
set_option linter.unusedSimpArgs false

abbrev erO (x : Int) : Obj := .cells #[.int .i64 x] 55
set_option maxRecDepth 100000 in
set_option maxHeartbeats 2000000 in
theorem catch6_panic (h0 h1 : Nat) (x : Int) (w : World) (hx : w.heap[h0]? = some (rcO rz0 (.slice none 0 0) (.slice none 0 0))) (hy : w.heap[h1]? = some (erO x)) (hne : h0 ≠ h1) :
    CallsD Tryz.prog 111 #[.pointer (some ⟨h0, 0, none⟩), .pointer (some ⟨h1, 0, none⟩)] (.panicking pcV) w fun e u' w' =>
      e = .returned (.tuple #[]) ∧ u' = .panicking [{ v := .iface 55 (.int .i64 61), recovered := true }] ∧ w' = (rS w h0 rz0 (.slice none 0 0) (.slice none 0 0)).setCell ⟨h1, 0, none⟩ (.int .i64 61) := by
  obtain ⟨x0, x1, x2, x3, x4, x5, x6, x7, x8, x9, x10⟩ := rc_cells hx
  have fx := rc_frozen hx
  have y0 : w.cell? ⟨h1, 0, none⟩ = some (.int .i64 x) := cell_of_row _ _ 0 _ _ _ hy
  have fy : w.frozen? ⟨h1, 0, none⟩ = false := by simp [World.frozen?, hy]
  clear hx hy
  refine callsD_of_wpS Tryz.func111 rfl fun c₀ cs hu => ?_
  apply wpS_seq
  apply wpS_region
  simp [wpOpsS, go_sem, recoverD, hu, Tryz.ntmps111, Exit.thenS]
  refine wpS_cond (t := true) (by simp [Act.eval, Array.replicate]) ?_
  simp only [if_true]
  apply wpS_region
  simp [wpOpsS, go_sem, bodyPostS, results, Tryz.results111, x0, x1, x2, x3, x4, x5, x6, x7, x8, x9, x10, fx, y0, fy, hne, hne.symm, rS]
theorem catch6_idle (p q : Addr) (w : World) :
    CallsD Tryz.prog 111 #[.pointer (some p), .pointer (some q)] .returning w fun e u' w' => e = .returned (.tuple #[]) ∧ u' = .returning ∧ w' = w := by
  refine callsD_of_wpS Tryz.func111 rfl fun c₀ cs hu => ?_
  apply wpS_seq
  apply wpS_region
  simp [wpOpsS, go_sem, recoverD, hu, Tryz.ntmps111, Exit.thenS]
  refine wpS_cond (t := false) (by simp [Act.eval, Array.replicate]) ?_
  simp only [Bool.false_eq_true, if_false]
  refine wpS_of_wp (wp_skip ?_)
  cases c₀
  simp_all [bodyPostS, results, Tryz.results111]

/-- What Read answers. -/
def rdR (zs : List Int) : Rc × Int := if 131072 < zs.length then (rz0, 2) else match readP zs with
  | some r => (r, 0)
  | none => (rz0, 61)
def RdPost (q : Rc × Int) (w : World) (e : Ending) (w' : World) : Prop :=
  ∃ sa da sc dc, e = .returned (.tuple #[.agg (rcC q.1 (.slice sa q.1.spans.length sc) (.slice da q.1.data.length dc)), .int .i64 q.2]) ∧ C.SOwn w' w.heap.size (.slice sa q.1.spans.length sc) q.1.spans ∧ w'.ownsRow w.heap.size 5 1 (.slice da q.1.data.length dc) q.1.data.length (q.1.data.map (Value.int .u8)) ∧ (∀ j, (Value.slice sa q.1.spans.length sc).ownBlock = some j → (Value.slice da q.1.data.length dc).ownBlock ≠ some j) ∧ Below w.heap.size w w'

set_option maxRecDepth 100000 in
set_option maxHeartbeats 4000000 in
theorem rread_any (a : Option Addr) (zs : List Int) (n c : Nat) (w : World) (hT : Tab6 w) (hb : Bytey zs) (hl : zs.length = n) (hnc : n ≤ c) (hc : c ≤ 9223372036854775807) (hz : Lies .u8 w a zs) :
    Calls Tryz.prog 104 #[.slice a n c] w (RdPost (rdR zs) w) := by
  have hmf : ∀ (fn : Fn) (first cap : Array Value) (w : World), (Instr.makeFunc fn first cap).run Tryz.prog w = .ok (.func fn first cap) w := fun _ _ _ _ => rfl
  have hb1 : Below w.heap.size w ((w.alloc (rcO rz0 (.slice none 0 0) (.slice none 0 0))).alloc (erO 0)) := ((Below.refl _ _).alloc (Nat.le_refl _) _).alloc (by simp) _
  have hz1 : ((w.alloc (rcO rz0 (.slice none 0 0) (.slice none 0 0))).alloc (erO 0)).heap[w.heap.size]? = some (rcO rz0 (.slice none 0 0) (.slice none 0 0)) := (((Below.refl _ _).alloc (Nat.le_refl _) _).block _ (by simp)).trans (heap_new6 w _)
  have he1 : ((w.alloc (rcO rz0 (.slice none 0 0) (.slice none 0 0))).alloc (erO 0)).heap[w.heap.size + 1]? = some (erO 0) := by
    have := heap_new6 (w.alloc (rcO rz0 (.slice none 0 0) (.slice none 0 0))) (erO 0)
    simpa using this
  have hs1 : ((w.alloc (rcO rz0 (.slice none 0 0) (.slice none 0 0))).alloc (erO 0)).heap.size = w.heap.size + 1 + 1 := by simp
  by_cases hlong : 131072 < n
  · have HQ : Hid (rdR zs = (rz0, 2)) := by unfold Hid rdR; rw [if_pos (by omega)]
    have hlong' : (131072 : Int) < (n : Int) := by omega
    rw [HQ.out]
    go_enter_defers Tryz.func104, Tryz.ntmps104
    go_wp2_with fail
    refine ⟨.tuple #[.agg (rcC rz0 (.slice none 0 0) (.slice none 0 0)), .int .i64 2], by simp [results, Tryz.results104, go_sem, rcC], ?_⟩
    exact ⟨none, none, 0, 0, rfl, C.SOwn.nil _ _, World.ownsRow_nil _ _ _ _, fun j hj => by simp [Value.ownBlock] at hj, ((Below.refl _ _).alloc (Nat.le_refl _) _).alloc (by simp) _⟩
  · have HW := whole_any a zs n c ((w.alloc (rcO rz0 (.slice none 0 0) (.slice none 0 0))).alloc (erO 0)) (hT.below hb1 (tab6_pos hT)) hb hl (by omega) hnc hc (hz.below hb1)
    have hlong' : ¬ (131072 : Int) < (n : Int) := by omega
    cases hq : readP zs with
    | none =>
      have HQ : Hid (rdR zs = (rz0, 61)) := by unfold Hid rdR; rw [if_neg (by omega), hq]
      rw [hq] at HW
      rw [HQ.out]
      go_enter_defers Tryz.func104, Tryz.ntmps104
      go_wp2_with (go_at_call 112; refine HW.mono ?_; rintro e w2 ⟨hee, hb2⟩; simp only at hee; subst hee)
      have hz2 : w2.heap[w.heap.size]? = some (rcO rz0 (.slice none 0 0) (.slice none 0 0)) := (hb2.block _ (by omega)).trans hz1
      have he2 : w2.heap[w.heap.size + 1]? = some (erO 0) := (hb2.block _ (by omega)).trans he1
      have hB2 : Below w.heap.size w w2 := hb1.trans (hb2.mono hb1.size)
      refine leaves_cons (f := 111) (args := #[.pointer (some ⟨w.heap.size, 0, none⟩), .pointer (some ⟨w.heap.size + 1, 0, none⟩)]) (by simp) (by simp [go_sem]) ?_
      refine (catch6_panic w.heap.size (w.heap.size + 1) 0 _ hz2 he2 (by omega)).mono ?_
      rintro e u' w'' ⟨rfl, rfl, rfl⟩
      have hg3 := rS_grown w2 w.heap.size rz0 (.slice none 0 0) (.slice none 0 0)
      have hz3 := rS_heap w2 w.heap.size rz0 rz0 (.slice none 0 0) (.slice none 0 0) _ _ hz2
      have he3 : (rS w2 w.heap.size rz0 (.slice none 0 0) (.slice none 0 0)).heap[w.heap.size + 1]? = some (erO 0) := (hg3.block _ (Array.getElem?_eq_some_iff.mp he2).1 (by simp)).trans he2
      generalize rS w2 w.heap.size rz0 (.slice none 0 0) (.slice none 0 0) = w3 at *
      have hg4 := grown_set w3 (w.heap.size + 1) 0 (.int .i64 61)
      have hz4 : (w3.setCell ⟨w.heap.size + 1, 0, none⟩ (.int .i64 61)).heap[w.heap.size]? = some (rcO rz0 (.slice none 0 0) (.slice none 0 0)) := (hg4.block _ (Array.getElem?_eq_some_iff.mp hz3).1 (by simp)).trans hz3
      have he4 : (w3.setCell ⟨w.heap.size + 1, 0, none⟩ (.int .i64 61)).heap[w.heap.size + 1]? = some (erO 61) := by simp [World.setCell, Array.getElem?_modify, he3]
      generalize w3.setCell ⟨w.heap.size + 1, 0, none⟩ (.int .i64 61) = w4 at *
      have hlv := fun j => cell_of_row _ w.heap.size j _ _ _ hz4
      have hle := fun j => cell_of_row _ (w.heap.size + 1) j _ _ _ he4
      refine ⟨.tuple #[.agg (rcC rz0 (.slice none 0 0) (.slice none 0 0)), .int .i64 61], by simp [results, Tryz.results104, go_sem, rcC, hlv, hle], ?_⟩
      exact ⟨none, none, 0, 0, rfl, C.SOwn.nil _ _, World.ownsRow_nil _ _ _ _, fun j hj => by simp [Value.ownBlock] at hj, (hB2.grown hg3 hB2.size (by simp)).grown hg4 (by have := hg3.size; have := hB2.size; omega) (by simp)⟩
    | some r =>
      have HQ : Hid (rdR zs = (r, 0)) := by unfold Hid rdR; rw [if_neg (by omega), hq]
      rw [hq] at HW
      rw [HQ.out]
      go_enter_defers Tryz.func104, Tryz.ntmps104
      go_upto_region 4 with fail
      clear hmf
      go_wp2_with (go_at_call 112; refine HW.mono ?_; rintro e w2 ⟨⟨sa, da, sc, dc, rfl, hso, hdo, hpt⟩, hb2⟩; have hz2 : w2.heap[w.heap.size]? = some (rcO rz0 (.slice none 0 0) (.slice none 0 0)) := (hb2.block _ (by omega)).trans hz1; have he2 : w2.heap[w.heap.size + 1]? = some (erO 0) := (hb2.block _ (by omega)).trans he1; obtain ⟨x0, x1, x2, x3, x4, x5, x6, x7, x8, x9, x10⟩ := rc_cells hz2; have fx := rc_frozen hz2; have y0 : w2.cell? ⟨w.heap.size + 1, 0, none⟩ = some (.int .i64 0) := cell_of_row _ _ 0 _ _ _ he2; have fy : w2.frozen? ⟨w.heap.size + 1, 0, none⟩ = false := (by simp [World.frozen?, he2]))
      refine leaves_cons (f := 111) (args := #[.pointer (some ⟨w.heap.size, 0, none⟩), .pointer (some ⟨w.heap.size + 1, 0, none⟩)]) (by simp) (by simp [go_sem]) ?_
      refine (catch6_idle _ _ _).mono ?_
      rintro e u' w'' ⟨rfl, rfl, rfl⟩
      change Leaves _ _ _ _ [] .returning ((rS w2 w.heap.size r (.slice sa r.spans.length sc) (.slice da r.data.length dc)).setCell ⟨w.heap.size + 1, 0, none⟩ (.int .i64 0))
      have hB2 : Below w.heap.size w w2 := hb1.trans (hb2.mono hb1.size)
      have hg3 := rS_grown w2 w.heap.size r (.slice sa r.spans.length sc) (.slice da r.data.length dc)
      have hz3 := rS_heap w2 w.heap.size r rz0 (.slice sa r.spans.length sc) (.slice da r.data.length dc) _ _ hz2
      have he3 : (rS w2 w.heap.size r (.slice sa r.spans.length sc) (.slice da r.data.length dc)).heap[w.heap.size + 1]? = some (erO 0) := (hg3.block _ (Array.getElem?_eq_some_iff.mp he2).1 (by simp)).trans he2
      generalize rS w2 w.heap.size r (.slice sa r.spans.length sc) (.slice da r.data.length dc) = w3 at *
      have hg4 := grown_set w3 (w.heap.size + 1) 0 (.int .i64 0)
      have hz4 : (w3.setCell ⟨w.heap.size + 1, 0, none⟩ (.int .i64 0)).heap[w.heap.size]? = some (rcO r (.slice sa r.spans.length sc) (.slice da r.data.length dc)) := (hg4.block _ (Array.getElem?_eq_some_iff.mp hz3).1 (by simp)).trans hz3
      have he4 : (w3.setCell ⟨w.heap.size + 1, 0, none⟩ (.int .i64 0)).heap[w.heap.size + 1]? = some (erO 0) := by simp [World.setCell, Array.getElem?_modify, he3]
      generalize w3.setCell ⟨w.heap.size + 1, 0, none⟩ (.int .i64 0) = w4 at *
      have hlv := fun j => cell_of_row _ w.heap.size j _ _ _ hz4
      have hle := fun j => cell_of_row _ (w.heap.size + 1) j _ _ _ he4
      rw [hs1] at hso hdo
      refine ⟨.tuple #[.agg (rcC r (.slice sa r.spans.length sc) (.slice da r.data.length dc)), .int .i64 0], by simp [results, Tryz.results104, go_sem, rcC, hlv, hle], ?_⟩
      exact ⟨sa, da, sc, dc, rfl, own_base6 (own_keep6 (own_keep6 hso hg3 (by intro j hj; have := (hso.lt j hj).1; simp; omega)) hg4 (by intro j hj; have := (hso.lt j hj).1; simp; omega)) (by omega), own_base6 (own_keep6 (own_keep6 hdo hg3 (by intro j hj; have := (hdo.lt j hj).1; simp; omega)) hg4 (by intro j hj; have := (hdo.lt j hj).1; simp; omega)) (by omega), hpt, (hB2.grown hg3 hB2.size (by simp)).grown hg4 (by have := hg3.size; have := hB2.size; omega) (by simp)⟩
end Go.Proofs.YtllhbhogfffedaaGreatDoor

namespace Go.Proofs.YtllhbhogfffedaaGreatDoor
open Go.RowKit
set_option linter.unusedVariables false
set_option linter.unusedSimpArgs false

/-! ## What is printed is read again -/
theorem okN_zero {f : Int} {i : Nat} {n : Int} (h : okN f i n = true) (hh : hasB f i = false) : n = 0 := by
  unfold okN at h
  rw [hh] at h
  simpa using h
theorem nm_back {f : Int} {r : Rc} (h : okNs f r 8 = true) (t : List Int) : ∀ {k : Nat}, k ≤ 8 → ∀ t, nmP f k (nmB f r k ++ t) = some ((List.range k).map (nmA r), t)
  | 0, _, t => by simp [nmP, nmB]
  | k + 1, hk, t => by
    have h1 := nm_back h t (k := k) (by omega)
    have h2 := okNs_at h (show k < 8 by omega)
    have h3 := okN_bd h2
    rw [nmB_succ, List.append_assoc]
    simp only [nmP, h1]
    rw [List.range_succ, List.map_append]
    cases hh : hasB f k with
    | true => simp only [if_true, numP_enc t h3.1 h3.2]; rfl
    | false =>
      simp only [Bool.false_eq_true, if_false, List.nil_append]
      simp [okN_zero h2 hh]
theorem sp_back : ∀ (n : Nat) (l : List (Int × Int)) (t : List Int), l.length = n → SpOk l → spP n (l.flatMap spB1 ++ t) = some (l, t)
  | 0, l, t, hl, h => by
    obtain rfl := List.eq_nil_of_length_eq_zero hl
    rfl
  | n + 1, l, t, hl, h => by
    have hne : l ≠ [] := by intro e; rw [e] at hl; simp at hl
    obtain ⟨l', p, rfl⟩ : ∃ l' p, l = l' ++ [p] := ⟨l.dropLast, l.getLast hne, (List.dropLast_concat_getLast hne).symm⟩
    have hp := h p (by simp)
    have h1 := sp_back n l' (spB1 p ++ t) (by simpa using hl) (fun q hq => h q (by simp [hq]))
    rw [List.flatMap_append, List.append_assoc, List.flatMap_cons, List.flatMap_nil, List.append_nil]
    simp only [spP]
    rw [h1]
    simp only [spB1]
    rw [List.append_assoc, numP_enc _ (by omega) (by omega)]
    simp only
    rw [numP_enc _ (by omega) (by omega)]
    simp only
    obtain ⟨a, b⟩ := p
    simp
    omega
theorem sps_back (l : List (Int × Int)) (t : List Int) (h : SpOk l) (hl : l.length ≤ 500) : spsP (spB l ++ t) = some (l, t) := by
  unfold spsP spB
  rw [List.append_assoc, numP_enc _ (by omega) (by omega)]
  simp only [Int.toNat_natCast]
  exact sp_back l.length l t rfl h
theorem may_lists {r : Rc} (h : mayB6 r = true) : (hasB (kf r.kind) 8 = false → r.spans = []) ∧ (hasB (kf r.kind) 9 = false → r.data = []) := by
  unfold mayB6 at h
  simp only [Bool.and_eq_true] at h
  have h2 := h.2.1
  unfold allowB at h2
  simp only [Bool.and_eq_true, Bool.or_eq_true, beq_iff_eq] at h2
  refine ⟨fun e => ?_, fun e => ?_⟩
  · rcases h2.2.1 with q | q
    · rw [e] at q; cases q
    · exact List.eq_nil_of_length_eq_zero q
  · rcases h2.2.2 with q | q
    · rw [e] at q; cases q
    · exact List.eq_nil_of_length_eq_zero q
theorem mkR_nm (r : Rc) : mkR r.kind ((List.range 8).map (nmA r)) = { r with spans := [], data := [] } := by
  rfl
theorem rec_back {r : Rc} (h : mayB6 r = true) : recP (prB r) = some (r, []) := by
  obtain ⟨h1, h2, h3, h4⟩ := may_parts h
  obtain ⟨h5, h6⟩ := may_lists h
  unfold prB
  simp only [recP, nm_back h2 [] (Nat.le_refl 8), mkR_nm]
  unfold tailB
  cases hb8 : hasB (kf r.kind) 8 with
  | true =>
    have hb9 := not_both hb8
    have hd := h6 hb9
    obtain ⟨q1, q2⟩ := h3 hb8
    simp only [if_true, hb9, Bool.false_eq_true, if_false, List.append_nil]
    have h7 := sps_back r.spans [] q2 q1
    rw [List.append_nil] at h7
    rw [h7]
    simp only [Option.some.injEq, Prod.mk.injEq, and_true]
    cases r
    simp only at hd
    rw [hd]
  | false =>
    have hs := h5 hb8
    simp only [Bool.false_eq_true, if_false, List.nil_append]
    cases hb9 : hasB (kf r.kind) 9 with
    | true =>
      have q := h4 hb9
      simp only [if_true]
      rw [numP_enc _ (by omega) (by omega)]
      simp only [Int.toNat_natCast]
      rw [if_pos (by omega), List.take_of_length_le (Nat.le_refl _), List.drop_length]
      simp only [Option.some.injEq, Prod.mk.injEq, and_true]
      cases r
      simp only at hs
      rw [hs]
    | false =>
      have hd := h6 hb9
      simp only [Bool.false_eq_true, if_false, Option.some.injEq, Prod.mk.injEq, and_true]
      cases r
      simp only at hs hd
      rw [hs, hd]
theorem read_back {r : Rc} (h : mayB6 r = true) : readP (prB r) = some r := by
  unfold readP
  rw [rec_back h]
  simp only [fnl, h, if_true]

/-! ## What is read is printed again -/
theorem nm_inv {f : Int} : ∀ {k : Nat} {zs t l : List Int}, Bytey zs → nmP f k zs = some (l, t) → zs = ((List.range k).flatMap fun i => if hasB f i then enc (l.getD i 0) else []) ++ t ∧ l.length = k
  | 0, zs, t, l, hb, h => by
    simp only [nmP, Option.some.injEq, Prod.mk.injEq] at h
    obtain ⟨rfl, rfl⟩ := h
    simp
  | k + 1, zs, t, l, hb, h => by
    simp only [nmP] at h
    split at h
    · cases h
    · rename_i l' t' h1
      obtain ⟨q1, q2⟩ := nm_inv hb h1
      have hbt := (nmP_by hb h1).2.1
      have hcong : ∀ n : Int, ((List.range k).flatMap fun i => if hasB f i then enc ((l' ++ [n]).getD i 0) else []) = ((List.range k).flatMap fun i => if hasB f i then enc (l'.getD i 0) else []) := fun n => by
        rw [List.flatMap_def, List.flatMap_def]
        congr 1
        apply List.map_congr_left
        intro i hi
        have hi' := List.mem_range.mp hi
        rw [List.getD_eq_getElem?_getD, List.getD_eq_getElem?_getD, List.getElem?_append_left (by omega)]
      split at h
      · rename_i hh
        split at h
        · cases h
        · rename_i n t1 h2
          simp only [Option.some.injEq, Prod.mk.injEq] at h
          obtain ⟨rfl, rfl⟩ := h
          obtain ⟨_, _, _, h4, _, _, _, _⟩ := numP_inv hbt h2
          refine ⟨?_, by simp [q2]⟩
          rw [List.range_succ, List.flatMap_append, hcong, List.append_assoc, q1, h4]
          simp [hh, q2]
      · rename_i hh
        simp only [Option.some.injEq, Prod.mk.injEq] at h
        obtain ⟨rfl, rfl⟩ := h
        refine ⟨?_, by simp [q2]⟩
        rw [List.range_succ, List.flatMap_append, hcong, List.append_assoc, q1]
        simp [hh]
theorem sp_inv : ∀ {k : Nat} {zs t : List Int} {l : List (Int × Int)}, Bytey zs → spP k zs = some (l, t) → zs = l.flatMap spB1 ++ t
  | 0, zs, t, l, hb, h => by
    simp only [spP, Option.some.injEq, Prod.mk.injEq] at h
    obtain ⟨rfl, rfl⟩ := h
    simp
  | k + 1, zs, t, l, hb, h => by
    simp only [spP] at h
    split at h
    · cases h
    · rename_i l' t' h1
      split at h
      · cases h
      · rename_i a t1 h2
        split at h
        · cases h
        · rename_i b t2 h3
          simp only [Option.some.injEq, Prod.mk.injEq] at h
          obtain ⟨rfl, rfl⟩ := h
          have hbt := (spP_by hb h1).2.1
          have hbt1 := (numP_by hbt h2).1
          obtain ⟨_, _, _, h4, _, _, _, _⟩ := numP_inv hbt h2
          obtain ⟨_, _, _, h5, _, _, _, _⟩ := numP_inv hbt1 h3
          have q := sp_inv hb h1
          rw [List.flatMap_append, List.append_assoc, q, h4, h5]
          simp only [List.flatMap_cons, List.flatMap_nil, List.append_nil, spB1]
          rw [show a + b - a = b by omega]
          simp
theorem rec_inv {zs t : List Int} {r : Rc} (hb : Bytey zs) (h : recP zs = some (r, t)) : zs = prB r ++ t := by
  cases zs with
  | nil => cases h
  | cons k t0 =>
    have hb0 : Bytey t0 := fun z hz => hb z (List.mem_cons_of_mem _ hz)
    simp only [recP] at h
    split at h
    · cases h
    · rename_i l t1 h1
      obtain ⟨q1, q2⟩ := nm_inv hb0 h1
      have hbt := (nmP_by hb0 h1).2.1
      obtain ⟨n0, n1, n2, n3, n4, n5, n6, n7, rfl⟩ := eight q2
      have hnm : ∀ s d, nmB (kf k) ({ mkR k [n0, n1, n2, n3, n4, n5, n6, n7] with spans := s, data := d } : Rc) 8 = (List.range 8).flatMap fun i => if hasB (kf k) i then enc ([n0, n1, n2, n3, n4, n5, n6, n7].getD i 0) else [] := fun s d => rfl
      split at h
      · rename_i hb8
        split at h
        · cases h
        · rename_i s t2 h2
          simp only [Option.some.injEq, Prod.mk.injEq] at h
          obtain ⟨rfl, rfl⟩ := h
          have hb9 := not_both hb8
          unfold spsP at h2
          split at h2
          · cases h2
          · rename_i n t3 h3
            obtain ⟨_, _, _, h4, _, _, h7, h8⟩ := numP_inv hbt h3
            have hbt3 := (numP_by hbt h3).1
            have h5 := sp_inv hbt3 h2
            have h6 := (spP_by hbt3 h2).1
            show k :: t0 = (k :: (nmB (kf k) _ 8 ++ tailB (kf k) _)) ++ _
            rw [hnm]
            unfold tailB
            simp only [hb8, hb9, if_true, Bool.false_eq_true, if_false, List.append_nil, List.cons_append, List.append_assoc]
            rw [q1, h4, h5]
            unfold spB
            rw [h6, Int.toNat_of_nonneg h7]
            simp
      · rename_i hb8
        have hb8' : hasB (kf k) 8 = false := by simpa using hb8
        split at h
        · rename_i hb9
          split at h
          · cases h
          · rename_i n t2 h2
            obtain ⟨_, _, _, h4, _, _, h7, h8⟩ := numP_inv hbt h2
            split at h
            · rename_i hn
              simp only [Option.some.injEq, Prod.mk.injEq] at h
              obtain ⟨rfl, rfl⟩ := h
              show k :: t0 = (k :: (nmB (kf k) _ 8 ++ tailB (kf k) _)) ++ _
              rw [hnm]
              unfold tailB
              simp only [hb8', hb9, if_true, Bool.false_eq_true, if_false, List.nil_append, List.cons_append, List.append_assoc]
              have hlen : ((t2.take n.toNat).length : Int) = n := by rw [List.length_take]; omega
              rw [hlen, List.take_append_drop, q1, h4]
            · cases h
        · rename_i hb9
          have hb9' : hasB (kf k) 9 = false := by simpa using hb9
          simp only [Option.some.injEq, Prod.mk.injEq] at h
          obtain ⟨rfl, rfl⟩ := h
          show k :: t0 = (k :: (nmB (kf k) _ 8 ++ tailB (kf k) _)) ++ _
          have hnm' := hnm [] []
          unfold tailB
          simp only [hb8', hb9', Bool.false_eq_true, if_false, List.append_nil, List.cons_append]
          rw [q1]
          rfl
theorem read_inv {zs : List Int} {r : Rc} (hb : Bytey zs) (h : readP zs = some r) : zs = prB r ∧ mayB6 r = true := by
  unfold readP at h
  split at h
  · rename_i r' t h1
    cases t with
    | nil =>
      by_cases hm : mayB6 r' = true
      · simp only [fnl, hm, if_true, Option.some.injEq] at h
        subst h
        have := rec_inv hb h1
        rw [List.append_nil] at this
        exact ⟨this, hm⟩
      · simp [fnl, hm] at h
    | cons z tz => simp [fnl] at h
  · cases h
theorem prB_len {r : Rc} (h : mayB6 r = true) : (prB r).length ≤ 80000 := by
  obtain ⟨h1, h2, h3, h4⟩ := may_parts h
  have h5 := nmB_len h2 (Nat.le_refl 8)
  unfold prB tailB
  rw [List.length_cons, List.length_append, List.length_append]
  have h6 : (if hasB (kf r.kind) 8 = true then spB r.spans else []).length ≤ 10010 := by
    split
    · rename_i hb
      obtain ⟨q1, q2⟩ := h3 hb
      have e1 := flat_len q2
      have e2 := enc_len' (n := (r.spans.length : Int)) (by omega) (by omega)
      unfold spB
      rw [List.length_append, e2.1]
      omega
    · simp
  have h7 : (if hasB (kf r.kind) 9 = true then enc (r.data.length : Int) ++ r.data else []).length ≤ 65546 := by
    split
    · rename_i hb
      have q := h4 hb
      have e2 := enc_len' (n := (r.data.length : Int)) (by omega) (by omega)
      rw [List.length_append, e2.1]
      omega
    · simp
  omega
theorem bytey_app {a b : List Int} (h1 : Bytey a) (h2 : Bytey b) : Bytey (a ++ b) := fun z hz => by
  rcases List.mem_append.mp hz with h | h
  · exact h1 z h
  · exact h2 z h
theorem bytey_flat {α : Type} {l : List α} {f : α → List Int} (h : ∀ x ∈ l, Bytey (f x)) : Bytey (l.flatMap f) := fun z hz => by
  obtain ⟨x, hx, hzx⟩ := List.mem_flatMap.mp hz
  exact h x hx z hzx
theorem prB_bytey {r : Rc} (h : mayB6 r = true) (hd : Bytey r.data) : Bytey (prB r) := by
  obtain ⟨h1, h2, h3, h4⟩ := may_parts h
  have hk := kf_bd h1
  unfold prB tailB
  intro z hz
  rcases List.mem_cons.mp hz with rfl | hz
  · omega
  · refine bytey_app ?_ (bytey_app ?_ ?_) z hz
    · unfold nmB
      refine bytey_flat (fun i _ => ?_)
      split
      · exact enc_bytes _
      · intro z hz; cases hz
    · split
      · unfold spB
        refine bytey_app (enc_bytes _) (bytey_flat (fun p _ => ?_))
        unfold spB1
        exact bytey_app (enc_bytes _) (enc_bytes _)
      · intro z hz; cases hz
    · split
      · exact bytey_app (enc_bytes _) hd
      · intro z hz; cases hz
end Go.Proofs.YtllhbhogfffedaaGreatDoor
