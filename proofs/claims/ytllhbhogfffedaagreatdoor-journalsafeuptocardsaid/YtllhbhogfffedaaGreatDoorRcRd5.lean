import Derived.Test.YtllhbhogfffedaaGreatDoorRcRd4
import Derived.Defers
import Derived.Recover
import Derived.Laws.Pointers
namespace Go.Proofs.YtllhbhogfffedaaGreatDoor
open Go.RowKit
set_option linter.unusedVariables false
set_option linter.unusedSimpArgs false

/-- The record that some bytes are. -/
def fnl (r : Rc) : List Int → Option Rc
  | [] => if mayB6 r then some r else none
  | _ :: _ => none
def readP (zs : List Int) : Option Rc := match recP zs with
  | some (r, t) => fnl r t
  | none => none

theorem recP_data {zs t : List Int} {r : Rc} (hb : Bytey zs) (h : recP zs = some (r, t)) : r.data.length ≤ zs.length := by
  cases zs with
  | nil => cases h
  | cons k t0 =>
    have hb0 : Bytey t0 := fun z hz => hb z (List.mem_cons_of_mem _ hz)
    simp only [recP] at h
    split at h
    · cases h
    · rename_i l t1 h1
      obtain ⟨q1, q2, q3⟩ := nmP_by hb0 h1
      split at h
      · split at h
        · cases h
        · simp only [Option.some.injEq, Prod.mk.injEq] at h
          obtain ⟨rfl, rfl⟩ := h
          simp [mkR]
      · split at h
        · split at h
          · cases h
          · rename_i n t2 h2
            obtain ⟨q4, q5⟩ := numP_by q2 h2
            split at h
            · simp only [Option.some.injEq, Prod.mk.injEq] at h
              obtain ⟨rfl, rfl⟩ := h
              simp only [List.length_take, List.length_cons]
              omega
            · cases h
        · simp only [Option.some.injEq, Prod.mk.injEq] at h
          obtain ⟨rfl, rfl⟩ := h
          simp [mkR]

set_option maxRecDepth 100000 in
set_option maxHeartbeats 1000000 in
theorem record_nil (rb : Nat) (a : Option Addr) (c : Nat) (w : World) (h : w.heap[rb]? = some (.cells #[.slice a 0 c] 194)) :
    Calls Tryz.prog 116 #[.pointer (some ⟨rb, 0, none⟩)] w fun e w' => e = .panicked pcV ∧ Below w.heap.size w w' := by
  have hb0 : Below w.heap.size w (w.alloc (rcO rz0 (.slice none 0 0) (.slice none 0 0))) := (Below.refl _ _).alloc (Nat.le_refl _) _
  have h1 : (w.alloc (rcO rz0 (.slice none 0 0) (.slice none 0 0))).heap[rb]? = some (.cells #[.slice a 0 c] 194) := (hb0.block rb (Array.getElem?_eq_some_iff.mp h).1).trans h
  have HT : Hid (∀ W : World, W.heap[rb]? = some (.cells #[.slice a 0 c] 194) → Calls Tryz.prog 126 #[.pointer (some ⟨rb, 0, none⟩), .int .i64 1] W fun e w' => e = .panicked pcV ∧ W = w') := fun W hW => by
    have c0 : W.cell? ⟨rb, 0, none⟩ = some (.slice a 0 c) := cell_of_row _ _ 0 _ _ _ hW
    clear hW h1 h hb0
    go_enter Tryz.func126, Tryz.ntmps126
    go_wp2_with (go_at_call 117; refine (must_no _).mono ?_; rintro e w1 ⟨rfl, rfl⟩)
    exact ⟨rfl, rfl, rfl⟩
  go_enter Tryz.func116, Tryz.ntmps116
  go_wp2_with (go_at_call 126; refine (HT.out _ h1).mono ?_; rintro e w1 ⟨rfl, rfl⟩)
  exact ⟨rfl, rfl, hb0⟩

/-- What 'whole' answers. -/
def WhPost (q : Option Rc) (w : World) (e : Ending) (w' : World) : Prop :=
  (match q with
    | some r => ∃ sa da sc dc, e = .returned (.agg (rcC r (.slice sa r.spans.length sc) (.slice da r.data.length dc))) ∧ C.SOwn w' w.heap.size (.slice sa r.spans.length sc) r.spans ∧ w'.ownsRow w.heap.size 5 1 (.slice da r.data.length dc) r.data.length (r.data.map (Value.int .u8)) ∧ (∀ j, (Value.slice sa r.spans.length sc).ownBlock = some j → (Value.slice da r.data.length dc).ownBlock ≠ some j)
    | none => e = .panicked pcV) ∧ Below w.heap.size w w'
theorem below_of_grown {w w' : World} {rb : Nat} {W : World} (h : Below w.heap.size w W) (hg : W.grownBy w' (some rb)) (hr : w.heap.size ≤ rb) : Below w.heap.size w w' := h.grown hg h.size (by simp; exact hr)

set_option maxRecDepth 100000 in
set_option maxHeartbeats 4000000 in
theorem whole_any (a : Option Addr) (zs : List Int) (n c : Nat) (w : World) (hT : Tab6 w) (hb : Bytey zs) (hl : zs.length = n) (hn : n ≤ 131072) (hnc : n ≤ c) (hc : c ≤ 9223372036854775807) (hz : Lies .u8 w a zs) :
    Calls Tryz.prog 112 #[.slice a n c] w (WhPost (readP zs) w) := by
  have hb1 : Below w.heap.size w ((w.alloc (rcO rz0 (.slice none 0 0) (.slice none 0 0))).alloc (.cells #[.slice a n c] 194)) := ((Below.refl _ _).alloc (Nat.le_refl _) _).alloc (by simp) _
  have hz1 : ((w.alloc (rcO rz0 (.slice none 0 0) (.slice none 0 0))).alloc (.cells #[.slice a n c] 194)).heap[w.heap.size]? = some (rcO rz0 (.slice none 0 0) (.slice none 0 0)) := (((Below.refl _ _).alloc (Nat.le_refl _) _).block _ (by simp)).trans (heap_new6 w _)
  have hr1 : ((w.alloc (rcO rz0 (.slice none 0 0) (.slice none 0 0))).alloc (.cells #[.slice a n c] 194)).heap[w.heap.size + 1]? = some (.cells #[.slice a n c] 194) := by
    have := heap_new6 (w.alloc (rcO rz0 (.slice none 0 0) (.slice none 0 0))) (.cells #[.slice a n c] 194)
    simpa using this
  have hs1 : ((w.alloc (rcO rz0 (.slice none 0 0) (.slice none 0 0))).alloc (.cells #[.slice a n c] 194)).heap.size = w.heap.size + 1 + 1 := by simp
  have HT : Hid (Tab6 w) := hT
  rcases hz with rfl | ⟨g, off, rfl, hcell⟩
  · obtain rfl : n = 0 := by simpa using hl.symm
    have HN := record_nil (w.heap.size + 1) a c _ hr1
    have HB1 : Hid (Below w.heap.size w ((w.alloc (rcO rz0 (.slice none 0 0) (.slice none 0 0))).alloc (.cells #[.slice a 0 c] 194))) := hb1
    clear hb1 hz1 hr1 hs1 hT
    go_enter Tryz.func112, Tryz.ntmps112
    go_wp2_with (go_at_call 116; refine HN.mono ?_; rintro e w2 ⟨rfl, hb2⟩)
    exact ⟨rfl, rfl, HB1.out.trans (hb2.mono HB1.out.size)⟩
  · by_cases hz0 : zs = []
    · subst hz0
      obtain rfl : n = 0 := by simpa using hl.symm
      have HN := record_nil (w.heap.size + 1) (some ⟨g, off, none⟩) c _ hr1
      have HB1 : Hid (Below w.heap.size w ((w.alloc (rcO rz0 (.slice none 0 0) (.slice none 0 0))).alloc (.cells #[.slice (some ⟨g, off, none⟩) 0 c] 194))) := hb1
      clear hb1 hz1 hr1 hs1 hT hcell
      go_enter Tryz.func112, Tryz.ntmps112
      go_wp2_with (go_at_call 116; refine HN.mono ?_; rintro e w2 ⟨rfl, hb2⟩)
      exact ⟨rfl, rfl, HB1.out.trans (hb2.mono HB1.out.size)⟩
    · have hgl : g < w.heap.size := Lies.block (off := off) hcell hz0
      have hrd : RdS ((w.alloc (rcO rz0 (.slice none 0 0) (.slice none 0 0))).alloc (.cells #[.slice (some ⟨g, off, none⟩) n c] 194)) (w.heap.size + 1) g zs := ⟨⟨off, n, c, hr1, hl, hnc, ⟨by omega, hc⟩, fun i hi => C.cell_below (hcell i hi) hb1⟩, by omega⟩
      have hT1 := hT.below hb1 (tab6_pos hT)
      have HRC := record_any (w.heap.size + 1) g zs _ hT1 hrd hb (by omega) (by omega) (by have := tab6_pos hT; omega)
      have HB1 : Hid (Below w.heap.size w ((w.alloc (rcO rz0 (.slice none 0 0) (.slice none 0 0))).alloc (.cells #[.slice (some ⟨g, off, none⟩) n c] 194))) := hb1
      have HZ1 : Hid (((w.alloc (rcO rz0 (.slice none 0 0) (.slice none 0 0))).alloc (.cells #[.slice (some ⟨g, off, none⟩) n c] 194)).heap[w.heap.size]? = some (rcO rz0 (.slice none 0 0) (.slice none 0 0))) := hz1
      have HT1 : Hid (Tab6 ((w.alloc (rcO rz0 (.slice none 0 0) (.slice none 0 0))).alloc (.cells #[.slice (some ⟨g, off, none⟩) n c] 194))) := hT1
      clear hb1 hz1 hr1 hT hcell hrd hT1
      cases hq : recP zs with
      | none =>
        have HQ : Hid (readP zs = none) := by unfold Hid readP; rw [hq]
        rw [hq] at HRC
        rw [HQ.out]
        go_enter Tryz.func112, Tryz.ntmps112
        go_wp2_with (go_at_call 116; refine HRC.mono ?_; rintro e w2 ⟨hee, hg2⟩; simp only at hee; subst hee)
        exact ⟨rfl, rfl, below_of_grown HB1.out hg2 (by omega)⟩
      | some p =>
        obtain ⟨r, t⟩ := p
        rw [hq] at HRC
        generalize hQ : readP zs = Q
        have HQ : Hid (Q = fnl r t) := by unfold Hid; rw [← hQ]; unfold readP; rw [hq]
        have HDB : Hid (r.data.length ≤ zs.length) := recP_data hb hq
        clear hQ hq hb
        go_enter Tryz.func112, Tryz.ntmps112
        go_upto_region 3 with (go_at_call 116; refine HRC.mono ?_; rintro e w2 ⟨⟨sv, dv, rfl, hso, hdo, hpt, hrd2⟩, hg2⟩; obtain ⟨sa, sc, rfl⟩ := own_sl hso; obtain ⟨da, dc, rfl⟩ := own_sl hdo)
        have hb3 : Below w2.heap.size w2 (w2.alloc (rcO r (.slice sa r.spans.length sc) (.slice da r.data.length dc))) := (Below.refl _ _).alloc (Nat.le_refl _) _
        have HX3 : Hid ((w2.alloc (rcO r (.slice sa r.spans.length sc) (.slice da r.data.length dc))).heap[w2.heap.size]? = some (rcO r (.slice sa r.spans.length sc) (.slice da r.data.length dc))) := heap_new6 w2 _
        have hs3 : (w2.alloc (rcO r (.slice sa r.spans.length sc) (.slice da r.data.length dc))).heap.size = w2.heap.size + 1 := by simp
        have hs2 := hg2.size
        generalize w2.alloc (rcO r (.slice sa r.spans.length sc) (.slice da r.data.length dc)) = w3 at *
        have hR3 := hrd2.below hb3
        have HS3 : Hid (C.SOwn w3 (w.heap.size + 1 + 1) (.slice sa r.spans.length sc) r.spans) := own_below6 (hs1 ▸ hso) hb3
        have HD3 : Hid (w3.ownsRow (w.heap.size + 1 + 1) 5 1 (.slice da r.data.length dc) r.data.length (r.data.map (Value.int .u8))) := own_below6 (hs1 ▸ hdo) hb3
        have HPT : Hid (∀ j, (Value.slice sa r.spans.length sc).ownBlock = some j → (Value.slice da r.data.length dc).ownBlock ≠ some j) := hpt
        have HB2 : Hid (Below w.heap.size w w2) := below_of_grown HB1.out hg2 (by omega)
        have HB3 : Hid (Below w.heap.size w w3) := HB2.out.trans (hb3.mono HB2.out.size)
        have HZ3 : Hid (w3.heap[w.heap.size]? = some (rcO rz0 (.slice none 0 0) (.slice none 0 0))) := (hb3.block _ (by omega)).trans ((hg2.block _ (by omega) (by simp)).trans HZ1.out)
        have HT3 : Hid (Tab6 w3) := HT.out.below HB3.out (tab6_pos HT.out)
        have hlsp : r.spans.length ≤ 9223372036854775807 := by
          obtain ⟨_, ⟨_, h0⟩ | ⟨_, cap, cur, hv, _, _, h1, h2, _⟩⟩ := HS3.out
          · omega
          · unfold maxLen at h2; omega
        have hldt : r.data.length ≤ 140737488355328 := by have := HDB.out; omega
        obtain ⟨off3, n3, c3, hh3, hn3, _, _, _⟩ := hR3.ex
        have q0 : w3.cell? ⟨w.heap.size + 1, 0, none⟩ = some (.slice (some ⟨g, off3, none⟩) n3 c3) := cell_of_row _ _ 0 _ _ _ hh3
        obtain ⟨c0', c1', c2', c3', c4', c5', c6', c7', c8', c9', c10'⟩ := rc_cells HX3.out
        clear hb3 hg2 hR3 hrd2 hso hdo hpt hh3 HB1 HZ1 HT1 HRC
        cases t with
        | cons z tz =>
          have HQN : Hid (Q = none) := HQ.out
          have hn0 : ¬ n3 = 0 := by simp at hn3; omega
          clear HQ
          go_wp2_with (go_at_call 117; refine (must_no _).mono ?_; rintro e w4 ⟨rfl, rfl⟩)
          refine ⟨rfl, ?_⟩
          show WhPost Q w _ _
          rw [HQN.out]
          exact ⟨rfl, HB3.out⟩
        | nil =>
          obtain rfl : n3 = 0 := by simpa using hn3.symm
          have HMB := mayBe_any r sa da r.spans.length r.data.length sc dc w3 HT3.out rfl rfl hldt (HS3.out.ls hlsp)
          cases hm : mayB6 r with
          | false =>
            have HQN : Hid (Q = none) := by unfold Hid; rw [HQ.out]; unfold fnl; rw [hm]; rfl
            rw [hm] at HMB
            clear HQ hm
            go_wp2_with (first | (go_at_call 113; refine HMB.mono ?_; rintro e w4 ⟨rfl, hb4⟩) | (go_at_call 117; refine (must_no _).mono ?_; rintro e w5 ⟨rfl, rfl⟩))
            refine ⟨rfl, ?_⟩
            show WhPost Q w _ _
            rw [HQN.out]
            exact ⟨rfl, HB3.out.trans (hb4.mono HB3.out.size)⟩
          | true =>
            have HQS : Hid (Q = some r) := by unfold Hid; rw [HQ.out]; unfold fnl; rw [hm]; rfl
            rw [hm] at HMB
            clear HQ hm
            go_upto_region 4 with (first | (go_at_call 113; refine HMB.mono ?_; rintro e w4 ⟨rfl, hb4⟩) | (go_at_call 117; refine (must_ok _).mono ?_; rintro e w5 ⟨⟨v5, rfl⟩, rfl⟩))
            have HX4 : Hid (w4.heap[w2.heap.size]? = some (rcO r (.slice sa r.spans.length sc) (.slice da r.data.length dc))) := (hb4.block _ (by omega)).trans HX3.out
            have HZ4 : Hid (w4.heap[w.heap.size]? = some (rcO rz0 (.slice none 0 0) (.slice none 0 0))) := (hb4.block _ (by omega)).trans HZ3.out
            have HS4 : Hid (C.SOwn w4 (w.heap.size + 1 + 1) (.slice sa r.spans.length sc) r.spans) := own_below6 HS3.out hb4
            have HD4 : Hid (w4.ownsRow (w.heap.size + 1 + 1) 5 1 (.slice da r.data.length dc) r.data.length (r.data.map (Value.int .u8))) := own_below6 HD3.out hb4
            have HB4 : Hid (Below w.heap.size w w4) := HB3.out.trans (hb4.mono HB3.out.size)
            clear hb4 HMB c0' c1' c2' c3' c4' c5' c6' c7' c8' c9' c10' q0
            obtain ⟨x0, x1, x2, x3, x4, x5, x6, x7, x8, x9, x10⟩ := rc_cells HX4.out
            obtain ⟨y0, y1, y2, y3, y4, y5, y6, y7, y8, y9, y10⟩ := rc_cells HZ4.out
            have fz := rc_frozen HZ4.out
            go_wp2_with fail
            change bodyPost _ _ _ _ _ (rS w4 w.heap.size r (.slice sa r.spans.length sc) (.slice da r.data.length dc))
            have hlv := fun j => cell_of_row _ w.heap.size j _ _ _ (rS_heap w4 w.heap.size r rz0 (.slice sa r.spans.length sc) (.slice da r.data.length dc) _ _ HZ4.out)
            have hrg := rS_grown w4 w.heap.size r (.slice sa r.spans.length sc) (.slice da r.data.length dc)
            generalize rS w4 w.heap.size r (.slice sa r.spans.length sc) (.slice da r.data.length dc) = WF at *
            clear x0 x1 x2 x3 x4 x5 x6 x7 x8 x9 x10 y0 y1 y2 y3 y4 y5 y6 y7 y8 y9 y10 fz
            refine bodyPost_ret (v := .agg (rcC r (.slice sa r.spans.length sc) (.slice da r.data.length dc))) (by simp [results, Tryz.results112, go_sem, rcC, hlv]) rfl ?_
            show WhPost Q w _ _
            rw [HQS.out]
            exact ⟨⟨sa, da, sc, dc, rfl, own_base6 (own_keep6 HS4.out hrg (by intro j hj; have := (HS4.out.lt j hj).1; simp; omega)) (by omega), own_base6 (own_keep6 HD4.out hrg (by intro j hj; have := (HD4.out.lt j hj).1; simp; omega)) (by omega), HPT.out⟩, HB4.out.grown hrg HB4.out.size (by simp)⟩
end Go.Proofs.YtllhbhogfffedaaGreatDoor

namespace Go.Proofs.YtllhbhogfffedaaGreatDoor
open Go.RowKit
set_option linter.unusedVariables false
set_option linter.unusedSimpArgs false

abbrev erO (x : Int) : Obj := .cells #[.int .i64 x] 55
set_option maxRecDepth 100000 in
set_option maxHeartbeats 2000000 in
theorem catch6_panic (h0 h1 : Nat) (x : Int) (w : World) (hx : w.heap[h0]? = some (rcO rz0 (.slice none 0 0) (.slice none 0 0))) (hy : w.heap[h1]? = some (erO x)) (hne : h0 ≠ h1) :
    CallsD Tryz.prog 111 #[.pointer (some ⟨h0, 0, none⟩), .pointer (some ⟨h1, 0, none⟩)] (.panicking pcV) w fun e u' w' =>
      e = .returned (.tuple #[]) ∧ u' = .panicking [{ v := .iface 55 (.int .i64 61), recovered := true }] ∧ w' = (rS w h0 rz0 (.slice none 0 0) (.slice none 0 0)).setCell ⟨h1, 0, none⟩ (.int .i64 61) := by
  obtain ⟨x0, x1, x2, x3, x4, x5, x6, x7, x8, x9, x10⟩ := rc_cells hx
  have fx := rc_frozen hx
  have y0 : w.cell? ⟨h1, 0, none⟩ = some (.int .i64 x) := cell_of_row _ _ 0 _ _ _ hy
  have fy : w.frozen? ⟨h1, 0, none⟩ = false := by simp [World.frozen?, hy]
  clear hx hy
  refine callsD_of_wpS Tryz.func111 rfl fun c₀ cs hu => ?_
  apply wpS_seq
  apply wpS_region
  simp [wpOpsS, go_sem, recoverD, hu, Tryz.ntmps111, Exit.thenS]
  refine wpS_cond (t := true) (by simp [Act.eval, Array.replicate]) ?_
  simp only [if_true]
  apply wpS_region
  simp [wpOpsS, go_sem, bodyPostS, results, Tryz.results111, x0, x1, x2, x3, x4, x5, x6, x7, x8, x9, x10, fx, y0, fy, hne, hne.symm, rS]
theorem catch6_idle (p q : Addr) (w : World) :
    CallsD Tryz.prog 111 #[.pointer (some p), .pointer (some q)] .returning w fun e u' w' => e = .returned (.tuple #[]) ∧ u' = .returning ∧ w' = w := by
  refine callsD_of_wpS Tryz.func111 rfl fun c₀ cs hu => ?_
  apply wpS_seq
  apply wpS_region
  simp [wpOpsS, go_sem, recoverD, hu, Tryz.ntmps111, Exit.thenS]
  refine wpS_cond (t := false) (by simp [Act.eval, Array.replicate]) ?_
  simp only [Bool.false_eq_true, if_false]
  refine wpS_of_wp (wp_skip ?_)
  cases c₀
  simp_all [bodyPostS, results, Tryz.results111]

/-- What Read answers. -/
def rdR (zs : List Int) : Rc × Int := if 131072 < zs.length then (rz0, 2) else match readP zs with
  | some r => (r, 0)
  | none => (rz0, 61)
def RdPost (q : Rc × Int) (w : World) (e : Ending) (w' : World) : Prop :=
  ∃ sa da sc dc, e = .returned (.tuple #[.agg (rcC q.1 (.slice sa q.1.spans.length sc) (.slice da q.1.data.length dc)), .int .i64 q.2]) ∧ C.SOwn w' w.heap.size (.slice sa q.1.spans.length sc) q.1.spans ∧ w'.ownsRow w.heap.size 5 1 (.slice da q.1.data.length dc) q.1.data.length (q.1.data.map (Value.int .u8)) ∧ (∀ j, (Value.slice sa q.1.spans.length sc).ownBlock = some j → (Value.slice da q.1.data.length dc).ownBlock ≠ some j) ∧ Below w.heap.size w w'

set_option maxRecDepth 100000 in
set_option maxHeartbeats 4000000 in
theorem rread_any (a : Option Addr) (zs : List Int) (n c : Nat) (w : World) (hT : Tab6 w) (hb : Bytey zs) (hl : zs.length = n) (hnc : n ≤ c) (hc : c ≤ 9223372036854775807) (hz : Lies .u8 w a zs) :
    Calls Tryz.prog 104 #[.slice a n c] w (RdPost (rdR zs) w) := by
  have hmf : ∀ (fn : Fn) (first cap : Array Value) (w : World), (Instr.makeFunc fn first cap).run Tryz.prog w = .ok (.func fn first cap) w := fun _ _ _ _ => rfl
  have hb1 : Below w.heap.size w ((w.alloc (rcO rz0 (.slice none 0 0) (.slice none 0 0))).alloc (erO 0)) := ((Below.refl _ _).alloc (Nat.le_refl _) _).alloc (by simp) _
  have hz1 : ((w.alloc (rcO rz0 (.slice none 0 0) (.slice none 0 0))).alloc (erO 0)).heap[w.heap.size]? = some (rcO rz0 (.slice none 0 0) (.slice none 0 0)) := (((Below.refl _ _).alloc (Nat.le_refl _) _).block _ (by simp)).trans (heap_new6 w _)
  have he1 : ((w.alloc (rcO rz0 (.slice none 0 0) (.slice none 0 0))).alloc (erO 0)).heap[w.heap.size + 1]? = some (erO 0) := by
    have := heap_new6 (w.alloc (rcO rz0 (.slice none 0 0) (.slice none 0 0))) (erO 0)
    simpa using this
  have hs1 : ((w.alloc (rcO rz0 (.slice none 0 0) (.slice none 0 0))).alloc (erO 0)).heap.size = w.heap.size + 1 + 1 := by simp
  by_cases hlong : 131072 < n
  · have HQ : Hid (rdR zs = (rz0, 2)) := by unfold Hid rdR; rw [if_pos (by omega)]
    have hlong' : (131072 : Int) < (n : Int) := by omega
    rw [HQ.out]
    go_enter_defers Tryz.func104, Tryz.ntmps104
    go_wp2_with fail
    refine ⟨.tuple #[.agg (rcC rz0 (.slice none 0 0) (.slice none 0 0)), .int .i64 2], by simp [results, Tryz.results104, go_sem, rcC], ?_⟩
    exact ⟨none, none, 0, 0, rfl, C.SOwn.nil _ _, World.ownsRow_nil _ _ _ _, fun j hj => by simp [Value.ownBlock] at hj, ((Below.refl _ _).alloc (Nat.le_refl _) _).alloc (by simp) _⟩
  · have HW := whole_any a zs n c ((w.alloc (rcO rz0 (.slice none 0 0) (.slice none 0 0))).alloc (erO 0)) (hT.below hb1 (tab6_pos hT)) hb hl (by omega) hnc hc (hz.below hb1)
    have hlong' : ¬ (131072 : Int) < (n : Int) := by omega
    cases hq : readP zs with
    | none =>
      have HQ : Hid (rdR zs = (rz0, 61)) := by unfold Hid rdR; rw [if_neg (by omega), hq]
      rw [hq] at HW
      rw [HQ.out]
      go_enter_defers Tryz.func104, Tryz.ntmps104
      go_wp2_with (go_at_call 112; refine HW.mono ?_; rintro e w2 ⟨hee, hb2⟩; simp only at hee; subst hee)
      have hz2 : w2.heap[w.heap.size]? = some (rcO rz0 (.slice none 0 0) (.slice none 0 0)) := (hb2.block _ (by omega)).trans hz1
      have he2 : w2.heap[w.heap.size + 1]? = some (erO 0) := (hb2.block _ (by omega)).trans he1
      have hB2 : Below w.heap.size w w2 := hb1.trans (hb2.mono hb1.size)
      refine leaves_cons (f := 111) (args := #[.pointer (some ⟨w.heap.size, 0, none⟩), .pointer (some ⟨w.heap.size + 1, 0, none⟩)]) (by simp) (by simp [go_sem]) ?_
      refine (catch6_panic w.heap.size (w.heap.size + 1) 0 _ hz2 he2 (by omega)).mono ?_
      rintro e u' w'' ⟨rfl, rfl, rfl⟩
      have hg3 := rS_grown w2 w.heap.size rz0 (.slice none 0 0) (.slice none 0 0)
      have hz3 := rS_heap w2 w.heap.size rz0 rz0 (.slice none 0 0) (.slice none 0 0) _ _ hz2
      have he3 : (rS w2 w.heap.size rz0 (.slice none 0 0) (.slice none 0 0)).heap[w.heap.size + 1]? = some (erO 0) := (hg3.block _ (Array.getElem?_eq_some_iff.mp he2).1 (by simp)).trans he2
      generalize rS w2 w.heap.size rz0 (.slice none 0 0) (.slice none 0 0) = w3 at *
      have hg4 := grown_set w3 (w.heap.size + 1) 0 (.int .i64 61)
      have hz4 : (w3.setCell ⟨w.heap.size + 1, 0, none⟩ (.int .i64 61)).heap[w.heap.size]? = some (rcO rz0 (.slice none 0 0) (.slice none 0 0)) := (hg4.block _ (Array.getElem?_eq_some_iff.mp hz3).1 (by simp)).trans hz3
      have he4 : (w3.setCell ⟨w.heap.size + 1, 0, none⟩ (.int .i64 61)).heap[w.heap.size + 1]? = some (erO 61) := by simp [World.setCell, Array.getElem?_modify, he3]
      generalize w3.setCell ⟨w.heap.size + 1, 0, none⟩ (.int .i64 61) = w4 at *
      have hlv := fun j => cell_of_row _ w.heap.size j _ _ _ hz4
      have hle := fun j => cell_of_row _ (w.heap.size + 1) j _ _ _ he4
      refine ⟨.tuple #[.agg (rcC rz0 (.slice none 0 0) (.slice none 0 0)), .int .i64 61], by simp [results, Tryz.results104, go_sem, rcC, hlv, hle], ?_⟩
      exact ⟨none, none, 0, 0, rfl, C.SOwn.nil _ _, World.ownsRow_nil _ _ _ _, fun j hj => by simp [Value.ownBlock] at hj, (hB2.grown hg3 hB2.size (by simp)).grown hg4 (by have := hg3.size; have := hB2.size; omega) (by simp)⟩
    | some r =>
      have HQ : Hid (rdR zs = (r, 0)) := by unfold Hid rdR; rw [if_neg (by omega), hq]
      rw [hq] at HW
      rw [HQ.out]
      go_enter_defers Tryz.func104, Tryz.ntmps104
      go_upto_region 4 with fail
      clear hmf
      go_wp2_with (go_at_call 112; refine HW.mono ?_; rintro e w2 ⟨⟨sa, da, sc, dc, rfl, hso, hdo, hpt⟩, hb2⟩; have hz2 : w2.heap[w.heap.size]? = some (rcO rz0 (.slice none 0 0) (.slice none 0 0)) := (hb2.block _ (by omega)).trans hz1; have he2 : w2.heap[w.heap.size + 1]? = some (erO 0) := (hb2.block _ (by omega)).trans he1; obtain ⟨x0, x1, x2, x3, x4, x5, x6, x7, x8, x9, x10⟩ := rc_cells hz2; have fx := rc_frozen hz2; have y0 : w2.cell? ⟨w.heap.size + 1, 0, none⟩ = some (.int .i64 0) := cell_of_row _ _ 0 _ _ _ he2; have fy : w2.frozen? ⟨w.heap.size + 1, 0, none⟩ = false := (by simp [World.frozen?, he2]))
      refine leaves_cons (f := 111) (args := #[.pointer (some ⟨w.heap.size, 0, none⟩), .pointer (some ⟨w.heap.size + 1, 0, none⟩)]) (by simp) (by simp [go_sem]) ?_
      refine (catch6_idle _ _ _).mono ?_
      rintro e u' w'' ⟨rfl, rfl, rfl⟩
      change Leaves _ _ _ _ [] .returning ((rS w2 w.heap.size r (.slice sa r.spans.length sc) (.slice da r.data.length dc)).setCell ⟨w.heap.size + 1, 0, none⟩ (.int .i64 0))
      have hB2 : Below w.heap.size w w2 := hb1.trans (hb2.mono hb1.size)
      have hg3 := rS_grown w2 w.heap.size r (.slice sa r.spans.length sc) (.slice da r.data.length dc)
      have hz3 := rS_heap w2 w.heap.size r rz0 (.slice sa r.spans.length sc) (.slice da r.data.length dc) _ _ hz2
      have he3 : (rS w2 w.heap.size r (.slice sa r.spans.length sc) (.slice da r.data.length dc)).heap[w.heap.size + 1]? = some (erO 0) := (hg3.block _ (Array.getElem?_eq_some_iff.mp he2).1 (by simp)).trans he2
      generalize rS w2 w.heap.size r (.slice sa r.spans.length sc) (.slice da r.data.length dc) = w3 at *
      have hg4 := grown_set w3 (w.heap.size + 1) 0 (.int .i64 0)
      have hz4 : (w3.setCell ⟨w.heap.size + 1, 0, none⟩ (.int .i64 0)).heap[w.heap.size]? = some (rcO r (.slice sa r.spans.length sc) (.slice da r.data.length dc)) := (hg4.block _ (Array.getElem?_eq_some_iff.mp hz3).1 (by simp)).trans hz3
      have he4 : (w3.setCell ⟨w.heap.size + 1, 0, none⟩ (.int .i64 0)).heap[w.heap.size + 1]? = some (erO 0) := by simp [World.setCell, Array.getElem?_modify, he3]
      generalize w3.setCell ⟨w.heap.size + 1, 0, none⟩ (.int .i64 0) = w4 at *
      have hlv := fun j => cell_of_row _ w.heap.size j _ _ _ hz4
      have hle := fun j => cell_of_row _ (w.heap.size + 1) j _ _ _ he4
      rw [hs1] at hso hdo
      refine ⟨.tuple #[.agg (rcC r (.slice sa r.spans.length sc) (.slice da r.data.length dc)), .int .i64 0], by simp [results, Tryz.results104, go_sem, rcC, hlv, hle], ?_⟩
      exact ⟨sa, da, sc, dc, rfl, own_base6 (own_keep6 (own_keep6 hso hg3 (by intro j hj; have := (hso.lt j hj).1; simp; omega)) hg4 (by intro j hj; have := (hso.lt j hj).1; simp; omega)) (by omega), own_base6 (own_keep6 (own_keep6 hdo hg3 (by intro j hj; have := (hdo.lt j hj).1; simp; omega)) hg4 (by intro j hj; have := (hdo.lt j hj).1; simp; omega)) (by omega), hpt, (hB2.grown hg3 hB2.size (by simp)).grown hg4 (by have := hg3.size; have := hB2.size; omega) (by simp)⟩
end Go.Proofs.YtllhbhogfffedaaGreatDoor
