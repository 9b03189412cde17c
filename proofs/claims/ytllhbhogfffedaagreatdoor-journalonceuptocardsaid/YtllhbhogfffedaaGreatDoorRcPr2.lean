import Derived.Test.YtllhbhogfffedaaGreatDoorRcFrm
import Derived.Test.YtllhbhogfffedaaGreatDoorJoi
import Derived.RangeFuncNested
import Derived.RangeFuncBound
import Derived.RangeFuncCalls
import Derived.RangeFuncLeaves
import Derived.Shelf.Abstract
import Derived.Shelf.RegionOpen
import Derived.OwnWalkIn
import Derived.TacticsInMore
import Derived.LoopNIn
import Derived.LoopIn
import Derived.Sort.QuietIn
import Derived.Laws.CopyOwn
import Derived.Deep.CutRange
namespace Go.Proofs.YtllhbhogfffedaaGreatDoor
open Go.RowKit

theorem kf_cases {k : Int} (h : kf k ≠ 0) : k = 1 ∨ k = 2 ∨ k = 3 ∨ k = 4 ∨ k = 5 ∨ k = 6 ∨ k = 7 ∨ k = 8 ∨ k = 9 ∨ k = 10 ∨ k = 11 ∨ k = 12 := by
  have hb := kf_bd h
  by_cases h0 : k = 0
  · subst h0; exact absurd rfl h
  · omega
theorem has8 {k : Int} (h : kf k ≠ 0) (h8 : hasB (kf k) 8 = true) : k = 11 := by
  rcases kf_cases h with rfl | rfl | rfl | rfl | rfl | rfl | rfl | rfl | rfl | rfl | rfl | rfl <;> first | rfl | exact absurd h8 (by decide)
theorem has9 {k : Int} (h : kf k ≠ 0) (h9 : hasB (kf k) 9 = true) : k = 3 ∨ k = 6 := by
  rcases kf_cases h with rfl | rfl | rfl | rfl | rfl | rfl | rfl | rfl | rfl | rfl | rfl | rfl <;> first | exact .inl rfl | exact .inr rfl | exact absurd h9 (by decide)
theorem tomb_ok {l : List (Int × Int)} (h : tombB l = true) : l.length ≤ 500 ∧ SpOk l := by
  unfold tombB at h
  simp only [Bool.and_eq_true, decide_eq_true_eq] at h
  refine ⟨by omega, fun p hp => ?_⟩
  have := (C.setB_iff.mp h.2.1).2.mem p hp
  omega
theorem may_parts {r : Rc} (h : mayB6 r = true) : kf r.kind ≠ 0 ∧ okNs (kf r.kind) r 8 = true ∧ (hasB (kf r.kind) 8 = true → r.spans.length ≤ 500 ∧ SpOk r.spans) ∧ (hasB (kf r.kind) 9 = true → r.data.length ≤ 65536) := by
  unfold mayB6 at h
  simp only [Bool.and_eq_true] at h
  have hk : kf r.kind ≠ 0 := by simpa using h.1
  have hok := allow_nums h.2.1
  refine ⟨hk, hok, fun h8 => ?_, fun h9 => ?_⟩
  · have h11 := has8 hk h8
    have hs := h.2.2
    unfold suitB at hs
    rw [h11, if_neg (by decide), if_neg (by decide), if_neg (by decide), if_neg (by decide), if_neg (by decide), if_neg (by decide), if_pos rfl, Bool.and_eq_true] at hs
    exact tomb_ok hs.2
  · have hs := h.2.2
    have ho := okN_bd (okNs_at hok (show 4 < 8 by omega))
    have ho' : nmA r 4 = r.off := rfl
    unfold suitB at hs
    rcases has9 hk h9 with h3 | h6
    · rw [h3, if_neg (by decide), if_neg (by decide), if_pos rfl] at hs
      simp only [Bool.and_eq_true, decide_eq_true_eq, beq_iff_eq] at hs
      omega
    · rw [h6, if_neg (by decide), if_neg (by decide), if_neg (by decide), if_neg (by decide), if_pos rfl] at hs
      simp only [Bool.and_eq_true, decide_eq_true_eq] at hs
      omega

/-- What Print answers. -/
def prR (r : Rc) : List Int × Int := if mayB6 r then (prB r, 0) else ([], 60)
def PrPost (p : List Int × Int) (w : World) (e : Ending) (w' : World) : Prop :=
  ∃ v', e = .returned (.tuple #[v', .int .i64 p.2]) ∧ w'.ownsRow w.heap.size 5 1 v' p.1.length (p.1.map (Value.int .u8)) ∧ Below w.heap.size w w'
/-- A record that lies somewhere. -/
structure RIn (w : World) (r : Rc) (sa da : Option Addr) (ns nd sc dc : Nat) : Prop where
  spn : r.spans.length = ns
  dat : r.data.length = nd
  big : nd ≤ 140737488355328
  spa : C.Ls w (.slice sa ns sc) r.spans
  lie : Lies .u8 w da r.data
  nil : da = none → nd = 0 ∧ dc = 0
theorem RIn.below {w w' : World} {r : Rc} {sa da : Option Addr} {ns nd sc dc : Nat} (h : RIn w r sa da ns nd sc dc) (hb : Below w.heap.size w w') : RIn w' r sa da ns nd sc dc :=
  ⟨h.spn, h.dat, h.big, h.spa.below hb, h.lie.below hb, h.nil⟩
theorem RIn.spin {w : World} {r : Rc} {sa da : Option Addr} {ns nd sc dc : Nat} (h : RIn w r sa da ns nd sc dc) : SpIn w sa r.spans := fun W hW => by
  obtain ⟨a', c', hv, hs, _, _⟩ := (h.spa.below hW).shape
  simp only [Value.slice.injEq] at hv
  obtain ⟨rfl, _, _⟩ := hv
  exact hs

set_option maxRecDepth 100000 in
set_option maxHeartbeats 1000000 in
theorem rprint_any (r : Rc) (sa da : Option Addr) (ns nd sc dc : Nat) (w : World) (hT : Tab6 w) (hr : RIn w r sa da ns nd sc dc) :
    Calls Tryz.prog 107 #[.agg (rcC r (.slice sa ns sc) (.slice da nd dc))] w (PrPost (prR r) w) := by
  have HB : Hid (Below w.heap.size w (w.alloc (rcO r (.slice sa ns sc) (.slice da nd dc)))) := (Below.refl _ _).alloc (Nat.le_refl _) _
  have HX : Hid ((w.alloc (rcO r (.slice sa ns sc) (.slice da nd dc))).heap[w.heap.size]? = some (rcO r (.slice sa ns sc) (.slice da nd dc))) := heap_new6 w _
  have hr1 := hr.below HB.out
  have HM : Hid (Calls Tryz.prog 113 #[.agg (rcC r (.slice sa ns sc) (.slice da nd dc))] (w.alloc (rcO r (.slice sa ns sc) (.slice da nd dc))) fun e w' => e = .returned (.bool (mayB6 r)) ∧ Below (w.alloc (rcO r (.slice sa ns sc) (.slice da nd dc))).heap.size (w.alloc (rcO r (.slice sa ns sc) (.slice da nd dc))) w') := mayBe_any r sa da ns nd sc dc _ (hT.below HB.out (tab6_pos hT)) hr1.spn hr1.dat hr1.big hr1.spa
  cases hm : mayB6 r with
  | false =>
    have HP : Hid (prR r = ([], 60)) := by unfold Hid prR; rw [hm]; rfl
    rw [hm] at HM
    rw [HP.out]
    clear HP hm hr hr1 hT
    go_enter Tryz.func107, Tryz.ntmps107
    go_wp2_with (go_at_call 113; refine HM.out.mono ?_; rintro e w1 ⟨rfl, hb1⟩)
    go_ret2
    exact ⟨_, rfl, World.ownsRow_nil _ _ _ _, HB.out.trans (hb1.mono HB.out.size)⟩
  | true =>
    obtain ⟨h1, h2, h3, h4⟩ := may_parts hm
    have HP : Hid (prR r = (prB r, 0)) := by unfold Hid prR; rw [hm]; rfl
    rw [hm] at HM
    rw [HP.out]
    have HF : Hid (∀ W, Below w.heap.size w W → Calls Tryz.prog 114 #[.agg (rcC r (.slice sa ns sc) (.slice da nd dc))] W fun e w' => ∃ v', e = .returned v' ∧ w'.ownsRow W.heap.size 5 1 v' (prB r).length ((prB r).map (Value.int .u8)) ∧ Below W.heap.size W w') := fun W hW =>
      have hw := hr.below hW
      form_any r sa da ns nd sc dc W (hT.below hW (tab6_pos hT)) hw.spn hw.dat h1 h2 (fun h => by have := h3 h; rw [hw.spn] at this; exact this) (fun h => by have := h4 h; rw [hw.dat] at this; exact this) hw.spin (fun V hV => hw.lie.below hV) hw.nil
    clear HP hm hr hr1 hT h1 h2 h3 h4
    go_enter Tryz.func107, Tryz.ntmps107
    go_wp2_with (first | (go_at_call 113; refine HM.out.mono ?_; rintro e w1 ⟨rfl, hb1⟩; have HB1 : Hid (Below w.heap.size w w1) := HB.out.trans (hb1.mono HB.out.size); obtain ⟨c0, c1, c2, c3, c4, c5, c6, c7, c8, c9, c10⟩ := rc_cells ((hb1.block _ (by simp)).trans HX.out); clear hb1) | (go_at_call 114; refine (HF.out _ HB1.out).mono ?_; rintro e w2 ⟨v2, rfl, ho2, hb2⟩))
    go_ret2
    exact ⟨v2, rfl, own_base6 ho2 HB1.out.size, HB1.out.trans (hb2.mono HB1.out.size)⟩

end Go.Proofs.YtllhbhogfffedaaGreatDoor

namespace Go.Proofs.YtllhbhogfffedaaGreatDoor.C
open Go.RowKit Go.Shelf
attribute [local go_sem] Oper.semAt_some

/-- What lies below n₀, and block b, lie as they lay. -/
structure Kps (n₀ b : Nat) (W W' : World) : Prop where
  low : Below n₀ W W'
  blk : W'.heap[b]? = W.heap[b]?
theorem Kps.refl (n₀ b : Nat) (W : World) : Kps n₀ b W W := ⟨Below.refl _ _, rfl⟩
theorem Kps.trans {n₀ b : Nat} {A B C : World} (h : Kps n₀ b A B) (h' : Kps n₀ b B C) : Kps n₀ b A C := ⟨h.low.trans h'.low, h'.blk.trans h.blk⟩

/-- Spans that lie below n₀. -/
def Spl (n₀ : Nat) (W : World) (a : Option Addr) (l : List Sp) : Prop := Spa W a l ∧ (l ≠ [] → ∀ x, a = some x → x.block < n₀)
theorem Spl.keep {n₀ : Nat} {W W' : World} {a : Option Addr} {l : List Sp} (h : Spl n₀ W a l) (hb : Below n₀ W W') : Spl n₀ W' a l := by
  refine ⟨?_, h.2⟩
  by_cases hl : l = []
  · exact .inl hl
  · rcases h.1 with h1 | ⟨g, off, ha, hc⟩
    · exact .inl h1
    · have hg := h.2 hl _ ha
      exact .inr ⟨g, off, ha, fun i p hp => ⟨(hb.cell (p := ⟨g, off + i * 2, none⟩) hg).trans (hc i p hp).1, (hb.cell (p := ⟨g, off + i * 2 + 1, none⟩) hg).trans (hc i p hp).2⟩⟩

abbrev Pz := Sp × Bool

end Go.Proofs.YtllhbhogfffedaaGreatDoor.C

namespace Go.Proofs.YtllhbhogfffedaaGreatDoor.C
open Go.RowKit Go.Shelf
attribute [local go_sem] Oper.semAt_some

/-- What gather's loop keeps: the box of the set (S), that of had (Hb), that of the span (Sb); the row lies from N on. -/
structure GI (S Hb Sb N : Nat) (w : World) (f t : Int) (had : Bool) (pre : List Pz) (W : World) : Prop where
  row : ∃ v, Boxed W S 79 v ∧ SOwn W N v (pick had pre)
  hb : Boxed W Hb 4 (.bool had)
  sb : W.heap[Sb]? = some (.cells #[.int .i64 f, .int .i64 t] 128 (0, 0))
  low : Below w.heap.size w W
  big : N ≤ W.heap.size

theorem cells_keep {X Y : World} {row : Option Nat} {B k : Nat} {cs : Array Value} {ty : TypeId} {fr : Nat × Nat} (h : X.heap[k]? = some (.cells cs ty fr)) (hg : X.grownBy Y row) (hr : ∀ r, row = some r → B ≤ r ∧ ∃ o : Obj, X.heap[r]? = some o ∧ o.isCells = false) : Y.heap[k]? = some (.cells cs ty fr) :=
  (hg.block k (Array.getElem?_eq_some_iff.1 h).1 (fun e => by obtain ⟨_, o, ho, hc⟩ := hr k e.symm; rw [h] at ho; cases ho; cases hc)).trans h
theorem SOwn.keepO {X Y : World} {row : Option Nat} {B base : Nat} {v : Value} {l : List Sp} (h : SOwn X base v l) (hg : X.grownBy Y row) (hr : ∀ r, row = some r → B ≤ r ∧ ∃ o : Obj, X.heap[r]? = some o ∧ o.isCells = false) : SOwn Y base v l := by
  refine ⟨h.1, ?_⟩
  rcases h.2 with hn | ⟨g, cap, cur, hv, h1, h2, h3⟩
  · exact .inl hn
  · exact .inr ⟨g, cap, cur, hv, h1, cells_keep h2 hg hr, h3⟩
theorem GI.own {S Hb Sb N B : Nat} {w : World} {f t : Int} {had : Bool} (hB : w.heap.size ≤ B) : OwnFrom B (GI S Hb Sb N w f t had) := fun pre X Y row hs hg hr => by
  obtain ⟨v, h1, h2⟩ := hs.row
  exact ⟨⟨v, cells_keep h1 hg hr, h2.keepO hg hr⟩, cells_keep hs.hb hg hr, cells_keep hs.sb hg hr, ownFrom_below (β := Unit) (Nat.le_refl _) hB () X Y row hs.low hg hr, Nat.le_trans hs.big hg.size⟩
theorem GI.alloc {S Hb Sb N : Nat} {w : World} {f t : Int} {had : Bool} {pre : List Pz} {W : World} (h : GI S Hb Sb N w f t had pre W) (o : Obj) : GI S Hb Sb N w f t had pre (W.alloc o) := by
  obtain ⟨v, h1, h2⟩ := h.row
  exact ⟨⟨v, h1.alloc o, World.ownsRow.alloc h2 o⟩, h.hb.alloc o, (Below.heap_alloc W o _ (Array.getElem?_eq_some_iff.1 h.sb).1).trans h.sb, h.low.alloc h.low.size o, by have := h.big; simp; omega⟩
theorem pick_hit (had : Bool) (pre : List Pz) (s : Sp) : pick had (pre ++ [(s, had)]) = pick had pre ++ [s] := by rw [pick_append]; simp [pick]
/-- What is told of a list that may be too long. -/
def BR (U u : List Sp) (er : Int) : Prop := (U.length ≤ 2000 ∧ er = 0 ∧ u = U) ∨ (2000 < U.length ∧ er = 3 ∧ u = [])
def GPost (U : List Sp) (w : World) (e : Ending) (w' : World) : Prop := ∃ v u er, e = .returned (.tuple #[v, .int .i64 er]) ∧ SOwn w' w.heap.size v u ∧ BR U u er ∧ Below w.heap.size w w'

/-- A span is put to the row. -/
theorem GI.put {S Hb Sb N : Nat} {w W w1 : World} {f t : Int} {had : Bool} {pre : List Pz} {v v' : Value} {s : Sp} {tmp : Obj} (h : GI S Hb Sb N w f t had pre W) (hS : S < N) (hH : Hb < N) (hSb : Sb < N) (hSH : Hb ≠ S) (hSS : Sb ≠ S) (hw : w.heap.size ≤ S) (hv : Boxed W S 79 v) (hrow : SOwn W N v (pick had pre))
    (hown : w1.ownsRow N 128 2 v' ((pick had pre).length + 1) ((pick had pre).flatMap spc ++ [.int .i64 s.1, .int .i64 s.2])) (hg : (W.alloc tmp).grownBy w1 v.ownBlock) :
    Boxed w1 S 79 v ∧ KeepsOthers W (w1.setCell ⟨S, 0, none⟩ v') ∧ Kps w.heap.size Sb W (w1.setCell ⟨S, 0, none⟩ v') ∧ GI S Hb Sb N w f t had (pre ++ [(s, had)]) (w1.setCell ⟨S, 0, none⟩ v') := by
  have hbN : Below N W w1 := ((Below.refl N W).alloc h.big tmp).grown hg (by have := h.big; simp; omega) (fun k hk => (hrow.lt k hk).1)
  have b1 : Boxed w1 S 79 v := (hbN.block S hS).trans hv
  have b2 : Boxed w1 Hb 4 (.bool had) := (hbN.block Hb hH).trans h.hb
  have b3 : w1.heap[Sb]? = some (.cells #[.int .i64 f, .int .i64 t] 128 (0, 0)) := (hbN.block Sb hSb).trans h.sb
  have b3' : (w1.setCell ⟨S, 0, none⟩ v').heap[Sb]? = some (.cells #[.int .i64 f, .int .i64 t] 128 (0, 0)) := (Below.heap_setCell _ _ _ _ hSS).trans b3
  have hlow : Below w.heap.size W (w1.setCell ⟨S, 0, none⟩ v') := (hbN.mono (by omega)).setCell (p := ⟨S, 0, none⟩) hw v'
  have hnb : ∀ k, v'.ownBlock = some k → N ≤ k := fun k hk => (World.ownsRow.lt hown k hk).1
  refine ⟨b1, ?_, ⟨hlow, b3'.trans h.sb.symm⟩, ⟨⟨v', b1.set v', ?_⟩, b2.other hSH v', b3', h.low.trans hlow, Nat.le_trans h.big (Nat.le_trans hbN.size (by simp))⟩⟩
  · refine ((KeepsOthers.alloc W tmp).trans (KeepsOthers.of_grownBy hg fun j o ej hj => ?_)).trans (KeepsOthers.setCell _ _ _)
    rcases (World.ownsRow.alloc hrow tmp).2 with ⟨rfl, _⟩ | ⟨g, cap, cur, rfl, _, hgb, _⟩
    · simp [Value.ownBlock] at ej
    · obtain rfl : g = j := by simpa [Value.ownBlock] using ej
      rw [hgb] at hj; cases hj; rfl
  · unfold SOwn
    rw [pick_hit, List.flatMap_append, List.length_append]
    exact hown.kept (grownBy_setCell' w1 S v') (by
      cases hv : v'.ownBlock with
      | none => left; rfl
      | some g => right; intro e; simp only [Option.some.injEq] at e; have := hnb g hv; omega)

end Go.Proofs.YtllhbhogfffedaaGreatDoor.C

namespace Go.Proofs.YtllhbhogfffedaaGreatDoor.C
open Go.RowKit

/-- What Gaps (had: false) and Within (had: true) answer. -/
def GR (had : Bool) (l : List Sp) (s : Sp) (u : List Sp) (er : Int) : Prop := (¬ (IsSet l ∧ Asked s) ∧ er = 30 ∧ u = []) ∨ (IsSet l ∧ Asked s ∧ BR (pick had (pc s.2 s.1 l)) u er)
theorem GR.len {had : Bool} {l : List Sp} {s : Sp} {u : List Sp} {er : Int} (h : GR had l s u er) : u.length ≤ 2000 := by
  rcases h with ⟨_, _, rfl⟩ | ⟨_, _, ⟨h, _, rfl⟩ | ⟨_, _, rfl⟩⟩
  · simp
  · exact h
  · simp
def GRPost (had : Bool) (l : List Sp) (s : Sp) (w : World) (e : Ending) (w' : World) : Prop := ∃ v u er, e = .returned (.tuple #[v, .int .i64 er]) ∧ SOwn w' w.heap.size v u ∧ GR had l s u er ∧ Below w.heap.size w w'

/-- Covers. -/
def cvB (l : List Sp) (s : Sp) : Bool := setB l && (askB s && decide (gps l s = []))
end Go.Proofs.YtllhbhogfffedaaGreatDoor.C

namespace Go.Proofs.YtllhbhogfffedaaGreatDoor.C
open Go.RowKit

/-- One span is written over another. -/
theorem spc_put : ∀ (L : List Sp) (k : Nat) (a b : Int), ((L.flatMap spc).set (k * 2) (.int .i64 a)).set (k * 2 + 1) (.int .i64 b) = (L.set k (a, b)).flatMap spc
  | [], k, a, b => by simp
  | s :: r, 0, a, b => by simp [spc]
  | s :: r, k + 1, a, b => by
    have := spc_put r k a b
    rw [List.flatMap_cons, List.set_cons_succ, List.flatMap_cons, ← this]
    rw [List.set_append_right _ _ (by simp [spc]; omega), List.set_append_right _ _ (by simp [spc]; omega)]
    congr 1
    simp only [spc, List.length_cons, List.length_nil]
    rw [show (k + 1) * 2 - (0 + 1 + 1) = k * 2 from by omega, show (k + 1) * 2 + 1 - (0 + 1 + 1) = k * 2 + 1 from by omega]

theorem SOwn.put {W : World} {base g cap n k : Nat} {L : List Sp} (h : SOwn W base (.slice (some ⟨g, 0, none⟩) n cap) L) (a b : Int) : SOwn ((W.setCell ⟨g, k * 2, none⟩ (.int .i64 a)).setCell ⟨g, k * 2 + 1, none⟩ (.int .i64 b)) base (.slice (some ⟨g, 0, none⟩) n cap) (L.set k (a, b)) := by
  have hn : n = L.length := by
    obtain ⟨a', c', hv⟩ := h.shape
    simp only [Value.slice.injEq] at hv; exact hv.2.1
  subst hn
  have h1 := (World.ownsRow.stored h (k * 2) (.int .i64 a)).1
  have h2 := (World.ownsRow.stored h1 (k * 2 + 1) (.int .i64 b)).1
  rw [spc_put] at h2
  unfold SOwn
  rw [List.length_set]
  exact h2
theorem SOwn.lenEq {W : World} {base n cap : Nat} {a : Option Addr} {L : List Sp} (h : SOwn W base (.slice a n cap) L) : L.length = n := by
  obtain ⟨a', c', hv⟩ := h.shape
  simp only [Value.slice.injEq] at hv; exact hv.2.1.symm
/-- Its cells, where it has a place k. -/
theorem SOwn.cells {W : World} {base g cap n k : Nat} {L : List Sp} {p : Sp} (h : SOwn W base (.slice (some ⟨g, 0, none⟩) n cap) L) (hk : L[k]? = some p) : W.cell? ⟨g, k * 2, none⟩ = some (.int .i64 p.1) ∧ W.cell? ⟨g, k * 2 + 1, none⟩ = some (.int .i64 p.2) ∧ W.frozen? ⟨g, k * 2, none⟩ = false ∧ W.frozen? ⟨g, k * 2 + 1, none⟩ = false := by
  have hn := h.lenEq
  subst hn
  have hkl : k < L.length := (List.getElem?_eq_some_iff.mp hk).1
  obtain ⟨q1, q2⟩ := spc_get L k p hk
  exact ⟨(World.ownsRow.cellAt h _ (by omega)).trans q1, (World.ownsRow.cellAt h _ (by omega)).trans q2, World.ownsRow.frozenAt h _, World.ownsRow.frozenAt h _⟩

def mkd (l : List Sp) : List Sp := l ++ [(-77, -77), (-77, -77)]
theorem set_set' (L : List Sp) (k : Nat) (x y : Sp) : (L.set k x).set k y = L.set k y := by rw [List.set_set]

/-- Another set of as many spans. -/
def spd (n : Nat) : List Sp := (List.range n).map fun (i : Nat) => ((4 * (i : Int) + 1, 4 * (i : Int) + 3) : Sp)
end Go.Proofs.YtllhbhogfffedaaGreatDoor.C

namespace Go.Proofs.YtllhbhogfffedaaGreatDoor.C
open Go.RowKit

end Go.Proofs.YtllhbhogfffedaaGreatDoor.C

namespace Go.Proofs.YtllhbhogfffedaaGreatDoor
open Go.RowKit
set_option linter.unusedVariables false

abbrev mkD (zs : List Int) : List Int := zs ++ [177, 178]
abbrev mkS (l : List (Int × Int)) : List (Int × Int) := l ++ [(-77, 0), (-78, 0)]
theorem rc_frozen {W : World} {g : Nat} {r : Rc} {sv dv : Value} (h : W.heap[g]? = some (rcO r sv dv)) (k : Nat) : W.frozen? ⟨g, k, none⟩ = false := by simp [World.frozen?, h]
abbrev rz0 : Rc := ⟨0, 0, 0, 0, 0, 0, 0, 0, 0, [], []⟩
abbrev lw (w : World) (r : Rc) (sv dv : Value) : World := (w.alloc (rcO r sv dv)).alloc (rcO rz0 (.slice none 0 0) (.slice none 0 0))
/-- A record is written over another one. -/
def rS (W : World) (g : Nat) (r : Rc) (sv dv : Value) : World := (((((((((((W.setCell ⟨g, 0, none⟩ (.int .i64 r.kind)).setCell ⟨g, 1, none⟩ (.int .i64 r.org)).setCell ⟨g, 2, none⟩ (.int .i64 r.num)).setCell ⟨g, 3, none⟩ (.int .i64 r.peer)).setCell ⟨g, 4, none⟩ (.int .i64 r.srv)).setCell ⟨g, 5, none⟩ (.int .i64 r.off)).setCell ⟨g, 6, none⟩ (.int .i64 r.red)).setCell ⟨g, 7, none⟩ (.int .i64 r.size)).setCell ⟨g, 8, none⟩ (.int .i64 r.how)).setCell ⟨g, 9, none⟩ sv).setCell ⟨g, 10, none⟩ dv)
theorem rS_heap (W : World) (g : Nat) (r q : Rc) (sv dv a b : Value) (h : W.heap[g]? = some (rcO q a b)) : (rS W g r sv dv).heap[g]? = some (rcO r sv dv) := by
  unfold rS
  simp [World.setCell, Array.getElem?_modify, h]
theorem rS_grown (W : World) (g : Nat) (r : Rc) (sv dv : Value) : W.grownBy (rS W g r sv dv) (some g) := by
  unfold rS
  iterate 10 refine C.grown_trans ?_ (grown_set _ _ _ _)
  exact grown_set _ _ _ _
theorem own_keep6 {w w' : World} {base size n : Nat} {e : TypeId} {v : Value} {xs : List Value} {row : Option Nat} (h : w.ownsRow base e size v n xs) (hg : w.grownBy w' row) (hr : ∀ k, v.ownBlock = some k → row ≠ some k) : w'.ownsRow base e size v n xs := by
  have hlt := h.lt
  obtain ⟨hl, h | ⟨g, cap, cur, rfl, hb, hh, r⟩⟩ := h
  · exact ⟨hl, .inl h⟩
  · refine ⟨hl, .inr ⟨g, cap, cur, rfl, hb, ?_, r⟩⟩
    rw [hg.block g (hlt g rfl).2 (fun e => hr g rfl e.symm)]; exact hh
end Go.Proofs.YtllhbhogfffedaaGreatDoor
