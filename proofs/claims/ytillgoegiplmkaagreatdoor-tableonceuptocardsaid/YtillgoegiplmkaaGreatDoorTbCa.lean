import Derived.Test.YtillgoegiplmkaaGreatDoorTbMw
import Derived.Test.YtillgoegiplmkaaGreatDoorRcPrt
import Derived.Test.YtillgoegiplmkaaGreatDoorTbKe
namespace Go.Proofs.YtillgoegiplmkaaGreatDoor.B
open C
open Go.RowKit Go.Maps
set_option linter.unusedVariables false
set_option linter.unusedSimpArgs false

/-! ## The program's table: what asks alone -/
theorem Tw.c {w : World} {z : Tz} {T : T8} (h : Tw w z T) : w.cell? ⟨z.x, 0, none⟩ = some (.int .i64 T.id) ∧ w.cell? ⟨z.x, 1, none⟩ = some (.int .i64 T.boots) ∧ w.cell? ⟨z.x, 2, none⟩ = some (.int .i64 T.next) ∧ w.cell? ⟨z.x, 3, none⟩ = some (.map (some z.m1)) ∧ w.cell? ⟨z.x, 4, none⟩ = some (.map (some z.m2)) ∧ w.cell? ⟨z.x, 5, none⟩ = some (.map (some z.m3)) :=
  ⟨(cell_of_row _ _ _ _ _ _ h.box).trans rfl, (cell_of_row _ _ _ _ _ _ h.box).trans rfl, (cell_of_row _ _ _ _ _ _ h.box).trans rfl, (cell_of_row _ _ _ _ _ _ h.box).trans rfl, (cell_of_row _ _ _ _ _ _ h.box).trans rfl, (cell_of_row _ _ _ _ _ _ h.box).trans rfl⟩
/-- A pointer to a table. -/
abbrev tP (z : Tz) : Value := .pointer (some ⟨z.x, 0, none⟩)

theorem rbx (w : World) (r : Rc) (sv dv : Value) : Below w.heap.size w (w.alloc (rcO r sv dv)) := (Below.refl _ _).alloc (Nat.le_refl _) _
theorem lookXE {w : World} {z : Tz} {T : T8} {s : Ss} (h : Tw w z T) {e : Xm} (he : e ∈ z.X) (hs : e.o.s = s) : (Instr.lookup 68 (.map (some z.m1)) (sA s) true).run Tryz.prog w = .ok (.tuple #[oV e.o e.v, .bool true]) w := by
  have hl := lookB1 (mt := 68) Tryz.underlying68 h.pX.mp (List.mem_map.mpr ⟨e, he, rfl⟩) true
  rw [show e.ent.k = s from hs] at hl
  exact hl
theorem lookIE {w : World} {z : Tz} {T : T8} {s : Ss} (h : Tw w z T) {e : Im} (he : e ∈ z.I) (hs : e.i.s = s) (c : Bool) : (Instr.lookup 69 (.map (some z.m2)) (sA s) c).run Tryz.prog w = .ok (if c then .tuple #[iV e.i e.hv e.dv, .bool true] else iV e.i e.hv e.dv) w := by
  have hl := lookB1 (mt := 69) Tryz.underlying69 h.pI.mp (List.mem_map.mpr ⟨e, he, rfl⟩) c
  rw [show e.ent.k = s from hs] at hl
  exact hl
abbrev oC0 : Array Value := #[.int .i64 0, .int .i64 0, .int .i64 0, .int .i64 0, .int .i64 0, .int .i64 0, .slice none 0 0, .bool false, .int .i64 0]
abbrev iC0 : Array Value := #[.int .i64 0, .int .i64 0, .int .i64 0, .int .i64 0, .int .i64 0, .slice none 0 0, .slice none 0 0, .bool false, .bool false, .bool false, .bool false, .int .i64 0]
theorem own_sl8 {w : World} {base n sz : Nat} {e : TypeId} {v : Value} {xs : List Value} (h : w.ownsRow base e sz v n xs) : ∃ a m c, v = .slice a m c := by
  obtain ⟨_, ⟨rfl, rfl⟩ | ⟨g, cap, cur, rfl, _⟩⟩ := h
  · exact ⟨none, 0, 0, rfl⟩
  · exact ⟨_, n, cap, rfl⟩
theorem ne_dec (a b : Int) : (a != b) = decide (a ≠ b) := by by_cases h : a = b <;> simp [h]
set_option maxHeartbeats 2000000 in
theorem canSkip_any {w : World} {z : Tz} {T : T8} (h : Tw w z T) (r : Rc) (sv dv : Value) : Calls Tryz.prog 92 #[tP z, .agg (rcC r sv dv)] w fun e w' => e = .returned (.bool (decide (T.next ≤ r.size))) ∧ Below w.heap.size w w' := by
  obtain ⟨c0, c1, c2, c3, c4, c5⟩ := h.c
  have hx := h.ltp h.px
  have hx1 : z.x ≠ w.heap.size := by omega
  have HB : Hid (∀ n, Below w.heap.size w ((w.alloc (rcO r sv dv)).drewN n)) := fun n => below_drewN (rbx w r sv dv) n
  clear h
  go_enter Tryz.func92, Tryz.ntmps92
  go_wp2
  go_quiet (fail)
  go_wp2
  go_ret
  exact ⟨by simp [ne_dec], HB.out _⟩
set_option maxHeartbeats 2000000 in
theorem canBury_any {w : World} {z : Tz} {T : T8} (h : Tw w z T) (r : Rc) (sv dv : Value) : Calls Tryz.prog 110 #[tP z, .agg (rcC r sv dv)] w fun e w' => e = .returned (.bool (decide (r.size ≠ T.id))) ∧ Below w.heap.size w w' := by
  obtain ⟨c0, c1, c2, c3, c4, c5⟩ := h.c
  have hx := h.ltp h.px
  have hx1 : z.x ≠ w.heap.size := by omega
  have HB : Hid (∀ n, Below w.heap.size w ((w.alloc (rcO r sv dv)).drewN n)) := fun n => below_drewN (rbx w r sv dv) n
  clear h
  go_enter Tryz.func110, Tryz.ntmps110
  go_wp2
  go_quiet (fail)
  go_wp2
  go_ret
  exact ⟨by simp [ne_dec], HB.out _⟩
set_option maxHeartbeats 2000000 in
theorem canOpen_any {w : World} {z : Tz} {T : T8} (h : Tw w z T) (r : Rc) (sv dv : Value) : Calls Tryz.prog 94 #[tP z, .agg (rcC r sv dv)] w fun e w' => e = .returned (.bool (r.org == T.id && (decide (T.next ≤ r.num) && decide (r.peer ≠ T.id)))) ∧ Below w.heap.size w w' := by
  obtain ⟨c0, c1, c2, c3, c4, c5⟩ := h.c
  have hx := h.ltp h.px
  have hx1 : z.x ≠ w.heap.size := by omega
  have HB : Hid (∀ n, Below w.heap.size w ((w.alloc (rcO r sv dv)).drewN n)) := fun n => below_drewN (rbx w r sv dv) n
  clear h
  by_cases q1 : r.org = T.id
  · by_cases q2 : T.next ≤ r.num
    · have q4 : decide (T.next ≤ r.num) = true := decide_eq_true q2
      go_enter Tryz.func94, Tryz.ntmps94
      go_wp2
      go_quiet (fail)
      go_wp2
      go_ret
      exact ⟨by simp [ne_dec, q1, q2], HB.out _⟩
    · have q4 : decide (T.next ≤ r.num) = false := decide_eq_false q2
      go_enter Tryz.func94, Tryz.ntmps94
      go_wp2
      go_quiet (fail)
      go_wp2
      go_ret
      exact ⟨by rw [q4]; simp, HB.out _⟩
  · have q4 : decide (r.org = T.id) = false := decide_eq_false q1
    go_enter Tryz.func94, Tryz.ntmps94
    go_wp2
    go_quiet (fail)
    go_wp2
    go_ret
    exact ⟨by simp [ne_dec, q1], HB.out _⟩
end Go.Proofs.YtillgoegiplmkaaGreatDoor.B

namespace Go.Proofs.YtillgoegiplmkaaGreatDoor.B
open C
open Go.RowKit Go.Maps Go.Shelf
attribute [local go_sem] Oper.semAt_some
set_option linter.unusedVariables false
set_option linter.unusedSimpArgs false

def ssc (s : Ss) : List Value := [.int .i64 s.1, .int .i64 s.2]
def isc (x : Int) : List Value := [.int .i64 x]
/-- Rows of sessions and of ints of one's own. -/
abbrev RoS (w : World) (base : Nat) (v : Value) (l : List Ss) : Prop := w.ownsRow base 31 2 v l.length (l.flatMap ssc)
abbrev RoI (w : World) (base : Nat) (v : Value) (l : List Int) : Prop := w.ownsRow base 3 1 v l.length (l.flatMap isc)
theorem Tryz.info_ses : (Tryz.prog.info? 31).map (fun i => (i.zero, i.size, i.bytes)) = some (some (.agg #[.int .i64 0, .int .i64 0]), 2, 16) := by kernel_rfl
theorem Tryz.info_i64 : (Tryz.prog.info? 3).map (fun i => (i.zero, i.size, i.bytes)) = some (some (.int .i64 0), 1, 8) := by kernel_rfl

/-! ### Ss -/
structure AS (S N : Nat) (w : World) (pre : List Ss) (W : World) : Prop where
  row : ∃ v, Boxed W S 65 v ∧ RoS W N v pre
  low : Below w.heap.size w W
  big : N ≤ W.heap.size
theorem AS.own {S N B : Nat} {w : World} (hB : w.heap.size ≤ B) : OwnFrom B (AS S N w) := fun pre X Y row hs hg hr => by
  obtain ⟨v, h1, h2⟩ := hs.row
  refine ⟨⟨v, cells_keep h1 hg hr, h2.1, ?_⟩, ownFrom_below (β := Unit) (Nat.le_refl _) hB () X Y row hs.low hg hr, Nat.le_trans hs.big hg.size⟩
  rcases h2.2 with hn | ⟨g, cap, cur, hv, q1, q2, q3⟩
  · exact .inl hn
  · exact .inr ⟨g, cap, cur, hv, q1, cells_keep q2 hg hr, q3⟩
theorem AS.alloc {S N : Nat} {w : World} {pre : List Ss} {W : World} (h : AS S N w pre W) (o : Obj) : AS S N w pre (W.alloc o) := by
  obtain ⟨v, h1, h2⟩ := h.row
  exact ⟨⟨v, h1.alloc o, World.ownsRow.alloc h2 o⟩, h.low.alloc h.low.size o, by have := h.big; simp; omega⟩
theorem AS.put {S N : Nat} {w W w1 : World} {pre : List Ss} {v v' : Value} {x : Ss} {tmp : Obj} (h : AS S N w pre W) (hS : S < N) (hw : w.heap.size ≤ S) (hv : Boxed W S 65 v) (hrow : RoS W N v pre)
    (hown : w1.ownsRow N 31 2 v' (pre.length + 1) (pre.flatMap ssc ++ [.int .i64 x.1, .int .i64 x.2])) (hg : (W.alloc tmp).grownBy w1 v.ownBlock) :
    Boxed w1 S 65 v ∧ KeepsOthers W (w1.setCell ⟨S, 0, none⟩ v') ∧ AS S N w (pre ++ [x]) (w1.setCell ⟨S, 0, none⟩ v') := by
  have hbN : Below N W w1 := ((Below.refl N W).alloc h.big tmp).grown hg (by have := h.big; simp; omega) (fun k hk => (hrow.lt k hk).1)
  have b1 : Boxed w1 S 65 v := (hbN.block S hS).trans hv
  have hlow : Below w.heap.size W (w1.setCell ⟨S, 0, none⟩ v') := (hbN.mono (by omega)).setCell (p := ⟨S, 0, none⟩) hw v'
  have hnb : ∀ k, v'.ownBlock = some k → N ≤ k := fun k hk => (World.ownsRow.lt hown k hk).1
  refine ⟨b1, ?_, ⟨⟨v', b1.set v', ?_⟩, h.low.trans hlow, Nat.le_trans h.big (Nat.le_trans hbN.size (by simp))⟩⟩
  · refine ((KeepsOthers.alloc W tmp).trans (KeepsOthers.of_grownBy hg fun j o ej hj => ?_)).trans (KeepsOthers.setCell _ _ _)
    rcases (World.ownsRow.alloc hrow tmp).2 with ⟨rfl, _⟩ | ⟨g, cap, cur, rfl, _, hgb, _⟩
    · simp [Value.ownBlock] at ej
    · obtain rfl : g = j := by simpa [Value.ownBlock] using ej
      rw [hgb] at hj; cases hj; rfl
  · unfold RoS
    rw [List.flatMap_append, List.length_append]
    exact World.ownsRow.kept (show w1.ownsRow N 31 2 v' (pre.length + 1) (pre.flatMap ssc ++ [.int .i64 x.1, .int .i64 x.2]) from hown) (grownBy_setCell' w1 S v') (by
      cases hv : v'.ownBlock with
      | none => left; rfl
      | some g => right; intro e; simp only [Option.some.injEq] at e; have := hnb g hv; omega)
/-- What a collector leaves. -/
def CoS (L : List Ss) (w : World) (e : Ending) (w' : World) : Prop := ∃ v ys, e = .returned v ∧ ys.Perm L ∧ RoS w' w.heap.size v ys ∧ Below w.heap.size w w'
set_option maxRecDepth 100000 in
set_option maxHeartbeats 4000000 in
theorem apSeqS_any {w : World} {L : List Ss} {gk Bm : Nat} (hL : L.length ≤ 4398046511104) (n : Nat) (hn : 3 ≤ n) (heg : ∀ args w, (callFunc gk args).run Tryz.prog w = .ok (.enter gk args) w) (hfg : Fence.wide.fn gk)
    (hseq : ∀ W, Below w.heap.size w W → SeqStopsK Fence.wide (n - 1) Tryz.prog gk #[.pointer (some ⟨Bm, 0, none⟩)] (fun x : Ss => #[sA x]) KeepsWalks (fun ys => ys.Perm L) (fun _ => True) L.length W) :
    CallsIn Fence.wide n Tryz.prog 166 #[.slice none 0 0, .func (.func gk) #[] #[.pointer (some ⟨Bm, 0, none⟩)]] w (CoS L w) := by
  have h1 : 1 ≤ n := by omega
  obtain ⟨i0, hi, hz0, hz1, hz2⟩ := info_parts Tryz.info_ses
  have bS := Boxed.new w 65 (.slice none 0 0)
  have HB0 : Hid (Below w.heap.size w (w.alloc (.cells #[.slice none 0 0] 65))) := (Below.refl _ _).alloc (Nat.le_refl _) _
  obtain ⟨W0, hW0⟩ : ∃ W0, w.alloc (.cells #[.slice none 0 0] 65) = W0 := ⟨_, rfl⟩
  have HW0 : Hid (w.alloc (.cells #[.slice none 0 0] 65) = W0) := hW0
  have hsz : W0.heap.size = w.heap.size + 1 := by rw [← hW0]; simp
  have hs0 := hseq (w.alloc (.cells #[.slice none 0 0] 65)) HB0.out
  rw [hW0] at bS hs0
  have hBB := HB0.out
  rw [hW0] at hBB
  clear hseq hW0 HB0
  refine callsIn_of_wp_marks Tryz.func166 rfl trivial ?_ rfl
  simp only [Tryz.ntmps166, List.size_toArray, List.length_cons, List.length_nil, Nat.reduceAdd, Nat.reduceSub, Array.replicate_succ, Array.replicate_zero, List.push_toArray, List.append_toArray, List.nil_append, List.cons_append]
  gi_wp2_with fail
  rw [HW0.out]
  clear HW0
  refine wpIn_rangeFunc_ownH rfl h1 (gf := gk) (lb := #[.pointer (some ⟨Bm, 0, none⟩)]) rfl hfg heg
    hs0 walksK_t walksK_b (Below.refl _ _) (fun _ => rfl)
    (AS w.heap.size (w.heap.size + 1) w) (fun _ _ _ => False)
    (AS.own (by omega)) (fun _ _ _ _ _ hs _ _ => hs)
    ⟨⟨_, bS, World.ownsRow_nil _ _ _ _⟩, hBB, by omega⟩
    (fun x a' W => ∃ Bx, W.heap[Bx]? = some (.cells #[.int .i64 x.1, .int .i64 x.2] 31 (0, 0)) ∧ a' = { tmps := #[.slice none 0 0, .func (.func gk) #[] #[.pointer (some ⟨Bm, 0, none⟩)], .pointer (some ⟨w.heap.size, 0, none⟩), undef, .slice none 0 0, .pointer (some ⟨Bx, 0, none⟩), .func (.func gk) #[] #[.pointer (some ⟨Bm, 0, none⟩)], sA x, undef, undef, undef, undef, undef], defers := [] })
    (fun x a' _ X Y row hs hg hr => by obtain ⟨Bx, h2, h3⟩ := hs; exact ⟨Bx, cells_keep h2 hg hr, h3⟩)
    ?assign ?body ?done ?stop
  case assign =>
    rintro l' pre x W K hGI hK
    gi_wp2
    exact hK _ _ ((KeepsOthers.alloc _ _).from _) (KeepsWalks.alloc _ _) (hGI.alloc _) ⟨W.heap.size, heap_alloc_new' _ _, rfl⟩
  case body =>
    rintro l' pre x a' W hl' hr hGI ⟨Bx, hxb, rfl⟩ hlt
    obtain ⟨v, hv, hrow⟩ := hGI.row
    have hc := hv.cell
    have k0 : W.cell? ⟨Bx, 0, none⟩ = some (.int .i64 x.1) := by rw [cell_of_row _ _ _ _ _ _ hxb]; rfl
    have k1 : W.cell? ⟨Bx, 1, none⟩ = some (.int .i64 x.2) := by rw [cell_of_row _ _ _ _ _ _ hxb]; rfl
    have HGI : Hid (AS w.heap.size (w.heap.size + 1) w pre W) := hGI
    have hbig := hGI.big
    clear hGI hxb hr
    gi_wp2_with (gi_at_builtin; refine wpListIn_append_own _ rfl _ _ 65 rfl (w.heap.size + 1) 31 i0 (.agg #[.int .i64 0, .int .i64 0]) 2 16 Tryz.underlying65 hi hz0 hz1 hz2 rfl (by decide) _ _ _ rfl (World.ownsRow.alloc hrow _) ⟨W.heap.size, 0, none⟩ 1 1 [.int .i64 x.1, .int .i64 x.2] rfl rfl ?c1 ?c2 ?c3 ?c4 ?c5 ?_)
    case c1 => exact cell_two_new _ _ _ _
    case c2 => intro u hu; simp at hu; rcases hu with rfl | rfl <;> rfl
    case c3 => unfold maxLen; omega
    case c4 => omega
    case c5 => simp; omega
    intro v' w1 hown' hgrow _
    obtain ⟨g', cap', rfl⟩ := ownsRow_succ hown'
    obtain ⟨hv1, hk2, hg2⟩ := HGI.out.put (x := x) (by omega) (by omega) hv hrow hown' hgrow
    have hc1 := hv1.cell
    have hf1 := hv1.frozen
    gi_wp2
    exact ⟨hk2.from _, hk2.walks, hg2⟩
  case done =>
    rintro D ys W hD hS hGI hK
    obtain ⟨v, hv, hrow⟩ := hGI.row
    have hc := hv.cell
    have HS3 : Hid (RoS (W.putObj D (.deferred none)) w.heap.size v ys) := by
      have h3 := ownsRow_putObj hrow (.deferred none) hK rfl
      exact ⟨h3.1, h3.2.imp id (fun ⟨g, cap, cur, e1, e2, e3⟩ => ⟨g, cap, cur, e1, by omega, e3⟩)⟩
    have HB3 : Hid (Below w.heap.size w (W.putObj D (.deferred none))) := hGI.low.trans (belowK_b (w := w) (Nat.le_refl _) W D _ _ (by omega) hK rfl rfl)
    obtain ⟨a3, n3, c3, rfl⟩ := own_sl8 hrow
    clear hGI hrow hv
    gi_wp2
    refine ⟨by simp, .inl ⟨_, _, rfl, run_takeDeferred hK, ?_⟩⟩
    exact ⟨_, results_tmp (fn := Tryz.f166) (t := 4) rfl _ _ _, _, ys, rfl, hS, HS3.out, HB3.out⟩
  case stop =>
    rintro D c' pre W _ _ h _
    exact h.elim
set_option maxHeartbeats 4000000 in
theorem collS_any {w : World} {L : List Ss} {gk Bm : Nat} (hL : L.length ≤ 4398046511104) (heg : ∀ args w, (callFunc gk args).run Tryz.prog w = .ok (.enter gk args) w) (hfg : Fence.wide.fn gk)
    (hseq : ∀ W, Below w.heap.size w W → SeqStopsK Fence.wide 8 Tryz.prog gk #[.pointer (some ⟨Bm, 0, none⟩)] (fun x : Ss => #[sA x]) KeepsWalks (fun ys => ys.Perm L) (fun _ => True) L.length W) :
    Calls Tryz.prog 144 #[.func (.func gk) #[] #[.pointer (some ⟨Bm, 0, none⟩)]] w (CoS L w) := by
  have HA : Hid (Calls Tryz.prog 166 #[.slice none 0 0, .func (.func gk) #[] #[.pointer (some ⟨Bm, 0, none⟩)]] w (CoS L w)) := callsIn_wide.1 (apSeqS_any hL 9 (by omega) heg hfg hseq)
  clear hseq
  go_enter Tryz.func144, Tryz.ntmps144
  go_wp2_with (go_at_call 166; refine HA.out.mono ?_; rintro e w' ⟨v, ys, rfl, r1, r2, r3⟩; obtain ⟨a3, n3, c3, rfl⟩ := own_sl8 r2)
  go_ret
  exact ⟨_, ys, rfl, r1, r2, r3⟩

/-! ### Int -/
structure AI (S N : Nat) (w : World) (pre : List Int) (W : World) : Prop where
  row : ∃ v, Boxed W S 112 v ∧ RoI W N v pre
  low : Below w.heap.size w W
  big : N ≤ W.heap.size
theorem AI.own {S N B : Nat} {w : World} (hB : w.heap.size ≤ B) : OwnFrom B (AI S N w) := fun pre X Y row hs hg hr => by
  obtain ⟨v, h1, h2⟩ := hs.row
  refine ⟨⟨v, cells_keep h1 hg hr, h2.1, ?_⟩, ownFrom_below (β := Unit) (Nat.le_refl _) hB () X Y row hs.low hg hr, Nat.le_trans hs.big hg.size⟩
  rcases h2.2 with hn | ⟨g, cap, cur, hv, q1, q2, q3⟩
  · exact .inl hn
  · exact .inr ⟨g, cap, cur, hv, q1, cells_keep q2 hg hr, q3⟩
theorem AI.put {S N : Nat} {w W w1 : World} {pre : List Int} {v v' : Value} {x : Int} {tmp : Obj} (h : AI S N w pre W) (hS : S < N) (hw : w.heap.size ≤ S) (hv : Boxed W S 112 v) (hrow : RoI W N v pre)
    (hown : w1.ownsRow N 3 1 v' (pre.length + 1) (pre.flatMap isc ++ [.int .i64 x])) (hg : (W.alloc tmp).grownBy w1 v.ownBlock) :
    Boxed w1 S 112 v ∧ KeepsOthers W (w1.setCell ⟨S, 0, none⟩ v') ∧ AI S N w (pre ++ [x]) (w1.setCell ⟨S, 0, none⟩ v') := by
  have hbN : Below N W w1 := ((Below.refl N W).alloc h.big tmp).grown hg (by have := h.big; simp; omega) (fun k hk => (hrow.lt k hk).1)
  have b1 : Boxed w1 S 112 v := (hbN.block S hS).trans hv
  have hlow : Below w.heap.size W (w1.setCell ⟨S, 0, none⟩ v') := (hbN.mono (by omega)).setCell (p := ⟨S, 0, none⟩) hw v'
  have hnb : ∀ k, v'.ownBlock = some k → N ≤ k := fun k hk => (World.ownsRow.lt hown k hk).1
  refine ⟨b1, ?_, ⟨⟨v', b1.set v', ?_⟩, h.low.trans hlow, Nat.le_trans h.big (Nat.le_trans hbN.size (by simp))⟩⟩
  · refine ((KeepsOthers.alloc W tmp).trans (KeepsOthers.of_grownBy hg fun j o ej hj => ?_)).trans (KeepsOthers.setCell _ _ _)
    rcases (World.ownsRow.alloc hrow tmp).2 with ⟨rfl, _⟩ | ⟨g, cap, cur, rfl, _, hgb, _⟩
    · simp [Value.ownBlock] at ej
    · obtain rfl : g = j := by simpa [Value.ownBlock] using ej
      rw [hgb] at hj; cases hj; rfl
  · unfold RoI
    rw [List.flatMap_append, List.length_append]
    exact World.ownsRow.kept (show w1.ownsRow N 3 1 v' (pre.length + 1) (pre.flatMap isc ++ [.int .i64 x]) from hown) (grownBy_setCell' w1 S v') (by
      cases hv : v'.ownBlock with
      | none => left; rfl
      | some g => right; intro e; simp only [Option.some.injEq] at e; have := hnb g hv; omega)
/-- What a collector leaves. -/
def CoI (L : List Int) (w : World) (e : Ending) (w' : World) : Prop := ∃ v ys, e = .returned v ∧ ys.Perm L ∧ RoI w' w.heap.size v ys ∧ Below w.heap.size w w'
set_option maxRecDepth 100000 in
set_option maxHeartbeats 4000000 in
theorem apSeqI_any {w : World} {L : List Int} {gk Bm : Nat} (hL : L.length ≤ 4398046511104) (n : Nat) (hn : 3 ≤ n) (heg : ∀ args w, (callFunc gk args).run Tryz.prog w = .ok (.enter gk args) w) (hfg : Fence.wide.fn gk)
    (hseq : ∀ W, Below w.heap.size w W → SeqStopsK Fence.wide (n - 1) Tryz.prog gk #[.pointer (some ⟨Bm, 0, none⟩)] (fun x : Int => #[iA x]) KeepsWalks (fun ys => ys.Perm L) (fun _ => True) L.length W) :
    CallsIn Fence.wide n Tryz.prog 149 #[.slice none 0 0, .func (.func gk) #[] #[.pointer (some ⟨Bm, 0, none⟩)]] w (CoI L w) := by
  have h1 : 1 ≤ n := by omega
  obtain ⟨i0, hi, hz0, hz1, hz2⟩ := info_parts Tryz.info_i64
  have bS := Boxed.new w 112 (.slice none 0 0)
  have HB0 : Hid (Below w.heap.size w (w.alloc (.cells #[.slice none 0 0] 112))) := (Below.refl _ _).alloc (Nat.le_refl _) _
  obtain ⟨W0, hW0⟩ : ∃ W0, w.alloc (.cells #[.slice none 0 0] 112) = W0 := ⟨_, rfl⟩
  have HW0 : Hid (w.alloc (.cells #[.slice none 0 0] 112) = W0) := hW0
  have hsz : W0.heap.size = w.heap.size + 1 := by rw [← hW0]; simp
  have hs0 := hseq (w.alloc (.cells #[.slice none 0 0] 112)) HB0.out
  rw [hW0] at bS hs0
  have hBB := HB0.out
  rw [hW0] at hBB
  clear hseq hW0 HB0
  refine callsIn_of_wp_marks Tryz.func149 rfl trivial ?_ rfl
  simp only [Tryz.ntmps149, List.size_toArray, List.length_cons, List.length_nil, Nat.reduceAdd, Nat.reduceSub, Array.replicate_succ, Array.replicate_zero, List.push_toArray, List.append_toArray, List.nil_append, List.cons_append]
  gi_wp2_with fail
  rw [HW0.out]
  clear HW0
  refine wpIn_rangeFunc_ownH rfl h1 (gf := gk) (lb := #[.pointer (some ⟨Bm, 0, none⟩)]) rfl hfg heg
    hs0 walksK_t walksK_b (Below.refl _ _) (fun _ => rfl)
    (AI w.heap.size (w.heap.size + 1) w) (fun _ _ _ => False)
    (AI.own (by omega)) (fun _ _ _ _ _ hs _ _ => hs)
    ⟨⟨_, bS, World.ownsRow_nil _ _ _ _⟩, hBB, by omega⟩
    (fun x a' W => a' = { tmps := #[.slice none 0 0, .func (.func gk) #[] #[.pointer (some ⟨Bm, 0, none⟩)], .pointer (some ⟨w.heap.size, 0, none⟩), undef, .slice none 0 0, .int .i64 x, .func (.func gk) #[] #[.pointer (some ⟨Bm, 0, none⟩)], .int .i64 x, undef, undef, undef, undef, undef], defers := [] })
    (fun x a' _ X Y row hs hg hr => hs)
    ?assign ?body ?done ?stop
  case assign =>
    rintro l' pre x W K hGI hK
    gi_wp2
    exact hK _ _ (KeepsFrom.refl _ _) (KeepsWalks.refl _) hGI rfl
  case body =>
    rintro l' pre x a' W hl' hr hGI rfl hlt
    obtain ⟨v, hv, hrow⟩ := hGI.row
    have hc := hv.cell
    have HGI : Hid (AI w.heap.size (w.heap.size + 1) w pre W) := hGI
    have hbig := hGI.big
    clear hGI hr
    gi_wp2_with (gi_at_builtin; refine wpListIn_append_own _ rfl _ _ 112 rfl (w.heap.size + 1) 3 i0 (.int .i64 0) 1 8 Tryz.underlying112 hi hz0 hz1 hz2 rfl (by decide) _ _ _ rfl (World.ownsRow.alloc hrow _) ⟨W.heap.size, 0, none⟩ 1 1 [.int .i64 x] rfl rfl ?c1 ?c2 ?c3 ?c4 ?c5 ?_)
    case c1 => exact cell_one_new _ _ _
    case c2 => intro u hu; simp at hu; subst hu; rfl
    case c3 => unfold maxLen; omega
    case c4 => omega
    case c5 => simp; omega
    intro v' w1 hown' hgrow _
    obtain ⟨g', cap', rfl⟩ := ownsRow_succ hown'
    obtain ⟨hv1, hk2, hg2⟩ := HGI.out.put (x := x) (by omega) (by omega) hv hrow hown' hgrow
    have hc1 := hv1.cell
    have hf1 := hv1.frozen
    gi_wp2
    exact ⟨hk2.from _, hk2.walks, hg2⟩
  case done =>
    rintro D ys W hD hS hGI hK
    obtain ⟨v, hv, hrow⟩ := hGI.row
    have hc := hv.cell
    have HS3 : Hid (RoI (W.putObj D (.deferred none)) w.heap.size v ys) := by
      have h3 := ownsRow_putObj hrow (.deferred none) hK rfl
      exact ⟨h3.1, h3.2.imp id (fun ⟨g, cap, cur, e1, e2, e3⟩ => ⟨g, cap, cur, e1, by omega, e3⟩)⟩
    have HB3 : Hid (Below w.heap.size w (W.putObj D (.deferred none))) := hGI.low.trans (belowK_b (w := w) (Nat.le_refl _) W D _ _ (by omega) hK rfl rfl)
    obtain ⟨a3, n3, c3, rfl⟩ := own_sl8 hrow
    clear hGI hrow hv
    gi_wp2
    refine ⟨by simp, .inl ⟨_, _, rfl, run_takeDeferred hK, ?_⟩⟩
    exact ⟨_, results_tmp (fn := Tryz.f149) (t := 4) rfl _ _ _, _, ys, rfl, hS, HS3.out, HB3.out⟩
  case stop =>
    rintro D c' pre W _ _ h _
    exact h.elim
set_option maxHeartbeats 4000000 in
theorem collI_any {w : World} {L : List Int} {gk Bm : Nat} (hL : L.length ≤ 4398046511104) (heg : ∀ args w, (callFunc gk args).run Tryz.prog w = .ok (.enter gk args) w) (hfg : Fence.wide.fn gk)
    (hseq : ∀ W, Below w.heap.size w W → SeqStopsK Fence.wide 8 Tryz.prog gk #[.pointer (some ⟨Bm, 0, none⟩)] (fun x : Int => #[iA x]) KeepsWalks (fun ys => ys.Perm L) (fun _ => True) L.length W) :
    Calls Tryz.prog 123 #[.func (.func gk) #[] #[.pointer (some ⟨Bm, 0, none⟩)]] w (CoI L w) := by
  have HA : Hid (Calls Tryz.prog 149 #[.slice none 0 0, .func (.func gk) #[] #[.pointer (some ⟨Bm, 0, none⟩)]] w (CoI L w)) := callsIn_wide.1 (apSeqI_any hL 9 (by omega) heg hfg hseq)
  clear hseq
  go_enter Tryz.func123, Tryz.ntmps123
  go_wp2_with (go_at_call 149; refine HA.out.mono ?_; rintro e w' ⟨v, ys, rfl, r1, r2, r3⟩; obtain ⟨a3, n3, c3, rfl⟩ := own_sl8 r2)
  go_ret
  exact ⟨_, ys, rfl, r1, r2, r3⟩

theorem keysX_seq {w : World} {Bm m clock : Nat} {E : List Ent} (hm : w.heap[Bm]? = some (.cells #[.map (some m)] 68)) (hM : Mb w m clock E) (n : Nat) (hn : 1 ≤ n) (W : World) (hW : Below w.heap.size w W) :
    SeqStopsK Fence.wide n Tryz.prog 146 #[.pointer (some ⟨Bm, 0, none⟩)] (fun x : Ss => #[sA x]) KeepsWalks (fun ys => ys.Perm (E.map Ent.k)) (fun _ => True) (E.map Ent.k).length W := fun l J Jx V hV hJ _ hY h0 => by
  have hwV : Below w.heap.size w V := hW.trans (hV.mono hW.size)
  refine keysX1_in n hn l Bm m clock E J Jx V hJ (fun pre x W1 q1 q2 => hY pre x W1 q1 (by simpa using q2)) ?_ ⟨(hwV.block m (Array.getElem?_eq_some_iff.1 hM.blk).1).trans hM.blk, hM.nd, hM.bn, hM.bl, hM.wf⟩ h0
  exact (cell_of_row _ _ _ _ _ _ ((hwV.block Bm (Array.getElem?_eq_some_iff.1 hm).1).trans hm)).trans rfl

theorem keysI_seq {w : World} {Bm m clock : Nat} {E : List Ent} (hm : w.heap[Bm]? = some (.cells #[.map (some m)] 69)) (hM : Mb w m clock E) (n : Nat) (hn : 1 ≤ n) (W : World) (hW : Below w.heap.size w W) :
    SeqStopsK Fence.wide n Tryz.prog 148 #[.pointer (some ⟨Bm, 0, none⟩)] (fun x : Ss => #[sA x]) KeepsWalks (fun ys => ys.Perm (E.map Ent.k)) (fun _ => True) (E.map Ent.k).length W := fun l J Jx V hV hJ _ hY h0 => by
  have hwV : Below w.heap.size w V := hW.trans (hV.mono hW.size)
  refine keysI1_in n hn l Bm m clock E J Jx V hJ (fun pre x W1 q1 q2 => hY pre x W1 q1 (by simpa using q2)) ?_ ⟨(hwV.block m (Array.getElem?_eq_some_iff.1 hM.blk).1).trans hM.blk, hM.nd, hM.bn, hM.bl, hM.wf⟩ h0
  exact (cell_of_row _ _ _ _ _ _ ((hwV.block Bm (Array.getElem?_eq_some_iff.1 hm).1).trans hm)).trans rfl

theorem keysB_seq {w : World} {Bm m clock : Nat} {E : List EnI} (hm : w.heap[Bm]? = some (.cells #[.map (some m)] 70)) (hM : Mj w m clock E) (n : Nat) (hn : 1 ≤ n) (W : World) (hW : Below w.heap.size w W) :
    SeqStopsK Fence.wide n Tryz.prog 125 #[.pointer (some ⟨Bm, 0, none⟩)] (fun x : Int => #[iA x]) KeepsWalks (fun ys => ys.Perm (E.map EnI.k)) (fun _ => True) (E.map EnI.k).length W := fun l J Jx V hV hJ _ hY h0 => by
  have hwV : Below w.heap.size w V := hW.trans (hV.mono hW.size)
  refine keysB1_in n hn l Bm m clock E J Jx V hJ (fun pre x W1 q1 q2 => hY pre x W1 q1 (by simpa using q2)) ?_ ⟨(hwV.block m (Array.getElem?_eq_some_iff.1 hM.blk).1).trans hM.blk, hM.nd, hM.bn, hM.bl, hM.wf⟩ h0
  exact (cell_of_row _ _ _ _ _ _ ((hwV.block Bm (Array.getElem?_eq_some_iff.1 hm).1).trans hm)).trans rfl
end Go.Proofs.YtillgoegiplmkaaGreatDoor.B
