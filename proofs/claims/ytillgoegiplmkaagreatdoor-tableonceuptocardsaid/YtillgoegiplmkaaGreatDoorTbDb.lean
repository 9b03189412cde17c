import Derived.Test.YtillgoegiplmkaaGreatDoorTbEb
import Derived.Test.YtillgoegiplmkaaGreatDoorJoi
import Derived.Test.YtillgoegiplmkaaGreatDoorRead
import Derived.Lib.SliceRun
import Derived.Maps.AppendAt
import Derived.Test.YtillgoegiplmkaaGreatDoorTbEc
namespace Go.Proofs.YtillgoegiplmkaaGreatDoor.B
open C
open Go.RowKit Go.Maps
set_option linter.unusedVariables false
set_option linter.unusedSimpArgs false

theorem lookX_f {w : World} {z : Tz} {T : T8} {s : Ss} (h : Tw w z T) {e : Xm} (he : e ∈ z.X) (hs : e.o.s = s) : (Instr.lookup 68 (.map (some z.m1)) (sA s) false).run Tryz.prog w = .ok (oV e.o e.v) w := by
  have hl := lookB1 (mt := 68) Tryz.underlying68 h.pX.mp (List.mem_map.mpr ⟨e, he, rfl⟩) false
  rw [show e.ent.k = s from hs] at hl
  exact hl
set_option maxRecDepth 8000 in
set_option maxHeartbeats 4000000 in
theorem deliver_then {w : World} {z : Tz} {T : T8} (h : Tw w z T) (r : Rc) (hr : sW (sR r)) {o : Ic} (hf : T.fi (sR r) = some o) (sv dv : Value) : Calls Tryz.prog 103 #[tP z, .agg (rcC r sv dv)] w (ThP z (T.putI { o with done := true }) w) := by
  obtain ⟨W, hW⟩ : ∃ W, w.alloc (rcO r sv dv) = W := ⟨_, rfl⟩
  have HW : Hid (w.alloc (rcO r sv dv) = W) := hW
  have hbx : Below w.heap.size w W := by rw [← hW]; exact (Below.refl _ _).alloc (Nat.le_refl _) _
  have hbd : Below w.heap.size w W.drew := hbx.drew
  have hp : W.heap[w.heap.size]? = some (rcO r sv dv) := by rw [← hW]; exact heap_alloc_new' w _
  have hT := h.below hbx
  obtain ⟨c0, c1, c2, c3, c4, c5⟩ := hT.c
  obtain ⟨k0, k1, k2, k3, k4, k5, k6, k7, k8, k9, k10⟩ := rc_cells hp
  obtain ⟨e, he, rfl, hes, _⟩ := h.lookI1 hf
  obtain ⟨av, nv, cv, ev⟩ := own_sl8 (h.pI.r e he).1.1
  obtain ⟨au, nu, cu, eu⟩ := own_sl8 (h.pI.r e he).2.1
  have hbz : Below w.heap.size w (W.alloc (.cells #[.int .i64 0, .int .i64 0, .int .i64 0, .int .i64 0, .int .i64 0, .slice none 0 0, .slice none 0 0, .bool false, .bool false, .bool false, .bool false, .int .i64 0] 63)).drew := (hbx.alloc hbx.size _).drew
  have hl : (Instr.lookup 69 (.map (some z.m2)) (.agg #[.int .i64 r.org, .int .i64 r.num]) false).run Tryz.prog W.drew = .ok (iV e.i (.slice au nu cu) (.slice av nv cv)) W.drew := eu ▸ ev ▸ lookIE (s := sR r) (h.below hbd) he hes false
  have hl2 : (Instr.lookup 69 (.map (some z.m2)) (.agg #[.int .i64 r.org, .int .i64 r.num]) false).run Tryz.prog (W.alloc (.cells #[.int .i64 0, .int .i64 0, .int .i64 0, .int .i64 0, .int .i64 0, .slice none 0 0, .slice none 0 0, .bool false, .bool false, .bool false, .bool false, .int .i64 0] 63)).drew = .ok (iV e.i (.slice au nu cu) (.slice av nv cv)) (W.alloc (.cells #[.int .i64 0, .int .i64 0, .int .i64 0, .int .i64 0, .int .i64 0, .slice none 0 0, .slice none 0 0, .bool false, .bool false, .bool false, .bool false, .int .i64 0] 63)).drew := eu ▸ ev ▸ lookIE (s := sR r) (h.below hbz) he hes false
  have hbz0 : Below w.heap.size w (W.alloc (.cells #[.int .i64 0, .int .i64 0, .int .i64 0, .int .i64 0, .int .i64 0, .slice none 0 0, .slice none 0 0, .bool false, .bool false, .bool false, .bool false, .int .i64 0] 63)) := hbx.alloc hbx.size _
  obtain ⟨y0, y1, y2, y3, y4, y5⟩ := (h.below hbz0).c
  have hpz : (W.alloc (.cells #[.int .i64 0, .int .i64 0, .int .i64 0, .int .i64 0, .int .i64 0, .slice none 0 0, .slice none 0 0, .bool false, .bool false, .bool false, .bool false, .int .i64 0] 63)).heap[w.heap.size]? = some (rcO r sv dv) := (Below.heap_alloc _ _ _ (by have := hbx.size; rw [← hW]; simp)).trans hp
  have x1 : (W.alloc (.cells #[.int .i64 0, .int .i64 0, .int .i64 0, .int .i64 0, .int .i64 0, .slice none 0 0, .slice none 0 0, .bool false, .bool false, .bool false, .bool false, .int .i64 0] 63)).cell? ⟨w.heap.size, 1, none⟩ = some (.int .i64 r.org) := (cell_of_row _ _ _ _ _ _ hpz).trans rfl
  have x2 : (W.alloc (.cells #[.int .i64 0, .int .i64 0, .int .i64 0, .int .i64 0, .int .i64 0, .slice none 0 0, .slice none 0 0, .bool false, .bool false, .bool false, .bool false, .int .i64 0] 63)).cell? ⟨w.heap.size, 2, none⟩ = some (.int .i64 r.num) := (cell_of_row _ _ _ _ _ _ hpz).trans rfl
  obtain ⟨g, hg⟩ : ∃ g, W.heap.size = g := ⟨_, rfl⟩
  have hwg : w.heap.size < g := by rw [← hg, ← hW]; simp
  obtain ⟨W1, hW1⟩ : ∃ W1, (W.alloc (.cells #[.int .i64 e.i.org, .int .i64 e.i.num, .int .i64 e.i.srv, .int .i64 e.i.red, .int .i64 e.i.size, .slice au nu cu, .slice av nv cv, .bool e.i.done, .bool e.i.gone, .bool e.i.heard, .bool e.i.shut, .int .i64 e.i.how] 63)).drew = W1 := ⟨_, rfl⟩
  have HW1 : Hid ((W.alloc (.cells #[.int .i64 e.i.org, .int .i64 e.i.num, .int .i64 e.i.srv, .int .i64 e.i.red, .int .i64 e.i.size, .slice au nu cu, .slice av nv cv, .bool e.i.done, .bool e.i.gone, .bool e.i.heard, .bool e.i.shut, .int .i64 e.i.how] 63)).drew = W1) := hW1
  have hb1 : Below w.heap.size w W1 := by rw [← hW1]; exact (hbx.alloc hbx.size _).drew
  have hq1 : W1.heap[g]? = some (.cells #[.int .i64 e.i.org, .int .i64 e.i.num, .int .i64 e.i.srv, .int .i64 e.i.red, .int .i64 e.i.size, .slice au nu cu, .slice av nv cv, .bool e.i.done, .bool e.i.gone, .bool e.i.heard, .bool e.i.shut, .int .i64 e.i.how] 63) := by rw [← hW1, ← hg]; exact heap_alloc_new' W _
  have hp1 : W1.heap[w.heap.size]? = some (rcO r sv dv) := by rw [← hW1]; exact (Below.heap_alloc _ _ _ (by omega)).trans hp
  have hb2 : Below w.heap.size w (W1.setCell ⟨g, 7, none⟩ (.bool true)) := hb1.setCell (p := ⟨g, 7, none⟩) (by simp only; omega) _
  have hq2 : (W1.setCell ⟨g, 7, none⟩ (.bool true)).heap[g]? = some (.cells #[.int .i64 e.i.org, .int .i64 e.i.num, .int .i64 e.i.srv, .int .i64 e.i.red, .int .i64 e.i.size, .slice au nu cu, .slice av nv cv, .bool true, .bool e.i.gone, .bool e.i.heard, .bool e.i.shut, .int .i64 e.i.how] 63) := (heap_setCell_same _ _ _ _ _ _ hq1).trans rfl
  have hp2 : (W1.setCell ⟨g, 7, none⟩ (.bool true)).heap[w.heap.size]? = some (rcO r sv dv) := (heap_setCell_other _ _ _ _ (by simp only; omega)).trans hp1
  have f7 : W1.frozen? ⟨g, 7, none⟩ = false := by simp [World.frozen?, hq1]
  have z7 : W1.cell? ⟨g, 7, none⟩ = some (.bool e.i.done) := (cell_of_row _ _ _ _ _ _ hq1).trans rfl
  obtain ⟨W2, hW2⟩ : ∃ W2, W1.setCell ⟨g, 7, none⟩ (.bool true) = W2 := ⟨_, rfl⟩
  rw [hW2] at hb2 hq2 hp2
  have hb3 : Below w.heap.size w W2.drew := hb2.drew
  have hrd := (h.pI.r e he).1.1
  have hrh := (h.pI.r e he).2.1
  obtain ⟨w3, z', hrun, hT3, hU3⟩ := h.putI (o := { e.i with done := true }) (hv := e.hv) (dv := e.dv) (Kl.of_below hb3) (by show sW e.i.s; rw [hes]; exact hr) (own_at hrd (fun x hx => hb3.block x (own_lt hrd hx))) (own_at hrh (fun x hx => hb3.block x (own_lt hrh hx))) (fun x hx => .inl ⟨e, he, rfl, hx⟩) (fun x hx => .inl ⟨e, he, rfl, hx⟩)
  have hrun : (Instr.mapUpdate 69 (.map (some z.m2)) (.agg #[.int .i64 r.org, .int .i64 r.num]) (.agg #[.int .i64 e.i.org, .int .i64 e.i.num, .int .i64 e.i.srv, .int .i64 e.i.red, .int .i64 e.i.size, .slice au nu cu, .slice av nv cv, .bool true, .bool e.i.gone, .bool e.i.heard, .bool e.i.shut, .int .i64 e.i.how])).run Tryz.prog W2.drew = .ok () w3 := by
    have q : (e.i.org, e.i.num) = sR r := hes
    have q1 : r.org = e.i.org := (congrArg Prod.fst q).symm
    have q2 : r.num = e.i.num := (congrArg Prod.snd q).symm
    rw [q1, q2, ← eu, ← ev]
    exact hrun
  have HT : Hid (Tw w3 z' (T.putI { e.i with done := true }) ∧ Up z z' w w3) := ⟨hT3, hU3⟩
  obtain ⟨d0, d1, d2, d3, d4, d5⟩ := (h.below hb2).c
  obtain ⟨m0, m1, m2, m3, m4, m5, m6, m7, m8, m9, m10⟩ := rc_cells hp2
  have HI : Hid (∀ V : World, V.heap[g]? = some (.cells #[.int .i64 e.i.org, .int .i64 e.i.num, .int .i64 e.i.srv, .int .i64 e.i.red, .int .i64 e.i.size, .slice au nu cu, .slice av nv cv, .bool true, .bool e.i.gone, .bool e.i.heard, .bool e.i.shut, .int .i64 e.i.how] 63) → V.cell? ⟨g, 0, none⟩ = some (.int .i64 e.i.org) ∧ V.cell? ⟨g, 1, none⟩ = some (.int .i64 e.i.num) ∧ V.cell? ⟨g, 2, none⟩ = some (.int .i64 e.i.srv) ∧ V.cell? ⟨g, 3, none⟩ = some (.int .i64 e.i.red) ∧ V.cell? ⟨g, 4, none⟩ = some (.int .i64 e.i.size) ∧ V.cell? ⟨g, 5, none⟩ = some (.slice au nu cu) ∧ V.cell? ⟨g, 6, none⟩ = some (.slice av nv cv) ∧ V.cell? ⟨g, 7, none⟩ = some (.bool true) ∧ V.cell? ⟨g, 8, none⟩ = some (.bool e.i.gone) ∧ V.cell? ⟨g, 9, none⟩ = some (.bool e.i.heard) ∧ V.cell? ⟨g, 10, none⟩ = some (.bool e.i.shut) ∧ V.cell? ⟨g, 11, none⟩ = some (.int .i64 e.i.how)) := fun V q => by
    refine ⟨?_, ?_, ?_, ?_, ?_, ?_, ?_, ?_, ?_, ?_, ?_, ?_⟩ <;> exact (cell_of_row _ _ _ _ _ _ q).trans rfl
  obtain ⟨i0, i1, i2, i3, i4, i5, i6, i7, i8, i9, i10, i11⟩ := HI.out _ hq2
  have HW2 : Hid (W1.setCell ⟨g, 7, none⟩ (.bool true) = W2) := hW2
  have HG : Hid (W.heap.size = g) := hg
  clear h hT hW hbx hbd hp hT3 hU3 hW1 hW2 hb1 hb2 hb3 hq1 hq2 hp1 hp2 hrd hrh he hes hf hbz hbz0 hpz hg ev eu HI
  go_enter Tryz.func103, Tryz.ntmps103
  go_wp2
  rw [HW.out]
  go_region
  all_goals rw [HW1.out, HG.out]
  all_goals go_wp2
  all_goals rw [HW2.out]
  all_goals go_region
  all_goals go_wp2
  all_goals go_end0
  all_goals exact ⟨rfl, z', HT.out⟩
end Go.Proofs.YtillgoegiplmkaaGreatDoor.B

namespace Go.Proofs.YtillgoegiplmkaaGreatDoor.B
open C
open Go.RowKit Go.Maps
set_option linter.unusedVariables false
set_option linter.unusedSimpArgs false

/-! ## slices.Clone -/
def ClB (zs : List Int) (w : World) (e : Ending) (w' : World) : Prop := ∃ v, e = .returned v ∧ w'.ownsRow w.heap.size 5 1 v zs.length (zs.map (Value.int .u8)) ∧ Below w.heap.size w w'
set_option maxHeartbeats 4000000 in
theorem cloneB_any (a : Option Addr) (c : Nat) (zs : List Int) (n : Nat) (hn : zs.length = n) (w : World) (h : Lies .u8 w a zs) (h0 : a = none → n = 0 ∧ c = 0) (hm : n ≤ 1048576) :
    Calls Tryz.prog 62 #[.slice a n c] w (ClB zs w) := by
  have q22 : ∀ (w : World) (a : Option Addr) (n c n' c' : Nat), (binOp .eql 33 (.slice a n c) (.slice none n' c')).run Tryz.prog w = .ok (.bool a.isNone) w := fun w a n c n' c' => Lib.run_eql_slice_nil w _ _ a n c n' c' Tryz.underlying33
  cases a with
  | none =>
    obtain ⟨rfl, rfl⟩ := h0 rfl
    obtain rfl : zs = [] := List.eq_nil_of_length_eq_zero hn
    clear h h0 hn
    go_enter Tryz.func62, Tryz.ntmps62
    go_wp2
    go_ret
    exact ⟨_, rfl, World.ownsRow_nil _ _ _ _, Below.refl _ _⟩
  | some ad =>
    obtain ⟨i0, hi, hz0, hz1, hz2⟩ := info_parts Tryz.info_u8
    have HO : Hid ((w.alloc (.cells #[] 5)).ownsRow w.heap.size 5 1 (.slice (some ⟨w.heap.size, 0, none⟩) 0 0) 0 []) := ⟨rfl, .inr ⟨w.heap.size, 0, #[], rfl, Nat.le_refl _, heap_alloc_new' _ _, Nat.le_refl _, by unfold maxLen; omega, rfl, rfl⟩⟩
    have HB0 : Hid (Below w.heap.size w (w.alloc (.cells #[] 5))) := (Below.refl _ _).alloc (Nat.le_refl _) _
    have HL : Hid (Lies .u8 (w.alloc (.cells #[] 5)) (some ad) zs) := h.below HB0.out
    have HN : Hid (zs.length = n) := hn
    clear h hn h0
    go_enter Tryz.func62, Tryz.ntmps62
    go_wp2_with (at_builtin; refine append_any _ rfl _ _ 33 rfl w.heap.size 5 i0 (.int .u8 0) 1 Tryz.underlying33 hi hz0 hz1 hz2 rfl _ _ _ rfl HO.out .u8 (some ad) n c zs rfl (fun h => by cases h) HN.out HL.out (by unfold maxLen; omega) (by omega) (by simp) ?_)
    intro v' w1 hown1 hgrow
    have HB1 : Hid (Below w.heap.size w w1) := HB0.out.grown hgrow (by simp) (fun k e => by simp [Value.ownBlock] at e; omega)
    have HO1 : Hid (w1.ownsRow w.heap.size 5 1 v' n (zs.map (Value.int .u8))) := by first | exact hown1 | simpa using hown1
    clear hown1 hgrow HO HB0
    obtain ⟨av, nv, cv, hv⟩ := own_sl8 HO1.out
    subst hv
    go_wp2
    go_ret
    refine ⟨_, rfl, ?_, HB1.out⟩
    rw [HN.out]
    exact HO1.out
def ClS (l : List Sp) (w : World) (e : Ending) (w' : World) : Prop := ∃ v, e = .returned v ∧ SOwn w' w.heap.size v l ∧ Below w.heap.size w w'
set_option maxHeartbeats 4000000 in
theorem cloneS_any (a : Option Addr) (c : Nat) (l : List Sp) (n : Nat) (hn : l.length = n) (w : World) (h : Spa w a l) (h0 : a = none → n = 0 ∧ c = 0) (hm : n ≤ 1048576) :
    Calls Tryz.prog 64 #[.slice a n c] w (ClS l w) := by
  have q22 : ∀ (w : World) (a : Option Addr) (n c n' c' : Nat), (binOp .eql 32 (.slice a n c) (.slice none n' c')).run Tryz.prog w = .ok (.bool a.isNone) w := fun w a n c n' c' => Lib.run_eql_slice_nil w _ _ a n c n' c' Tryz.underlying32
  cases a with
  | none =>
    obtain ⟨rfl, rfl⟩ := h0 rfl
    obtain rfl : l = [] := List.eq_nil_of_length_eq_zero hn
    clear h h0 hn
    go_enter Tryz.func64, Tryz.ntmps64
    go_wp2
    go_ret
    exact ⟨_, rfl, SOwn.nil _ _, Below.refl _ _⟩
  | some ad =>
    obtain ⟨i0, hi, hz0, hz1, hz2⟩ := info_parts Tryz.info_span
    have HB0 : Hid (Below w.heap.size w (w.alloc (.cells #[] 90))) := (Below.refl _ _).alloc (Nat.le_refl _) _
    have HSr : Hid (∀ k u, (l.flatMap spc)[k]? = some u → (w.alloc (.cells #[] 90)).cell? (ad.add k) = some u) := fun k u hk => by
      have hs := h.below HB0.out
      have hlt : k < l.length * 2 := by
        have := (List.getElem?_eq_some_iff.1 hk).1
        rwa [spc_len] at this
      obtain ⟨p, hp⟩ := get_some l (k / 2) (by omega)
      obtain ⟨g, off, e1, e2, e3⟩ := hs.at hp
      cases e1
      have hg := spc_get l (k / 2) p hp
      by_cases q : k % 2 = 0
      · have ek : k = k / 2 * 2 := by omega
        rw [ek, hg.1] at hk
        rw [ek]
        have : (⟨g, off, none⟩ : Addr).add (k / 2 * 2) = ⟨g, off + k / 2 * 2, none⟩ := by
          unfold Addr.add
          by_cases q0 : k / 2 * 2 = 0
          · simp [q0]
          · simp [q0]
        rw [this, e2]
        exact hk
      · have ek : k = k / 2 * 2 + 1 := by omega
        rw [ek, hg.2] at hk
        rw [ek]
        have : (⟨g, off, none⟩ : Addr).add (k / 2 * 2 + 1) = ⟨g, off + k / 2 * 2 + 1, none⟩ := by
          unfold Addr.add
          simp
          omega
        rw [this, e3]
        exact hk
    have HN : Hid (l.length = n) := hn
    have hln : (l.flatMap spc).length = n * 2 := by rw [spc_len, hn]
    have HLn : Hid ((l.flatMap spc).length = n * 2) := hln
    clear h h0 hn hln
    have HO : Hid ((w.alloc (.cells #[] 90)).ownsRow w.heap.size 90 2 (.slice (some ⟨w.heap.size, 0, none⟩) 0 0) 0 []) := ⟨rfl, .inr ⟨w.heap.size, 0, #[], rfl, Nat.le_refl _, heap_alloc_new' _ _, Nat.le_refl _, by unfold maxLen; omega, rfl, rfl⟩⟩
    go_enter Tryz.func64, Tryz.ntmps64
    go_wp2_with (at_builtin; refine wpList_append_own_at _ rfl _ _ 32 rfl w.heap.size 90 i0 (.agg #[.int .i64 0, .int .i64 0]) 2 16 Tryz.underlying32 hi hz0 hz1 hz2 rfl (by decide) _ _ _ rfl HO.out ad n c (l.flatMap spc) rfl HLn.out HSr.out ?c2 ?c3 ?c4 ?c5 ?_)
    case c2 => intro v hv; obtain ⟨p, _, hp⟩ := List.mem_flatMap.mp hv; simp [spc] at hp; rcases hp with rfl | rfl <;> rfl
    case c3 => unfold maxLen; omega
    case c4 => omega
    case c5 => simp
    intro vo w9 hown9 hgrow9 _ _
    have HS9 : Hid (SOwn w9 w.heap.size vo l) := by unfold Hid SOwn; rw [HN.out]; simpa using hown9
    have HB9 : Hid (Below w.heap.size w w9) := HB0.out.grown hgrow9 (by simp) (fun k e => by simp [Value.ownBlock] at e; omega)
    obtain ⟨a9, n9, c9, hvo⟩ := own_sl8 HS9.out
    subst hvo
    clear hown9 hgrow9 HO HB0
    go_wp2
    go_ret
    exact ⟨_, rfl, HS9.out, HB9.out⟩
end Go.Proofs.YtillgoegiplmkaaGreatDoor.B

namespace Go.Proofs.YtillgoegiplmkaaGreatDoor.B
open C
open Go.RowKit Go.Maps Go.Shelf Go.Sort
set_option linter.unusedVariables false
set_option linter.unusedSimpArgs false

def ogc (p : Og × Value) : List Value := [.int .i64 p.1.org, .int .i64 p.1.num, .int .i64 p.1.peer, .int .i64 p.1.srv, .int .i64 p.1.red, .int .i64 p.1.size, p.2, .bool p.1.ended, .int .i64 p.1.how]
def icc (q : Ic × Value × Value) : List Value := [.int .i64 q.1.org, .int .i64 q.1.num, .int .i64 q.1.srv, .int .i64 q.1.red, .int .i64 q.1.size, q.2.1, q.2.2, .bool q.1.done, .bool q.1.gone, .bool q.1.heard, .bool q.1.shut, .int .i64 q.1.how]
def tmc (r : Tm × Value) : List Value := [.int .i64 r.1.1, r.2]
/-- The blocks of a state's inner lists. -/
def sbl (P : List (Og × Value)) (Q : List (Ic × Value × Value)) (R : List (Tm × Value)) : List Nat := (P.map Prod.snd ++ (Q.flatMap (fun q => [q.2.1, q.2.2]) ++ R.map Prod.snd)).filterMap Value.ownBlock
abbrev ByO (W : World) (lo : Nat) (v : Value) (l : List Int) : Prop := W.ownsRow lo 5 1 v l.length (l.map (Value.int .u8))
structure StR (lo : Nat) (vo vi vt : Value) (P : List (Og × Value)) (Q : List (Ic × Value × Value)) (R : List (Tm × Value)) (W : World) : Prop where
  ro : W.ownsRow lo 110 9 vo P.length (P.flatMap ogc)
  ri : W.ownsRow lo 63 12 vi Q.length (Q.flatMap icc)
  rt : W.ownsRow lo 99 2 vt R.length (R.flatMap tmc)
  po : ∀ p ∈ P, ByO W lo p.2 p.1.data
  pi : ∀ q ∈ Q, SOwn W lo q.2.1 q.1.hv ∧ ByO W lo q.2.2 q.1.data
  pt : ∀ r ∈ R, SOwn W lo r.2 r.1.2
  nd : (sbl P Q R).Nodup
theorem own_blk {W : World} {b n s : Nat} {e : TypeId} {v : Value} {xs : List Value} (h : W.ownsRow b e s v n xs) {g : Nat} (hg : v.ownBlock = some g) : ∃ cur, W.heap[g]? = some (.cells cur e (0, 0)) := own_obj h hg
theorem own_ne {W : World} {b n s b' n' s' : Nat} {e e' : TypeId} {v v' : Value} {xs xs' : List Value} (h : W.ownsRow b e s v n xs) (h' : W.ownsRow b' e' s' v' n' xs') (he : e ≠ e') {g : Nat} (hg : v.ownBlock = some g) : v'.ownBlock ≠ some g := fun hg' => by
  obtain ⟨c, h1⟩ := own_blk h hg
  obtain ⟨c', h2⟩ := own_blk h' hg'
  rw [h1] at h2
  simp only [Option.some.injEq, Obj.cells.injEq] at h2
  exact he h2.2.1
theorem own_nb {W : World} {b n s x : Nat} {e e' : TypeId} {v : Value} {xs : List Value} {cs : Array Value} (h : W.ownsRow b e s v n xs) (hx : W.heap[x]? = some (.cells cs e' (0, 0))) (he : e ≠ e') : v.ownBlock ≠ some x := fun hg => by
  obtain ⟨c, h1⟩ := own_blk h hg
  rw [h1] at hx
  simp only [Option.some.injEq, Obj.cells.injEq] at hx
  exact he hx.2.1
theorem StR.below {lo : Nat} {vo vi vt : Value} {P : List (Og × Value)} {Q : List (Ic × Value × Value)} {R : List (Tm × Value)} {W W' : World} (h : StR lo vo vi vt P Q R W) (hb : Below W.heap.size W W') : StR lo vo vi vt P Q R W' := by
  have k : ∀ {b n s : Nat} {e : TypeId} {v : Value} {xs : List Value}, W.ownsRow b e s v n xs → W'.ownsRow b e s v n xs := fun hr => own_at hr (fun g hg => hb.block g (World.ownsRow.lt hr g hg).2)
  exact ⟨k h.ro, k h.ri, k h.rt, fun p hp => k (h.po p hp), fun q hq => ⟨k (h.pi q hq).1, k (h.pi q hq).2⟩, fun r hr => k (h.pt r hr), h.nd⟩
/-- The state that is made: its box, and its lists. -/
structure SJ (w : World) (x : Nat) (T : T8) (vo vi vt : Value) (P : List (Og × Value)) (Q : List (Ic × Value × Value)) (R : List (Tm × Value)) (W : World) : Prop where
  low : Below w.heap.size w W
  box : W.heap[x]? = some (.cells #[.int .i64 T.id, .int .i64 T.boots, .int .i64 T.next, vo, vi, vt] 58 (0, 0))
  bx : w.heap.size ≤ x
  st : StR w.heap.size vo vi vt P Q R W
theorem SJ.below {w W W' : World} {x : Nat} {T : T8} {vo vi vt : Value} {P : List (Og × Value)} {Q : List (Ic × Value × Value)} {R : List (Tm × Value)} (h : SJ w x T vo vi vt P Q R W) (hb : Below W.heap.size W W') : SJ w x T vo vi vt P Q R W' :=
  ⟨h.low.trans (hb.mono h.low.size), (hb.block x (Array.getElem?_eq_some_iff.1 h.box).1).trans h.box, h.bx, h.st.below hb⟩
theorem nodup_in {l m : List Nat} {a : Nat} (h : (l ++ m).Nodup) (ha : a ∉ l ++ m) : (l ++ ([a] ++ m)).Nodup := by
  rw [List.nodup_append] at h ⊢
  simp only [List.mem_append, not_or] at ha
  refine ⟨h.1, ?_, fun b hb c hc => ?_⟩
  · rw [List.nodup_append]
    exact ⟨by simp, h.2.1, fun b hb c hc e => by simp at hb; subst hb; subst e; exact ha.2 hc⟩
  · simp only [List.mem_append, List.mem_singleton] at hc
    rcases hc with rfl | hc
    · exact fun e => by subst e; exact ha.1 hb
    · exact h.2.2 b hb c hc
theorem sbl_lt {lo : Nat} {vo vi vt : Value} {P : List (Og × Value)} {Q : List (Ic × Value × Value)} {R : List (Tm × Value)} {W : World} (h : StR lo vo vi vt P Q R W) : ∀ g ∈ sbl P Q R, lo ≤ g ∧ g < W.heap.size := fun g hg => by
  unfold sbl at hg
  obtain ⟨v, hv, e⟩ := List.mem_filterMap.mp hg
  simp only [List.mem_append, List.mem_map, List.mem_flatMap] at hv
  rcases hv with ⟨p, hp, rfl⟩ | ⟨q, hq, hv⟩ | ⟨r, hr, rfl⟩
  · exact World.ownsRow.lt (h.po p hp) g e
  · simp only [List.mem_cons, List.not_mem_nil, or_false] at hv
    rcases hv with rfl | rfl
    · exact World.ownsRow.lt (h.pi q hq).1 g e
    · exact World.ownsRow.lt (h.pi q hq).2 g e
  · exact World.ownsRow.lt (h.pt r hr) g e

/-- One export more. -/
theorem SJ.addo {w W W' : World} {x : Nat} {T : T8} {vo vi vt : Value} {P : List (Og × Value)} {Q : List (Ic × Value × Value)} {R : List (Tm × Value)} (h : SJ w x T vo vi vt P Q R W) {v' : Value} {a : Og × Value} (hk : Kl (fun g => g = x ∨ vo.ownBlock = some g) W W')
    (hbx : W'.heap[x]? = some (.cells #[.int .i64 T.id, .int .i64 T.boots, .int .i64 T.next, v', vi, vt] 58 (0, 0))) (hr : W'.ownsRow w.heap.size 110 9 v' (P.length + 1) (P.flatMap ogc ++ ogc a)) (ha : ByO W w.heap.size a.2 a.1.data)
    (hn : (sbl (P ++ [a]) Q R).Nodup) : SJ w x T v' vi vt (P ++ [a]) Q R W' := by
  have hxs := h.box
  have hvx := fun g (e : vo.ownBlock = some g) => (World.ownsRow.lt h.st.ro g e)
  have k : ∀ {b m s : Nat} {e : TypeId} {u : Value} {xs : List Value}, W.ownsRow b e s u m xs → e ≠ 58 → e ≠ 110 → W'.ownsRow b e s u m xs := fun hq h1 h2 => own_at hq (fun g hg => hk.block g (World.ownsRow.lt hq g hg).2 (fun e => e.elim (fun e => own_nb hq hxs h1 (by rw [← e]; exact hg)) (fun e => own_ne hq h.st.ro h2 hg e)))
  refine ⟨⟨hk.os.trans h.low.os, hk.tape.trans h.low.tape, hk.output.trans h.low.output, Nat.le_trans h.low.size hk.size, fun g hg => (hk.block g (Nat.lt_of_lt_of_le hg h.low.size) (fun e => e.elim (fun e => by have := h.bx; omega) (fun e => by have := (hvx g e).1; omega))).trans (h.low.block g hg)⟩, hbx, h.bx, ?_⟩
  have e1 : P.length + 1 = (P ++ [a]).length := by simp
  have e2 : P.flatMap ogc ++ ogc a = (P ++ [a]).flatMap ogc := by simp
  rw [e1, e2] at hr
  refine ⟨hr, k h.st.ri (by decide) (by decide), k h.st.rt (by decide) (by decide), fun p hp => (List.mem_append.mp hp).elim (fun hp => k (h.st.po p hp) (by decide) (by decide)) (fun hp => by simp only [List.mem_singleton] at hp; subst hp; exact k ha (by decide) (by decide)), fun q hq => ⟨k (h.st.pi q hq).1 (by decide) (by decide), k (h.st.pi q hq).2 (by decide) (by decide)⟩, fun r hr => k (h.st.pt r hr) (by decide) (by decide), hn⟩

/-- One import more. -/
theorem SJ.addi {w W W' : World} {x : Nat} {T : T8} {vo vi vt : Value} {P : List (Og × Value)} {Q : List (Ic × Value × Value)} {R : List (Tm × Value)} (h : SJ w x T vo vi vt P Q R W) {v' : Value} {a : Ic × Value × Value} (hk : Kl (fun g => g = x ∨ vi.ownBlock = some g) W W')
    (hbx : W'.heap[x]? = some (.cells #[.int .i64 T.id, .int .i64 T.boots, .int .i64 T.next, vo, v', vt] 58 (0, 0))) (hr : W'.ownsRow w.heap.size 63 12 v' (Q.length + 1) (Q.flatMap icc ++ icc a)) (ha : SOwn W w.heap.size a.2.1 a.1.hv ∧ ByO W w.heap.size a.2.2 a.1.data)
    (hn : (sbl P (Q ++ [a]) R).Nodup) : SJ w x T vo v' vt P (Q ++ [a]) R W' := by
  have hxs := h.box
  have hvx := fun g (e : vi.ownBlock = some g) => (World.ownsRow.lt h.st.ri g e)
  have k : ∀ {b m s : Nat} {e : TypeId} {u : Value} {xs : List Value}, W.ownsRow b e s u m xs → e ≠ 58 → e ≠ 63 → W'.ownsRow b e s u m xs := fun hq h1 h2 => own_at hq (fun g hg => hk.block g (World.ownsRow.lt hq g hg).2 (fun e => e.elim (fun e => own_nb hq hxs h1 (by rw [← e]; exact hg)) (fun e => own_ne hq h.st.ri h2 hg e)))
  refine ⟨⟨hk.os.trans h.low.os, hk.tape.trans h.low.tape, hk.output.trans h.low.output, Nat.le_trans h.low.size hk.size, fun g hg => (hk.block g (Nat.lt_of_lt_of_le hg h.low.size) (fun e => e.elim (fun e => by have := h.bx; omega) (fun e => by have := (hvx g e).1; omega))).trans (h.low.block g hg)⟩, hbx, h.bx, ?_⟩
  have e1 : Q.length + 1 = (Q ++ [a]).length := by simp
  have e2 : Q.flatMap icc ++ icc a = (Q ++ [a]).flatMap icc := by simp
  rw [e1, e2] at hr
  refine ⟨k h.st.ro (by decide) (by decide), hr, k h.st.rt (by decide) (by decide), fun p hp => k (h.st.po p hp) (by decide) (by decide), fun q hq => (List.mem_append.mp hq).elim (fun hq => ⟨k (h.st.pi q hq).1 (by decide) (by decide), k (h.st.pi q hq).2 (by decide) (by decide)⟩) (fun hq => by simp only [List.mem_singleton] at hq; subst hq; exact ⟨k ha.1 (by decide) (by decide), k ha.2 (by decide) (by decide)⟩), fun r hr => k (h.st.pt r hr) (by decide) (by decide), hn⟩

/-- One tomb more. -/
theorem SJ.addt {w W W' : World} {x : Nat} {T : T8} {vo vi vt : Value} {P : List (Og × Value)} {Q : List (Ic × Value × Value)} {R : List (Tm × Value)} (h : SJ w x T vo vi vt P Q R W) {v' : Value} {a : Tm × Value} (hk : Kl (fun g => g = x ∨ vt.ownBlock = some g) W W')
    (hbx : W'.heap[x]? = some (.cells #[.int .i64 T.id, .int .i64 T.boots, .int .i64 T.next, vo, vi, v'] 58 (0, 0))) (hr : W'.ownsRow w.heap.size 99 2 v' (R.length + 1) (R.flatMap tmc ++ tmc a)) (ha : SOwn W w.heap.size a.2 a.1.2)
    (hn : (sbl P Q (R ++ [a])).Nodup) : SJ w x T vo vi v' P Q (R ++ [a]) W' := by
  have hxs := h.box
  have hvx := fun g (e : vt.ownBlock = some g) => (World.ownsRow.lt h.st.rt g e)
  have k : ∀ {b m s : Nat} {e : TypeId} {u : Value} {xs : List Value}, W.ownsRow b e s u m xs → e ≠ 58 → e ≠ 99 → W'.ownsRow b e s u m xs := fun hq h1 h2 => own_at hq (fun g hg => hk.block g (World.ownsRow.lt hq g hg).2 (fun e => e.elim (fun e => own_nb hq hxs h1 (by rw [← e]; exact hg)) (fun e => own_ne hq h.st.rt h2 hg e)))
  refine ⟨⟨hk.os.trans h.low.os, hk.tape.trans h.low.tape, hk.output.trans h.low.output, Nat.le_trans h.low.size hk.size, fun g hg => (hk.block g (Nat.lt_of_lt_of_le hg h.low.size) (fun e => e.elim (fun e => by have := h.bx; omega) (fun e => by have := (hvx g e).1; omega))).trans (h.low.block g hg)⟩, hbx, h.bx, ?_⟩
  have e1 : R.length + 1 = (R ++ [a]).length := by simp
  have e2 : R.flatMap tmc ++ tmc a = (R ++ [a]).flatMap tmc := by simp
  rw [e1, e2] at hr
  refine ⟨k h.st.ro (by decide) (by decide), k h.st.ri (by decide) (by decide), hr, fun p hp => k (h.st.po p hp) (by decide) (by decide), fun q hq => ⟨k (h.st.pi q hq).1 (by decide) (by decide), k (h.st.pi q hq).2 (by decide) (by decide)⟩, fun r hr => (List.mem_append.mp hr).elim (fun hr => k (h.st.pt r hr) (by decide) (by decide)) (fun hr => by simp only [List.mem_singleton] at hr; subst hr; exact k ha (by decide) (by decide)), hn⟩

theorem fm_one (v : Value) : [v].filterMap Value.ownBlock = (v.ownBlock).toList := by cases h : v.ownBlock <;> simp [List.filterMap_cons, h]
theorem sbl_addo {P : List (Og × Value)} {Q : List (Ic × Value × Value)} {R : List (Tm × Value)} {o : Og} {v : Value} (h : (sbl P Q R).Nodup) (hv : ∀ g, v.ownBlock = some g → g ∉ sbl P Q R) : (sbl (P ++ [(o, v)]) Q R).Nodup := by
  unfold sbl at *
  rw [List.map_append, List.append_assoc, List.filterMap_append] at *
  rw [List.filterMap_append, show List.map Prod.snd [(o, v)] = [v] from rfl, fm_one]
  cases hb : v.ownBlock with
  | none => simpa using h
  | some g => exact nodup_in h (hv g hb)
theorem sbl_addt {P : List (Og × Value)} {Q : List (Ic × Value × Value)} {R : List (Tm × Value)} {t : Tm} {v : Value} (h : (sbl P Q R).Nodup) (hv : ∀ g, v.ownBlock = some g → g ∉ sbl P Q R) : (sbl P Q (R ++ [(t, v)])).Nodup := by
  unfold sbl at *
  rw [List.map_append, ← List.append_assoc, ← List.append_assoc, List.filterMap_append]
  rw [← List.append_assoc] at h hv
  rw [show List.map Prod.snd [(t, v)] = [v] from rfl, fm_one]
  cases hb : v.ownBlock with
  | none => simpa using h
  | some g =>
    have := nodup_in (l := ((P.map Prod.snd ++ Q.flatMap fun q => [q.2.1, q.2.2]) ++ R.map Prod.snd).filterMap Value.ownBlock) (m := []) (a := g) (by simpa using h) (by simpa using hv g hb)
    simpa using this
theorem sbl_addi {P : List (Og × Value)} {Q : List (Ic × Value × Value)} {R : List (Tm × Value)} {i : Ic} {v u : Value} (h : (sbl P Q R).Nodup) (hv : ∀ g, v.ownBlock = some g → g ∉ sbl P Q R) (hu : ∀ g, u.ownBlock = some g → g ∉ sbl P Q R) (hvu : ∀ g, v.ownBlock = some g → u.ownBlock ≠ some g) : (sbl P (Q ++ [(i, v, u)]) R).Nodup := by
  unfold sbl at *
  rw [List.flatMap_append]
  rw [show List.flatMap (fun q : Ic × Value × Value => [q.2.1, q.2.2]) [(i, v, u)] = [v] ++ [u] from rfl]
  have e : ∀ X Y Z : List Value, (X ++ ((Y ++ ([v] ++ [u])) ++ Z)).filterMap Value.ownBlock = (X ++ Y).filterMap Value.ownBlock ++ (v.ownBlock.toList ++ (u.ownBlock.toList ++ Z.filterMap Value.ownBlock)) := fun X Y Z => by
    simp only [List.filterMap_append, List.append_assoc, fm_one]
  rw [e]
  rw [← List.append_assoc, List.filterMap_append] at h hv hu
  have h1 : ((P.map Prod.snd ++ Q.flatMap fun q => [q.2.1, q.2.2]).filterMap Value.ownBlock ++ (u.ownBlock.toList ++ (R.map Prod.snd).filterMap Value.ownBlock)).Nodup := by
    cases hb : u.ownBlock with
    | none => simpa using h
    | some g => exact nodup_in h (hu g hb)
  cases hb : v.ownBlock with
  | none => simpa using h1
  | some g =>
    refine nodup_in h1 (fun hm => ?_)
    rcases List.mem_append.mp hm with hm | hm
    · exact hv g hb (List.mem_append.mpr (.inl hm))
    · rcases List.mem_append.mp hm with hm | hm
      · cases hc : u.ownBlock with
        | none => rw [hc] at hm; simp at hm
        | some c => rw [hc] at hm; simp at hm; exact hvu g hb (by rw [hc, hm])
      · exact hv g hb (List.mem_append.mpr (.inr hm))
theorem cells_new (w : World) (cs : List Value) (t : TypeId) : ∀ (j : Nat) (u : Value), cs[j]? = some u → (w.alloc (.cells cs.toArray t)).cell? ((⟨w.heap.size, 0, none⟩ : Addr).add j) = some u := fun j u hj => by
  rw [Addr.add_lit, Nat.zero_add]
  exact (cell_of_row _ _ j _ _ _ (heap_alloc_new' w _)).trans (by simpa using hj)
theorem take_one {α : Type} {l : List α} {k : Nat} {x : α} (h : l[k]? = some x) : l.take (k + 1) = l.take k ++ [x] := by rw [List.take_add_one, h]; rfl
end Go.Proofs.YtillgoegiplmkaaGreatDoor.B
