import Derived.Shelf.Spec.SlicesGrow
import Derived.Test.YtillgoegiplmkaaGreatDoorChecked
import Derived.Test.YtillgoegiplmkaaGreatDoorTbEh
import Derived.Maps.AppendAt
import Derived.Deep.CutBlock
import Derived.Test.YtillgoegiplmkaaGreatDoorTbDb
namespace Go.Proofs.YtillgoegiplmkaaGreatDoor
open Go.Shelf
def laysGrow_ren : Go.Shelf.Ren := ⟨fun | 4 => 86 | n => n, fun | 22 => 43 | 25 => 35 | 3 => 3 | 4 => 4 | 9 => 9 | 20 => 20 | 0 => 0 | n => n, fun | n => n⟩
theorem laysGrow : Go.Proofs.Lays8.n4 Tryz.prog laysGrow_ren := {
  mixed := by kernel_rfl
  f4 := ⟨Tryz.f86.name, by decide, Tryz.func86.trans (congrArg some (by kernel_rfl))⟩
  t0 := Tryz.underlying0
  a0 := Tryz.isAgg0
  z0 := Tryz.sizeOf0
  v0 := Tryz.zeroValue0
  t3 := Tryz.underlying3
  a3 := Tryz.isAgg3
  z3 := Tryz.sizeOf3
  v3 := Tryz.zeroValue3
  t4 := Tryz.underlying4
  a4 := Tryz.isAgg4
  z4 := Tryz.sizeOf4
  v4 := Tryz.zeroValue4
  t9 := Tryz.underlying9
  a9 := Tryz.isAgg9
  z9 := Tryz.sizeOf9
  v9 := Tryz.zeroValue9
  t20 := Tryz.underlying20
  a20 := Tryz.isAgg20
  z20 := Tryz.sizeOf20
  v20 := Tryz.zeroValue20
  t22 := Tryz.underlying43
  a22 := Tryz.isAgg43
  z22 := Tryz.sizeOf43
  v22 := Tryz.zeroValue43 }
end Go.Proofs.YtillgoegiplmkaaGreatDoor

namespace Go.Proofs.YtillgoegiplmkaaGreatDoor.B
open C
open Go.RowKit Go.Maps Go.Shelf
set_option linter.unusedVariables false
set_option linter.unusedSimpArgs false

theorem own_base8 {w : World} {b b' e s n : Nat} {v : Value} {xs : List Value} (h : w.ownsRow b e s v n xs) (hl : b' ≤ b) : w.ownsRow b' e s v n xs :=
  ⟨h.1, h.2.imp id (fun ⟨g, cap, cur, e1, e2, e3⟩ => ⟨g, cap, cur, e1, Nat.le_trans hl e2, e3⟩)⟩
/-- An append of a row of the call's own. -/
theorem wpl_row8 {P : Program} {ops : Array Oper} {rest : List Oper} {o : Oper} {a : Act} {Q : Exit → Act → World → Prop} (w : World) (hg : o.guard = none) (s x : Operand) (t : TypeId) (hop : o.op = Op.call { callee := Callee.builtin Builtin.append, args := #[s, x], argTypes := #[t, t] })
    (base : Nat) (e : TypeId) (i : TypeInfo) (z : Value) (size bytes : Nat) (ht : P.underlying t = some (.slice e)) (hi : P.info? e = some i) (hz : i.zero = some z) (hsize : i.size = size) (hby : i.bytes = bytes) (hzs : z.cells.size = size) (hsz : 0 < size)
    (v : Value) (n : Nat) (xs : List Value) (hs : a.eval s = v) (hown : w.ownsRow base e size v n xs) (v2 : Value) (m : Nat) (news : List Value) (hx : a.eval x = v2) (hown2 : w.ownsRow 0 e size v2 m news) (h1 : ∀ u ∈ news, u.oneCell' = true)
    (h63 : n + m ≤ maxLen) (hbytes : (n + m) * bytes ≤ 140737488355328) (hbase : base ≤ w.heap.size)
    (hK : ∀ v' w', w'.ownsRow base e size v' (n + m) (xs ++ news) → w.grownBy w' v.ownBlock → (v'.ownBlock = v.ownBlock ∨ v'.ownBlock = some w.heap.size) → wpList P ops Q rest (a.put o.dst v') w') : wpList P ops Q (o :: rest) a w := by
  have hlen : news.length = m * size := hown2.1
  obtain ⟨_, ⟨rfl, rfl⟩ | ⟨g, cap, cur, rfl, _⟩⟩ := id hown2
  · have hn0 : news = [] := List.eq_nil_of_length_eq_zero (by rw [hlen]; omega)
    subst hn0
    refine wpList_append_own_none hg s x t hop base e i size ht hi v n xs hs hown hx ?_
    exact hK v w (by simpa using hown) ⟨rfl, rfl, rfl, Nat.le_refl _, fun _ _ _ => rfl⟩ (.inl rfl)
  · refine wpList_append_own_at w hg s x t hop base e i z size bytes ht hi hz hsize hby hzs hsz v n xs hs hown ⟨g, 0, none⟩ m cap news hx hlen (hown2.cells (g := g) rfl) h1 h63 hbytes hbase ?_
    intro v' w' r2 r3 _ r5
    exact hK v' w' r2 r3 r5
theorem grow_any (n : Nat) (w : World) (hn : n ≤ 1099511627776) : Calls Tryz.prog 86 #[.slice none 0 0, .int .i64 n] w fun e w' => ∃ a c, e = .returned (.slice a 0 c) ∧ RrR w' w.heap.size (.slice a 0 c) [] ∧ Below w.heap.size w w' := by
  obtain ⟨i0, hi, hz0, hz1, hz2⟩ := info_parts Tryz.info_rec
  by_cases h0 : n = 0
  · subst h0
    refine (Any8.slices_Grow_room laysGrow none 0 0 0 w (Nat.le_refl _) (by omega) (by omega) (Nat.le_refl _)).mono ?_
    rintro e w' ⟨rfl, rfl⟩
    exact ⟨none, 0, rfl, World.ownsRow_nil _ _ _ _, Below.refl _ _⟩
  · refine (Any8.slices_Grow_grow laysGrow i0 _ hi hz0 (by rw [hz1]; omega) none 0 0 n [] w (Nat.le_refl _) (by omega) (by rw [hz2]; omega) (by omega) (by simp) (fun _ => rfl) (fun a h => by cases h)).mono ?_
    rintro e w' ⟨rfl, rfl⟩
    have g1 : n ≤ grownCap w (0 + n) 0 35 := by have := grownCap_ge w (0 + n) 0 35; omega
    have g2 : grownCap w (0 + n) 0 35 ≤ maxLen := grownCap_le_maxLen w (0 + n) 0 35 (by unfold maxLen; omega)
    have e0 : grownCap w (0 + n) 0 (laysGrow_ren.t 25) = grownCap w (0 + n) 0 35 := rfl
    rw [e0]
    generalize grownCap w (0 + n) 0 35 = G at g1 g2
    refine ⟨_, _, rfl, ⟨rfl, .inr ⟨w.heap.size, G, _, rfl, Nat.le_refl _, heap_alloc_new' w.drew _, Nat.zero_le _, g2, ?_, by simp⟩⟩, ((Below.refl _ _).drew).alloc (by simp) _⟩
    rw [Array.size_append, Array.size_append, size_zeroCells, size_zeroCells]
    show 0 + (0 + n - 0) * 11 + (G - (0 + n)) * 11 = G * 11
    omega
/-- What Concat's second loop keeps. -/
def CcI (w : World) (S : List Rv) (q : Value) (W : World) : Prop := RrR W w.heap.size q S ∧ Below w.heap.size w W
theorem CcI.push {w W w6 : World} {S R : List Rv} {q v6 : Value} {n : Nat} (h : CcI w S q W) (hn : n = R.length) (hg : W.grownBy w6 q.ownBlock) (hown : w6.ownsRow w.heap.size 35 11 v6 (S.length + n) (S.flatMap rcc ++ R.flatMap rcc)) : CcI w (S ++ R) v6 w6 := by
  subst hn
  refine ⟨?_, h.2.trans ⟨hg.os, hg.tape, hg.output, hg.size, fun g hgl => ?_⟩⟩
  · unfold RrR
    rw [List.length_append, List.flatMap_append]
    exact hown
  · exact hg.block g (by have := h.2.size; omega) (fun e => by have := (World.ownsRow.lt h.1 g e.symm).1; omega)
theorem rr_len {W : World} {lo : Nat} {a : Option Addr} {n c : Nat} {R : List Rv} (h : RrR W lo (.slice a n c) R) : n = R.length := by
  obtain ⟨_, ⟨q, q'⟩ | ⟨g', cap', cur, q, _⟩⟩ := h
  · simp only [Value.slice.injEq] at q; omega
  · simp only [Value.slice.injEq] at q; omega
set_option maxRecDepth 8000 in
set_option maxHeartbeats 4000000 in
/-- CONCAT OF TWO ROWS OF RECORDS. -/
theorem concat_any (w : World) (lo g : Nat) (a1 a2 : Option Addr) (n1 n2 c1 c2 : Nat) (R1 R2 : List Rv) (h0 : w.cell? ⟨g, 0, none⟩ = some (.slice a1 n1 c1)) (h1 : w.cell? ⟨g, 1, none⟩ = some (.slice a2 n2 c2)) (r1 : RrR w lo (.slice a1 n1 c1) R1) (r2 : RrR w lo (.slice a2 n2 c2) R2) (o1 : ∀ u ∈ R1.flatMap rcc, u.oneCell' = true) (o2 : ∀ u ∈ R2.flatMap rcc, u.oneCell' = true) (hm1 : R1.length ≤ 1048576) (hm2 : R2.length ≤ 4294967296) :
    Calls Tryz.prog 50 #[.slice (some ⟨g, 0, none⟩) 2 2] w fun e w' => ∃ a n c, e = .returned (.slice a n c) ∧ RrR w' w.heap.size (.slice a n c) (R1 ++ R2) ∧ Below w.heap.size w w' := by
  obtain ⟨i0, hi, hz0, hz1, hz2⟩ := info_parts Tryz.info_rec
  have e1 := rr_len r1
  have e2 := rr_len r2
  have HR : Hid (RrR w lo (.slice a1 n1 c1) R1 ∧ RrR w lo (.slice a2 n2 c2) R2 ∧ (∀ u ∈ R1.flatMap rcc, u.oneCell' = true) ∧ (∀ u ∈ R2.flatMap rcc, u.oneCell' = true) ∧ n1 = R1.length ∧ n2 = R2.length) := ⟨r1, r2, o1, o2, e1, e2⟩
  have HC : Hid (w.cell? ⟨g, 0, none⟩ = some (.slice a1 n1 c1) ∧ w.cell? ⟨g, 1, none⟩ = some (.slice a2 n2 c2)) := ⟨h0, h1⟩
  have hn1 : n1 ≤ 1048576 := by omega
  have hn2 : n2 ≤ 4294967296 := by omega
  have hgl : g < w.heap.size := World.block_lt_of_cell? w ⟨g, 0, none⟩ h0
  have HG : Hid (g < w.heap.size) := hgl
  clear r1 r2 o1 o2 e1 e2 hm1 hm2 hgl
  obtain ⟨N, hN⟩ : ∃ N, n1 + n2 = N := ⟨_, rfl⟩
  have hNl : N ≤ 1099511627776 := by omega
  have w1 : IntKind.i64.wrap ((0 : Int) + (n1 : Int)) = (n1 : Int) := by rw [IntKind.wrap_i64]; omega
  have w2 : IntKind.i64.wrap ((n1 : Int) + (n2 : Int)) = (N : Int) := by rw [IntKind.wrap_i64]; omega
  have hN0 : ¬ (N : Int) < 0 := by omega
  have hn0 : ¬ (n1 : Int) < 0 := by omega
  have HGr : Hid (∀ W, Calls Tryz.prog 86 #[.slice none 0 0, .int .i64 N] W fun e w' => ∃ a c, e = .returned (.slice a 0 c) ∧ RrR w' W.heap.size (.slice a 0 c) [] ∧ Below W.heap.size W w') := fun W => grow_any N W hNl
  clear h0 h1 hN hNl
  go_enter Tryz.func50, Tryz.ntmps50
  go_wp2_with fail
  go_loopw [3, 11] (fun s j wr => Hid (wr = w) ∧ ((j = .int .i64 0 ∧ s = .int .i64 0) ∨ (j = .int .i64 1 ∧ s = .int .i64 n1) ∨ (j = .int .i64 2 ∧ s = .int .i64 N))) (fun _ j _ => 2 - (intOf j).toNat)
  case atStart => exact ⟨rfl, .inl ⟨rfl, rfl⟩⟩
  case round =>
    obtain ⟨HW, hrel⟩ := hrel
    rcases hrel with ⟨rfl, rfl⟩ | ⟨rfl, rfl⟩ | ⟨rfl, rfl⟩
    · have h0 : wr.cell? ⟨g, 0, none⟩ = some (.slice a1 n1 c1) := by rw [HW.out]; exact HC.out.1
      go_wp2
      go_roundw
      case rel => exact ⟨HW, .inr (.inl ⟨rfl, rfl⟩)⟩
      case measure => simp [intOf]
    · have h0 : wr.cell? ⟨g, 1, none⟩ = some (.slice a2 n2 c2) := by rw [HW.out]; exact HC.out.2
      go_wp2
      go_roundw
      case rel => exact ⟨HW, .inr (.inr ⟨rfl, rfl⟩)⟩
      case measure => simp [intOf]
    · rw [HW.out]
      go_upto_region 10 with (go_at_call 86; refine (HGr.out _).mono ?_; rintro e w3 ⟨a3, c3, rfl, r3, b3⟩)
      have HI : Hid (CcI w [] (.slice a3 0 c3) w3) := ⟨r3, b3⟩
      clear r3 b3 HGr w1 w2
      go_wp2_with fail
      go_loopw [6, 27] (fun q j wr => (j = .int .i64 0 ∧ Hid (CcI w [] q wr)) ∨ (j = .int .i64 1 ∧ Hid (CcI w R1 q wr)) ∨ (j = .int .i64 2 ∧ Hid (CcI w (R1 ++ R2) q wr))) (fun _ j _ => 2 - (intOf j).toNat)
      case atStart => exact .inl ⟨rfl, HI⟩
      case round =>
        clear HI HW
        rcases hrel with ⟨rfl, HK⟩ | ⟨rfl, HK⟩ | ⟨rfl, HK⟩
        · obtain ⟨ua, un, uc, rfl⟩ := own_sl8 HK.out.1
          have h0 : wr.cell? ⟨g, 0, none⟩ = some (.slice a1 n1 c1) := C.cell_below HC.out.1 HK.out.2
          have hrow : RrR wr w.heap.size (.slice ua un uc) [] := HK.out.1
          have hsrc : wr.ownsRow 0 35 11 (.slice a1 n1 c1) n1 (R1.flatMap rcc) := by
            have h := own_base8 (own_at HR.out.1 (fun g hg => HK.out.2.block g (World.ownsRow.lt HR.out.1 g hg).2)) (Nat.zero_le lo)
            rw [← HR.out.2.2.2.2.1] at h
            exact h
          have ho := HR.out.2.2.1
          have hb1 : ([] : List Rv).length + n1 ≤ maxLen := by have := HR.out.2.2.2.2.1; unfold maxLen; (try simp only [List.length_nil]); omega
          have hb2 : (([] : List Rv).length + n1) * 120 ≤ 140737488355328 := by have := HR.out.2.2.2.2.1; (try simp only [List.length_nil]); omega
          have hwl := HK.out.2.size
          go_wp2_with (at_builtin; refine wpl_row8 _ rfl _ _ 43 rfl w.heap.size 35 i0 _ 11 120 Tryz.underlying43 hi hz0 hz1 hz2 rfl (by decide) _ _ _ rfl hrow _ n1 (R1.flatMap rcc) rfl hsrc ho hb1 hb2 hwl ?_
                       intro v6 w6 hown6 hgrow6 _
                       have HN : Hid (CcI w (R1) v6 w6) := HK.out.push HR.out.2.2.2.2.1 hgrow6 hown6
                       clear hown6 hgrow6 hrow hsrc ho hb1 hb2 hwl)
          go_roundw
          case rel => exact .inr (.inl ⟨rfl, HN⟩)
          case measure => simp [intOf]
        · obtain ⟨ua, un, uc, rfl⟩ := own_sl8 HK.out.1
          have h0 : wr.cell? ⟨g, 1, none⟩ = some (.slice a2 n2 c2) := C.cell_below HC.out.2 HK.out.2
          have hrow : RrR wr w.heap.size (.slice ua un uc) R1 := HK.out.1
          have hsrc : wr.ownsRow 0 35 11 (.slice a2 n2 c2) n2 (R2.flatMap rcc) := by
            have h := own_base8 (own_at HR.out.2.1 (fun g hg => HK.out.2.block g (World.ownsRow.lt HR.out.2.1 g hg).2)) (Nat.zero_le lo)
            rw [← HR.out.2.2.2.2.2] at h
            exact h
          have ho := HR.out.2.2.2.1
          have hb1 : R1.length + n2 ≤ maxLen := by have := HR.out.2.2.2.2.1; unfold maxLen; (try simp only [List.length_nil]); omega
          have hb2 : (R1.length + n2) * 120 ≤ 140737488355328 := by have := HR.out.2.2.2.2.1; (try simp only [List.length_nil]); omega
          have hwl := HK.out.2.size
          go_wp2_with (at_builtin; refine wpl_row8 _ rfl _ _ 43 rfl w.heap.size 35 i0 _ 11 120 Tryz.underlying43 hi hz0 hz1 hz2 rfl (by decide) _ _ _ rfl hrow _ n2 (R2.flatMap rcc) rfl hsrc ho hb1 hb2 hwl ?_
                       intro v6 w6 hown6 hgrow6 _
                       have HN : Hid (CcI w (R1 ++ R2) v6 w6) := HK.out.push HR.out.2.2.2.2.2 hgrow6 hown6
                       clear hown6 hgrow6 hrow hsrc ho hb1 hb2 hwl)
          go_roundw
          case rel => exact .inr (.inr ⟨rfl, HN⟩)
          case measure => simp [intOf]
        · obtain ⟨ua, un, uc, rfl⟩ := own_sl8 HK.out.1
          go_wp2
          go_ret
          exact ⟨_, _, _, rfl, HK.out.1, HK.out.2⟩
end Go.Proofs.YtillgoegiplmkaaGreatDoor.B

namespace Go.Proofs.YtillgoegiplmkaaGreatDoor.B
open C
open Go.RowKit Go.Maps
set_option linter.unusedVariables false
set_option linter.unusedSimpArgs false

theorem sub_lies {w : World} {a : Option Addr} {zs : List Int} (h : Lies .u8 w a zs) {f t : Nat} (hft : f < t) (ht : t ≤ zs.length) : ∃ gd od, a = some ⟨gd, od, none⟩ ∧ ∀ V : World, (V.heap[gd]? = w.heap[gd]?) → Lies .u8 V (some ⟨gd, od + f, none⟩) ((zs.drop f).take (t - f)) := by
  rcases h with h0 | ⟨gd, od, ha, hc⟩
  · rw [h0] at ht; simp at ht; omega
  · refine ⟨gd, od, ha, fun V hV => .inr ⟨gd, od + f, rfl, fun j hj => ?_⟩⟩
    have hj2 : j < t - f := by simp at hj; omega
    have h1 := hc (f + j) (by omega)
    rw [Nat.add_assoc, World.cell?_of_block (a := ⟨gd, od + (f + j), none⟩) hV, h1]
    congr 2
    rw [List.getD_eq_getElem?_getD, List.getD_eq_getElem?_getD, List.getElem?_take, if_pos hj2, List.getElem?_drop]
/-- What redsOf leaves. -/
def RdP (i : Ic) (w : World) (e : Ending) (w' : World) : Prop := ∃ a n c R, e = .returned (.slice a n c) ∧ R.map Prod.fst = i.hv.map (rdR8 i) ∧ (∀ x ∈ R, x.2.1 = nilV) ∧ RJ w R (.slice a n c) w'
/-- What its loop keeps. -/
structure RdJ (i : Ic) (au av : Option Addr) (nu nv cu cv : Nat) (w : World) (k : Nat) (v : Value) (R : List Rv) (W : World) : Prop where
  rj : RJ w R v W
  mp : R.map Prod.fst = (i.hv.map (rdR8 i)).take k
  nl : ∀ x ∈ R, x.2.1 = nilV
  bx : W.heap[w.heap.size]? = some (.cells #[.int .i64 i.org, .int .i64 i.num, .int .i64 i.srv, .int .i64 i.red, .int .i64 i.size, .slice au nu cu, .slice av nv cv, .bool i.done, .bool i.gone, .bool i.heard, .bool i.shut, .int .i64 i.how] 63)
theorem RdJ.below {i : Ic} {au av : Option Addr} {nu nv cu cv : Nat} {w : World} {k : Nat} {v : Value} {R : List Rv} {W W' : World} (h : RdJ i au av nu nv cu cv w k v R W) (hb : Below W.heap.size W W') : RdJ i au av nu nv cu cv w k v R W' :=
  ⟨h.rj.below hb, h.mp, h.nl, (hb.block _ (Array.getElem?_eq_some_iff.1 h.bx).1).trans h.bx⟩
set_option maxRecDepth 8000 in
set_option maxHeartbeats 8000000 in
theorem redsOf_any (i : Ic) (au av : Option Addr) (nu nv cu cv : Nat) (w : World) (hu : i.hv.length = nu) (hS : Spa w au i.hv) (hv : i.data.length = nv) (hL : Lies .u8 w av i.data) (hc : nv ≤ cv) (hcm : cv ≤ 9223372036854775807) (hnm : nv ≤ 1048576) (hnu : nu ≤ 2000) (hin : ∀ h ∈ i.hv, 0 ≤ h.1 ∧ h.1 < h.2 ∧ h.2 ≤ (nv : Int)) :
    Calls Tryz.prog 89 #[iV i (.slice au nu cu) (.slice av nv cv)] w (RdP i w) := by
  obtain ⟨i0, hi, hz0, hz1, hz2⟩ := info_parts Tryz.info_rec
  have HH : Hid (i.hv.length = nu ∧ Spa w au i.hv ∧ i.data.length = nv ∧ Lies .u8 w av i.data ∧ ∀ h ∈ i.hv, 0 ≤ h.1 ∧ h.1 < h.2 ∧ h.2 ≤ (nv : Int)) := ⟨hu, hS, hv, hL, hin⟩
  obtain ⟨V, hV⟩ : ∃ V, w.alloc (.cells #[.int .i64 i.org, .int .i64 i.num, .int .i64 i.srv, .int .i64 i.red, .int .i64 i.size, .slice au nu cu, .slice av nv cv, .bool i.done, .bool i.gone, .bool i.heard, .bool i.shut, .int .i64 i.how] 63) = V := ⟨_, rfl⟩
  have HV : Hid (w.alloc (.cells #[.int .i64 i.org, .int .i64 i.num, .int .i64 i.srv, .int .i64 i.red, .int .i64 i.size, .slice au nu cu, .slice av nv cv, .bool i.done, .bool i.gone, .bool i.heard, .bool i.shut, .int .i64 i.how] 63) = V) := hV
  have hbV : Below w.heap.size w V := by rw [← hV]; exact (Below.refl _ _).alloc (Nat.le_refl _) _
  have hhV : V.heap[w.heap.size]? = some (.cells #[.int .i64 i.org, .int .i64 i.num, .int .i64 i.srv, .int .i64 i.red, .int .i64 i.size, .slice au nu cu, .slice av nv cv, .bool i.done, .bool i.gone, .bool i.heard, .bool i.shut, .int .i64 i.how] 63) := by rw [← hV]; exact heap_alloc_new' w _
  have HJ0 : Hid (RdJ i au av nu nv cu cv w 0 nilV [] V) := ⟨⟨hbV, World.ownsRow_nil _ _ _ _, fun x hx => (by cases hx), List.nodup_nil⟩, by simp, fun x hx => (by cases hx), hhV⟩
  have HOf : Hid (∀ (k : Int) (U : World), Calls Tryz.prog 88 #[.int .i64 k, .agg #[.int .i64 i.org, .int .i64 i.num]] U fun e w' => e = .returned (.agg #[.int .i64 k, .int .i64 i.org, .int .i64 i.num, .int .i64 0, .int .i64 0, .int .i64 0, .int .i64 0, .int .i64 0, .int .i64 0, .slice none 0 0, .slice none 0 0]) ∧ Below U.heap.size U w') := fun k U => of8_any k i.org i.num U
  have HC : Hid (∀ U : World, U.heap[w.heap.size]? = some (.cells #[.int .i64 i.org, .int .i64 i.num, .int .i64 i.srv, .int .i64 i.red, .int .i64 i.size, .slice au nu cu, .slice av nv cv, .bool i.done, .bool i.gone, .bool i.heard, .bool i.shut, .int .i64 i.how] 63) → U.cell? ⟨w.heap.size, 0, none⟩ = some (.int .i64 i.org) ∧ U.cell? ⟨w.heap.size, 1, none⟩ = some (.int .i64 i.num) ∧ U.cell? ⟨w.heap.size, 2, none⟩ = some (.int .i64 i.srv) ∧ U.cell? ⟨w.heap.size, 3, none⟩ = some (.int .i64 i.red) ∧ U.cell? ⟨w.heap.size, 4, none⟩ = some (.int .i64 i.size) ∧ U.cell? ⟨w.heap.size, 5, none⟩ = some (.slice au nu cu) ∧ U.cell? ⟨w.heap.size, 6, none⟩ = some (.slice av nv cv) ∧ U.cell? ⟨w.heap.size, 7, none⟩ = some (.bool i.done) ∧ U.cell? ⟨w.heap.size, 8, none⟩ = some (.bool i.gone) ∧ U.cell? ⟨w.heap.size, 9, none⟩ = some (.bool i.heard) ∧ U.cell? ⟨w.heap.size, 10, none⟩ = some (.bool i.shut) ∧ U.cell? ⟨w.heap.size, 11, none⟩ = some (.int .i64 i.how)) := fun U q => by
    refine ⟨?_, ?_, ?_, ?_, ?_, ?_, ?_, ?_, ?_, ?_, ?_, ?_⟩ <;> exact (cell_of_row _ _ _ _ _ _ q).trans rfl
  have c5 : V.cell? ⟨w.heap.size, 5, none⟩ = some (.slice au nu cu) := (cell_of_row _ _ _ _ _ _ hhV).trans rfl
  clear hV hbV hhV hu hS hv hL hin
  go_enter Tryz.func89, Tryz.ntmps89
  go_upto_region 1 with fail
  rw [HV.out]
  go_wp2_with fail
  clear c5
  go_loopw [3, 10] (fun q j wr => ∃ k : Nat, j = .int .i64 k ∧ Hid (k ≤ nu ∧ ∃ R, RdJ i au av nu nv cu cv w k q R wr)) (fun _ j _ => nu - (intOf j).toNat)
  case atStart => exact ⟨0, rfl, Nat.zero_le _, [], HJ0.out⟩
  case round =>
    obtain ⟨k, rfl, hh⟩ := hrel
    have HK := hh.out
    clear HJ0 hh
    by_cases hlt : k < nu
    · have hlt' : (k : Int) < (nu : Int) := by omega
      obtain ⟨hk, R, hR⟩ := HK
      have hkl : k < i.hv.length := by have := HH.out.1; omega
      obtain ⟨h, hh⟩ := get_some i.hv k hkl
      obtain ⟨gs, os, rfl, p0, p1⟩ := (HH.out.2.1.below hR.rj.low).at hh
      have hin := HH.out.2.2.2.2 h (List.mem_of_getElem? hh)
      obtain ⟨h1, h2⟩ := h
      simp only at p0 p1 hin
      obtain ⟨f, rfl⟩ : ∃ f : Nat, h1 = f := ⟨h1.toNat, by omega⟩
      obtain ⟨t, rfl⟩ : ∃ t : Nat, h2 = t := ⟨h2.toNat, by omega⟩
      obtain ⟨V2, hV2⟩ : ∃ V2, wr.alloc (.cells #[.int .i64 (f : Int), .int .i64 (t : Int)] 90) = V2 := ⟨_, rfl⟩
      have HV2 : Hid (wr.alloc (.cells #[.int .i64 (f : Int), .int .i64 (t : Int)] 90) = V2) := hV2
      have hb2 : Below wr.heap.size wr V2 := by rw [← hV2]; exact (Below.refl _ _).alloc (Nat.le_refl _) _
      have hs2 : V2.heap.size = wr.heap.size + 1 := by rw [← hV2]; simp
      have hx2 : V2.heap[wr.heap.size]? = some (.cells #[.int .i64 (f : Int), .int .i64 (t : Int)] 90) := by rw [← hV2]; exact heap_alloc_new' wr _
      have hwl := (Array.getElem?_eq_some_iff.1 hR.bx).1
      have hi2 : V2.heap[w.heap.size]? = some (.cells #[.int .i64 i.org, .int .i64 i.num, .int .i64 i.srv, .int .i64 i.red, .int .i64 i.size, .slice (some ⟨gs, os, none⟩) nu cu, .slice av nv cv, .bool i.done, .bool i.gone, .bool i.heard, .bool i.shut, .int .i64 i.how] 63) := (hb2.block _ hwl).trans hR.bx
      have HR : Hid (k ≤ nu ∧ RdJ i (some ⟨gs, os, none⟩) av nu nv cu cv w k u3 R wr ∧ i.hv[k]? = some ((f : Int), (t : Int)) ∧ f < t ∧ t ≤ nv) := ⟨hk, hR, hh, by omega, by omega⟩
      have HX : Hid (V2.heap[wr.heap.size]? = some (.cells #[.int .i64 (f : Int), .int .i64 (t : Int)] 90) ∧ V2.heap[w.heap.size]? = some (.cells #[.int .i64 i.org, .int .i64 i.num, .int .i64 i.srv, .int .i64 i.red, .int .i64 i.size, .slice (some ⟨gs, os, none⟩) nu cu, .slice av nv cv, .bool i.done, .bool i.gone, .bool i.heard, .bool i.shut, .int .i64 i.how] 63) ∧ Below wr.heap.size wr V2 ∧ V2.heap.size = wr.heap.size + 1 ∧ w.heap.size < wr.heap.size) := ⟨hx2, hi2, hb2, hs2, hwl⟩
      have y0 : V2.cell? ⟨w.heap.size, 0, none⟩ = some (.int .i64 i.org) := (cell_of_row _ _ _ _ _ _ hi2).trans rfl
      have y1 : V2.cell? ⟨w.heap.size, 1, none⟩ = some (.int .i64 i.num) := (cell_of_row _ _ _ _ _ _ hi2).trans rfl
      clear hk hR hh hin hV2 hb2 hs2 hx2 hwl hi2
      go_upto_region 5 with fail
      rw [HV2.out]
      go_upto_region 6 with (go_at_call 88; refine (HOf.out 6 _).mono ?_; rintro e w1 ⟨rfl, hb⟩)
      obtain ⟨hx2, hi2, hb2, hs2, hwl⟩ := HX.out
      obtain ⟨g, hg⟩ : ∃ g, w1.heap.size = g := ⟨_, rfl⟩
      obtain ⟨W1, hW1⟩ : ∃ W1, w1.alloc (.cells #[.int .i64 6, .int .i64 i.org, .int .i64 i.num, .int .i64 0, .int .i64 0, .int .i64 0, .int .i64 0, .int .i64 0, .int .i64 0, .slice none 0 0, .slice none 0 0] 35) = W1 := ⟨_, rfl⟩
      have hsz1 := hb.size
      have hwg : wr.heap.size ≤ g := by omega
      have hgw : ¬ w.heap.size = g := by omega
      have hgk : ¬ wr.heap.size = g := by omega
      have hgw2 : ¬ g = w.heap.size := by omega
      have hgk2 : ¬ g = wr.heap.size := by omega
      have hq1 : W1.heap[g]? = some (.cells #[.int .i64 6, .int .i64 i.org, .int .i64 i.num, .int .i64 0, .int .i64 0, .int .i64 0, .int .i64 0, .int .i64 0, .int .i64 0, .slice none 0 0, .slice none 0 0] 35) := by rw [← hW1, ← hg]; exact heap_alloc_new' w1 _
      have hp1 : W1.heap[w.heap.size]? = some (.cells #[.int .i64 i.org, .int .i64 i.num, .int .i64 i.srv, .int .i64 i.red, .int .i64 i.size, .slice (some ⟨gs, os, none⟩) nu cu, .slice av nv cv, .bool i.done, .bool i.gone, .bool i.heard, .bool i.shut, .int .i64 i.how] 63) := by rw [← hW1]; exact (Below.heap_alloc _ _ _ (by omega)).trans ((hb.block _ (by omega)).trans hi2)
      have hk1 : W1.heap[wr.heap.size]? = some (.cells #[.int .i64 (f : Int), .int .i64 (t : Int)] 90) := by rw [← hW1]; exact (Below.heap_alloc _ _ _ (by omega)).trans ((hb.block _ (by omega)).trans hx2)
      have hb1 : Below wr.heap.size wr W1 := by
        rw [← hW1]
        have h1 : Below wr.heap.size wr w1 := hb2.trans (hb.mono hb2.size)
        exact h1.alloc h1.size _
      rw [hW1, hg]
      have f1 : ∀ j, W1.frozen? ⟨g, j, none⟩ = false := fun j => by simp [World.frozen?, hq1]
      have q4 : (W1.setCell ⟨g, 4, none⟩ (.int .i64 i.srv)).heap[g]? = some (.cells #[.int .i64 6, .int .i64 i.org, .int .i64 i.num, .int .i64 0, .int .i64 i.srv, .int .i64 0, .int .i64 0, .int .i64 0, .int .i64 0, .slice none 0 0, .slice none 0 0] 35) := (heap_setCell_same W1 g 4 _ _ (.int .i64 i.srv) hq1).trans rfl
      have e4 : (W1.setCell ⟨g, 4, none⟩ (.int .i64 i.srv)).heap[w.heap.size]? = some (.cells #[.int .i64 i.org, .int .i64 i.num, .int .i64 i.srv, .int .i64 i.red, .int .i64 i.size, .slice (some ⟨gs, os, none⟩) nu cu, .slice av nv cv, .bool i.done, .bool i.gone, .bool i.heard, .bool i.shut, .int .i64 i.how] 63) := (heap_setCell_other W1 ⟨g, 4, none⟩ w.heap.size (.int .i64 i.srv) hgw).trans hp1
      have k4 : (W1.setCell ⟨g, 4, none⟩ (.int .i64 i.srv)).heap[wr.heap.size]? = some (.cells #[.int .i64 (f : Int), .int .i64 (t : Int)] 90) := (heap_setCell_other W1 ⟨g, 4, none⟩ wr.heap.size (.int .i64 i.srv) hgk).trans hk1
      have b4 : Below wr.heap.size wr (W1.setCell ⟨g, 4, none⟩ (.int .i64 i.srv)) := Below.setCell (p := ⟨g, 4, none⟩) hb1 hwg _
      have q6 : ((W1.setCell ⟨g, 4, none⟩ (.int .i64 i.srv)).setCell ⟨g, 6, none⟩ (.int .i64 i.red)).heap[g]? = some (.cells #[.int .i64 6, .int .i64 i.org, .int .i64 i.num, .int .i64 0, .int .i64 i.srv, .int .i64 0, .int .i64 i.red, .int .i64 0, .int .i64 0, .slice none 0 0, .slice none 0 0] 35) := (heap_setCell_same (W1.setCell ⟨g, 4, none⟩ (.int .i64 i.srv)) g 6 _ _ (.int .i64 i.red) q4).trans rfl
      have e6 : ((W1.setCell ⟨g, 4, none⟩ (.int .i64 i.srv)).setCell ⟨g, 6, none⟩ (.int .i64 i.red)).heap[w.heap.size]? = some (.cells #[.int .i64 i.org, .int .i64 i.num, .int .i64 i.srv, .int .i64 i.red, .int .i64 i.size, .slice (some ⟨gs, os, none⟩) nu cu, .slice av nv cv, .bool i.done, .bool i.gone, .bool i.heard, .bool i.shut, .int .i64 i.how] 63) := (heap_setCell_other (W1.setCell ⟨g, 4, none⟩ (.int .i64 i.srv)) ⟨g, 6, none⟩ w.heap.size (.int .i64 i.red) hgw).trans e4
      have k6 : ((W1.setCell ⟨g, 4, none⟩ (.int .i64 i.srv)).setCell ⟨g, 6, none⟩ (.int .i64 i.red)).heap[wr.heap.size]? = some (.cells #[.int .i64 (f : Int), .int .i64 (t : Int)] 90) := (heap_setCell_other (W1.setCell ⟨g, 4, none⟩ (.int .i64 i.srv)) ⟨g, 6, none⟩ wr.heap.size (.int .i64 i.red) hgk).trans k4
      have b6 : Below wr.heap.size wr ((W1.setCell ⟨g, 4, none⟩ (.int .i64 i.srv)).setCell ⟨g, 6, none⟩ (.int .i64 i.red)) := Below.setCell (p := ⟨g, 6, none⟩) b4 hwg _
      have q7 : (((W1.setCell ⟨g, 4, none⟩ (.int .i64 i.srv)).setCell ⟨g, 6, none⟩ (.int .i64 i.red)).setCell ⟨g, 7, none⟩ (.int .i64 i.size)).heap[g]? = some (.cells #[.int .i64 6, .int .i64 i.org, .int .i64 i.num, .int .i64 0, .int .i64 i.srv, .int .i64 0, .int .i64 i.red, .int .i64 i.size, .int .i64 0, .slice none 0 0, .slice none 0 0] 35) := (heap_setCell_same ((W1.setCell ⟨g, 4, none⟩ (.int .i64 i.srv)).setCell ⟨g, 6, none⟩ (.int .i64 i.red)) g 7 _ _ (.int .i64 i.size) q6).trans rfl
      have e7 : (((W1.setCell ⟨g, 4, none⟩ (.int .i64 i.srv)).setCell ⟨g, 6, none⟩ (.int .i64 i.red)).setCell ⟨g, 7, none⟩ (.int .i64 i.size)).heap[w.heap.size]? = some (.cells #[.int .i64 i.org, .int .i64 i.num, .int .i64 i.srv, .int .i64 i.red, .int .i64 i.size, .slice (some ⟨gs, os, none⟩) nu cu, .slice av nv cv, .bool i.done, .bool i.gone, .bool i.heard, .bool i.shut, .int .i64 i.how] 63) := (heap_setCell_other ((W1.setCell ⟨g, 4, none⟩ (.int .i64 i.srv)).setCell ⟨g, 6, none⟩ (.int .i64 i.red)) ⟨g, 7, none⟩ w.heap.size (.int .i64 i.size) hgw).trans e6
      have k7 : (((W1.setCell ⟨g, 4, none⟩ (.int .i64 i.srv)).setCell ⟨g, 6, none⟩ (.int .i64 i.red)).setCell ⟨g, 7, none⟩ (.int .i64 i.size)).heap[wr.heap.size]? = some (.cells #[.int .i64 (f : Int), .int .i64 (t : Int)] 90) := (heap_setCell_other ((W1.setCell ⟨g, 4, none⟩ (.int .i64 i.srv)).setCell ⟨g, 6, none⟩ (.int .i64 i.red)) ⟨g, 7, none⟩ wr.heap.size (.int .i64 i.size) hgk).trans k6
      have b7 : Below wr.heap.size wr (((W1.setCell ⟨g, 4, none⟩ (.int .i64 i.srv)).setCell ⟨g, 6, none⟩ (.int .i64 i.red)).setCell ⟨g, 7, none⟩ (.int .i64 i.size)) := Below.setCell (p := ⟨g, 7, none⟩) b6 hwg _
      obtain ⟨W2, hW2⟩ : ∃ W2, (((W1.setCell ⟨g, 4, none⟩ (.int .i64 i.srv)).setCell ⟨g, 6, none⟩ (.int .i64 i.red)).setCell ⟨g, 7, none⟩ (.int .i64 i.size)).drew = W2 := ⟨_, rfl⟩
      have HW2 : Hid ((((W1.setCell ⟨g, 4, none⟩ (.int .i64 i.srv)).setCell ⟨g, 6, none⟩ (.int .i64 i.red)).setCell ⟨g, 7, none⟩ (.int .i64 i.size)).drew = W2) := hW2
      have HQ : Hid (W2.heap[g]? = some (.cells #[.int .i64 6, .int .i64 i.org, .int .i64 i.num, .int .i64 0, .int .i64 i.srv, .int .i64 0, .int .i64 i.red, .int .i64 i.size, .int .i64 0, .slice none 0 0, .slice none 0 0] 35) ∧ W2.heap[w.heap.size]? = some (.cells #[.int .i64 i.org, .int .i64 i.num, .int .i64 i.srv, .int .i64 i.red, .int .i64 i.size, .slice (some ⟨gs, os, none⟩) nu cu, .slice av nv cv, .bool i.done, .bool i.gone, .bool i.heard, .bool i.shut, .int .i64 i.how] 63) ∧ W2.heap[wr.heap.size]? = some (.cells #[.int .i64 (f : Int), .int .i64 (t : Int)] 90) ∧ Below wr.heap.size wr W2 ∧ wr.heap.size ≤ g ∧ g < W2.heap.size) := by
        rw [← hW2]
        exact ⟨q7, e7, k7, b7.drew, hwg, (Array.getElem?_eq_some_iff.1 q7).1⟩
      obtain ⟨d0, d1, d2, d3, d4, d5, d6, d7, d8, d9, d10, d11⟩ := HC.out W1 hp1
      have z4 : W1.cell? ⟨g, 4, none⟩ = some (.int .i64 0) := (cell_of_row _ _ _ _ _ _ hq1).trans rfl
      have z6 : W1.cell? ⟨g, 6, none⟩ = some (.int .i64 0) := (cell_of_row _ _ _ _ _ _ hq1).trans rfl
      have z7 : W1.cell? ⟨g, 7, none⟩ = some (.int .i64 0) := (cell_of_row _ _ _ _ _ _ hq1).trans rfl
      clear hx2 hi2 hb2 hs2 hwl hg hW1 hsz1 hwg hq1 hp1 hk1 hb1 hW2 hb y0 y1 HV2 HX p0 p1 q4 e4 k4 b4 q6 e6 k6 b6 q7 e7 k7 b7
      go_cut [16] from 17 to 25 (fun q' wx => Hid (wx = W2))
      case first =>
        go_wp2_with fail
        go_region
        all_goals rw [HW2.out]
        all_goals go_wp2_with fail
        all_goals go_meet
        all_goals exact rfl
      case rest =>
        have hwc := hcut
        rw [hwc.out]
        clear hwc hcut d0 d1 d2 d3 d4 d5 d6 d7 d8 d9 d10 d11 z4 z6 z7 f1 HW2
        obtain ⟨gd, od, rfl, hsub⟩ := sub_lies HH.out.2.2.2.1 HR.out.2.2.2.1 (by have := HH.out.2.2.1; have := HR.out.2.2.2.2; omega)
        obtain ⟨r1, r2, r3, r4, r5, r6⟩ := HQ.out
        have hlw : Below w.heap.size w wr := HR.out.2.1.rj.low
        have hgd : gd < w.heap.size := by
          rcases HH.out.2.2.2.1 with h0 | ⟨gd', od', ea, hc'⟩
          · exfalso; have h1 := HH.out.2.2.1; have h2 := HR.out.2.2.2.2; have h3 := HR.out.2.2.2.1; rw [h0] at h1; simp at h1; omega
          · injection ea with ea; injection ea with ea1 ea2; subst ea1; exact World.block_lt_of_cell? w ⟨gd, od' + 0, none⟩ (hc' 0 (by have h1 := HH.out.2.2.1; have h2 := HR.out.2.2.2.2; have h3 := HR.out.2.2.2.1; omega))
        have HCl : Hid (∀ U, Below W2.heap.size W2 U → Calls Tryz.prog 62 #[.slice (some ⟨gd, od + f, none⟩) (t - f) (cv - f)] U (ClB ((i.data.drop f).take (t - f)) U)) := fun U hU => cloneB_any _ _ _ _ (by have h1 := HH.out.2.2.1; have h2 := HR.out.2.2.2.2; rw [List.length_take, List.length_drop]; omega) U (hsub U ((hU.block gd (by have := hlw.size; omega)).trans ((r4.block gd (by have := hlw.size; omega)).trans (hlw.block gd hgd)))) (fun e => by cases e) (by have := HR.out.2.2.2.2; omega)
        have HX2 : Hid (∀ U, Below W2.heap.size W2 U → U.heap[g]? = some (.cells #[.int .i64 6, .int .i64 i.org, .int .i64 i.num, .int .i64 0, .int .i64 i.srv, .int .i64 0, .int .i64 i.red, .int .i64 i.size, .int .i64 0, .slice none 0 0, .slice none 0 0] 35) ∧ U.heap[w.heap.size]? = some (.cells #[.int .i64 i.org, .int .i64 i.num, .int .i64 i.srv, .int .i64 i.red, .int .i64 i.size, .slice (some ⟨gs, os, none⟩) nu cu, .slice (some ⟨gd, od, none⟩) nv cv, .bool i.done, .bool i.gone, .bool i.heard, .bool i.shut, .int .i64 i.how] 63) ∧ U.heap[wr.heap.size]? = some (.cells #[.int .i64 (f : Int), .int .i64 (t : Int)] 90)) := fun U hU => ⟨(hU.block g r6).trans r1, (hU.block _ (Array.getElem?_eq_some_iff.1 r2).1).trans r2, (hU.block _ (Array.getElem?_eq_some_iff.1 r3).1).trans r3⟩
        have hft : f ≤ t := Nat.le_of_lt HR.out.2.2.2.1
        have htc : t ≤ cv := Nat.le_trans HR.out.2.2.2.2 hc
        have hne : ¬ cv = f := by have := HR.out.2.2.2.1; omega
        have hgw3 : ¬ g = w.heap.size := hgw2
        clear hsub r1 r2 r3 r4 r5 r6 hlw hgd
        go_upto_region 7 with fail
        go_cut [26] from 26 to 38 (fun q' wx => ∃ a4 n4 c4, Hid (Below wr.heap.size wr wx ∧ wx.heap[g]? = some (.cells #[.int .i64 6, .int .i64 i.org, .int .i64 i.num, .int .i64 0, .int .i64 i.srv, .int .i64 (f : Int), .int .i64 i.red, .int .i64 i.size, .int .i64 0, .slice none 0 0, .slice a4 n4 c4] 35) ∧ ByO wx W2.heap.size (.slice a4 n4 c4) ((i.data.drop f).take (t - f)) ∧ wx.heap[w.heap.size]? = some (.cells #[.int .i64 i.org, .int .i64 i.num, .int .i64 i.srv, .int .i64 i.red, .int .i64 i.size, .slice (some ⟨gs, os, none⟩) nu cu, .slice (some ⟨gd, od, none⟩) nv cv, .bool i.done, .bool i.gone, .bool i.heard, .bool i.shut, .int .i64 i.how] 63)))
        case first =>
          have hb0 : Below W2.heap.size W2 W2.drew := (Below.refl _ _).drew
          obtain ⟨x1, x2, x3⟩ := HX2.out _ hb0
          have HS : Hid (∀ U : World, U.heap[w.heap.size]? = some (.cells #[.int .i64 i.org, .int .i64 i.num, .int .i64 i.srv, .int .i64 i.red, .int .i64 i.size, .slice (some ⟨gs, os, none⟩) nu cu, .slice (some ⟨gd, od, none⟩) nv cv, .bool i.done, .bool i.gone, .bool i.heard, .bool i.shut, .int .i64 i.how] 63) → U.heap[wr.heap.size]? = some (.cells #[.int .i64 (f : Int), .int .i64 (t : Int)] 90) → U.cell? ⟨wr.heap.size, 0, none⟩ = some (.int .i64 (f : Int)) ∧ U.cell? ⟨wr.heap.size, 1, none⟩ = some (.int .i64 (t : Int)) ∧ U.cell? ⟨w.heap.size, 6, none⟩ = some (.slice (some ⟨gd, od, none⟩) nv cv)) := fun U q1 q2 => ⟨(cell_of_row _ _ _ _ _ _ q2).trans rfl, (cell_of_row _ _ _ _ _ _ q2).trans rfl, (cell_of_row _ _ _ _ _ _ q1).trans rfl⟩
          have hS0 := HS.out _ x2 x3
          clear x1 x2 x3
          go_wp2_with fail
          go_region_held3 (fun U => U.cell? ⟨wr.heap.size, 0, none⟩ = some (.int .i64 (f : Int)) ∧ U.cell? ⟨wr.heap.size, 1, none⟩ = some (.int .i64 (t : Int)) ∧ U.cell? ⟨w.heap.size, 6, none⟩ = some (.slice (some ⟨gd, od, none⟩) nv cv)) (first | exact hS0 | exact hS4 | exact hS5 | exact hS6)
            (first
            | (go_at_call 62; refine (HCl.out _ hb0).mono ?_; rintro e4 w4 ⟨v4, rfl, r3, r4⟩; obtain ⟨a4, n4, c4, rfl⟩ := own_sl8 r3; have hb4 := hb0.trans (r4.mono hb0.size); obtain ⟨x1, x2, x3⟩ := HX2.out _ hb4; have hS4 := HS.out _ x2 x3; have hS5 := HS.out (w4.setCell ⟨g, 5, none⟩ (.int .i64 (f : Int))) ((heap_setCell_other _ ⟨g, 5, none⟩ _ _ hgw).trans x2) ((heap_setCell_other _ ⟨g, 5, none⟩ _ _ hgk).trans x3); have hS6 := HS.out ((w4.setCell ⟨g, 5, none⟩ (.int .i64 (f : Int))).setCell ⟨g, 10, none⟩ (.slice a4 n4 c4)) ((heap_setCell_other _ ⟨g, 10, none⟩ _ _ hgw).trans ((heap_setCell_other _ ⟨g, 5, none⟩ _ _ hgw).trans x2)) ((heap_setCell_other _ ⟨g, 10, none⟩ _ _ hgk).trans ((heap_setCell_other _ ⟨g, 5, none⟩ _ _ hgk).trans x3)); have s5 : w4.cell? ⟨g, 5, none⟩ = some (.int .i64 0) := ((cell_of_row _ _ _ _ _ _ x1).trans rfl); have s10 : w4.cell? ⟨g, 10, none⟩ = some (.slice none 0 0) := ((cell_of_row _ _ _ _ _ _ x1).trans rfl); have ff : ∀ j, w4.frozen? ⟨g, j, none⟩ = false := (fun j => by simp [World.frozen?, x1]); have J4 : Hid (_ ∧ _) := And.intro r3 hb4; clear r3 r4 hb4 x1 x2 x3))
          all_goals (
            obtain ⟨r3, hb4⟩ := J4.out
            obtain ⟨x1, x2, x3⟩ := HX2.out _ hb4
            obtain ⟨_, _, _, r4, r5, r6⟩ := HQ.out
            have e1 : (w4.setCell ⟨g, 5, none⟩ (.int .i64 (f : Int))).heap[g]? = some (.cells #[.int .i64 6, .int .i64 i.org, .int .i64 i.num, .int .i64 0, .int .i64 i.srv, .int .i64 (f : Int), .int .i64 i.red, .int .i64 i.size, .int .i64 0, .slice none 0 0, .slice none 0 0] 35) := (heap_setCell_same _ _ _ _ _ _ x1).trans rfl
            have e2 : ((w4.setCell ⟨g, 5, none⟩ (.int .i64 (f : Int))).setCell ⟨g, 10, none⟩ (.slice a4 n4 c4)).heap[g]? = some (.cells #[.int .i64 6, .int .i64 i.org, .int .i64 i.num, .int .i64 0, .int .i64 i.srv, .int .i64 (f : Int), .int .i64 i.red, .int .i64 i.size, .int .i64 0, .slice none 0 0, .slice a4 n4 c4] 35) := (heap_setCell_same _ _ _ _ _ _ e1).trans rfl
            have e3 : Below wr.heap.size wr ((w4.setCell ⟨g, 5, none⟩ (.int .i64 (f : Int))).setCell ⟨g, 10, none⟩ (.slice a4 n4 c4)) := Below.setCell (p := ⟨g, 10, none⟩) (Below.setCell (p := ⟨g, 5, none⟩) (r4.trans (hb4.mono r4.size)) r5 _) r5 _
            have e4 : ((w4.setCell ⟨g, 5, none⟩ (.int .i64 (f : Int))).setCell ⟨g, 10, none⟩ (.slice a4 n4 c4)).heap[w.heap.size]? = some (.cells #[.int .i64 i.org, .int .i64 i.num, .int .i64 i.srv, .int .i64 i.red, .int .i64 i.size, .slice (some ⟨gs, os, none⟩) nu cu, .slice (some ⟨gd, od, none⟩) nv cv, .bool i.done, .bool i.gone, .bool i.heard, .bool i.shut, .int .i64 i.how] 63) := (heap_setCell_other _ ⟨g, 10, none⟩ _ _ hgw).trans ((heap_setCell_other _ ⟨g, 5, none⟩ _ _ hgw).trans x2)
            have e5 : ByO ((w4.setCell ⟨g, 5, none⟩ (.int .i64 (f : Int))).setCell ⟨g, 10, none⟩ (.slice a4 n4 c4)) W2.heap.size (.slice a4 n4 c4) ((i.data.drop f).take (t - f)) := own_at r3 (fun x hx => (heap_setCell_other _ ⟨g, 10, none⟩ _ _ (by have := (World.ownsRow.lt r3 x hx).1; simp at this; simp only; omega)).trans (heap_setCell_other _ ⟨g, 5, none⟩ _ _ (by have := (World.ownsRow.lt r3 x hx).1; simp at this; simp only; omega)))
            have HE : Hid (_ ∧ _ ∧ _ ∧ _) := And.intro e3 (And.intro e2 (And.intro e5 e4))
            clear r3 hb4 x1 x2 x3 r4 r5 r6 e1 e2 e3 e4 e5
            go_wp2_with fail
            go_meet
            exact ⟨a4, n4, c4, HE⟩)
        case rest =>
          obtain ⟨a4, n4, c4, HY⟩ := hcut
          obtain ⟨W4, rfl⟩ : ∃ W4, W4 = wc := ⟨_, rfl⟩
          obtain ⟨b4, h4, y4, i4⟩ := HY.out
          have hR4 := HR.out.2.1.below b4
          have hrow := World.ownsRow.alloc hR4.rj.row (.cells #[.int .i64 6, .int .i64 i.org, .int .i64 i.num, .int .i64 0, .int .i64 i.srv, .int .i64 (f : Int), .int .i64 i.red, .int .i64 i.size, .int .i64 0, .slice none 0 0, .slice a4 n4 c4] 35)
          have t20 : W4.cell? ⟨g, 0, none⟩ = some (.int .i64 6) := (cell_of_row _ _ _ _ _ _ h4).trans rfl
          have t21 : W4.cell? ⟨g, 1, none⟩ = some (.int .i64 i.org) := (cell_of_row _ _ _ _ _ _ h4).trans rfl
          have t22 : W4.cell? ⟨g, 2, none⟩ = some (.int .i64 i.num) := (cell_of_row _ _ _ _ _ _ h4).trans rfl
          have t23 : W4.cell? ⟨g, 3, none⟩ = some (.int .i64 0) := (cell_of_row _ _ _ _ _ _ h4).trans rfl
          have t24 : W4.cell? ⟨g, 4, none⟩ = some (.int .i64 i.srv) := (cell_of_row _ _ _ _ _ _ h4).trans rfl
          have t25 : W4.cell? ⟨g, 5, none⟩ = some (.int .i64 (f : Int)) := (cell_of_row _ _ _ _ _ _ h4).trans rfl
          have t26 : W4.cell? ⟨g, 6, none⟩ = some (.int .i64 i.red) := (cell_of_row _ _ _ _ _ _ h4).trans rfl
          have t27 : W4.cell? ⟨g, 7, none⟩ = some (.int .i64 i.size) := (cell_of_row _ _ _ _ _ _ h4).trans rfl
          have t28 : W4.cell? ⟨g, 8, none⟩ = some (.int .i64 0) := (cell_of_row _ _ _ _ _ _ h4).trans rfl
          have t29 : W4.cell? ⟨g, 9, none⟩ = some (.slice none 0 0) := (cell_of_row _ _ _ _ _ _ h4).trans rfl
          have t30 : W4.cell? ⟨g, 10, none⟩ = some (.slice a4 n4 c4) := (cell_of_row _ _ _ _ _ _ h4).trans rfl
          have hwl : w.heap.size ≤ (W4.alloc (.cells #[.int .i64 6, .int .i64 i.org, .int .i64 i.num, .int .i64 0, .int .i64 i.srv, .int .i64 (f : Int), .int .i64 i.red, .int .i64 i.size, .int .i64 0, .slice none 0 0, .slice a4 n4 c4] 35)).heap.size := by have := hR4.rj.low.size; simp; omega
          have hRl : R.length = k := by have h1 := congrArg List.length HR.out.2.1.mp; have h2 := HH.out.1; have h3 := HR.out.1; simp at h1; omega
          have hnb : R.length + 1 ≤ maxLen := by unfold maxLen; omega
          have hnc : (R.length + 1) * 120 ≤ 140737488355328 := by omega
          clear b4 h4 y4 i4 hR4 hRl HCl HX2 hft htc hne hgw3
          go_wp2_with (at_builtin; refine wpList_append_own_at _ rfl _ _ 43 rfl w.heap.size 35 i0 _ 11 120 Tryz.underlying43 hi hz0 hz1 hz2 rfl (by decide) _ _ _ rfl hrow ⟨W4.heap.size, 0, none⟩ 1 1 (rcc (rdR8 i ((f : Int), (t : Int)), nilV, .slice a4 n4 c4)) rfl rfl ?c1 ?c2 hnb hnc hwl ?_)
          case c1 => exact cells_new W4 (rcc (rdR8 i ((f : Int), (t : Int)), nilV, .slice a4 n4 c4)) 35
          case c2 => exact fun u hu => rcc_one (R := [(rdR8 i ((f : Int), (t : Int)), nilV, .slice a4 n4 c4)]) (fun x hx => by simp only [List.mem_singleton] at hx; subst hx; exact ⟨rfl, rfl⟩) u (by simpa using hu)
          intro v6 w6 hown6 hgrow6 _ hat6
          obtain ⟨b4, h4, y4, i4⟩ := HY.out
          have hR4 := HR.out.2.1.below b4
          have hlow := HR.out.2.1.rj.low.size
          have hq4 := HQ.out.2.2.2.1.size
          have hel : Els w.heap.size [(rdR8 i ((f : Int), (t : Int)), nilV, .slice a4 n4 c4)] W4 := fun x hx => by
            simp only [List.mem_singleton] at hx
            subst hx
            refine ⟨SOwn.nil _ _, ?_⟩
            have ed : (rdR8 i ((f : Int), (t : Int))).data = (i.data.drop f).take (t - f) := by
              show (i.data.drop (f : Int).toNat).take ((t : Int) - (f : Int)).toNat = _
              rw [show (f : Int).toNat = f by omega, show ((t : Int) - (f : Int)).toNat = t - f by omega]
            show ByO W4 w.heap.size (.slice a4 n4 c4) (rdR8 i ((f : Int), (t : Int))).data
            rw [ed]
            exact ⟨y4.1, y4.2.imp id (fun ⟨g, cap, cur, q1, q2, q3⟩ => ⟨g, cap, cur, q1, by omega, q3⟩)⟩
          have hx1 : rbl [(rdR8 i ((f : Int), (t : Int)), nilV, .slice a4 n4 c4)] = ((Value.slice a4 n4 c4).ownBlock).toList := by
            show [nilV, Value.slice a4 n4 c4].filterMap Value.ownBlock = _
            rw [show [nilV, Value.slice a4 n4 c4].filterMap Value.ownBlock = [Value.slice a4 n4 c4].filterMap Value.ownBlock from rfl]
            exact fm_one _
          have hnd : (rbl (R ++ [(rdR8 i ((f : Int), (t : Int)), nilV, .slice a4 n4 c4)])).Nodup := by
            rw [rbl_app, hx1]
            refine nodup_two (b := W2.heap.size) HR.out.2.1.rj.nd ?_ (fun y hy => by have := (rbl_lt HR.out.2.1.rj.el y hy).2; omega) (fun y hy => ?_)
            · cases (Value.slice a4 n4 c4).ownBlock <;> simp
            · cases hb : (Value.slice a4 n4 c4).ownBlock with
              | none => rw [hb] at hy; simp at hy
              | some q => rw [hb] at hy; simp at hy; subst hy; exact (World.ownsRow.lt y4 _ hb).1
          have hP := hR4.rj.push (S := [(rdR8 i ((f : Int), (t : Int)), nilV, .slice a4 n4 c4)]) (v6 := v6) hgrow6 (by rw [show [(rdR8 i ((f : Int), (t : Int)), nilV, .slice a4 n4 c4)].flatMap rcc = rcc (rdR8 i ((f : Int), (t : Int)), nilV, .slice a4 n4 c4) from by simp]; exact hown6) hel hnd
          have hbk : w6.heap[w.heap.size]? = some (.cells #[.int .i64 i.org, .int .i64 i.num, .int .i64 i.srv, .int .i64 i.red, .int .i64 i.size, .slice (some ⟨gs, os, none⟩) nu cu, .slice (some ⟨gd, od, none⟩) nv cv, .bool i.done, .bool i.gone, .bool i.heard, .bool i.shut, .int .i64 i.how] 63) := (hgrow6.block _ (by have := b4.size; have := (Array.getElem?_eq_some_iff.1 i4).1; simp; omega) (fun e => own_nb hR4.rj.row i4 (by decide) e.symm)).trans ((Below.heap_alloc _ _ _ (Array.getElem?_eq_some_iff.1 i4).1).trans i4)
          have HRel : Hid (∃ R, RdJ i (some ⟨gs, os, none⟩) (some ⟨gd, od, none⟩) nu nv cu cv w (k + 1) v6 R w6) := ⟨R ++ [(rdR8 i ((f : Int), (t : Int)), nilV, .slice a4 n4 c4)], hP, by rw [List.map_append, HR.out.2.1.mp, take_one (x := rdR8 i ((f : Int), (t : Int))) (by rw [List.getElem?_map, HR.out.2.2.1]; rfl)]; rfl, fun x hx => (List.mem_append.mp hx).elim (HR.out.2.1.nl x) (fun hx => by simp only [List.mem_singleton] at hx; subst hx; rfl), hbk⟩
          obtain ⟨a6, n6, c6, rfl⟩ := own_sl8 hown6
          clear b4 h4 y4 i4 hR4 hlow hq4 hel hx1 hnd hP hbk hown6 hgrow6 hat6 HY HR HQ hrow hwl hnb hnc hgw hgk hgw2 hgk2 t20 t21 t22 t23 t24 t25 t26 t27 t28 t29 t30
          go_wp2
          go_roundw
          case rel => exact ⟨k + 1, by go_num, by omega, HRel.out⟩
          case measure => simp [intOf]; omega
    · have hkn : k = nu := by omega
      obtain ⟨hk, R, hR⟩ := HK
      obtain ⟨ua, un, uc, rfl⟩ := own_sl8 hR.rj.row
      have HE : Hid (R.map Prod.fst = i.hv.map (rdR8 i) ∧ (∀ x ∈ R, x.2.1 = nilV) ∧ RJ w R (.slice ua un uc) wr) := ⟨by rw [hR.mp, hkn, ← HH.out.1]; rw [show i.hv.length = (i.hv.map (rdR8 i)).length by simp, List.take_length], hR.nl, hR.rj⟩
      have hlt' : ¬ (k : Int) < (nu : Int) := by omega
      clear hkn hk hR
      go_wp2
      go_ret
      exact ⟨_, _, _, R, rfl, HE.out⟩
end Go.Proofs.YtillgoegiplmkaaGreatDoor.B
