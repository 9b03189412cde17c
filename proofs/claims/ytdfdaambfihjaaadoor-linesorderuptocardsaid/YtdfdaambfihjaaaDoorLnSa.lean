import Derived.Test.YtdfdaambfihjaaaDoorLnPu
import Derived.Test.YtdfdaambfihjaaaDoorLnDp
namespace Go.Proofs.YtdfdaambfihjaaaDoor.L
open Go.RowKit
set_option linter.unusedVariables false
set_option linter.unusedSimpArgs false

/-! ## Rows of segments that are read -/
def Rw (w : World) (v : Value) (L : List Sv) : Prop := ∃ a c, v = .slice a L.length c ∧ (L = [] ∨ ∃ g off, a = some ⟨g, off, none⟩ ∧ Sd w g off L)
theorem Rw.below {w w' : World} {v : Value} {L : List Sv} (h : Rw w v L) (hb : Below w.heap.size w w') : Rw w' v L := by
  obtain ⟨a, c, e, h⟩ := h
  exact ⟨a, c, e, h.imp id (fun ⟨g, off, e, h⟩ => ⟨g, off, e, h.below hb⟩)⟩
theorem sd_cells {w : World} {g off : Nat} {L : List Sv} (h : Sd w g off L) {k : Nat} {y : Sv} (hk : L[k]? = some y) : w.cell? ⟨g, off + k * 14, none⟩ = some (.int .i64 y.s.typ) ∧ w.cell? ⟨g, off + k * 14 + 1, none⟩ = some (.int .i64 y.s.org) ∧ w.cell? ⟨g, off + k * 14 + 2, none⟩ = some (.int .i64 y.s.num) ∧ w.cell? ⟨g, off + k * 14 + 3, none⟩ = some y.hv ∧ w.cell? ⟨g, off + k * 14 + 4, none⟩ = some y.tv ∧ w.cell? ⟨g, off + k * 14 + 5, none⟩ = some (.int .i64 y.s.srv) ∧ w.cell? ⟨g, off + k * 14 + 6, none⟩ = some (.int .i64 y.s.off) ∧ w.cell? ⟨g, off + k * 14 + 7, none⟩ = some y.dv ∧ w.cell? ⟨g, off + k * 14 + 8, none⟩ = some (.int .i64 y.s.chk) ∧ w.cell? ⟨g, off + k * 14 + 9, none⟩ = some (.int .i64 y.s.rep) ∧ w.cell? ⟨g, off + k * 14 + 10, none⟩ = some (.int .i64 y.s.upp) ∧ w.cell? ⟨g, off + k * 14 + 11, none⟩ = some (.int .i64 y.s.low) ∧ w.cell? ⟨g, off + k * 14 + 12, none⟩ = some y.cv ∧ w.cell? ⟨g, off + k * 14 + 13, none⟩ = some (.int .i64 y.s.rsn) := by
  have c := fun j u hj => h k y hk j u hj
  refine ⟨c 0 _ rfl, c 1 _ rfl, c 2 _ rfl, c 3 _ rfl, c 4 _ rfl, c 5 _ rfl, c 6 _ rfl, c 7 _ rfl, c 8 _ rfl, c 9 _ rfl, c 10 _ rfl, c 11 _ rfl, c 12 _ rfl, c 13 _ rfl⟩
theorem own_rw {w : World} {base : Nat} {v : Value} {L : List Sv} (h : w.ownsRow base 37 14 v L.length (seg L)) : Rw w v L := by
  obtain ⟨a, c, hv⟩ := own_sl h
  refine ⟨a, c, hv, ?_⟩
  obtain ⟨_, ⟨e1, e2⟩ | ⟨g, cap, cur, e1, _⟩⟩ := id h
  · exact .inl (List.eq_nil_of_length_eq_zero e2)
  · rw [e1] at hv h
    simp only [Value.slice.injEq] at hv
    refine .inr ⟨g, 0, hv.1.symm, fun i y hi j u hj => ?_⟩
    have hjl : j < 14 := (List.getElem?_eq_some_iff.mp hj).1
    have hs : (seg L)[i * 14 + j]? = some u := by
      have h1 := seg_drop L i
      rw [drop_get L i y hi] at h1
      have h2 : seg (y :: L.drop (i + 1)) = y.L ++ seg (L.drop (i + 1)) := List.flatMap_cons
      rw [← List.getElem?_drop, h1, h2, List.getElem?_append_left (by exact hjl)]
      exact hj
    have := h.cells (g := g) rfl (i * 14 + j) u hs
    rw [addr_add, Nat.zero_add] at this
    rw [Nat.zero_add]
    exact this
theorem same_ok {w : World} {x y : Sv} (hx : SAt w x) (hy : SAt w y) (e : x.s = y.s) :
    Calls Tryd.prog 26 #[.agg (svC x.s x.hv x.tv x.dv x.cv), .agg (svC y.s y.hv y.tv y.dv y.cv)] w fun e w' => e = .returned (.bool true) ∧ Below w.heap.size w w' := by
  obtain ⟨h1, t1, s1⟩ := hx
  obtain ⟨h2, t2, s2⟩ := hy
  refine (same_gen2 x.s y.s _ _ _ _ _ _ _ _ h1 t1 h2 t2 w s1 s2).mono ?_
  rintro e' w' ⟨q, rfl, hq, hb⟩
  rw [hq e]
  exact ⟨rfl, hb⟩
theorem SAt.below {w w' : World} {y : Sv} (h : SAt w y) (hb : Below w.heap.size w w') : SAt w' y := by
  obtain ⟨hx, tx, h⟩ := h
  exact ⟨hx, tx, h.below hb⟩

set_option maxRecDepth 100000 in
set_option maxHeartbeats 8000000 in
theorem sameAll_any (w : World) (va vb : Value) (X Y : List Sv) (hX : Rw w va X) (hY : Rw w vb Y) (hs : X.map Sv.s = Y.map Sv.s) (aX : ∀ y ∈ X, SAt w y) (aY : ∀ y ∈ Y, SAt w y) (n : Nat) (hn : X.length = n) (hnb : n ≤ 68719476736) :
    Calls Tryd.prog 10 #[va, vb] w fun e w' => e = .returned (.bool true) ∧ Below w.heap.size w w' := by
  have hl : Y.length = n := by have := congrArg List.length hs; simp at this; omega
  have HX : Hid (Rw w va X ∧ Rw w vb Y) := ⟨hX, hY⟩
  obtain ⟨aa, ac, rfl, hX⟩ := hX
  obtain ⟨ba, bc, rfl, hY⟩ := hY
  have HA : Hid ((∀ y ∈ X, SAt w y) ∧ (∀ y ∈ Y, SAt w y) ∧ X.map Sv.s = Y.map Sv.s ∧ X.length = n ∧ Y.length = n ∧ (X = [] ∨ ∃ g off, aa = some ⟨g, off, none⟩ ∧ Sd w g off X) ∧ (Y = [] ∨ ∃ g off, ba = some ⟨g, off, none⟩ ∧ Sd w g off Y)) := ⟨aX, aY, hs, hn, hl, hX, hY⟩
  rw [hn, hl]
  clear hX hY hs aX aY hn hl HX
  go_enter Tryd.func10, Tryd.ntmps10
  go_wp2_with fail
  go_loopw [5] (fun s5 wr => ∃ k : Nat, k ≤ n ∧ s5 = .int .i64 k ∧ Hid (Below w.heap.size w wr)) (fun s5 _ => n - (intOf s5).toNat)
  case atStart => exact ⟨0, by omega, rfl, Below.refl _ _⟩
  case round =>
    obtain ⟨k, hk, rfl, HB⟩ := hrel
    by_cases hlt : k < n
    · have hlt' : (k : Int) < (n : Int) := by omega
      have h0k : 0 ≤ (k : Int) := by omega
      have hwk : IntKind.i64.wrap ((k : Int) + 1) = (k : Int) + 1 := by rw [IntKind.wrap_i64]; omega
      obtain ⟨a1, a2, a3, a4, a5, a6, a7⟩ := HA.out
      obtain ⟨x, hx⟩ := get_one X k (by omega)
      obtain ⟨y, hy⟩ := get_one Y k (by omega)
      have exy : x.s = y.s := by
        have := congrArg (fun l => l[k]?) a3
        simp [hx, hy] at this
        exact this
      have hcall := same_ok ((a1 x (List.mem_of_getElem? hx)).below (w' := wr.drew) ⟨HB.out.os, HB.out.tape, HB.out.output, HB.out.size, HB.out.block⟩) ((a2 y (List.mem_of_getElem? hy)).below ⟨HB.out.os, HB.out.tape, HB.out.output, HB.out.size, HB.out.block⟩) exy
      rcases a6 with e | ⟨g, off, rfl, sdx⟩
      · rw [e] at hx; simp at hx
      rcases a7 with e | ⟨g2, off2, rfl, sdy⟩
      · rw [e] at hy; simp at hy
      have HC : Hid (∀ V : World, Below wr.heap.size wr V → V.cell? ⟨g, off + k * 14, none⟩ = some (.int .i64 x.s.typ) ∧ V.cell? ⟨g, off + k * 14 + 1, none⟩ = some (.int .i64 x.s.org) ∧ V.cell? ⟨g, off + k * 14 + 2, none⟩ = some (.int .i64 x.s.num) ∧ V.cell? ⟨g, off + k * 14 + 3, none⟩ = some x.hv ∧ V.cell? ⟨g, off + k * 14 + 4, none⟩ = some x.tv ∧ V.cell? ⟨g, off + k * 14 + 5, none⟩ = some (.int .i64 x.s.srv) ∧ V.cell? ⟨g, off + k * 14 + 6, none⟩ = some (.int .i64 x.s.off) ∧ V.cell? ⟨g, off + k * 14 + 7, none⟩ = some x.dv ∧ V.cell? ⟨g, off + k * 14 + 8, none⟩ = some (.int .i64 x.s.chk) ∧ V.cell? ⟨g, off + k * 14 + 9, none⟩ = some (.int .i64 x.s.rep) ∧ V.cell? ⟨g, off + k * 14 + 10, none⟩ = some (.int .i64 x.s.upp) ∧ V.cell? ⟨g, off + k * 14 + 11, none⟩ = some (.int .i64 x.s.low) ∧ V.cell? ⟨g, off + k * 14 + 12, none⟩ = some x.cv ∧ V.cell? ⟨g, off + k * 14 + 13, none⟩ = some (.int .i64 x.s.rsn) ∧ V.cell? ⟨g2, off2 + k * 14, none⟩ = some (.int .i64 y.s.typ) ∧ V.cell? ⟨g2, off2 + k * 14 + 1, none⟩ = some (.int .i64 y.s.org) ∧ V.cell? ⟨g2, off2 + k * 14 + 2, none⟩ = some (.int .i64 y.s.num) ∧ V.cell? ⟨g2, off2 + k * 14 + 3, none⟩ = some y.hv ∧ V.cell? ⟨g2, off2 + k * 14 + 4, none⟩ = some y.tv ∧ V.cell? ⟨g2, off2 + k * 14 + 5, none⟩ = some (.int .i64 y.s.srv) ∧ V.cell? ⟨g2, off2 + k * 14 + 6, none⟩ = some (.int .i64 y.s.off) ∧ V.cell? ⟨g2, off2 + k * 14 + 7, none⟩ = some y.dv ∧ V.cell? ⟨g2, off2 + k * 14 + 8, none⟩ = some (.int .i64 y.s.chk) ∧ V.cell? ⟨g2, off2 + k * 14 + 9, none⟩ = some (.int .i64 y.s.rep) ∧ V.cell? ⟨g2, off2 + k * 14 + 10, none⟩ = some (.int .i64 y.s.upp) ∧ V.cell? ⟨g2, off2 + k * 14 + 11, none⟩ = some (.int .i64 y.s.low) ∧ V.cell? ⟨g2, off2 + k * 14 + 12, none⟩ = some y.cv ∧ V.cell? ⟨g2, off2 + k * 14 + 13, none⟩ = some (.int .i64 y.s.rsn)) := fun V hV => by
        have b := HB.out.trans (hV.mono HB.out.size)
        obtain ⟨p0, p1, p2, p3, p4, p5, p6, p7, p8, p9, p10, p11, p12, p13⟩ := sd_cells (sdx.below b) hx
        exact ⟨p0, p1, p2, p3, p4, p5, p6, p7, p8, p9, p10, p11, p12, p13, sd_cells (sdy.below b) hy⟩
      have HC0 := HC.out wr (Below.refl _ _)
      clear a1 a2 a3 a4 a5 sdx sdy exy
      go_wp2_with fail
      go_region_held3 (fun V => V.cell? ⟨g, off + k * 14, none⟩ = some (.int .i64 x.s.typ) ∧ V.cell? ⟨g, off + k * 14 + 1, none⟩ = some (.int .i64 x.s.org) ∧ V.cell? ⟨g, off + k * 14 + 2, none⟩ = some (.int .i64 x.s.num) ∧ V.cell? ⟨g, off + k * 14 + 3, none⟩ = some x.hv ∧ V.cell? ⟨g, off + k * 14 + 4, none⟩ = some x.tv ∧ V.cell? ⟨g, off + k * 14 + 5, none⟩ = some (.int .i64 x.s.srv) ∧ V.cell? ⟨g, off + k * 14 + 6, none⟩ = some (.int .i64 x.s.off) ∧ V.cell? ⟨g, off + k * 14 + 7, none⟩ = some x.dv ∧ V.cell? ⟨g, off + k * 14 + 8, none⟩ = some (.int .i64 x.s.chk) ∧ V.cell? ⟨g, off + k * 14 + 9, none⟩ = some (.int .i64 x.s.rep) ∧ V.cell? ⟨g, off + k * 14 + 10, none⟩ = some (.int .i64 x.s.upp) ∧ V.cell? ⟨g, off + k * 14 + 11, none⟩ = some (.int .i64 x.s.low) ∧ V.cell? ⟨g, off + k * 14 + 12, none⟩ = some x.cv ∧ V.cell? ⟨g, off + k * 14 + 13, none⟩ = some (.int .i64 x.s.rsn) ∧ V.cell? ⟨g2, off2 + k * 14, none⟩ = some (.int .i64 y.s.typ) ∧ V.cell? ⟨g2, off2 + k * 14 + 1, none⟩ = some (.int .i64 y.s.org) ∧ V.cell? ⟨g2, off2 + k * 14 + 2, none⟩ = some (.int .i64 y.s.num) ∧ V.cell? ⟨g2, off2 + k * 14 + 3, none⟩ = some y.hv ∧ V.cell? ⟨g2, off2 + k * 14 + 4, none⟩ = some y.tv ∧ V.cell? ⟨g2, off2 + k * 14 + 5, none⟩ = some (.int .i64 y.s.srv) ∧ V.cell? ⟨g2, off2 + k * 14 + 6, none⟩ = some (.int .i64 y.s.off) ∧ V.cell? ⟨g2, off2 + k * 14 + 7, none⟩ = some y.dv ∧ V.cell? ⟨g2, off2 + k * 14 + 8, none⟩ = some (.int .i64 y.s.chk) ∧ V.cell? ⟨g2, off2 + k * 14 + 9, none⟩ = some (.int .i64 y.s.rep) ∧ V.cell? ⟨g2, off2 + k * 14 + 10, none⟩ = some (.int .i64 y.s.upp) ∧ V.cell? ⟨g2, off2 + k * 14 + 11, none⟩ = some (.int .i64 y.s.low) ∧ V.cell? ⟨g2, off2 + k * 14 + 12, none⟩ = some y.cv ∧ V.cell? ⟨g2, off2 + k * 14 + 13, none⟩ = some (.int .i64 y.s.rsn))
        (first | exact HC0 | exact HCU.out)
        (first
          | (go_at_call 26
             refine hcall.mono ?_
             rintro e U ⟨rfl, hU⟩
             have hU' : Below wr.heap.size wr U := ⟨hU.os, hU.tape, hU.output, hU.size, hU.block⟩
             have HCU : Hid (U.cell? ⟨g, off + k * 14, none⟩ = some (.int .i64 x.s.typ) ∧ U.cell? ⟨g, off + k * 14 + 1, none⟩ = some (.int .i64 x.s.org) ∧ U.cell? ⟨g, off + k * 14 + 2, none⟩ = some (.int .i64 x.s.num) ∧ U.cell? ⟨g, off + k * 14 + 3, none⟩ = some x.hv ∧ U.cell? ⟨g, off + k * 14 + 4, none⟩ = some x.tv ∧ U.cell? ⟨g, off + k * 14 + 5, none⟩ = some (.int .i64 x.s.srv) ∧ U.cell? ⟨g, off + k * 14 + 6, none⟩ = some (.int .i64 x.s.off) ∧ U.cell? ⟨g, off + k * 14 + 7, none⟩ = some x.dv ∧ U.cell? ⟨g, off + k * 14 + 8, none⟩ = some (.int .i64 x.s.chk) ∧ U.cell? ⟨g, off + k * 14 + 9, none⟩ = some (.int .i64 x.s.rep) ∧ U.cell? ⟨g, off + k * 14 + 10, none⟩ = some (.int .i64 x.s.upp) ∧ U.cell? ⟨g, off + k * 14 + 11, none⟩ = some (.int .i64 x.s.low) ∧ U.cell? ⟨g, off + k * 14 + 12, none⟩ = some x.cv ∧ U.cell? ⟨g, off + k * 14 + 13, none⟩ = some (.int .i64 x.s.rsn) ∧ U.cell? ⟨g2, off2 + k * 14, none⟩ = some (.int .i64 y.s.typ) ∧ U.cell? ⟨g2, off2 + k * 14 + 1, none⟩ = some (.int .i64 y.s.org) ∧ U.cell? ⟨g2, off2 + k * 14 + 2, none⟩ = some (.int .i64 y.s.num) ∧ U.cell? ⟨g2, off2 + k * 14 + 3, none⟩ = some y.hv ∧ U.cell? ⟨g2, off2 + k * 14 + 4, none⟩ = some y.tv ∧ U.cell? ⟨g2, off2 + k * 14 + 5, none⟩ = some (.int .i64 y.s.srv) ∧ U.cell? ⟨g2, off2 + k * 14 + 6, none⟩ = some (.int .i64 y.s.off) ∧ U.cell? ⟨g2, off2 + k * 14 + 7, none⟩ = some y.dv ∧ U.cell? ⟨g2, off2 + k * 14 + 8, none⟩ = some (.int .i64 y.s.chk) ∧ U.cell? ⟨g2, off2 + k * 14 + 9, none⟩ = some (.int .i64 y.s.rep) ∧ U.cell? ⟨g2, off2 + k * 14 + 10, none⟩ = some (.int .i64 y.s.upp) ∧ U.cell? ⟨g2, off2 + k * 14 + 11, none⟩ = some (.int .i64 y.s.low) ∧ U.cell? ⟨g2, off2 + k * 14 + 12, none⟩ = some y.cv ∧ U.cell? ⟨g2, off2 + k * 14 + 13, none⟩ = some (.int .i64 y.s.rsn)) := HC.out U hU'
             have HBU : Hid (Below w.heap.size w U) := HB.out.trans (hU'.mono HB.out.size)
             clear hU hU'))
      all_goals (
        clear hcall HC0
        go_wp2
        go_roundw
        case rel => exact ⟨k + 1, by omega, by go_num, HBU⟩
        case measure => simp [intOf]; omega)
    · have hlt' : ¬ (k : Int) < (n : Int) := by omega
      go_wp2
      go_ret
      exact ⟨rfl, HB.out⟩

end Go.Proofs.YtdfdaambfihjaaaDoor.L
