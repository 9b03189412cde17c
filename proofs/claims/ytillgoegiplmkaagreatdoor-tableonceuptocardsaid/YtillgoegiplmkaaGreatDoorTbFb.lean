import Derived.Test.YtillgoegiplmkaaGreatDoorTbFa
import Derived.Test.YtillgoegiplmkaaGreatDoorTbEl
namespace Go.Proofs.YtillgoegiplmkaaGreatDoor.B
open C
open Go.RowKit Go.Maps
set_option linter.unusedVariables false
set_option linter.unusedSimpArgs false

theorem own_cell12 {base g N cap : Nat} {w : World} {Q : List (Ic × Value × Value)} (h : w.ownsRow base 63 12 (.slice (some ⟨g, 0, none⟩) N cap) N (Q.flatMap icc)) {k : Nat} {x : Ic × Value × Value} (hk : Q[k]? = some x) {j : Nat} (hj : j < 12) {u : Value} (hu : (icc x)[j]? = some u) : w.cell? ⟨g, k * 12 + j, none⟩ = some u :=
  own_cell h ((flat_at icc 12 (fun _ => rfl) Q k x j hk hj).trans hu)
theorem own_cell2 {base g N cap : Nat} {w : World} {R : List (Tm × Value)} (h : w.ownsRow base 99 2 (.slice (some ⟨g, 0, none⟩) N cap) N (R.flatMap tmc)) {k : Nat} {x : Tm × Value} (hk : R[k]? = some x) {j : Nat} (hj : j < 2) {u : Value} (hu : (tmc x)[j]? = some u) : w.cell? ⟨g, k * 2 + j, none⟩ = some u :=
  own_cell h ((flat_at tmc 2 (fun _ => rfl) R k x j hk hj).trans hu)
theorem own_cell11 {base g N cap : Nat} {w : World} {R : List Rv} (h : w.ownsRow base 35 11 (.slice (some ⟨g, 0, none⟩) N cap) N (R.flatMap rcc)) {k : Nat} {x : Rv} (hk : R[k]? = some x) {j : Nat} (hj : j < 11) {u : Value} (hu : (rcc x)[j]? = some u) : w.cell? ⟨g, k * 11 + j, none⟩ = some u :=
  own_cell h ((flat_at rcc 11 (fun _ => rfl) R k x j hk hj).trans hu)
theorem own_len8 {w : World} {b e s m n c : Nat} {a : Option Addr} {xs : List Value} (h : w.ownsRow b e s (.slice a n c) m xs) : n = m := by
  obtain ⟨_, ⟨q, q'⟩ | ⟨g', cap', cur, q, _⟩⟩ := h
  · simp only [Value.slice.injEq] at q; omega
  · simp only [Value.slice.injEq] at q; omega
theorem same_at {α β : Type} {P P' : List (α × β)} (e : P.map Prod.fst = P'.map Prod.fst) {k : Nat} {x x' : α × β} (h : P[k]? = some x) (h' : P'[k]? = some x') : x.1 = x'.1 := by
  have := congrArg (fun l => l[k]?) e
  simp [h, h'] at this
  exact this
theorem byo_lies {W : World} {lo : Nat} {a : Option Addr} {n c : Nat} {l : List Int} (h : ByO W lo (.slice a n c) l) : Lies .u8 W a l ∧ l.length = n := by
  have e := own_len8 h
  have h2 : W.ownsRow lo 5 1 (.slice a n c) n (l.map (Value.int .u8)) := by rw [e]; rw [e] at h; exact h
  exact ⟨(own_lies h2).1, e.symm⟩
theorem so_spa {W : World} {lo : Nat} {a : Option Addr} {n c : Nat} {l : List Sp} (h : SOwn W lo (.slice a n c) l) : Spa W a l ∧ l.length = n := ⟨SOwn.spa h, (own_len8 h).symm⟩
set_option maxRecDepth 100000 in
set_option maxHeartbeats 8000000 in
/-- SAME RECORDS, of two rows that say the same. -/
theorem sameRecords8_eq (w : World) (lo lo2 : Nat) (va vb : Value) (X Y : List Rv) (hX : RrR w lo va X) (hY : RrR w lo2 vb Y) (eX : Els lo X w) (eY : Els lo2 Y w) (he : X.map Prod.fst = Y.map Prod.fst) (hss : ∀ x ∈ X, sW (sR x.1)) (hsp : ∀ x ∈ X, x.1.spans.length ≤ 1048576) (n : Nat) (hn : X.length = n) (hnb : n ≤ 68719476736) :
    Calls Tryz.prog 28 #[va, vb] w fun e w' => e = .returned (.bool true) ∧ Below w.heap.size w w' := by
  have hl : Y.length = n := by have := congrArg List.length he; simp at this; omega
  obtain ⟨aa, na, ac, rfl⟩ := own_sl8 hX
  obtain ⟨ba, nb, bc, rfl⟩ := own_sl8 hY
  have q1 := own_len8 hX
  have q2 := own_len8 hY
  rw [hn] at q1
  rw [hl] at q2
  rw [q1] at hX ⊢
  rw [q2] at hY ⊢
  clear q1 q2
  have HA : Hid (RrR w lo (.slice aa n ac) X ∧ RrR w lo2 (.slice ba n bc) Y ∧ Els lo X w ∧ Els lo2 Y w ∧ X.map Prod.fst = Y.map Prod.fst ∧ (∀ x ∈ X, sW (sR x.1)) ∧ (∀ x ∈ X, x.1.spans.length ≤ 1048576) ∧ X.length = n ∧ Y.length = n) := ⟨hX, hY, eX, eY, he, hss, hsp, hn, hl⟩
  clear hX hY eX eY he hss hsp hn hl
  go_enter Tryz.func28, Tryz.ntmps28
  go_wp2_with fail
  go_loopw [5] (fun s5 wr => ∃ k : Nat, k ≤ n ∧ s5 = .int .i64 k ∧ Hid (Below w.heap.size w wr)) (fun s5 _ => n - (intOf s5).toNat)
  case atStart => exact ⟨0, by omega, rfl, Below.refl _ _⟩
  case round =>
    obtain ⟨k, hk, rfl, HB⟩ := hrel
    by_cases hlt : k < n
    · have hlt' : (k : Int) < (n : Int) := by omega
      have h0k : 0 ≤ (k : Int) := by omega
      have hwk : IntKind.i64.wrap ((k : Int) + 1) = (k : Int) + 1 := by rw [IntKind.wrap_i64]; omega
      obtain ⟨a1, a2, a3, a4, a5, a6, a7, a8, a9⟩ := HA.out
      obtain ⟨⟨r, u1, v1⟩, hx⟩ := get_some X k (by omega)
      obtain ⟨⟨r2, u2, v2⟩, hy⟩ := get_some Y k (by omega)
      obtain rfl : r = r2 := same_at a5 hx hy
      have m1 := List.mem_of_getElem? hx
      have m2 := List.mem_of_getElem? hy
      obtain ⟨au, nu, cu, rfl⟩ := own_sl8 (a3 _ m1).1
      obtain ⟨av, nv, cv, rfl⟩ := own_sl8 (a3 _ m1).2
      obtain ⟨bu, nu2, du, rfl⟩ := own_sl8 (a4 _ m2).1
      obtain ⟨bv, nv2, dv, rfl⟩ := own_sl8 (a4 _ m2).2
      have s1 := so_spa (a3 _ m1).1
      have s2 := so_spa (a4 _ m2).1
      have y1 := byo_lies (a3 _ m1).2
      have y2 := byo_lies (a4 _ m2).2
      have hsw := a6 _ m1
      have hsl := a7 _ m1
      simp only at s1 s2 y1 y2 hsw hsl
      obtain rfl : nu = nu2 := s1.2.symm.trans s2.2
      obtain rfl : nv = nv2 := y1.2.symm.trans y2.2
      have hb0 : Below w.heap.size w wr.drew := ⟨HB.out.os, HB.out.tape, HB.out.output, HB.out.size, HB.out.block⟩
      have hcall := sameRecord8_eq r au bu nu cu du av bv nv cv dv wr.drew s1.2 (by rw [s1.2] at hsl; omega) (s1.1.below hb0) (s2.1.below hb0) y1.2 (y1.1.below hb0) (y2.1.below hb0) hsw
      unfold RrR at a1 a2
      rw [a8] at a1
      rw [a9] at a2
      obtain ⟨g, cp, eg, _, _⟩ := World.ownsRow.form a1 (by omega)
      obtain ⟨g2, cp2, eg2, _, _⟩ := World.ownsRow.form a2 (by omega)
      cases eg
      cases eg2
      have HC : Hid (∀ V : World, Below wr.heap.size wr V → V.cell? ⟨g, k * 11, none⟩ = some (.int .i64 r.kind) ∧ V.cell? ⟨g, k * 11 + 1, none⟩ = some (.int .i64 r.org) ∧ V.cell? ⟨g, k * 11 + 2, none⟩ = some (.int .i64 r.num) ∧ V.cell? ⟨g, k * 11 + 3, none⟩ = some (.int .i64 r.peer) ∧ V.cell? ⟨g, k * 11 + 4, none⟩ = some (.int .i64 r.srv) ∧ V.cell? ⟨g, k * 11 + 5, none⟩ = some (.int .i64 r.off) ∧ V.cell? ⟨g, k * 11 + 6, none⟩ = some (.int .i64 r.red) ∧ V.cell? ⟨g, k * 11 + 7, none⟩ = some (.int .i64 r.size) ∧ V.cell? ⟨g, k * 11 + 8, none⟩ = some (.int .i64 r.how) ∧ V.cell? ⟨g, k * 11 + 9, none⟩ = some (.slice au nu cu) ∧ V.cell? ⟨g, k * 11 + 10, none⟩ = some (.slice av nv cv) ∧ V.cell? ⟨g2, k * 11, none⟩ = some (.int .i64 r.kind) ∧ V.cell? ⟨g2, k * 11 + 1, none⟩ = some (.int .i64 r.org) ∧ V.cell? ⟨g2, k * 11 + 2, none⟩ = some (.int .i64 r.num) ∧ V.cell? ⟨g2, k * 11 + 3, none⟩ = some (.int .i64 r.peer) ∧ V.cell? ⟨g2, k * 11 + 4, none⟩ = some (.int .i64 r.srv) ∧ V.cell? ⟨g2, k * 11 + 5, none⟩ = some (.int .i64 r.off) ∧ V.cell? ⟨g2, k * 11 + 6, none⟩ = some (.int .i64 r.red) ∧ V.cell? ⟨g2, k * 11 + 7, none⟩ = some (.int .i64 r.size) ∧ V.cell? ⟨g2, k * 11 + 8, none⟩ = some (.int .i64 r.how) ∧ V.cell? ⟨g2, k * 11 + 9, none⟩ = some (.slice bu nu du) ∧ V.cell? ⟨g2, k * 11 + 10, none⟩ = some (.slice bv nv dv)) := fun V hV => by
        have b := HB.out.trans (hV.mono HB.out.size)
        have r1 := own_at a1 (fun g hg => b.block g (World.ownsRow.lt a1 g hg).2)
        have r2 := own_at a2 (fun g hg => b.block g (World.ownsRow.lt a2 g hg).2)
        exact ⟨own_cell11 r1 hx (j := 0) (by decide) rfl, own_cell11 r1 hx (j := 1) (by decide) rfl, own_cell11 r1 hx (j := 2) (by decide) rfl, own_cell11 r1 hx (j := 3) (by decide) rfl, own_cell11 r1 hx (j := 4) (by decide) rfl, own_cell11 r1 hx (j := 5) (by decide) rfl, own_cell11 r1 hx (j := 6) (by decide) rfl, own_cell11 r1 hx (j := 7) (by decide) rfl, own_cell11 r1 hx (j := 8) (by decide) rfl, own_cell11 r1 hx (j := 9) (by decide) rfl, own_cell11 r1 hx (j := 10) (by decide) rfl, own_cell11 r2 hy (j := 0) (by decide) rfl, own_cell11 r2 hy (j := 1) (by decide) rfl, own_cell11 r2 hy (j := 2) (by decide) rfl, own_cell11 r2 hy (j := 3) (by decide) rfl, own_cell11 r2 hy (j := 4) (by decide) rfl, own_cell11 r2 hy (j := 5) (by decide) rfl, own_cell11 r2 hy (j := 6) (by decide) rfl, own_cell11 r2 hy (j := 7) (by decide) rfl, own_cell11 r2 hy (j := 8) (by decide) rfl, own_cell11 r2 hy (j := 9) (by decide) rfl, own_cell11 r2 hy (j := 10) (by decide) rfl⟩
      have HC0 := HC.out wr (Below.refl _ _)
      clear a1 a2 a3 a4 a5 a6 a7 s1 s2 y1 y2 hsw hsl hb0 m1 m2 hx hy
      go_wp2_with fail
      go_region_held3 (fun V => V.cell? ⟨g, k * 11, none⟩ = some (.int .i64 r.kind) ∧ V.cell? ⟨g, k * 11 + 1, none⟩ = some (.int .i64 r.org) ∧ V.cell? ⟨g, k * 11 + 2, none⟩ = some (.int .i64 r.num) ∧ V.cell? ⟨g, k * 11 + 3, none⟩ = some (.int .i64 r.peer) ∧ V.cell? ⟨g, k * 11 + 4, none⟩ = some (.int .i64 r.srv) ∧ V.cell? ⟨g, k * 11 + 5, none⟩ = some (.int .i64 r.off) ∧ V.cell? ⟨g, k * 11 + 6, none⟩ = some (.int .i64 r.red) ∧ V.cell? ⟨g, k * 11 + 7, none⟩ = some (.int .i64 r.size) ∧ V.cell? ⟨g, k * 11 + 8, none⟩ = some (.int .i64 r.how) ∧ V.cell? ⟨g, k * 11 + 9, none⟩ = some (.slice au nu cu) ∧ V.cell? ⟨g, k * 11 + 10, none⟩ = some (.slice av nv cv) ∧ V.cell? ⟨g2, k * 11, none⟩ = some (.int .i64 r.kind) ∧ V.cell? ⟨g2, k * 11 + 1, none⟩ = some (.int .i64 r.org) ∧ V.cell? ⟨g2, k * 11 + 2, none⟩ = some (.int .i64 r.num) ∧ V.cell? ⟨g2, k * 11 + 3, none⟩ = some (.int .i64 r.peer) ∧ V.cell? ⟨g2, k * 11 + 4, none⟩ = some (.int .i64 r.srv) ∧ V.cell? ⟨g2, k * 11 + 5, none⟩ = some (.int .i64 r.off) ∧ V.cell? ⟨g2, k * 11 + 6, none⟩ = some (.int .i64 r.red) ∧ V.cell? ⟨g2, k * 11 + 7, none⟩ = some (.int .i64 r.size) ∧ V.cell? ⟨g2, k * 11 + 8, none⟩ = some (.int .i64 r.how) ∧ V.cell? ⟨g2, k * 11 + 9, none⟩ = some (.slice bu nu du) ∧ V.cell? ⟨g2, k * 11 + 10, none⟩ = some (.slice bv nv dv))
        (first | exact HC0 | exact HCU.out)
        (first
          | (go_at_call 24
             refine hcall.mono ?_
             rintro e U ⟨rfl, hU⟩
             have hU' : Below wr.heap.size wr U := ⟨hU.os, hU.tape, hU.output, hU.size, hU.block⟩
             have HCU : Hid (U.cell? ⟨g, k * 11, none⟩ = some (.int .i64 r.kind) ∧ U.cell? ⟨g, k * 11 + 1, none⟩ = some (.int .i64 r.org) ∧ U.cell? ⟨g, k * 11 + 2, none⟩ = some (.int .i64 r.num) ∧ U.cell? ⟨g, k * 11 + 3, none⟩ = some (.int .i64 r.peer) ∧ U.cell? ⟨g, k * 11 + 4, none⟩ = some (.int .i64 r.srv) ∧ U.cell? ⟨g, k * 11 + 5, none⟩ = some (.int .i64 r.off) ∧ U.cell? ⟨g, k * 11 + 6, none⟩ = some (.int .i64 r.red) ∧ U.cell? ⟨g, k * 11 + 7, none⟩ = some (.int .i64 r.size) ∧ U.cell? ⟨g, k * 11 + 8, none⟩ = some (.int .i64 r.how) ∧ U.cell? ⟨g, k * 11 + 9, none⟩ = some (.slice au nu cu) ∧ U.cell? ⟨g, k * 11 + 10, none⟩ = some (.slice av nv cv) ∧ U.cell? ⟨g2, k * 11, none⟩ = some (.int .i64 r.kind) ∧ U.cell? ⟨g2, k * 11 + 1, none⟩ = some (.int .i64 r.org) ∧ U.cell? ⟨g2, k * 11 + 2, none⟩ = some (.int .i64 r.num) ∧ U.cell? ⟨g2, k * 11 + 3, none⟩ = some (.int .i64 r.peer) ∧ U.cell? ⟨g2, k * 11 + 4, none⟩ = some (.int .i64 r.srv) ∧ U.cell? ⟨g2, k * 11 + 5, none⟩ = some (.int .i64 r.off) ∧ U.cell? ⟨g2, k * 11 + 6, none⟩ = some (.int .i64 r.red) ∧ U.cell? ⟨g2, k * 11 + 7, none⟩ = some (.int .i64 r.size) ∧ U.cell? ⟨g2, k * 11 + 8, none⟩ = some (.int .i64 r.how) ∧ U.cell? ⟨g2, k * 11 + 9, none⟩ = some (.slice bu nu du) ∧ U.cell? ⟨g2, k * 11 + 10, none⟩ = some (.slice bv nv dv)) := HC.out U hU'
             have HBU : Hid (Below w.heap.size w U) := HB.out.trans (hU'.mono HB.out.size)
             clear hU hU'))
      all_goals (
        clear hcall HC0
        go_wp2
        go_roundw
        case rel => exact ⟨k + 1, by omega, by go_num, HBU⟩
        case measure => simp [intOf]; omega)
    · have hlt' : ¬ (k : Int) < (n : Int) := by omega
      go_wp2
      go_ret
      exact ⟨rfl, HB.out⟩
end Go.Proofs.YtillgoegiplmkaaGreatDoor.B
