import Derived.Test.YtfghdhikjhbbgaeDoorAll
import Derived.Test.YtfghdhikjhbbgaeDoorBkCut
import Derived.Deep.RegionHeld3
import Derived.Test.YtfghdhikjhbbgaeDoorBkGrn
namespace Go.Proofs.YtfghdhikjhbbgaeDoor
open Go.RowKit

/-! ## The reference: numbers, types, sessions, parcels -/

theorem rsize_any (n : Int) (w : World) (h0 : 0 ≤ n) (h1 : n ≤ 18446744073709551615) :
    Calls Tryd.prog 152 #[.int .u64 n] w fun e w' => e = .returned (.int .i64 (sz n)) ∧ Below w.heap.size w w' := by
  have hd := R.digits_any n w h0 h1
  generalize sz n = S at *
  go_enter Tryd.func152, Tryd.ntmps152
  go_wp2_with fail
  refine hd.mono ?_
  rintro e w1 ⟨g, cap, rfl, _, hb⟩
  clear hd
  go_wp2
  go_ret
  exact ⟨rfl, hb⟩

theorem wide_any (n : Int) (w : World) (h0 : 0 ≤ n) (h1 : n ≤ 9223372036854775807) :
    Calls Tryd.prog 132 #[.int .i64 n] w fun e w' => e = .returned (.int .i64 (sz n)) ∧ Below w.heap.size w w' := by
  have hd := rsize_any n w h0 (by omega)
  have hwr : IntKind.u64.wrap n = n := by rw [IntKind.wrap_u64]; omega
  generalize sz n = S at *
  go_enter Tryd.func132, Tryd.ntmps132
  go_wp2_with fail
  refine hd.mono ?_
  rintro e w1 ⟨rfl, hb⟩
  clear hd
  go_wp2
  go_ret
  exact ⟨rfl, hb⟩

theorem check_any (t : Int) (w : World) :
    Calls Tryd.prog 133 #[.int .i64 t] w fun e w' => e = .returned (.bool (cks t)) ∧ w = w' := by
  have HC : Hid (cks t = (t == 1 || t == 2 || t == 3)) := rfl
  generalize cks t = q at *
  go_enter Tryd.func133, Tryd.ntmps133
  by_cases h1 : t = 1
  · subst h1
    go_wp2
    go_ret
    exact ⟨by rw [HC.out]; rfl, rfl⟩
  have e1 : (t == 1) = false := beq_false_of_ne h1
  by_cases h2 : t = 2
  · subst h2
    go_wp2
    go_ret
    exact ⟨by rw [HC.out]; rfl, rfl⟩
  have e2 : (t == 2) = false := beq_false_of_ne h2
  by_cases h3 : t = 3
  · subst h3
    go_wp2
    go_ret
    exact ⟨by rw [HC.out]; rfl, rfl⟩
  have e3 : (t == 3) = false := beq_false_of_ne h3
  go_wp2
  go_ret
  exact ⟨by rw [HC.out, e1, e2, e3]; rfl, rfl⟩

set_option maxHeartbeats 1000000 in
theorem session2_any (k : Pk) (w : World) :
    Calls Tryd.prog 52 #[.agg #[.int .i64 k.org, .int .i64 k.num]] w fun e w' => e = .returned (.bool (sesB k)) ∧ Below w.heap.size w w' := by
  have HB : Hid (Below w.heap.size w (w.alloc (.cells #[.int .i64 k.org, .int .i64 k.num] 23))) := (Below.refl _ _).alloc (Nat.le_refl _) _
  have HS : Hid (sesB k = decide (1 ≤ k.org ∧ k.org ≤ 4611686018427387903 ∧ 1 ≤ k.num ∧ k.num ≤ 4611686018427387902)) := rfl
  generalize sesB k = q at *
  go_enter Tryd.func52, Tryd.ntmps52
  by_cases h0 : 1 ≤ k.org
  rotate_left
  · go_wp2
    go_ret
    exact ⟨by rw [HS.out, decide_eq_false (by omega)]; rfl, HB.out⟩
  by_cases h1 : k.org ≤ 4611686018427387903
  rotate_left
  · go_wp2
    go_ret
    exact ⟨by rw [HS.out, decide_eq_false (by omega)]; rfl, HB.out⟩
  by_cases h2 : 1 ≤ k.num
  rotate_left
  · go_wp2
    go_ret
    exact ⟨by rw [HS.out, decide_eq_false (by omega)]; rfl, HB.out⟩
  by_cases h3 : k.num < 4611686018427387903
  rotate_left
  · go_wp2
    go_ret
    exact ⟨by rw [HS.out, decide_eq_false (by omega)]; rfl, HB.out⟩
  go_wp2
  go_ret
  exact ⟨by rw [HS.out, decide_eq_true (by omega)]; rfl, HB.out⟩

set_option maxHeartbeats 1000000 in
theorem parcel2_any (k : Pk) (w : World) :
    Calls Tryd.prog 53 #[.agg #[.int .i64 k.srv, .int .i64 k.size, .int .i64 k.red, .int .i64 k.mtu, .int .i64 k.every]] w fun e w' => e = .returned (.bool (pclB k)) ∧ Below w.heap.size w w' := by
  have HB : Hid (Below w.heap.size w (w.alloc (.cells #[.int .i64 k.srv, .int .i64 k.size, .int .i64 k.red, .int .i64 k.mtu, .int .i64 k.every] 25))) := (Below.refl _ _).alloc (Nat.le_refl _) _
  have HS : Hid (pclB k = decide (0 ≤ k.srv ∧ k.srv ≤ 4611686018427387903 ∧ 1 ≤ k.size ∧ k.size ≤ 65536 ∧ 0 ≤ k.red ∧ k.red ≤ k.size ∧ 80 ≤ k.mtu ∧ k.mtu ≤ 4096 ∧ 0 ≤ k.every ∧ k.every ≤ 65536)) := rfl
  generalize pclB k = q at *
  go_enter Tryd.func53, Tryd.ntmps53
  by_cases h0 : 0 ≤ k.srv
  rotate_left
  · go_wp2
    go_ret
    exact ⟨by rw [HS.out, decide_eq_false (by omega)]; rfl, HB.out⟩
  by_cases h1 : k.srv ≤ 4611686018427387903
  rotate_left
  · go_wp2
    go_ret
    exact ⟨by rw [HS.out, decide_eq_false (by omega)]; rfl, HB.out⟩
  by_cases h2 : 1 ≤ k.size
  rotate_left
  · go_wp2
    go_ret
    exact ⟨by rw [HS.out, decide_eq_false (by omega)]; rfl, HB.out⟩
  by_cases h3 : k.size ≤ 65536
  rotate_left
  · go_wp2
    go_ret
    exact ⟨by rw [HS.out, decide_eq_false (by omega)]; rfl, HB.out⟩
  by_cases h4 : 0 ≤ k.red
  rotate_left
  · go_wp2
    go_ret
    exact ⟨by rw [HS.out, decide_eq_false (by omega)]; rfl, HB.out⟩
  by_cases h5 : k.red ≤ k.size
  rotate_left
  · go_wp2
    go_ret
    exact ⟨by rw [HS.out, decide_eq_false (by omega)]; rfl, HB.out⟩
  by_cases h6 : 80 ≤ k.mtu
  rotate_left
  · go_wp2
    go_ret
    exact ⟨by rw [HS.out, decide_eq_false (by omega)]; rfl, HB.out⟩
  by_cases h7 : k.mtu ≤ 4096
  rotate_left
  · go_wp2
    go_ret
    exact ⟨by rw [HS.out, decide_eq_false (by omega)]; rfl, HB.out⟩
  by_cases h8 : 0 ≤ k.every
  rotate_left
  · go_wp2
    go_ret
    exact ⟨by rw [HS.out, decide_eq_false (by omega)]; rfl, HB.out⟩
  by_cases h9 : k.every ≤ 65536
  rotate_left
  · go_wp2
    go_ret
    exact ⟨by rw [HS.out, decide_eq_false (by omega)]; rfl, HB.out⟩
  go_wp2
  go_ret
  exact ⟨by rw [HS.out, decide_eq_true (by omega)]; rfl, HB.out⟩

end Go.Proofs.YtfghdhikjhbbgaeDoor

namespace Go.Proofs.YtfghdhikjhbbgaeDoor
open Go.RowKit

/-- What lies there while the calls go on. -/
def BX (w : World) (k : Pk) (x : Pc) (V : World) : Prop := V.heap[w.heap.size]? = some (.cells #[.int .i64 k.org, .int .i64 k.num] 23) ∧ V.heap[w.heap.size + 1]? = some (.cells (pcC x) 38) ∧ Below w.heap.size w V
theorem BX.s0 {w V : World} {k : Pk} {x : Pc} (h : BX w k x V) : V.cell? ⟨w.heap.size, 0, none⟩ = some (.int .i64 k.org) := cell_of_row _ _ 0 _ _ _ h.1
theorem BX.s1 {w V : World} {k : Pk} {x : Pc} (h : BX w k x V) : V.cell? ⟨w.heap.size, 1, none⟩ = some (.int .i64 k.num) := cell_of_row _ _ 1 _ _ _ h.1
theorem BX.x0 {w V : World} {k : Pk} {x : Pc} (h : BX w k x V) : V.cell? ⟨w.heap.size + 1, 0, none⟩ = some (.int .i64 x.typ) := cell_of_row _ _ 0 _ _ _ h.2.1
theorem BX.x1 {w V : World} {k : Pk} {x : Pc} (h : BX w k x V) : V.cell? ⟨w.heap.size + 1, 1, none⟩ = some (.int .i64 x.frm) := cell_of_row _ _ 1 _ _ _ h.2.1
theorem BX.x3 {w V : World} {k : Pk} {x : Pc} (h : BX w k x V) : V.cell? ⟨w.heap.size + 1, 3, none⟩ = some (.int .i64 x.chk) := cell_of_row _ _ 3 _ _ _ h.2.1
theorem BX.x4 {w V : World} {k : Pk} {x : Pc} (h : BX w k x V) : V.cell? ⟨w.heap.size + 1, 4, none⟩ = some (.int .i64 x.rep) := cell_of_row _ _ 4 _ _ _ h.2.1
theorem BX.below {w V V' : World} {k : Pk} {x : Pc} (h : BX w k x V) (hb : Below V.heap.size V V') : BX w k x V' :=
  ⟨(hb.block _ (Array.getElem?_eq_some_iff.1 h.1).1).trans h.1, (hb.block _ (Array.getElem?_eq_some_iff.1 h.2.1).1).trans h.2.1, h.2.2.trans (hb.mono h.2.2.size)⟩
theorem BX.drew {w V : World} {k : Pk} {x : Pc} (h : BX w k x V) : BX w k x V.drew := ⟨h.1, h.2.1, h.2.2.drew⟩

set_option maxRecDepth 100000 in
set_option maxHeartbeats 4000000 in
theorem bytes2_any {k : Pk} (ok : k.Ok) (x : Pc) (n : Nat) (w : World) (h0 : 0 ≤ x.frm) (h1 : x.frm ≤ 65535) (hn : n ≤ 5000) (hto : x.to = x.frm + n) (hc : 0 ≤ x.chk ∧ x.chk ≤ 4611686018427387903) (hr : 0 ≤ x.rep ∧ x.rep ≤ 4611686018427387903) :
    Calls Tryd.prog 107 #[.agg #[.int .i64 k.org, .int .i64 k.num], .int .i64 k.srv, .agg (pcC x)] w fun e w' => e = .returned (.int .i64 (frX k x + sz n + n)) ∧ Below w.heap.size w w' := by
  have hX : BX w k x ((w.alloc (.cells #[.int .i64 k.org, .int .i64 k.num] 23)).alloc (.cells (pcC x) 38)) := by
    refine ⟨heapA (heap_alloc_new' _ _) _, ?_, ((Below.refl _ _).alloc (Nat.le_refl _) _).alloc (by simp) _⟩
    have := heap_alloc_new' (w.alloc (.cells #[.int .i64 k.org, .int .i64 k.num] 23)) (.cells (pcC x) 38)
    rw [World.size_alloc] at this; exact this
  have o1 := ok.org; have o2 := ok.num; have o3 := ok.srv
  have W1 : ∀ V, BX w k x V → Calls Tryd.prog 132 #[.int .i64 k.org] V fun e w' => e = .returned (.int .i64 (sz k.org)) ∧ BX w k x w' := fun V h => (wide_any k.org V (by omega) (by omega)).mono fun e w' ⟨he, hb⟩ => ⟨he, h.below hb⟩
  have W2 : ∀ V, BX w k x V → Calls Tryd.prog 132 #[.int .i64 k.num] V fun e w' => e = .returned (.int .i64 (sz k.num)) ∧ BX w k x w' := fun V h => (wide_any k.num V (by omega) (by omega)).mono fun e w' ⟨he, hb⟩ => ⟨he, h.below hb⟩
  have W3 : ∀ V, BX w k x V → Calls Tryd.prog 132 #[.int .i64 k.srv] V fun e w' => e = .returned (.int .i64 (sz k.srv)) ∧ BX w k x w' := fun V h => (wide_any k.srv V (by omega) (by omega)).mono fun e w' ⟨he, hb⟩ => ⟨he, h.below hb⟩
  have W4 : ∀ V, BX w k x V → Calls Tryd.prog 132 #[.int .i64 x.frm] V fun e w' => e = .returned (.int .i64 (sz x.frm)) ∧ BX w k x w' := fun V h => (wide_any x.frm V (by omega) (by omega)).mono fun e w' ⟨he, hb⟩ => ⟨he, h.below hb⟩
  have W5 : ∀ V, BX w k x V → Calls Tryd.prog 132 #[.int .i64 n] V fun e w' => e = .returned (.int .i64 (sz n)) ∧ BX w k x w' := fun V h => (wide_any n V (by omega) (by omega)).mono fun e w' ⟨he, hb⟩ => ⟨he, h.below hb⟩
  have W6 : ∀ V, BX w k x V → Calls Tryd.prog 132 #[.int .i64 x.chk] V fun e w' => e = .returned (.int .i64 (sz x.chk)) ∧ BX w k x w' := fun V h => (wide_any x.chk V (by omega) (by omega)).mono fun e w' ⟨he, hb⟩ => ⟨he, h.below hb⟩
  have W7 : ∀ V, BX w k x V → Calls Tryd.prog 132 #[.int .i64 x.rep] V fun e w' => e = .returned (.int .i64 (sz x.rep)) ∧ BX w k x w' := fun V h => (wide_any x.rep V (by omega) (by omega)).mono fun e w' ⟨he, hb⟩ => ⟨he, h.below hb⟩
  have WC : ∀ V, Calls Tryd.prog 133 #[.int .i64 x.typ] V fun e w' => e = .returned (.bool (cks x.typ)) ∧ V = w' := fun V => check_any x.typ V
  have hnn : IntKind.i64.wrap (x.to - x.frm) = n := by rw [IntKind.wrap_i64]; omega
  have HTo : Hid (x.to = x.frm + n) := hto
  clear hto
  have b1 := (sz_pos k.org (by omega) (by omega)).2
  have b2 := (sz_pos k.num (by omega) (by omega)).2
  have b3 := (sz_pos k.srv (by omega) (by omega)).2
  have b4 := (sz_pos x.frm (by omega) (by omega)).2
  have b5 := (sz_pos n (by omega) (by omega)).2
  have b6 := (sz_pos x.chk (by omega) (by omega)).2
  have b7 := (sz_pos x.rep (by omega) (by omega)).2
  have HR : Hid (frX k x + sz n + n = if cks x.typ then (1 + sz k.org + sz k.num + 1 + sz k.srv + sz x.frm + sz n + n + sz x.chk + sz x.rep : Int) else 1 + sz k.org + sz k.num + 1 + sz k.srv + sz x.frm + sz n + n) := by
    unfold Hid frX fr1 fr0; split <;> omega
  generalize frX k x + sz n + n = R at *
  generalize sz k.org = a1 at *
  generalize sz k.num = a2 at *
  generalize sz k.srv = a3 at *
  generalize sz x.frm = a4 at *
  generalize sz (n : Int) = a5 at *
  generalize sz x.chk = a6 at *
  generalize sz x.rep = a7 at *
  have u1 : IntKind.i64.wrap (1 + (a1 : Int)) = 1 + a1 := by rw [IntKind.wrap_i64]; omega
  have u2 : IntKind.i64.wrap (1 + (a1 : Int) + a2) = 1 + a1 + a2 := by rw [IntKind.wrap_i64]; omega
  have u3 : IntKind.i64.wrap (1 + (a1 : Int) + a2 + 1) = 1 + a1 + a2 + 1 := by rw [IntKind.wrap_i64]; omega
  have u4 : IntKind.i64.wrap (1 + (a1 : Int) + a2 + 1 + a3) = 1 + a1 + a2 + 1 + a3 := by rw [IntKind.wrap_i64]; omega
  have u5 : IntKind.i64.wrap (1 + (a1 : Int) + a2 + 1 + a3 + a4) = 1 + a1 + a2 + 1 + a3 + a4 := by rw [IntKind.wrap_i64]; omega
  have u6 : IntKind.i64.wrap (1 + (a1 : Int) + a2 + 1 + a3 + a4 + a5) = 1 + a1 + a2 + 1 + a3 + a4 + a5 := by rw [IntKind.wrap_i64]; omega
  have u7 : IntKind.i64.wrap (1 + (a1 : Int) + a2 + 1 + a3 + a4 + a5 + n) = 1 + a1 + a2 + 1 + a3 + a4 + a5 + n := by rw [IntKind.wrap_i64]; omega
  have u8 : IntKind.i64.wrap (1 + (a1 : Int) + a2 + 1 + a3 + a4 + a5 + n + a6) = 1 + a1 + a2 + 1 + a3 + a4 + a5 + n + a6 := by rw [IntKind.wrap_i64]; omega
  have u9 : IntKind.i64.wrap (1 + (a1 : Int) + a2 + 1 + a3 + a4 + a5 + n + a6 + a7) = 1 + a1 + a2 + 1 + a3 + a4 + a5 + n + a6 + a7 := by rw [IntKind.wrap_i64]; omega
  go_enter Tryd.func107, Tryd.ntmps107
  go_wp2_with fail
  go_region_held3 (fun V => V.cell? ⟨w.heap.size, 0, none⟩ = some (.int .i64 k.org) ∧ V.cell? ⟨w.heap.size, 1, none⟩ = some (.int .i64 k.num) ∧ V.cell? ⟨w.heap.size + 1, 1, none⟩ = some (.int .i64 x.frm) ∧ BX w k x V)
    (first | (exact ⟨hX.s0, hX.s1, hX.x1, hX⟩) | (exact ⟨hX.drew.s0, hX.drew.s1, hX.drew.x1, hX.drew⟩) | (exact ⟨hY.s0, hY.s1, hY.x1, hY⟩))
    (first
      | (go_at_call_of 132 (Value.int .i64 k.org); refine (W1 _ hX.drew).mono ?_; rintro e w' ⟨rfl, hY⟩)
      | (go_at_call_of 132 (Value.int .i64 k.num); refine (W2 _ hY).mono ?_; clear hY; rintro e w' ⟨rfl, hY⟩)
      | (go_at_call_of 132 (Value.int .i64 k.srv); refine (W3 _ hY).mono ?_; clear hY; rintro e w' ⟨rfl, hY⟩)
      | (go_at_call_of 132 (Value.int .i64 x.frm); refine (W4 _ hY).mono ?_; clear hY; rintro e w' ⟨rfl, hY⟩)
      | (go_at_call_of 132 (Value.int .i64 (n : Int)); refine (W5 _ hY).mono ?_; clear hY; rintro e w' ⟨rfl, hY⟩))
  clear W1 W2 W3 W4 W5 u1 u2 u3 u4 u5 u6
  have y0 := hY.x0
  generalize 1 + (a1 : Int) + a2 + 1 + a3 + a4 + a5 + n = T at *
  go_wp2_with fail
  refine (WC _).mono ?_
  rintro e w2 ⟨rfl, rfl⟩
  clear WC y0
  have y3 := hY.x3
  have y4 := hY.x4
  have HR1 : Hid (cks x.typ = true → R = T + a6 + a7) := fun h => by rw [HR.out, if_pos h]
  have HR2 : Hid (cks x.typ = false → R = T) := fun h => by rw [HR.out, h]; rfl
  clear HR
  cases hq : cks x.typ with
  | false =>
    go_wp2
    go_ret
    exact ⟨by rw [HR2.out hq]; rfl, hY.2.2⟩
  | true =>
    go_wp2_with fail
    go_region_held3 (fun V => V.cell? ⟨w.heap.size + 1, 3, none⟩ = some (.int .i64 x.chk) ∧ V.cell? ⟨w.heap.size + 1, 4, none⟩ = some (.int .i64 x.rep) ∧ BX w k x V)
      (first | (exact ⟨hY.x3, hY.x4, hY⟩) | (exact ⟨hY.drew.x3, hY.drew.x4, hY.drew⟩))
      (first
        | (go_at_call_of 132 (Value.int .i64 x.chk); refine (W6 _ hY.drew).mono ?_; clear hY; rintro e w' ⟨rfl, hY⟩)
        | (go_at_call_of 132 (Value.int .i64 x.rep); refine (W7 _ hY).mono ?_; clear hY; rintro e w' ⟨rfl, hY⟩))
    go_wp2
    go_ret
    exact ⟨by rw [HR1.out hq]; rfl, hY.2.2⟩

end Go.Proofs.YtfghdhikjhbbgaeDoor

namespace Go.Proofs.YtfghdhikjhbbgaeDoor
open Go.RowKit

/-- What lies there while the reference looks for the room. -/
structure RmI (k : Pk) (w : World) (x : Pc) (n : Nat) (wr : World) : Prop where
  ses : wr.heap[w.heap.size]? = some (.cells #[.int .i64 k.org, .int .i64 k.num] 23)
  pcl : wr.heap[w.heap.size + 1]? = some (.cells #[.int .i64 k.srv, .int .i64 k.size, .int .i64 k.red, .int .i64 k.mtu, .int .i64 k.every] 25)
  box : ∃ t : Int, wr.heap[w.heap.size + 2]? = some (.cells #[.int .i64 x.typ, .int .i64 x.frm, .int .i64 t, .int .i64 x.chk, .int .i64 x.rep] 38)
  bel : Below w.heap.size w wr
  fit : n = 0 ∨ fitB (frX k x) k.mtu n = true

theorem set5 {w : World} {b : Nat} {a0 a1 a2 a3 a4 u : Value} {t : TypeId} (h : w.heap[b]? = some (.cells #[a0, a1, a2, a3, a4] t (0, 0))) : (w.setCell ⟨b, 2, none⟩ u).heap[b]? = some (.cells #[a0, a1, u, a3, a4] t (0, 0)) := by
  have hb := (Array.getElem?_eq_some_iff.1 h).1
  simp [World.setCell, Array.getElem?_modify, h]

theorem RmI.set {k : Pk} {w wr : World} {x : Pc} {n : Nat} (h : RmI k w x n wr) (t : Int) : RmI k w x n (wr.setCell ⟨w.heap.size + 2, 2, none⟩ (.int .i64 t)) ∧ (wr.setCell ⟨w.heap.size + 2, 2, none⟩ (.int .i64 t)).heap[w.heap.size + 2]? = some (.cells #[.int .i64 x.typ, .int .i64 x.frm, .int .i64 t, .int .i64 x.chk, .int .i64 x.rep] 38) := by
  obtain ⟨t0, hb⟩ := h.box
  have h5 := set5 (u := .int .i64 t) hb
  exact ⟨⟨(Below.heap_setCell _ _ _ _ (by simp)).trans h.ses, (Below.heap_setCell _ _ _ _ (by simp)).trans h.pcl, ⟨t, h5⟩, h.bel.setCell (by simp) _, h.fit⟩, h5⟩
theorem RmI.below {k : Pk} {w wr wr' : World} {x : Pc} {n : Nat} (h : RmI k w x n wr) (hb : Below wr.heap.size wr wr') : RmI k w x n wr' := by
  obtain ⟨t0, hx⟩ := h.box
  exact ⟨(hb.block _ (Array.getElem?_eq_some_iff.1 h.ses).1).trans h.ses, (hb.block _ (Array.getElem?_eq_some_iff.1 h.pcl).1).trans h.pcl, ⟨t0, (hb.block _ (Array.getElem?_eq_some_iff.1 hx).1).trans hx⟩, h.bel.trans (hb.mono h.bel.size), h.fit⟩

set_option maxRecDepth 100000 in
set_option maxHeartbeats 4000000 in
theorem room2_any {k : Pk} (ok : k.Ok) (x : Pc) (w : World) (h0 : 0 ≤ x.frm) (h1 : x.frm ≤ 65535) (hc : 0 ≤ x.chk ∧ x.chk ≤ 4611686018427387903) (hr : 0 ≤ x.rep ∧ x.rep ≤ 4611686018427387903) :
    Calls Tryd.prog 55 #[.agg #[.int .i64 k.org, .int .i64 k.num], .agg #[.int .i64 k.srv, .int .i64 k.size, .int .i64 k.red, .int .i64 k.mtu, .int .i64 k.every], .agg (pcC x)] w fun e w' => e = .returned (.int .i64 (rmz (frX k x) k.mtu)) ∧ Below w.heap.size w w' := by
  have HST : Hid (RmI k w x 0 (((w.alloc (.cells #[.int .i64 k.org, .int .i64 k.num] 23)).alloc (.cells #[.int .i64 k.srv, .int .i64 k.size, .int .i64 k.red, .int .i64 k.mtu, .int .i64 k.every] 25)).alloc (.cells (pcC x) 38))) := by
    refine ⟨heapA (heapA (heap_alloc_new' _ _) _) _, ?_, ⟨x.to, ?_⟩, (((Below.refl _ _).alloc (Nat.le_refl _) _).alloc (by simp) _).alloc (by simp; omega) _, .inl rfl⟩
    · have := heap_alloc_new' (w.alloc (.cells #[.int .i64 k.org, .int .i64 k.num] 23)) (.cells #[.int .i64 k.srv, .int .i64 k.size, .int .i64 k.red, .int .i64 k.mtu, .int .i64 k.every] 25)
      rw [World.size_alloc] at this; exact heapA this _
    · have := heap_alloc_new' ((w.alloc (.cells #[.int .i64 k.org, .int .i64 k.num] 23)).alloc (.cells #[.int .i64 k.srv, .int .i64 k.size, .int .i64 k.red, .int .i64 k.mtu, .int .i64 k.every] 25)) (.cells (pcC x) 38)
      rw [World.size_alloc, World.size_alloc] at this; exact this
  have m1 := ok.mtu.1; have m2 := ok.mtu.2
  have OK : Hid k.Ok := ok
  have HF : Hid (0 ≤ frX k x) := by unfold Hid frX fr1 fr0; split <;> omega
  have BY : Hid (∀ (n : Nat) (V : World), n ≤ 5000 → Calls Tryd.prog 107 #[.agg #[.int .i64 k.org, .int .i64 k.num], .int .i64 k.srv, .agg #[.int .i64 x.typ, .int .i64 x.frm, .int .i64 (x.frm + n), .int .i64 x.chk, .int .i64 x.rep]] V fun e w' => e = .returned (.int .i64 (frX k x + sz n + n)) ∧ Below V.heap.size V w') :=
    fun n V hn => bytes2_any ok ⟨x.typ, x.frm, x.frm + n, x.chk, x.rep⟩ n V h0 h1 hn rfl hc hr
  clear ok
  have HZ : Hid (∀ n : Nat, (n = 0 ∨ fitB (frX k x) k.mtu n = true) → (n : Int) ≤ k.mtu) := by
    rintro n (rfl | h)
    · show (0 : Int) ≤ _; omega
    · have := of_decide_eq_true h; have := HF.out; omega
  go_enter Tryd.func55, Tryd.ntmps55
  go_wp2_with fail
  go_loopw [7] (fun q wr => ∃ n : Nat, q = .int .i64 n ∧ RmI k w x n wr) (fun q _ => (5000 - intOf q).toNat)
  case atStart => exact ⟨0, rfl, HST.out⟩
  case round =>
    obtain ⟨n, rfl, hg⟩ := hrel
    clear HST
    have hn := HZ.out n hg.fit
    have HG := hg.set (x.frm + ((n + 1 : Nat) : Int))
    have hby := BY.out (n + 1) (wr.setCell ⟨w.heap.size + 2, 2, none⟩ (.int .i64 (x.frm + ((n + 1 : Nat) : Int)))) (by omega)
    obtain ⟨t0, hbx⟩ := hg.box
    obtain ⟨z0, z1, z2, z3, z4, f0, f1, f2, f3, f4⟩ := box5 hbx
    obtain ⟨y0, y1, y2, y3, y4, _, _, _, _, _⟩ := box5 hg.pcl
    have s0 : wr.cell? ⟨w.heap.size, 0, none⟩ = some (.int .i64 k.org) := cell_of_row _ _ 0 _ _ _ hg.ses
    have s1 : wr.cell? ⟨w.heap.size, 1, none⟩ = some (.int .i64 k.num) := cell_of_row _ _ 1 _ _ _ hg.ses
    have HG' : Hid (RmI k w x n wr) := hg
    clear hg hbx
    have HS : Hid (RmI k w x n (wr.setCell ⟨w.heap.size + 2, 2, none⟩ (.int .i64 (x.frm + ((n + 1 : Nat) : Int))))) := HG.1
    clear HG
    have u1 : IntKind.i64.wrap (x.frm + (n : Int)) = x.frm + n := by rw [IntKind.wrap_i64]; omega
    have u2 : IntKind.i64.wrap (x.frm + (n : Int) + 1) = x.frm + ((n + 1 : Nat) : Int) := by rw [IntKind.wrap_i64]; omega
    obtain ⟨T, hT⟩ : ∃ T, x.frm + ((n + 1 : Nat) : Int) = T := ⟨_, rfl⟩
    rw [hT] at hby HS u2
    clear hT
    have HN : Hid (fitB (frX k x) k.mtu ((n : Int) + 1) = decide (frX k x + sz ((n + 1 : Nat) : Int) + ((n + 1 : Nat) : Int) ≤ k.mtu)) := by
      unfold Hid fitB; rfl
    obtain ⟨S, hS⟩ : ∃ S, frX k x + sz ((n + 1 : Nat) : Int) + ((n + 1 : Nat) : Int) = S := ⟨_, rfl⟩
    rw [hS] at hby HN
    clear hS
    go_wp2_with fail
    refine hby.mono ?_
    rintro e w2 ⟨rfl, hb⟩
    have HI : Hid (RmI k w x n w2) := HS.out.below hb
    clear hby hb HS z0 z1 z2 z3 z4 f0 f1 f2 f3 f4 y0 y1 y2 y3 y4 s0 s1
    obtain ⟨_, _, _, y3, _, _, _, _, _, _⟩ := box5 HI.out.pcl
    have u3 : IntKind.i64.wrap ((n : Int) + 1) = (n : Int) + 1 := by rw [IntKind.wrap_i64]; omega
    by_cases hlt : k.mtu < S
    · go_wp2
      go_ret
      refine ⟨?_, HI.out.bel⟩
      rw [rmz_eq hn m2 HI.out.fit (by rw [HN.out]; exact decide_eq_false (by omega))]
      rfl
    · have HN' : Hid (RmI k w x (n + 1) w2) := ⟨HI.out.ses, HI.out.pcl, HI.out.box, HI.out.bel, .inr (by rw [Int.natCast_add]; exact HN.out.trans (decide_eq_true (by omega)))⟩
      clear HI HN
      go_wp2
      go_roundw
      case rel => exact ⟨n + 1, by simp, HN'.out⟩
      case measure => simp [intOf]; omega

end Go.Proofs.YtfghdhikjhbbgaeDoor

namespace Go.Proofs.YtfghdhikjhbbgaeDoor
open Go.RowKit

set_option maxHeartbeats 1000000 in
theorem ended_any (k : Pk) (T : Int) (w : World) (hto : T ≤ k.red) :
    Calls Tryd.prog 56 #[.agg #[.int .i64 k.srv, .int .i64 k.size, .int .i64 k.red, .int .i64 k.mtu, .int .i64 k.every], .int .i64 T] w fun e w' => e = .returned (.int .i64 (ckT k T)) ∧ Below w.heap.size w w' := by
  have HB : Hid (Below w.heap.size w (w.alloc (.cells #[.int .i64 k.srv, .int .i64 k.size, .int .i64 k.red, .int .i64 k.mtu, .int .i64 k.every] 25))) := (Below.refl _ _).alloc (Nat.le_refl _) _
  have HS : Hid (ckT k T = if T = k.red then (if k.red < k.size then 2 else 3) else 1) := by
    unfold Hid ckT endT; split <;> (try split) <;> (try split) <;> omega
  generalize ckT k T = q at *
  go_enter Tryd.func56, Tryd.ntmps56
  by_cases h0 : T < k.red
  · go_wp2
    go_ret
    exact ⟨by rw [HS.out, if_neg (by omega)]; rfl, HB.out⟩
  by_cases h1 : k.red < k.size
  · go_wp2
    go_ret
    exact ⟨by rw [HS.out, if_pos (by omega), if_pos h1]; rfl, HB.out⟩
  go_wp2
  go_ret
  exact ⟨by rw [HS.out, if_pos (by omega), if_neg (by omega)]; rfl, HB.out⟩

/-- The reference asks for a checkpoint where the program does. -/
theorem redC_iff {k : Pk} {at' base plains : Int} (hp : 0 ≤ plains) : redC k at' base plains = (decide (k.red - at' ≤ ro1 k at' (base + 1) 0) || (decide (0 < k.every) && decide (plains = k.every - 1))) := by
  rw [Bool.eq_iff_iff]
  simp only [redC, Bool.or_eq_true, Bool.and_eq_true, decide_eq_true_eq]
  constructor
  · rintro (h | h)
    · left; omega
    · right; omega
  · rintro (h | h)
    · left; omega
    · right; omega

/-- Rooms of the pieces that the reference tries. -/
theorem room_c {k : Pk} (ok : k.Ok) (at' b : Int) (w : World) (h0 : 0 ≤ at') (h1 : at' ≤ 65535) (hb : 0 ≤ b ∧ b ≤ 4611686018427387903) :
    Calls Tryd.prog 55 #[.agg #[.int .i64 k.org, .int .i64 k.num], .agg #[.int .i64 k.srv, .int .i64 k.size, .int .i64 k.red, .int .i64 k.mtu, .int .i64 k.every], .agg #[.int .i64 1, .int .i64 at', .int .i64 0, .int .i64 b, .int .i64 0]] w fun e w' => e = .returned (.int .i64 (ro1 k at' b 0)) ∧ Below w.heap.size w w' :=
  room2_any ok ⟨1, at', 0, b, 0⟩ w h0 h1 hb (by show (0 : Int) ≤ 0 ∧ (0 : Int) ≤ 4611686018427387903; decide)
theorem room_p {k : Pk} (ok : k.Ok) (t at' : Int) (ht : t = 0 ∨ t = 4) (w : World) (h0 : 0 ≤ at') (h1 : at' ≤ 65535) :
    Calls Tryd.prog 55 #[.agg #[.int .i64 k.org, .int .i64 k.num], .agg #[.int .i64 k.srv, .int .i64 k.size, .int .i64 k.red, .int .i64 k.mtu, .int .i64 k.every], .agg #[.int .i64 t, .int .i64 at', .int .i64 0, .int .i64 0, .int .i64 0]] w fun e w' => e = .returned (.int .i64 (ro0 k at')) ∧ Below w.heap.size w w' := by
  rcases ht with rfl | rfl
  · exact room2_any ok ⟨0, at', 0, 0, 0⟩ w h0 h1 (by show (0 : Int) ≤ 0 ∧ (0 : Int) ≤ 4611686018427387903; decide) (by show (0 : Int) ≤ 0 ∧ (0 : Int) ≤ 4611686018427387903; decide)
  · exact room2_any ok ⟨4, at', 0, 0, 0⟩ w h0 h1 (by show (0 : Int) ≤ 0 ∧ (0 : Int) ≤ 4611686018427387903; decide) (by show (0 : Int) ≤ 0 ∧ (0 : Int) ≤ 4611686018427387903; decide)

/-- How far the reference has cut: the red part. -/
structure CR (k : Pk) (w : World) (base0 : Int) (v : Value) (at' base plains : Int) (l : List Pc) (f : Nat) (wr : World) : Prop where
  lo : 0 ≤ at'
  hi : at' ≤ k.red
  own : POwn wr (w.heap.size + 2) v l
  bel : Below w.heap.size w wr
  ses : wr.heap[w.heap.size]? = some (.cells #[.int .i64 k.org, .int .i64 k.num] 23)
  pcl : wr.heap[w.heap.size + 1]? = some (.cells #[.int .i64 k.srv, .int .i64 k.size, .int .i64 k.red, .int .i64 k.mtu, .int .i64 k.every] 25)
  whole : redG k k.red.toNat 0 base0 0 = l ++ redG k f at' base plains
  fuel : k.red - at' ≤ f
  len : l.length ≤ at'
  bas : base0 ≤ base ∧ base ≤ base0 + l.length
  pla : 0 ≤ plains ∧ plains ≤ l.length
theorem CR.size {k : Pk} {w wr : World} {b0 b p : Int} {v : Value} {at' : Int} {l : List Pc} {f : Nat} (h : CR k w b0 v at' b p l f wr) : w.heap.size + 2 ≤ wr.heap.size := by
  obtain ⟨hi, _⟩ := Array.getElem?_eq_some_iff.mp h.pcl; exact hi

theorem CR.step {k : Pk} {w wr W w5 : World} {b0 b p : Int} {v v' : Value} {at' : Int} {l : List Pc} {f : Nat} (h : CR k w b0 v at' b p l f wr) (ok : k.Ok) (hlt : at' < k.red) (hb0 : 0 ≤ b0 ∧ b0 ≤ 4611686018427322367) (hb : Below wr.heap.size wr W)
    (hown : w5.ownsRow (w.heap.size + 2) 38 5 v' (l.length + 1) (l.flatMap pcL ++ pcL (nxP k at' b p))) (hgr : W.grownBy w5 v.ownBlock) : ∃ f', CR k w b0 v' (nxP k at' b p).to (nxB k at' b p) (nxN k at' b p) (l ++ [nxP k at' b p]) f' w5 := by
  have hlen := h.len; have hhi := h.hi; have hbas := h.bas; have hpla := h.pla; have hsz := ok.size; have hrd := ok.red
  have hto := nxP_to ok (base := b) (plains := p) h.lo hlt ⟨by omega, by omega⟩
  have hfu := h.fuel
  obtain ⟨f', rfl⟩ : ∃ f', f = f' + 1 := ⟨f - 1, by omega⟩
  have hrow := row_ge h.own
  have hs := h.size
  refine ⟨f', by have := h.lo; omega, hto.2, ?_, ?_, ?_, ?_, ?_, by omega, ?_, ?_, ?_⟩
  · unfold POwn
    rw [List.flatMap_append, show (l ++ [nxP k at' b p]).length = l.length + 1 from by simp, show [nxP k at' b p].flatMap pcL = pcL (nxP k at' b p) from by simp]
    exact hown
  · exact (h.bel.trans (hb.mono (by omega))).grown hgr (by have := hb.size; omega) (fun r hr => by have := hrow r hr; omega)
  · rw [hgr.block _ (by have := hb.size; omega) (fun e => by have := hrow _ e.symm; omega), hb.block _ (by omega)]
    exact h.ses
  · rw [hgr.block _ (by have := hb.size; omega) (fun e => by have := hrow _ e.symm; omega), hb.block _ (by omega)]
    exact h.pcl
  · rw [h.whole, redG_nx hlt]; simp
  · simp; omega
  · simp only [List.length_append, List.length_cons, List.length_nil]
    unfold nxB; split <;> omega
  · simp only [List.length_append, List.length_cons, List.length_nil]
    unfold nxN; split <;> omega

/-- The green part, behind what the red one laid (l0). -/
structure CG (k : Pk) (w : World) (l0 : List Pc) (v : Value) (at' : Int) (l : List Pc) (f : Nat) (wr : World) : Prop where
  lo : k.red ≤ at'
  hi : at' ≤ k.size
  own : POwn wr (w.heap.size + 2) v (l0 ++ l)
  bel : Below w.heap.size w wr
  ses : wr.heap[w.heap.size]? = some (.cells #[.int .i64 k.org, .int .i64 k.num] 23)
  pcl : wr.heap[w.heap.size + 1]? = some (.cells #[.int .i64 k.srv, .int .i64 k.size, .int .i64 k.red, .int .i64 k.mtu, .int .i64 k.every] 25)
  whole : grnG k (k.size - k.red).toNat k.red = l ++ grnG k f at'
  fuel : k.size - at' ≤ f
  len : (l0 ++ l).length ≤ at'
theorem CG.size {k : Pk} {w wr : World} {v : Value} {at' : Int} {l0 l : List Pc} {f : Nat} (h : CG k w l0 v at' l f wr) : w.heap.size + 2 ≤ wr.heap.size := by
  obtain ⟨hi, _⟩ := Array.getElem?_eq_some_iff.mp h.pcl; exact hi

theorem CG.step {k : Pk} {w wr W w5 : World} {v v' : Value} {at' : Int} {l0 l : List Pc} {f : Nat} (h : CG k w l0 v at' l f wr) (ok : k.Ok) (hlt : at' < k.size) (hb : Below wr.heap.size wr W)
    (hown : w5.ownsRow (w.heap.size + 2) 38 5 v' ((l0 ++ l).length + 1) ((l0 ++ l).flatMap pcL ++ pcL (gPc k at'))) (hgr : W.grownBy w5 v.ownBlock) : ∃ f', CG k w l0 v' (gPc k at').to (l ++ [gPc k at']) f' w5 := by
  have hto := gPc_to ok (by have := ok.red; have := h.lo; omega) hlt
  have hfu := h.fuel
  obtain ⟨f', rfl⟩ : ∃ f', f = f' + 1 := ⟨f - 1, by omega⟩
  have hrow := row_ge h.own
  have hs := h.size
  refine ⟨f', by have := h.lo; omega, hto.2, ?_, ?_, ?_, ?_, ?_, by omega, ?_⟩
  · unfold POwn
    rw [← List.append_assoc, List.flatMap_append, show ((l0 ++ l) ++ [gPc k at']).length = (l0 ++ l).length + 1 from by simp; omega, show [gPc k at'].flatMap pcL = pcL (gPc k at') from by simp]
    exact hown
  · exact (h.bel.trans (hb.mono (by omega))).grown hgr (by have := hb.size; omega) (fun r hr => by have := hrow r hr; omega)
  · rw [hgr.block _ (by have := hb.size; omega) (fun e => by have := hrow _ e.symm; omega), hb.block _ (by omega)]
    exact h.ses
  · rw [hgr.block _ (by have := hb.size; omega) (fun e => by have := hrow _ e.symm; omega), hb.block _ (by omega)]
    exact h.pcl
  · rw [h.whole, grnG, if_pos hlt]; simp
  · have := h.len
    simp only [List.length_append, List.length_cons, List.length_nil] at *; omega

/-- From the red part to the green one; and the end. -/
theorem CR.green {k : Pk} {w wr : World} {b0 b p : Int} {v : Value} {at' : Int} {l : List Pc} {f : Nat} (h : CR k w b0 v at' b p l f wr) (ok : k.Ok) (hge : k.red ≤ at') : at' = k.red ∧ l = redG k k.red.toNat 0 b0 0 ∧ CG k w l v k.red [] (k.size - k.red).toNat wr := by
  have hat : at' = k.red := by have := h.hi; omega
  have hw := h.whole
  rw [redG_end hge, List.append_nil] at hw
  have hr := ok.red
  refine ⟨hat, hw.symm, by omega, by omega, by rw [List.append_nil]; exact h.own, h.bel, h.ses, h.pcl, rfl, by omega, ?_⟩
  rw [List.append_nil, ← hat]; exact h.len
theorem CG.done {k : Pk} {w wr : World} {b0 : Int} {v : Value} {at' : Int} {l : List Pc} {f : Nat} (h : CG k w (redG k k.red.toNat 0 b0 0) v at' l f wr) (hge : k.size ≤ at') : POwn wr w.heap.size v (cutL k b0) := by
  have hw := h.whole
  have he : grnG k f at' = [] := by
    cases f with
    | zero => rfl
    | succ f => rw [grnG, if_neg (by omega)]
  rw [he, List.append_nil] at hw
  unfold cutL
  rw [hw]
  exact h.own.weak (by omega)

end Go.Proofs.YtfghdhikjhbbgaeDoor

namespace Go.Proofs.YtfghdhikjhbbgaeDoor
open Go.RowKit

theorem setAll {w : World} {b : Nat} {a0 a1 a2 a3 a4 u0 u1 u2 u3 u4 : Value} {t : TypeId} (h : w.heap[b]? = some (.cells #[a0, a1, a2, a3, a4] t (0, 0))) : (((((w.setCell ⟨b, 0, none⟩ u0).setCell ⟨b, 1, none⟩ u1).setCell ⟨b, 2, none⟩ u2).setCell ⟨b, 3, none⟩ u3).setCell ⟨b, 4, none⟩ u4).heap[b]? = some (.cells #[u0, u1, u2, u3, u4] t (0, 0)) := by
  have hb := (Array.getElem?_eq_some_iff.1 h).1
  simp [World.setCell, Array.getElem?_modify, h]
theorem set50 {w : World} {b : Nat} {a0 a1 a2 a3 a4 u : Value} {t : TypeId} (h : w.heap[b]? = some (.cells #[a0, a1, a2, a3, a4] t (0, 0))) : (w.setCell ⟨b, 0, none⟩ u).heap[b]? = some (.cells #[u, a1, a2, a3, a4] t (0, 0)) := by
  have hb := (Array.getElem?_eq_some_iff.1 h).1
  simp [World.setCell, Array.getElem?_modify, h]

end Go.Proofs.YtfghdhikjhbbgaeDoor
