import Derived.Test.YtgmbpagbiakciadDoorAll
import Derived.Test.YtgmbpagbiakciadDoorBkCut
import Derived.Deep.RegionHeld3
import Derived.Test.YtgmbpagbiakciadDoorBkGrn
namespace Go.Proofs.YtgmbpagbiakciadDoor
open Go.RowKit

/-! ## The reference: numbers, types, sessions, parcels -/

theorem rsize_any (n : Int) (w : World) (h0 : 0 ≤ n) (h1 : n ≤ 18446744073709551615) :
    Calls Tryd.prog 108 #[.int .u64 n] w fun e w' => e = .returned (.int .i64 (sz n)) ∧ Below w.heap.size w w' := by
  have hd := R.digits_any n w h0 h1
  generalize sz n = S at *
  go_enter Tryd.func108, Tryd.ntmps108
  go_wp2_with fail
  refine hd.mono ?_
  rintro e w1 ⟨g, cap, rfl, _, hb⟩
  clear hd
  go_wp2
  go_ret
  exact ⟨rfl, hb⟩

theorem wide_any (n : Int) (w : World) (h0 : 0 ≤ n) (h1 : n ≤ 9223372036854775807) :
    Calls Tryd.prog 88 #[.int .i64 n] w fun e w' => e = .returned (.int .i64 (sz n)) ∧ Below w.heap.size w w' := by
  have hd := rsize_any n w h0 (by omega)
  have hwr : IntKind.u64.wrap n = n := by rw [IntKind.wrap_u64]; omega
  generalize sz n = S at *
  go_enter Tryd.func88, Tryd.ntmps88
  go_wp2_with fail
  refine hd.mono ?_
  rintro e w1 ⟨rfl, hb⟩
  clear hd
  go_wp2
  go_ret
  exact ⟨rfl, hb⟩

theorem check_any (t : Int) (w : World) :
    Calls Tryd.prog 74 #[.int .i64 t] w fun e w' => e = .returned (.bool (cks t)) ∧ w = w' := by
  have HC : Hid (cks t = (t == 1 || t == 2 || t == 3)) := rfl
  generalize cks t = q at *
  go_enter Tryd.func74, Tryd.ntmps74
  by_cases h1 : t = 1
  · subst h1
    go_wp2
    go_ret
    exact ⟨by rw [HC.out]; rfl, rfl⟩
  have e1 : (t == 1) = false := beq_false_of_ne h1
  by_cases h2 : t = 2
  · subst h2
    go_wp2
    go_ret
    exact ⟨by rw [HC.out]; rfl, rfl⟩
  have e2 : (t == 2) = false := beq_false_of_ne h2
  by_cases h3 : t = 3
  · subst h3
    go_wp2
    go_ret
    exact ⟨by rw [HC.out]; rfl, rfl⟩
  have e3 : (t == 3) = false := beq_false_of_ne h3
  go_wp2
  go_ret
  exact ⟨by rw [HC.out, e1, e2, e3]; rfl, rfl⟩

set_option maxHeartbeats 1000000 in
theorem session2_any (k : Pk) (w : World) :
    Calls Tryd.prog 37 #[.agg #[.int .i64 k.org, .int .i64 k.num]] w fun e w' => e = .returned (.bool (sesB k)) ∧ Below w.heap.size w w' := by
  have HB : Hid (Below w.heap.size w (w.alloc (.cells #[.int .i64 k.org, .int .i64 k.num] 26))) := (Below.refl _ _).alloc (Nat.le_refl _) _
  have HS : Hid (sesB k = decide (1 ≤ k.org ∧ k.org ≤ 4611686018427387903 ∧ 1 ≤ k.num ∧ k.num ≤ 4611686018427387902)) := rfl
  generalize sesB k = q at *
  go_enter Tryd.func37, Tryd.ntmps37
  by_cases h0 : 1 ≤ k.org
  rotate_left
  · go_wp2
    go_ret
    exact ⟨by rw [HS.out, decide_eq_false (by omega)]; rfl, HB.out⟩
  by_cases h1 : k.org ≤ 4611686018427387903
  rotate_left
  · go_wp2
    go_ret
    exact ⟨by rw [HS.out, decide_eq_false (by omega)]; rfl, HB.out⟩
  by_cases h2 : 1 ≤ k.num
  rotate_left
  · go_wp2
    go_ret
    exact ⟨by rw [HS.out, decide_eq_false (by omega)]; rfl, HB.out⟩
  by_cases h3 : k.num < 4611686018427387903
  rotate_left
  · go_wp2
    go_ret
    exact ⟨by rw [HS.out, decide_eq_false (by omega)]; rfl, HB.out⟩
  go_wp2
  go_ret
  exact ⟨by rw [HS.out, decide_eq_true (by omega)]; rfl, HB.out⟩

set_option maxHeartbeats 1000000 in
theorem parcel2_any (k : Pk) (w : World) :
    Calls Tryd.prog 38 #[.agg #[.int .i64 k.srv, .int .i64 k.size, .int .i64 k.red, .int .i64 k.mtu, .int .i64 k.every]] w fun e w' => e = .returned (.bool (pclB k)) ∧ Below w.heap.size w w' := by
  have HB : Hid (Below w.heap.size w (w.alloc (.cells #[.int .i64 k.srv, .int .i64 k.size, .int .i64 k.red, .int .i64 k.mtu, .int .i64 k.every] 28))) := (Below.refl _ _).alloc (Nat.le_refl _) _
  have HS : Hid (pclB k = decide (0 ≤ k.srv ∧ k.srv ≤ 4611686018427387903 ∧ 1 ≤ k.size ∧ k.size ≤ 65536 ∧ 0 ≤ k.red ∧ k.red ≤ k.size ∧ 80 ≤ k.mtu ∧ k.mtu ≤ 4096 ∧ 0 ≤ k.every ∧ k.every ≤ 65536)) := rfl
  generalize pclB k = q at *
  go_enter Tryd.func38, Tryd.ntmps38
  by_cases h0 : 0 ≤ k.srv
  rotate_left
  · go_wp2
    go_ret
    exact ⟨by rw [HS.out, decide_eq_false (by omega)]; rfl, HB.out⟩
  by_cases h1 : k.srv ≤ 4611686018427387903
  rotate_left
  · go_wp2
    go_ret
    exact ⟨by rw [HS.out, decide_eq_false (by omega)]; rfl, HB.out⟩
  by_cases h2 : 1 ≤ k.size
  rotate_left
  · go_wp2
    go_ret
    exact ⟨by rw [HS.out, decide_eq_false (by omega)]; rfl, HB.out⟩
  by_cases h3 : k.size ≤ 65536
  rotate_left
  · go_wp2
    go_ret
    exact ⟨by rw [HS.out, decide_eq_false (by omega)]; rfl, HB.out⟩
  by_cases h4 : 0 ≤ k.red
  rotate_left
  · go_wp2
    go_ret
    exact ⟨by rw [HS.out, decide_eq_false (by omega)]; rfl, HB.out⟩
  by_cases h5 : k.red ≤ k.size
  rotate_left
  · go_wp2
    go_ret
    exact ⟨by rw [HS.out, decide_eq_false (by omega)]; rfl, HB.out⟩
  by_cases h6 : 80 ≤ k.mtu
  rotate_left
  · go_wp2
    go_ret
    exact ⟨by rw [HS.out, decide_eq_false (by omega)]; rfl, HB.out⟩
  by_cases h7 : k.mtu ≤ 4096
  rotate_left
  · go_wp2
    go_ret
    exact ⟨by rw [HS.out, decide_eq_false (by omega)]; rfl, HB.out⟩
  by_cases h8 : 0 ≤ k.every
  rotate_left
  · go_wp2
    go_ret
    exact ⟨by rw [HS.out, decide_eq_false (by omega)]; rfl, HB.out⟩
  by_cases h9 : k.every ≤ 65536
  rotate_left
  · go_wp2
    go_ret
    exact ⟨by rw [HS.out, decide_eq_false (by omega)]; rfl, HB.out⟩
  go_wp2
  go_ret
  exact ⟨by rw [HS.out, decide_eq_true (by omega)]; rfl, HB.out⟩

end Go.Proofs.YtgmbpagbiakciadDoor

namespace Go.Proofs.YtgmbpagbiakciadDoor
open Go.RowKit

/-- What lies there while the calls go on. -/
def BX (w : World) (k : Pk) (x : Pc) (V : World) : Prop := V.heap[w.heap.size]? = some (.cells #[.int .i64 k.org, .int .i64 k.num] 26) ∧ V.heap[w.heap.size + 1]? = some (.cells (pcC x) 46) ∧ Below w.heap.size w V
theorem BX.s0 {w V : World} {k : Pk} {x : Pc} (h : BX w k x V) : V.cell? ⟨w.heap.size, 0, none⟩ = some (.int .i64 k.org) := cell_of_row _ _ 0 _ _ _ h.1
theorem BX.s1 {w V : World} {k : Pk} {x : Pc} (h : BX w k x V) : V.cell? ⟨w.heap.size, 1, none⟩ = some (.int .i64 k.num) := cell_of_row _ _ 1 _ _ _ h.1
theorem BX.x0 {w V : World} {k : Pk} {x : Pc} (h : BX w k x V) : V.cell? ⟨w.heap.size + 1, 0, none⟩ = some (.int .i64 x.typ) := cell_of_row _ _ 0 _ _ _ h.2.1
theorem BX.x1 {w V : World} {k : Pk} {x : Pc} (h : BX w k x V) : V.cell? ⟨w.heap.size + 1, 1, none⟩ = some (.int .i64 x.frm) := cell_of_row _ _ 1 _ _ _ h.2.1
theorem BX.x3 {w V : World} {k : Pk} {x : Pc} (h : BX w k x V) : V.cell? ⟨w.heap.size + 1, 3, none⟩ = some (.int .i64 x.chk) := cell_of_row _ _ 3 _ _ _ h.2.1
theorem BX.x4 {w V : World} {k : Pk} {x : Pc} (h : BX w k x V) : V.cell? ⟨w.heap.size + 1, 4, none⟩ = some (.int .i64 x.rep) := cell_of_row _ _ 4 _ _ _ h.2.1
theorem BX.below {w V V' : World} {k : Pk} {x : Pc} (h : BX w k x V) (hb : Below V.heap.size V V') : BX w k x V' :=
  ⟨(hb.block _ (Array.getElem?_eq_some_iff.1 h.1).1).trans h.1, (hb.block _ (Array.getElem?_eq_some_iff.1 h.2.1).1).trans h.2.1, h.2.2.trans (hb.mono h.2.2.size)⟩
theorem BX.drew {w V : World} {k : Pk} {x : Pc} (h : BX w k x V) : BX w k x V.drew := ⟨h.1, h.2.1, h.2.2.drew⟩

set_option maxRecDepth 100000 in
set_option maxHeartbeats 4000000 in
theorem bytes2_any {k : Pk} (ok : k.Ok) (x : Pc) (n : Nat) (w : World) (h0 : 0 ≤ x.frm) (h1 : x.frm ≤ 65535) (hn : n ≤ 5000) (hto : x.to = x.frm + n) (hc : 0 ≤ x.chk ∧ x.chk ≤ 4611686018427387903) (hr : 0 ≤ x.rep ∧ x.rep ≤ 4611686018427387903) :
    Calls Tryd.prog 71 #[.agg #[.int .i64 k.org, .int .i64 k.num], .int .i64 k.srv, .agg (pcC x)] w fun e w' => e = .returned (.int .i64 (frX k x + sz n + n)) ∧ Below w.heap.size w w' := by
  have hX : BX w k x ((w.alloc (.cells #[.int .i64 k.org, .int .i64 k.num] 26)).alloc (.cells (pcC x) 46)) := by
    refine ⟨heapA (heap_alloc_new' _ _) _, ?_, ((Below.refl _ _).alloc (Nat.le_refl _) _).alloc (by simp) _⟩
    have := heap_alloc_new' (w.alloc (.cells #[.int .i64 k.org, .int .i64 k.num] 26)) (.cells (pcC x) 46)
    rw [World.size_alloc] at this; exact this
  have o1 := ok.org; have o2 := ok.num; have o3 := ok.srv
  have W1 : ∀ V, BX w k x V → Calls Tryd.prog 88 #[.int .i64 k.org] V fun e w' => e = .returned (.int .i64 (sz k.org)) ∧ BX w k x w' := fun V h => (wide_any k.org V (by omega) (by omega)).mono fun e w' ⟨he, hb⟩ => ⟨he, h.below hb⟩
  have W2 : ∀ V, BX w k x V → Calls Tryd.prog 88 #[.int .i64 k.num] V fun e w' => e = .returned (.int .i64 (sz k.num)) ∧ BX w k x w' := fun V h => (wide_any k.num V (by omega) (by omega)).mono fun e w' ⟨he, hb⟩ => ⟨he, h.below hb⟩
  have W3 : ∀ V, BX w k x V → Calls Tryd.prog 88 #[.int .i64 k.srv] V fun e w' => e = .returned (.int .i64 (sz k.srv)) ∧ BX w k x w' := fun V h => (wide_any k.srv V (by omega) (by omega)).mono fun e w' ⟨he, hb⟩ => ⟨he, h.below hb⟩
  have W4 : ∀ V, BX w k x V → Calls Tryd.prog 88 #[.int .i64 x.frm] V fun e w' => e = .returned (.int .i64 (sz x.frm)) ∧ BX w k x w' := fun V h => (wide_any x.frm V (by omega) (by omega)).mono fun e w' ⟨he, hb⟩ => ⟨he, h.below hb⟩
  have W5 : ∀ V, BX w k x V → Calls Tryd.prog 88 #[.int .i64 n] V fun e w' => e = .returned (.int .i64 (sz n)) ∧ BX w k x w' := fun V h => (wide_any n V (by omega) (by omega)).mono fun e w' ⟨he, hb⟩ => ⟨he, h.below hb⟩
  have W6 : ∀ V, BX w k x V → Calls Tryd.prog 88 #[.int .i64 x.chk] V fun e w' => e = .returned (.int .i64 (sz x.chk)) ∧ BX w k x w' := fun V h => (wide_any x.chk V (by omega) (by omega)).mono fun e w' ⟨he, hb⟩ => ⟨he, h.below hb⟩
  have W7 : ∀ V, BX w k x V → Calls Tryd.prog 88 #[.int .i64 x.rep] V fun e w' => e = .returned (.int .i64 (sz x.rep)) ∧ BX w k x w' := fun V h => (wide_any x.rep V (by omega) (by omega)).mono fun e w' ⟨he, hb⟩ => ⟨he, h.below hb⟩
  have WC : ∀ V, Calls Tryd.prog 74 #[.int .i64 x.typ] V fun e w' => e = .returned (.bool (cks x.typ)) ∧ V = w' := fun V => check_any x.typ V
  have hnn : IntKind.i64.wrap (x.to - x.frm) = n := by rw [IntKind.wrap_i64]; omega
  have HTo : Hid (x.to = x.frm + n) := hto
  clear hto
  have b1 := (sz_pos k.org (by omega) (by omega)).2
  have b2 := (sz_pos k.num (by omega) (by omega)).2
  have b3 := (sz_pos k.srv (by omega) (by omega)).2
  have b4 := (sz_pos x.frm (by omega) (by omega)).2
  have b5 := (sz_pos n (by omega) (by omega)).2
  have b6 := (sz_pos x.chk (by omega) (by omega)).2
  have b7 := (sz_pos x.rep (by omega) (by omega)).2
  have HR : Hid (frX k x + sz n + n = if cks x.typ then (1 + sz k.org + sz k.num + 1 + sz k.srv + sz x.frm + sz n + n + sz x.chk + sz x.rep : Int) else 1 + sz k.org + sz k.num + 1 + sz k.srv + sz x.frm + sz n + n) := by
    unfold Hid frX fr1 fr0; split <;> omega
  generalize frX k x + sz n + n = R at *
  generalize sz k.org = a1 at *
  generalize sz k.num = a2 at *
  generalize sz k.srv = a3 at *
  generalize sz x.frm = a4 at *
  generalize sz (n : Int) = a5 at *
  generalize sz x.chk = a6 at *
  generalize sz x.rep = a7 at *
  have u1 : IntKind.i64.wrap (1 + (a1 : Int)) = 1 + a1 := by rw [IntKind.wrap_i64]; omega
  have u2 : IntKind.i64.wrap (1 + (a1 : Int) + a2) = 1 + a1 + a2 := by rw [IntKind.wrap_i64]; omega
  have u3 : IntKind.i64.wrap (1 + (a1 : Int) + a2 + 1) = 1 + a1 + a2 + 1 := by rw [IntKind.wrap_i64]; omega
  have u4 : IntKind.i64.wrap (1 + (a1 : Int) + a2 + 1 + a3) = 1 + a1 + a2 + 1 + a3 := by rw [IntKind.wrap_i64]; omega
  have u5 : IntKind.i64.wrap (1 + (a1 : Int) + a2 + 1 + a3 + a4) = 1 + a1 + a2 + 1 + a3 + a4 := by rw [IntKind.wrap_i64]; omega
  have u6 : IntKind.i64.wrap (1 + (a1 : Int) + a2 + 1 + a3 + a4 + a5) = 1 + a1 + a2 + 1 + a3 + a4 + a5 := by rw [IntKind.wrap_i64]; omega
  have u7 : IntKind.i64.wrap (1 + (a1 : Int) + a2 + 1 + a3 + a4 + a5 + n) = 1 + a1 + a2 + 1 + a3 + a4 + a5 + n := by rw [IntKind.wrap_i64]; omega
  have u8 : IntKind.i64.wrap (1 + (a1 : Int) + a2 + 1 + a3 + a4 + a5 + n + a6) = 1 + a1 + a2 + 1 + a3 + a4 + a5 + n + a6 := by rw [IntKind.wrap_i64]; omega
  have u9 : IntKind.i64.wrap (1 + (a1 : Int) + a2 + 1 + a3 + a4 + a5 + n + a6 + a7) = 1 + a1 + a2 + 1 + a3 + a4 + a5 + n + a6 + a7 := by rw [IntKind.wrap_i64]; omega
  go_enter Tryd.func71, Tryd.ntmps71
  go_wp2_with fail
  go_region_held3 (fun V => V.cell? ⟨w.heap.size, 0, none⟩ = some (.int .i64 k.org) ∧ V.cell? ⟨w.heap.size, 1, none⟩ = some (.int .i64 k.num) ∧ V.cell? ⟨w.heap.size + 1, 1, none⟩ = some (.int .i64 x.frm) ∧ BX w k x V)
    (first | (exact ⟨hX.s0, hX.s1, hX.x1, hX⟩) | (exact ⟨hX.drew.s0, hX.drew.s1, hX.drew.x1, hX.drew⟩) | (exact ⟨hY.s0, hY.s1, hY.x1, hY⟩))
    (first
      | (go_at_call_of 88 (Value.int .i64 k.org); refine (W1 _ hX.drew).mono ?_; rintro e w' ⟨rfl, hY⟩)
      | (go_at_call_of 88 (Value.int .i64 k.num); refine (W2 _ hY).mono ?_; clear hY; rintro e w' ⟨rfl, hY⟩)
      | (go_at_call_of 88 (Value.int .i64 k.srv); refine (W3 _ hY).mono ?_; clear hY; rintro e w' ⟨rfl, hY⟩)
      | (go_at_call_of 88 (Value.int .i64 x.frm); refine (W4 _ hY).mono ?_; clear hY; rintro e w' ⟨rfl, hY⟩)
      | (go_at_call_of 88 (Value.int .i64 (n : Int)); refine (W5 _ hY).mono ?_; clear hY; rintro e w' ⟨rfl, hY⟩))
  clear W1 W2 W3 W4 W5 u1 u2 u3 u4 u5 u6
  have y0 := hY.x0
  generalize 1 + (a1 : Int) + a2 + 1 + a3 + a4 + a5 + n = T at *
  go_wp2_with fail
  refine (WC _).mono ?_
  rintro e w2 ⟨rfl, rfl⟩
  clear WC y0
  have y3 := hY.x3
  have y4 := hY.x4
  have HR1 : Hid (cks x.typ = true → R = T + a6 + a7) := fun h => by rw [HR.out, if_pos h]
  have HR2 : Hid (cks x.typ = false → R = T) := fun h => by rw [HR.out, h]; rfl
  clear HR
  cases hq : cks x.typ with
  | false =>
    go_wp2
    go_ret
    exact ⟨by rw [HR2.out hq]; rfl, hY.2.2⟩
  | true =>
    go_wp2_with fail
    go_region_held3 (fun V => V.cell? ⟨w.heap.size + 1, 3, none⟩ = some (.int .i64 x.chk) ∧ V.cell? ⟨w.heap.size + 1, 4, none⟩ = some (.int .i64 x.rep) ∧ BX w k x V)
      (first | (exact ⟨hY.x3, hY.x4, hY⟩) | (exact ⟨hY.drew.x3, hY.drew.x4, hY.drew⟩))
      (first
        | (go_at_call_of 88 (Value.int .i64 x.chk); refine (W6 _ hY.drew).mono ?_; clear hY; rintro e w' ⟨rfl, hY⟩)
        | (go_at_call_of 88 (Value.int .i64 x.rep); refine (W7 _ hY).mono ?_; clear hY; rintro e w' ⟨rfl, hY⟩))
    go_wp2
    go_ret
    exact ⟨by rw [HR1.out hq]; rfl, hY.2.2⟩

end Go.Proofs.YtgmbpagbiakciadDoor

namespace Go.Proofs.YtgmbpagbiakciadDoor
open Go.RowKit

/-- What lies there while the reference looks for the room. -/
structure RmI (k : Pk) (w : World) (x : Pc) (n : Nat) (wr : World) : Prop where
  ses : wr.heap[w.heap.size]? = some (.cells #[.int .i64 k.org, .int .i64 k.num] 26)
  pcl : wr.heap[w.heap.size + 1]? = some (.cells #[.int .i64 k.srv, .int .i64 k.size, .int .i64 k.red, .int .i64 k.mtu, .int .i64 k.every] 28)
  box : ∃ t : Int, wr.heap[w.heap.size + 2]? = some (.cells #[.int .i64 x.typ, .int .i64 x.frm, .int .i64 t, .int .i64 x.chk, .int .i64 x.rep] 46)
  bel : Below w.heap.size w wr
  fit : n = 0 ∨ fitB (frX k x) k.mtu n = true

theorem set5 {w : World} {b : Nat} {a0 a1 a2 a3 a4 u : Value} {t : TypeId} (h : w.heap[b]? = some (.cells #[a0, a1, a2, a3, a4] t (0, 0))) : (w.setCell ⟨b, 2, none⟩ u).heap[b]? = some (.cells #[a0, a1, u, a3, a4] t (0, 0)) := by
  have hb := (Array.getElem?_eq_some_iff.1 h).1
  simp [World.setCell, Array.getElem?_modify, h]

theorem RmI.set {k : Pk} {w wr : World} {x : Pc} {n : Nat} (h : RmI k w x n wr) (t : Int) : RmI k w x n (wr.setCell ⟨w.heap.size + 2, 2, none⟩ (.int .i64 t)) ∧ (wr.setCell ⟨w.heap.size + 2, 2, none⟩ (.int .i64 t)).heap[w.heap.size + 2]? = some (.cells #[.int .i64 x.typ, .int .i64 x.frm, .int .i64 t, .int .i64 x.chk, .int .i64 x.rep] 46) := by
  obtain ⟨t0, hb⟩ := h.box
  have h5 := set5 (u := .int .i64 t) hb
  exact ⟨⟨(Below.heap_setCell _ _ _ _ (by simp)).trans h.ses, (Below.heap_setCell _ _ _ _ (by simp)).trans h.pcl, ⟨t, h5⟩, h.bel.setCell (by simp) _, h.fit⟩, h5⟩
theorem RmI.below {k : Pk} {w wr wr' : World} {x : Pc} {n : Nat} (h : RmI k w x n wr) (hb : Below wr.heap.size wr wr') : RmI k w x n wr' := by
  obtain ⟨t0, hx⟩ := h.box
  exact ⟨(hb.block _ (Array.getElem?_eq_some_iff.1 h.ses).1).trans h.ses, (hb.block _ (Array.getElem?_eq_some_iff.1 h.pcl).1).trans h.pcl, ⟨t0, (hb.block _ (Array.getElem?_eq_some_iff.1 hx).1).trans hx⟩, h.bel.trans (hb.mono h.bel.size), h.fit⟩

set_option maxRecDepth 100000 in
set_option maxHeartbeats 4000000 in
theorem room2_any {k : Pk} (ok : k.Ok) (x : Pc) (w : World) (h0 : 0 ≤ x.frm) (h1 : x.frm ≤ 65535) (hc : 0 ≤ x.chk ∧ x.chk ≤ 4611686018427387903) (hr : 0 ≤ x.rep ∧ x.rep ≤ 4611686018427387903) :
    Calls Tryd.prog 39 #[.agg #[.int .i64 k.org, .int .i64 k.num], .agg #[.int .i64 k.srv, .int .i64 k.size, .int .i64 k.red, .int .i64 k.mtu, .int .i64 k.every], .agg (pcC x)] w fun e w' => e = .returned (.int .i64 (rmz (frX k x) k.mtu)) ∧ Below w.heap.size w w' := by
  have HST : Hid (RmI k w x 0 (((w.alloc (.cells #[.int .i64 k.org, .int .i64 k.num] 26)).alloc (.cells #[.int .i64 k.srv, .int .i64 k.size, .int .i64 k.red, .int .i64 k.mtu, .int .i64 k.every] 28)).alloc (.cells (pcC x) 46))) := by
    refine ⟨heapA (heapA (heap_alloc_new' _ _) _) _, ?_, ⟨x.to, ?_⟩, (((Below.refl _ _).alloc (Nat.le_refl _) _).alloc (by simp) _).alloc (by simp; omega) _, .inl rfl⟩
    · have := heap_alloc_new' (w.alloc (.cells #[.int .i64 k.org, .int .i64 k.num] 26)) (.cells #[.int .i64 k.srv, .int .i64 k.size, .int .i64 k.red, .int .i64 k.mtu, .int .i64 k.every] 28)
      rw [World.size_alloc] at this; exact heapA this _
    · have := heap_alloc_new' ((w.alloc (.cells #[.int .i64 k.org, .int .i64 k.num] 26)).alloc (.cells #[.int .i64 k.srv, .int .i64 k.size, .int .i64 k.red, .int .i64 k.mtu, .int .i64 k.every] 28)) (.cells (pcC x) 46)
      rw [World.size_alloc, World.size_alloc] at this; exact this
  have m1 := ok.mtu.1; have m2 := ok.mtu.2
  have OK : Hid k.Ok := ok
  have HF : Hid (0 ≤ frX k x) := by unfold Hid frX fr1 fr0; split <;> omega
  have BY : Hid (∀ (n : Nat) (V : World), n ≤ 5000 → Calls Tryd.prog 71 #[.agg #[.int .i64 k.org, .int .i64 k.num], .int .i64 k.srv, .agg #[.int .i64 x.typ, .int .i64 x.frm, .int .i64 (x.frm + n), .int .i64 x.chk, .int .i64 x.rep]] V fun e w' => e = .returned (.int .i64 (frX k x + sz n + n)) ∧ Below V.heap.size V w') :=
    fun n V hn => bytes2_any ok ⟨x.typ, x.frm, x.frm + n, x.chk, x.rep⟩ n V h0 h1 hn rfl hc hr
  clear ok
  have HZ : Hid (∀ n : Nat, (n = 0 ∨ fitB (frX k x) k.mtu n = true) → (n : Int) ≤ k.mtu) := by
    rintro n (rfl | h)
    · show (0 : Int) ≤ _; omega
    · have := of_decide_eq_true h; have := HF.out; omega
  go_enter Tryd.func39, Tryd.ntmps39
  go_wp2_with fail
  go_loopw [7] (fun q wr => ∃ n : Nat, q = .int .i64 n ∧ RmI k w x n wr) (fun q _ => (5000 - intOf q).toNat)
  case atStart => exact ⟨0, rfl, HST.out⟩
  case round =>
    obtain ⟨n, rfl, hg⟩ := hrel
    clear HST
    have hn := HZ.out n hg.fit
    have HG := hg.set (x.frm + ((n + 1 : Nat) : Int))
    have hby := BY.out (n + 1) (wr.setCell ⟨w.heap.size + 2, 2, none⟩ (.int .i64 (x.frm + ((n + 1 : Nat) : Int)))) (by omega)
    obtain ⟨t0, hbx⟩ := hg.box
    obtain ⟨z0, z1, z2, z3, z4, f0, f1, f2, f3, f4⟩ := box5 hbx
    obtain ⟨y0, y1, y2, y3, y4, _, _, _, _, _⟩ := box5 hg.pcl
    have s0 : wr.cell? ⟨w.heap.size, 0, none⟩ = some (.int .i64 k.org) := cell_of_row _ _ 0 _ _ _ hg.ses
    have s1 : wr.cell? ⟨w.heap.size, 1, none⟩ = some (.int .i64 k.num) := cell_of_row _ _ 1 _ _ _ hg.ses
    have HG' : Hid (RmI k w x n wr) := hg
    clear hg hbx
    have HS : Hid (RmI k w x n (wr.setCell ⟨w.heap.size + 2, 2, none⟩ (.int .i64 (x.frm + ((n + 1 : Nat) : Int))))) := HG.1
    clear HG
    have u1 : IntKind.i64.wrap (x.frm + (n : Int)) = x.frm + n := by rw [IntKind.wrap_i64]; omega
    have u2 : IntKind.i64.wrap (x.frm + (n : Int) + 1) = x.frm + ((n + 1 : Nat) : Int) := by rw [IntKind.wrap_i64]; omega
    obtain ⟨T, hT⟩ : ∃ T, x.frm + ((n + 1 : Nat) : Int) = T := ⟨_, rfl⟩
    rw [hT] at hby HS u2
    clear hT
    have HN : Hid (fitB (frX k x) k.mtu ((n : Int) + 1) = decide (frX k x + sz ((n + 1 : Nat) : Int) + ((n + 1 : Nat) : Int) ≤ k.mtu)) := by
      unfold Hid fitB; rfl
    obtain ⟨S, hS⟩ : ∃ S, frX k x + sz ((n + 1 : Nat) : Int) + ((n + 1 : Nat) : Int) = S := ⟨_, rfl⟩
    rw [hS] at hby HN
    clear hS
    go_wp2_with fail
    refine hby.mono ?_
    rintro e w2 ⟨rfl, hb⟩
    have HI : Hid (RmI k w x n w2) := HS.out.below hb
    clear hby hb HS z0 z1 z2 z3 z4 f0 f1 f2 f3 f4 y0 y1 y2 y3 y4 s0 s1
    obtain ⟨_, _, _, y3, _, _, _, _, _, _⟩ := box5 HI.out.pcl
    have u3 : IntKind.i64.wrap ((n : Int) + 1) = (n : Int) + 1 := by rw [IntKind.wrap_i64]; omega
    by_cases hlt : k.mtu < S
    · go_wp2
      go_ret
      refine ⟨?_, HI.out.bel⟩
      rw [rmz_eq hn m2 HI.out.fit (by rw [HN.out]; exact decide_eq_false (by omega))]
      rfl
    · have HN' : Hid (RmI k w x (n + 1) w2) := ⟨HI.out.ses, HI.out.pcl, HI.out.box, HI.out.bel, .inr (by rw [Int.natCast_add]; exact HN.out.trans (decide_eq_true (by omega)))⟩
      clear HI HN
      go_wp2
      go_roundw
      case rel => exact ⟨n + 1, by simp, HN'.out⟩
      case measure => simp [intOf]; omega

end Go.Proofs.YtgmbpagbiakciadDoor

namespace Go.Proofs.YtgmbpagbiakciadDoor
open Go.RowKit

set_option maxHeartbeats 1000000 in
theorem ended_any (k : Pk) (T : Int) (w : World) (hto : T ≤ k.red) :
    Calls Tryd.prog 40 #[.agg #[.int .i64 k.srv, .int .i64 k.size, .int .i64 k.red, .int .i64 k.mtu, .int .i64 k.every], .int .i64 T] w fun e w' => e = .returned (.int .i64 (ckT k T)) ∧ Below w.heap.size w w' := by
  have HB : Hid (Below w.heap.size w (w.alloc (.cells #[.int .i64 k.srv, .int .i64 k.size, .int .i64 k.red, .int .i64 k.mtu, .int .i64 k.every] 28))) := (Below.refl _ _).alloc (Nat.le_refl _) _
  have HS : Hid (ckT k T = if T = k.red then (if k.red < k.size then 2 else 3) else 1) := by
    unfold Hid ckT endT; split <;> (try split) <;> (try split) <;> omega
  generalize ckT k T = q at *
  go_enter Tryd.func40, Tryd.ntmps40
  by_cases h0 : T < k.red
  · go_wp2
    go_ret
    exact ⟨by rw [HS.out, if_neg (by omega)]; rfl, HB.out⟩
  by_cases h1 : k.red < k.size
  · go_wp2
    go_ret
    exact ⟨by rw [HS.out, if_pos (by omega), if_pos h1]; rfl, HB.out⟩
  go_wp2
  go_ret
  exact ⟨by rw [HS.out, if_pos (by omega), if_neg (by omega)]; rfl, HB.out⟩

/-- The reference asks for a checkpoint where the program does. -/
theorem redC_iff {k : Pk} {at' base plains : Int} (hp : 0 ≤ plains) : redC k at' base plains = (decide (k.red - at' ≤ ro1 k at' (base + 1) 0) || (decide (0 < k.every) && decide (plains = k.every - 1))) := by
  rw [Bool.eq_iff_iff]
  simp only [redC, Bool.or_eq_true, Bool.and_eq_true, decide_eq_true_eq]
  constructor
  · rintro (h | h)
    · left; omega
    · right; omega
  · rintro (h | h)
    · left; omega
    · right; omega

/-- Rooms of the pieces that the reference tries. -/
theorem room_c {k : Pk} (ok : k.Ok) (at' b : Int) (w : World) (h0 : 0 ≤ at') (h1 : at' ≤ 65535) (hb : 0 ≤ b ∧ b ≤ 4611686018427387903) :
    Calls Tryd.prog 39 #[.agg #[.int .i64 k.org, .int .i64 k.num], .agg #[.int .i64 k.srv, .int .i64 k.size, .int .i64 k.red, .int .i64 k.mtu, .int .i64 k.every], .agg #[.int .i64 1, .int .i64 at', .int .i64 0, .int .i64 b, .int .i64 0]] w fun e w' => e = .returned (.int .i64 (ro1 k at' b 0)) ∧ Below w.heap.size w w' :=
  room2_any ok ⟨1, at', 0, b, 0⟩ w h0 h1 hb (by show (0 : Int) ≤ 0 ∧ (0 : Int) ≤ 4611686018427387903; decide)
theorem room_p {k : Pk} (ok : k.Ok) (t at' : Int) (ht : t = 0 ∨ t = 4) (w : World) (h0 : 0 ≤ at') (h1 : at' ≤ 65535) :
    Calls Tryd.prog 39 #[.agg #[.int .i64 k.org, .int .i64 k.num], .agg #[.int .i64 k.srv, .int .i64 k.size, .int .i64 k.red, .int .i64 k.mtu, .int .i64 k.every], .agg #[.int .i64 t, .int .i64 at', .int .i64 0, .int .i64 0, .int .i64 0]] w fun e w' => e = .returned (.int .i64 (ro0 k at')) ∧ Below w.heap.size w w' := by
  rcases ht with rfl | rfl
  · exact room2_any ok ⟨0, at', 0, 0, 0⟩ w h0 h1 (by show (0 : Int) ≤ 0 ∧ (0 : Int) ≤ 4611686018427387903; decide) (by show (0 : Int) ≤ 0 ∧ (0 : Int) ≤ 4611686018427387903; decide)
  · exact room2_any ok ⟨4, at', 0, 0, 0⟩ w h0 h1 (by show (0 : Int) ≤ 0 ∧ (0 : Int) ≤ 4611686018427387903; decide) (by show (0 : Int) ≤ 0 ∧ (0 : Int) ≤ 4611686018427387903; decide)

/-- How far the reference has cut: the red part. -/
structure CR (k : Pk) (w : World) (base0 : Int) (v : Value) (at' base plains : Int) (l : List Pc) (f : Nat) (wr : World) : Prop where
  lo : 0 ≤ at'
  hi : at' ≤ k.red
  own : POwn wr (w.heap.size + 2) v l
  bel : Below w.heap.size w wr
  ses : wr.heap[w.heap.size]? = some (.cells #[.int .i64 k.org, .int .i64 k.num] 26)
  pcl : wr.heap[w.heap.size + 1]? = some (.cells #[.int .i64 k.srv, .int .i64 k.size, .int .i64 k.red, .int .i64 k.mtu, .int .i64 k.every] 28)
  whole : redG k k.red.toNat 0 base0 0 = l ++ redG k f at' base plains
  fuel : k.red - at' ≤ f
  len : l.length ≤ at'
  bas : base0 ≤ base ∧ base ≤ base0 + l.length
  pla : 0 ≤ plains ∧ plains ≤ l.length
theorem CR.size {k : Pk} {w wr : World} {b0 b p : Int} {v : Value} {at' : Int} {l : List Pc} {f : Nat} (h : CR k w b0 v at' b p l f wr) : w.heap.size + 2 ≤ wr.heap.size := by
  obtain ⟨hi, _⟩ := Array.getElem?_eq_some_iff.mp h.pcl; exact hi

theorem CR.step {k : Pk} {w wr W w5 : World} {b0 b p : Int} {v v' : Value} {at' : Int} {l : List Pc} {f : Nat} (h : CR k w b0 v at' b p l f wr) (ok : k.Ok) (hlt : at' < k.red) (hb0 : 0 ≤ b0 ∧ b0 ≤ 4611686018427322367) (hb : Below wr.heap.size wr W)
    (hown : w5.ownsRow (w.heap.size + 2) 46 5 v' (l.length + 1) (l.flatMap pcL ++ pcL (nxP k at' b p))) (hgr : W.grownBy w5 v.ownBlock) : ∃ f', CR k w b0 v' (nxP k at' b p).to (nxB k at' b p) (nxN k at' b p) (l ++ [nxP k at' b p]) f' w5 := by
  have hlen := h.len; have hhi := h.hi; have hbas := h.bas; have hpla := h.pla; have hsz := ok.size; have hrd := ok.red
  have hto := nxP_to ok (base := b) (plains := p) h.lo hlt ⟨by omega, by omega⟩
  have hfu := h.fuel
  obtain ⟨f', rfl⟩ : ∃ f', f = f' + 1 := ⟨f - 1, by omega⟩
  have hrow := row_ge h.own
  have hs := h.size
  refine ⟨f', by have := h.lo; omega, hto.2, ?_, ?_, ?_, ?_, ?_, by omega, ?_, ?_, ?_⟩
  · unfold POwn
    rw [List.flatMap_append, show (l ++ [nxP k at' b p]).length = l.length + 1 from by simp, show [nxP k at' b p].flatMap pcL = pcL (nxP k at' b p) from by simp]
    exact hown
  · exact (h.bel.trans (hb.mono (by omega))).grown hgr (by have := hb.size; omega) (fun r hr => by have := hrow r hr; omega)
  · rw [hgr.block _ (by have := hb.size; omega) (fun e => by have := hrow _ e.symm; omega), hb.block _ (by omega)]
    exact h.ses
  · rw [hgr.block _ (by have := hb.size; omega) (fun e => by have := hrow _ e.symm; omega), hb.block _ (by omega)]
    exact h.pcl
  · rw [h.whole, redG_nx hlt]; simp
  · simp; omega
  · simp only [List.length_append, List.length_cons, List.length_nil]
    unfold nxB; split <;> omega
  · simp only [List.length_append, List.length_cons, List.length_nil]
    unfold nxN; split <;> omega

/-- The green part, behind what the red one laid (l0). -/
structure CG (k : Pk) (w : World) (l0 : List Pc) (v : Value) (at' : Int) (l : List Pc) (f : Nat) (wr : World) : Prop where
  lo : k.red ≤ at'
  hi : at' ≤ k.size
  own : POwn wr (w.heap.size + 2) v (l0 ++ l)
  bel : Below w.heap.size w wr
  ses : wr.heap[w.heap.size]? = some (.cells #[.int .i64 k.org, .int .i64 k.num] 26)
  pcl : wr.heap[w.heap.size + 1]? = some (.cells #[.int .i64 k.srv, .int .i64 k.size, .int .i64 k.red, .int .i64 k.mtu, .int .i64 k.every] 28)
  whole : grnG k (k.size - k.red).toNat k.red = l ++ grnG k f at'
  fuel : k.size - at' ≤ f
  len : (l0 ++ l).length ≤ at'
theorem CG.size {k : Pk} {w wr : World} {v : Value} {at' : Int} {l0 l : List Pc} {f : Nat} (h : CG k w l0 v at' l f wr) : w.heap.size + 2 ≤ wr.heap.size := by
  obtain ⟨hi, _⟩ := Array.getElem?_eq_some_iff.mp h.pcl; exact hi

theorem CG.step {k : Pk} {w wr W w5 : World} {v v' : Value} {at' : Int} {l0 l : List Pc} {f : Nat} (h : CG k w l0 v at' l f wr) (ok : k.Ok) (hlt : at' < k.size) (hb : Below wr.heap.size wr W)
    (hown : w5.ownsRow (w.heap.size + 2) 46 5 v' ((l0 ++ l).length + 1) ((l0 ++ l).flatMap pcL ++ pcL (gPc k at'))) (hgr : W.grownBy w5 v.ownBlock) : ∃ f', CG k w l0 v' (gPc k at').to (l ++ [gPc k at']) f' w5 := by
  have hto := gPc_to ok (by have := ok.red; have := h.lo; omega) hlt
  have hfu := h.fuel
  obtain ⟨f', rfl⟩ : ∃ f', f = f' + 1 := ⟨f - 1, by omega⟩
  have hrow := row_ge h.own
  have hs := h.size
  refine ⟨f', by have := h.lo; omega, hto.2, ?_, ?_, ?_, ?_, ?_, by omega, ?_⟩
  · unfold POwn
    rw [← List.append_assoc, List.flatMap_append, show ((l0 ++ l) ++ [gPc k at']).length = (l0 ++ l).length + 1 from by simp; omega, show [gPc k at'].flatMap pcL = pcL (gPc k at') from by simp]
    exact hown
  · exact (h.bel.trans (hb.mono (by omega))).grown hgr (by have := hb.size; omega) (fun r hr => by have := hrow r hr; omega)
  · rw [hgr.block _ (by have := hb.size; omega) (fun e => by have := hrow _ e.symm; omega), hb.block _ (by omega)]
    exact h.ses
  · rw [hgr.block _ (by have := hb.size; omega) (fun e => by have := hrow _ e.symm; omega), hb.block _ (by omega)]
    exact h.pcl
  · rw [h.whole, grnG, if_pos hlt]; simp
  · have := h.len
    simp only [List.length_append, List.length_cons, List.length_nil] at *; omega

/-- From the red part to the green one; and the end. -/
theorem CR.green {k : Pk} {w wr : World} {b0 b p : Int} {v : Value} {at' : Int} {l : List Pc} {f : Nat} (h : CR k w b0 v at' b p l f wr) (ok : k.Ok) (hge : k.red ≤ at') : at' = k.red ∧ l = redG k k.red.toNat 0 b0 0 ∧ CG k w l v k.red [] (k.size - k.red).toNat wr := by
  have hat : at' = k.red := by have := h.hi; omega
  have hw := h.whole
  rw [redG_end hge, List.append_nil] at hw
  have hr := ok.red
  refine ⟨hat, hw.symm, by omega, by omega, by rw [List.append_nil]; exact h.own, h.bel, h.ses, h.pcl, rfl, by omega, ?_⟩
  rw [List.append_nil, ← hat]; exact h.len
theorem CG.done {k : Pk} {w wr : World} {b0 : Int} {v : Value} {at' : Int} {l : List Pc} {f : Nat} (h : CG k w (redG k k.red.toNat 0 b0 0) v at' l f wr) (hge : k.size ≤ at') : POwn wr w.heap.size v (cutL k b0) := by
  have hw := h.whole
  have he : grnG k f at' = [] := by
    cases f with
    | zero => rfl
    | succ f => rw [grnG, if_neg (by omega)]
  rw [he, List.append_nil] at hw
  unfold cutL
  rw [hw]
  exact h.own.weak (by omega)

end Go.Proofs.YtgmbpagbiakciadDoor

namespace Go.Proofs.YtgmbpagbiakciadDoor
open Go.RowKit

theorem setAll {w : World} {b : Nat} {a0 a1 a2 a3 a4 u0 u1 u2 u3 u4 : Value} {t : TypeId} (h : w.heap[b]? = some (.cells #[a0, a1, a2, a3, a4] t (0, 0))) : (((((w.setCell ⟨b, 0, none⟩ u0).setCell ⟨b, 1, none⟩ u1).setCell ⟨b, 2, none⟩ u2).setCell ⟨b, 3, none⟩ u3).setCell ⟨b, 4, none⟩ u4).heap[b]? = some (.cells #[u0, u1, u2, u3, u4] t (0, 0)) := by
  have hb := (Array.getElem?_eq_some_iff.1 h).1
  simp [World.setCell, Array.getElem?_modify, h]
theorem set50 {w : World} {b : Nat} {a0 a1 a2 a3 a4 u : Value} {t : TypeId} (h : w.heap[b]? = some (.cells #[a0, a1, a2, a3, a4] t (0, 0))) : (w.setCell ⟨b, 0, none⟩ u).heap[b]? = some (.cells #[u, a1, a2, a3, a4] t (0, 0)) := by
  have hb := (Array.getElem?_eq_some_iff.1 h).1
  simp [World.setCell, Array.getElem?_modify, h]

set_option maxRecDepth 100000 in
set_option maxHeartbeats 4000000 in
theorem cut2_any (k : Pk) (base : Int) (w : World) :
    Calls Tryd.prog 12 #[.agg #[.int .i64 k.org, .int .i64 k.num], .agg #[.int .i64 k.srv, .int .i64 k.size, .int .i64 k.red, .int .i64 k.mtu, .int .i64 k.every], .int .i64 base] w (CutPost (cut k base) w) := by
  obtain ⟨i0, hi, hz0, hz1, hz2⟩ := info_parts Tryd.info_piece
  have HCU : Hid (cut k base = if sesB k = false then ([], 1) else if pclB k = false then ([], 40) else if base < 0 ∨ 4611686018427387903 - 65536 < base then ([], 1) else (cutL k base, 0)) := rfl
  have HST : Hid (((w.alloc (.cells #[.int .i64 k.org, .int .i64 k.num] 26)).alloc (.cells #[.int .i64 k.srv, .int .i64 k.size, .int .i64 k.red, .int .i64 k.mtu, .int .i64 k.every] 28)).heap[w.heap.size]? = some (.cells #[.int .i64 k.org, .int .i64 k.num] 26) ∧
      ((w.alloc (.cells #[.int .i64 k.org, .int .i64 k.num] 26)).alloc (.cells #[.int .i64 k.srv, .int .i64 k.size, .int .i64 k.red, .int .i64 k.mtu, .int .i64 k.every] 28)).heap[w.heap.size + 1]? = some (.cells #[.int .i64 k.srv, .int .i64 k.size, .int .i64 k.red, .int .i64 k.mtu, .int .i64 k.every] 28) ∧
      Below w.heap.size w ((w.alloc (.cells #[.int .i64 k.org, .int .i64 k.num] 26)).alloc (.cells #[.int .i64 k.srv, .int .i64 k.size, .int .i64 k.red, .int .i64 k.mtu, .int .i64 k.every] 28)) ∧ w.heap.size + 2 ≤ ((w.alloc (.cells #[.int .i64 k.org, .int .i64 k.num] 26)).alloc (.cells #[.int .i64 k.srv, .int .i64 k.size, .int .i64 k.red, .int .i64 k.mtu, .int .i64 k.every] 28)).heap.size) := by
    refine ⟨heapA (heap_alloc_new' _ _) _, ?_, ((Below.refl _ _).alloc (Nat.le_refl _) _).alloc (by simp) _, by simp⟩
    have := heap_alloc_new' (w.alloc (.cells #[.int .i64 k.org, .int .i64 k.num] 26)) (.cells #[.int .i64 k.srv, .int .i64 k.size, .int .i64 k.red, .int .i64 k.mtu, .int .i64 k.every] 28)
    rw [World.size_alloc] at this; exact this
  have hse := session2_any k ((w.alloc (.cells #[.int .i64 k.org, .int .i64 k.num] 26)).alloc (.cells #[.int .i64 k.srv, .int .i64 k.size, .int .i64 k.red, .int .i64 k.mtu, .int .i64 k.every] 28))
  go_enter Tryd.func12, Tryd.ntmps12
  go_wp2_with fail
  refine hse.mono ?_
  rintro e w1 ⟨rfl, hb⟩
  have HB1 : Hid (w1.heap[w.heap.size]? = some (.cells #[.int .i64 k.org, .int .i64 k.num] 26) ∧ w1.heap[w.heap.size + 1]? = some (.cells #[.int .i64 k.srv, .int .i64 k.size, .int .i64 k.red, .int .i64 k.mtu, .int .i64 k.every] 28) ∧ Below w.heap.size w w1) :=
    ⟨(hb.block _ (by have := HST.out.2.2.2; omega)).trans HST.out.1, (hb.block _ (by have := HST.out.2.2.2; omega)).trans HST.out.2.1, HST.out.2.2.1.trans (hb.mono HST.out.2.2.1.size)⟩
  clear HST hse hb
  cases hs : sesB k with
  | false =>
    have HQ : Hid (cut k base = ([], 1)) := by unfold Hid; rw [HCU.out, if_pos hs]
    clear HCU
    go_wp2
    go_ret2
    exact ⟨_, by rw [HQ.out]; rfl, by rw [HQ.out]; exact ⟨rfl, .inl ⟨rfl, rfl⟩⟩, HB1.out.2.2⟩
  | true =>
    obtain ⟨y0, y1, y2, y3, y4, _, _, _, _, _⟩ := box5 HB1.out.2.1
    have hpc := parcel2_any k w1
    go_wp2_with fail
    refine hpc.mono ?_
    rintro e w2 ⟨rfl, hb⟩
    have HB2 : Hid (w2.heap[w.heap.size]? = some (.cells #[.int .i64 k.org, .int .i64 k.num] 26) ∧ w2.heap[w.heap.size + 1]? = some (.cells #[.int .i64 k.srv, .int .i64 k.size, .int .i64 k.red, .int .i64 k.mtu, .int .i64 k.every] 28) ∧ Below w.heap.size w w2) :=
      ⟨(hb.block _ (Array.getElem?_eq_some_iff.1 HB1.out.1).1).trans HB1.out.1, (hb.block _ (Array.getElem?_eq_some_iff.1 HB1.out.2.1).1).trans HB1.out.2.1, HB1.out.2.2.trans (hb.mono HB1.out.2.2.size)⟩
    clear HB1 hpc hb y0 y1 y2 y3 y4
    cases hp : pclB k with
    | false =>
      have HQ : Hid (cut k base = ([], 40)) := by unfold Hid; rw [HCU.out, hs, if_neg (by simp), if_pos hp]
      clear HCU
      go_wp2
      go_ret2
      exact ⟨_, by rw [HQ.out]; rfl, by rw [HQ.out]; exact ⟨rfl, .inl ⟨rfl, rfl⟩⟩, HB2.out.2.2⟩
    | true =>
      by_cases hb : base < 0 ∨ 4611686018427387903 - 65536 < base
      · have HQ : Hid (cut k base = ([], 1)) := by unfold Hid; rw [HCU.out, hs, hp, if_neg (by simp), if_neg (by simp), if_pos hb]
        clear HCU
        by_cases hb' : base < 0
        · go_wp2
          go_ret2
          exact ⟨_, by rw [HQ.out]; rfl, by rw [HQ.out]; exact ⟨rfl, .inl ⟨rfl, rfl⟩⟩, HB2.out.2.2⟩
        · have hb2 : 4611686018427322367 < base := by omega
          clear hb
          go_wp2
          go_ret2
          exact ⟨_, by rw [HQ.out]; rfl, by rw [HQ.out]; exact ⟨rfl, .inl ⟨rfl, rfl⟩⟩, HB2.out.2.2⟩
      have HQ : Hid (cut k base = (cutL k base, 0)) := by unfold Hid; rw [HCU.out, hs, hp, if_neg (by simp), if_neg (by simp), if_neg hb]
      have hb0 : 0 ≤ base := by omega
      have hb1 : base ≤ 4611686018427322367 := by omega
      clear HCU hb
      have OK : Hid k.Ok := Pk.ok_of hs hp
      have HS0 : Hid (CR k w base (.slice none 0 0) 0 base 0 [] k.red.toNat w2) :=
        ⟨by omega, OK.out.red.1, ⟨rfl, .inl ⟨rfl, rfl⟩⟩, HB2.out.2.2, HB2.out.1, HB2.out.2.1, rfl, by have := OK.out.red; omega, by simp, by simp, by simp⟩
      clear HB2
      go_wp2_with fail
      go_loopw [2, 10, 11, 12] (fun b p r q wr => ∃ (v : Value) (at' bs pl : Int) (l : List Pc) (f : Nat), v = p ∧ b = .int .i64 bs ∧ q = .int .i64 pl ∧ r = .int .i64 at' ∧ CR k w base v at' bs pl l f wr) (fun _ _ r _ _ => (k.red - intOf r).toNat)
      case atStart => exact ⟨_, 0, base, 0, [], _, rfl, rfl, rfl, rfl, HS0.out⟩
      case round =>
        obtain ⟨v, at', bs, pl, l, f, rfl, rfl, rfl, rfl, hg⟩ := hrel
        clear HS0
        by_cases hlt : at' < k.red
        · have HG : Hid (CR k w base v at' bs pl l f wr) := hg
          clear hg
          have hb2 : k.red ≤ 65536 := by have := OK.out.size; have := OK.out.red; omega
          have hb1' : 0 ≤ at' ∧ at' ≤ 65535 := by have := HG.out.lo; omega
          have hbs : 0 ≤ bs ∧ bs ≤ 4611686018427387902 := by have := HG.out.bas; have := HG.out.len; omega
          have hpl : 0 ≤ pl ∧ pl ≤ 65536 := by have := HG.out.pla; have := HG.out.len; omega
          have hev := OK.out.every
          have hto : at' < (cPc k at' k.red (bs + 1) 0).to ∧ (cPc k at' k.red (bs + 1) 0).to ≤ k.red := cPc_to OK.out hb1'.1 hlt hb2 ⟨by omega, by omega⟩ ⟨by omega, by omega⟩
          have hro := ro1_low OK.out (at' := at') (c := bs + 1) (r := 0) hb1'.1 (by omega) ⟨by omega, by omega⟩ ⟨by omega, by omega⟩
          have HL : Hid (l.length ≤ 65536) := by have := HG.out.len; unfold Hid; omega
          have hrm := room_c OK.out at' (bs + 1) (wr.alloc (.cells #[.int .i64 1, .int .i64 at', .int .i64 0, .int .i64 (bs + 1), .int .i64 0] 46)) hb1'.1 hb1'.2 ⟨by omega, by omega⟩
          obtain ⟨y0, y1, y2, y3, y4, _, _, _, _, _⟩ := box5 HG.out.pcl
          have s0 : (wr.alloc (.cells #[.int .i64 1, .int .i64 at', .int .i64 0, .int .i64 (bs + 1), .int .i64 0] 46)).cell? ⟨w.heap.size, 0, none⟩ = some (.int .i64 k.org) := cell_of_row _ _ 0 _ _ _ (heapA HG.out.ses _)
          have s1 : (wr.alloc (.cells #[.int .i64 1, .int .i64 at', .int .i64 0, .int .i64 (bs + 1), .int .i64 0] 46)).cell? ⟨w.heap.size, 1, none⟩ = some (.int .i64 k.num) := cell_of_row _ _ 1 _ _ _ (heapA HG.out.ses _)
          obtain ⟨t0, t1, t2, t3, t4, _, _, _, _, _⟩ := box5 (heapA HG.out.pcl (.cells #[.int .i64 1, .int .i64 at', .int .i64 0, .int .i64 (bs + 1), .int .i64 0] 46))
          have HRC : Hid (redC k at' bs pl = _) := redC_iff hpl.1
          obtain ⟨T, hT⟩ : ∃ T, min (at' + ro1 k at' (bs + 1) 0) k.red = T := ⟨_, rfl⟩
          obtain ⟨Y, hY⟩ : ∃ Y, ckT k T = Y := ⟨_, rfl⟩
          have HTD : Hid (min (at' + ro1 k at' (bs + 1) 0) k.red = T) := hT
          have HPC : Hid (cPc k at' k.red (bs + 1) 0 = ⟨Y, at', T, bs + 1, 0⟩) := by unfold Hid cPc; rw [hT, hY]
          rw [HPC.out] at hto
          simp only at hto
          generalize ro1 k at' (bs + 1) 0 = ro at *
          have u1 : IntKind.i64.wrap (k.red - at') = k.red - at' := by rw [IntKind.wrap_i64]; omega
          have u2 : IntKind.i64.wrap (at' + min ro (k.red - at')) = T := by rw [IntKind.wrap_i64]; omega
          have u3 : IntKind.i64.wrap (bs + 1) = bs + 1 := by rw [IntKind.wrap_i64]; omega
          have u4 : IntKind.i64.wrap (k.every - 1) = k.every - 1 := by rw [IntKind.wrap_i64]; omega
          have HSZ : Hid (w.heap.size + 2 ≤ wr.heap.size) := HG.out.size
          have HEN : Hid (∀ V, Calls Tryd.prog 40 #[.agg #[.int .i64 k.srv, .int .i64 k.size, .int .i64 k.red, .int .i64 k.mtu, .int .i64 k.every], .int .i64 T] V fun e w' => e = .returned (.int .i64 Y) ∧ Below V.heap.size V w') := fun V => hY ▸ ended_any k T V hto.2
          clear hT hY
          go_wp2_with fail
          refine hrm.mono ?_
          rintro e w3 ⟨rfl, hb3⟩
          obtain ⟨z0, z1, z2, z3, z4, f0, f1, f2, f3, f4⟩ := box5 ((hb3.block wr.heap.size (by simp)).trans (heap_alloc_new' _ _))
          have hpc3 := (hb3.block (w.heap.size + 1) (by have := HSZ.out; simp; omega)).trans (heapA HG.out.pcl _)
          obtain ⟨q0, q1, q2, q3, q4, _, _, _, _, _⟩ := box5 hpc3
          clear hrm s0 s1 y0 y1 y2 y3 y4 t0 t1 t2 t3 t4
          have hne : w.heap.size + 1 ≠ wr.heap.size := by have := HSZ.out; omega
          have hne' : wr.heap.size ≠ w.heap.size + 1 := by have := HSZ.out; omega
          obtain ⟨a, cap, hv⟩ := own_shp HG.out.own
          have HO : Hid (wr.ownsRow (w.heap.size + 2) 46 5 v l.length (l.flatMap pcL)) := HG.out.own
          subst hv
          obtain ⟨X, hX⟩ : ∃ X, l.flatMap pcL = X := ⟨_, rfl⟩
          obtain ⟨m, hm⟩ : ∃ m, l.length = m := ⟨_, rfl⟩
          rw [hX, hm] at HO
          rw [hm] at HG HL
          have HX : Hid (l.flatMap pcL = X ∧ l.length = m) := ⟨hX, hm⟩
          rw [hm]
          clear hX hm hpc3
          have HZ3 : Hid (w3.heap[wr.heap.size]? = some (.cells #[.int .i64 1, .int .i64 at', .int .i64 0, .int .i64 (bs + 1), .int .i64 0] 46)) := (hb3.block wr.heap.size (by simp)).trans (heap_alloc_new' _ _)
          have HB3 : Hid (Below wr.heap.size wr w3) := ((Below.refl _ _).alloc (Nat.le_refl _) _).trans (hb3.mono (by simp))
          have HLT : Hid (wr.heap.size < w3.heap.size) := by have := hb3.size; simp at this; exact this
          clear hb3
          by_cases hC : k.red - at' ≤ ro
          · have HC : Hid (redC k at' bs pl = true) := by unfold Hid; rw [HRC.out]; simp [hC]
            have HNP : Hid (nxP k at' bs pl = ⟨Y, at', T, bs + 1, 0⟩) := by unfold Hid nxP; rw [HC.out, if_pos rfl, HPC.out]
            have HNB : Hid (nxB k at' bs pl = bs + 1) := by unfold Hid nxB; rw [HC.out, if_pos rfl]
            have HNN : Hid (nxN k at' bs pl = 0) := by unfold Hid nxN; rw [HC.out, if_pos rfl]
            clear HC HRC HPC HTD
            go_wp2_with fail
            refine (HEN.out _).mono ?_
            rintro e w4 ⟨rfl, hb4⟩
            have hb4' := hb4.size
            simp only [World.setCell, Array.size_modify] at hb4'
            have HSW : Hid ((w4.setCell ⟨wr.heap.size, 0, none⟩ (.int .i64 Y)).heap.size = w4.heap.size ∧ wr.heap.size < w4.heap.size) := ⟨by simp [World.setCell], by have := HLT.out; omega⟩
            have HZ : Hid (w4.heap[wr.heap.size]? = some (.cells #[.int .i64 1, .int .i64 at', .int .i64 T, .int .i64 (bs + 1), .int .i64 0] 46)) := (hb4.block wr.heap.size (by have := HLT.out; simp [World.setCell]; omega)).trans (set5 HZ3.out)
            have HBF : Hid (Below wr.heap.size wr (w4.setCell ⟨wr.heap.size, 0, none⟩ (.int .i64 Y))) := ((HB3.out.setCell (Nat.le_refl _) _).trans (hb4.mono (by have := HLT.out; simp [World.setCell]; omega))).setCell (Nat.le_refl _) _
            have HBK : Hid ((w4.setCell ⟨wr.heap.size, 0, none⟩ (.int .i64 Y)).heap[wr.heap.size]? = some (.cells #[.int .i64 Y, .int .i64 at', .int .i64 T, .int .i64 (bs + 1), .int .i64 0] 46)) := set50 HZ.out
            clear hb4 hb4' z0 z1 z2 z3 z4 f0 f1 f2 f3 f4 q0 q1 q2 q3 q4
            obtain ⟨z0, z1, z2, z3, z4, f0, f1, f2, f3, f4⟩ := box5 HZ.out
            go_wp2_with (at_builtin; refine wpList_append_own_at _ rfl _ _ 31 rfl (w.heap.size + 2) 46 i0 (.agg #[.int .i64 0, .int .i64 0, .int .i64 0, .int .i64 0, .int .i64 0]) 5 40 Tryd.underlying31 hi hz0 hz1 hz2 rfl (by decide) _ _ _ rfl (World.ownsRow.alloc (own_below HO.out HBF.out) _) ⟨w4.heap.size, 0, none⟩ 1 1 [.int .i64 Y, .int .i64 at', .int .i64 T, .int .i64 (bs + 1), .int .i64 0] rfl rfl ?c1 ?c2 ?c3 ?c4 ?c5 ?_)
            case c1 => exact cell_five _ _ _ _ _ _ _ _ (by simp)
            case c2 => intro x hx; simp only [List.mem_cons, List.not_mem_nil, or_false] at hx; rcases hx with rfl | rfl | rfl | rfl | rfl <;> rfl
            case c3 => have := HL.out; unfold maxLen; omega
            case c4 => have := HL.out; omega
            case c5 => have h1 := HSZ.out; have h2 := HSW.out; simp; omega
            intro v' w5 hown5 hgrow5 _ _
            have hst := HG.out.step OK.out hlt ⟨hb0, hb1⟩ (HBF.out.alloc HBF.out.size _) (by rw [HX.out.1, HX.out.2, HNP.out]; exact hown5) hgrow5
            rw [HNP.out, HNB.out, HNN.out] at hst
            have hcl : w5.cell? ⟨wr.heap.size, 2, none⟩ = some (.int .i64 T) := cell_of_row _ _ 2 _ _ _ ((hgrow5.block wr.heap.size (by have := HSW.out; simp only [World.size_alloc]; omega) (fun e => by have := row_ge HO.out _ e.symm; omega)).trans (heapA HBK.out _))
            have HN : Hid (∃ x f', CR k w base v' T (bs + 1) (0) (l ++ [x]) f' w5) := by obtain ⟨f', h⟩ := hst; exact ⟨_, f', h⟩
            clear hst hown5 hgrow5 HG HO HBF HX HL HBK HSW HNP HNB HNN HZ
            go_wp2
            go_roundw
            case rel => obtain ⟨x, f', h⟩ := HN.out; exact ⟨_, _, _, _, _, f', rfl, by go_num, by go_num, by go_num, h⟩
            case measure => simp [intOf]; omega
          by_cases hE : 0 < k.every ∧ pl = k.every - 1
          · have HC : Hid (redC k at' bs pl = true) := by unfold Hid; rw [HRC.out]; simp [hE.1, hE.2]
            obtain ⟨hE1, hE2⟩ := hE
            have e2 : (pl == k.every - 1) = true := by simp [hE2]
            have HNP : Hid (nxP k at' bs pl = ⟨Y, at', T, bs + 1, 0⟩) := by unfold Hid nxP; rw [HC.out, if_pos rfl, HPC.out]
            have HNB : Hid (nxB k at' bs pl = bs + 1) := by unfold Hid nxB; rw [HC.out, if_pos rfl]
            have HNN : Hid (nxN k at' bs pl = 0) := by unfold Hid nxN; rw [HC.out, if_pos rfl]
            clear HC HRC HPC HTD
            go_wp2_with fail
            refine (HEN.out _).mono ?_
            rintro e w4 ⟨rfl, hb4⟩
            have hb4' := hb4.size
            simp only [World.setCell, Array.size_modify] at hb4'
            have HSW : Hid ((w4.setCell ⟨wr.heap.size, 0, none⟩ (.int .i64 Y)).heap.size = w4.heap.size ∧ wr.heap.size < w4.heap.size) := ⟨by simp [World.setCell], by have := HLT.out; omega⟩
            have HZ : Hid (w4.heap[wr.heap.size]? = some (.cells #[.int .i64 1, .int .i64 at', .int .i64 T, .int .i64 (bs + 1), .int .i64 0] 46)) := (hb4.block wr.heap.size (by have := HLT.out; simp [World.setCell]; omega)).trans (set5 HZ3.out)
            have HBF : Hid (Below wr.heap.size wr (w4.setCell ⟨wr.heap.size, 0, none⟩ (.int .i64 Y))) := ((HB3.out.setCell (Nat.le_refl _) _).trans (hb4.mono (by have := HLT.out; simp [World.setCell]; omega))).setCell (Nat.le_refl _) _
            have HBK : Hid ((w4.setCell ⟨wr.heap.size, 0, none⟩ (.int .i64 Y)).heap[wr.heap.size]? = some (.cells #[.int .i64 Y, .int .i64 at', .int .i64 T, .int .i64 (bs + 1), .int .i64 0] 46)) := set50 HZ.out
            clear hb4 hb4' z0 z1 z2 z3 z4 f0 f1 f2 f3 f4 q0 q1 q2 q3 q4
            obtain ⟨z0, z1, z2, z3, z4, f0, f1, f2, f3, f4⟩ := box5 HZ.out
            go_wp2_with (at_builtin; refine wpList_append_own_at _ rfl _ _ 31 rfl (w.heap.size + 2) 46 i0 (.agg #[.int .i64 0, .int .i64 0, .int .i64 0, .int .i64 0, .int .i64 0]) 5 40 Tryd.underlying31 hi hz0 hz1 hz2 rfl (by decide) _ _ _ rfl (World.ownsRow.alloc (own_below HO.out HBF.out) _) ⟨w4.heap.size, 0, none⟩ 1 1 [.int .i64 Y, .int .i64 at', .int .i64 T, .int .i64 (bs + 1), .int .i64 0] rfl rfl ?c1 ?c2 ?c3 ?c4 ?c5 ?_)
            case c1 => exact cell_five _ _ _ _ _ _ _ _ (by simp)
            case c2 => intro x hx; simp only [List.mem_cons, List.not_mem_nil, or_false] at hx; rcases hx with rfl | rfl | rfl | rfl | rfl <;> rfl
            case c3 => have := HL.out; unfold maxLen; omega
            case c4 => have := HL.out; omega
            case c5 => have h1 := HSZ.out; have h2 := HSW.out; simp; omega
            intro v' w5 hown5 hgrow5 _ _
            have hst := HG.out.step OK.out hlt ⟨hb0, hb1⟩ (HBF.out.alloc HBF.out.size _) (by rw [HX.out.1, HX.out.2, HNP.out]; exact hown5) hgrow5
            rw [HNP.out, HNB.out, HNN.out] at hst
            have hcl : w5.cell? ⟨wr.heap.size, 2, none⟩ = some (.int .i64 T) := cell_of_row _ _ 2 _ _ _ ((hgrow5.block wr.heap.size (by have := HSW.out; simp only [World.size_alloc]; omega) (fun e => by have := row_ge HO.out _ e.symm; omega)).trans (heapA HBK.out _))
            have HN : Hid (∃ x f', CR k w base v' T (bs + 1) (0) (l ++ [x]) f' w5) := by obtain ⟨f', h⟩ := hst; exact ⟨_, f', h⟩
            clear hst hown5 hgrow5 HG HO HBF HX HL HBK HSW HNP HNB HNN HZ
            go_wp2
            go_roundw
            case rel => obtain ⟨x, f', h⟩ := HN.out; exact ⟨_, _, _, _, _, f', rfl, by go_num, by go_num, by go_num, h⟩
            case measure => simp [intOf]; omega
          by_cases hv0 : 0 < k.every
          · have hpe : ¬ pl = k.every - 1 := fun h => hE ⟨hv0, h⟩
            have e2 : (pl == k.every - 1) = false := beq_false_of_ne hpe
            have HC : Hid (redC k at' bs pl = false) := by unfold Hid; rw [HRC.out, decide_eq_false hC, Bool.false_or, ← Bool.decide_and, decide_eq_false hE]
            have hat : at' < k.red - 1 := by omega
            have hto2 := pPc_to OK.out (at' := at') (e := k.red - 1) hb1'.1 hat (by omega)
            have hr0 := ro0_low OK.out (at' := at') hb1'.1 (by omega)
            have hpn := room_p OK.out 0 at' (.inl rfl) (((((w3.setCell ⟨wr.heap.size, 0, none⟩ (.int .i64 0)).setCell ⟨wr.heap.size, 1, none⟩ (.int .i64 at')).setCell ⟨wr.heap.size, 2, none⟩ (.int .i64 0)).setCell ⟨wr.heap.size, 3, none⟩ (.int .i64 0)).setCell ⟨wr.heap.size, 4, none⟩ (.int .i64 0)) hb1'.1 hb1'.2
            obtain ⟨T2, hT2⟩ : ∃ T2, min (at' + ro0 k at') (k.red - 1) = T2 := ⟨_, rfl⟩
            have HPP : Hid (pPc k at' (k.red - 1) = ⟨0, at', T2, 0, 0⟩) := by unfold Hid pPc; rw [hT2]
            have HNP : Hid (nxP k at' bs pl = ⟨0, at', T2, 0, 0⟩) := by unfold Hid nxP; rw [HC.out, if_neg (by simp), HPP.out]
            have HNB : Hid (nxB k at' bs pl = bs) := by unfold Hid nxB; rw [HC.out, if_neg (by simp)]
            have HNN : Hid (nxN k at' bs pl = pl + 1) := by unfold Hid nxN; rw [HC.out, if_neg (by simp)]
            rw [HPP.out] at hto2
            simp only at hto2
            generalize ro0 k at' = r0 at *
            have u5 : IntKind.i64.wrap (k.red - at' - 1) = k.red - at' - 1 := by rw [IntKind.wrap_i64]; omega
            have u6 : IntKind.i64.wrap (at' + min r0 (k.red - at' - 1)) = T2 := by rw [IntKind.wrap_i64]; omega
            have u7 : IntKind.i64.wrap (pl + 1) = pl + 1 := by rw [IntKind.wrap_i64]; omega
            clear HC HRC HPC HTD HPP hT2 u2 HEN
            have p0 : w3.cell? ⟨w.heap.size, 0, none⟩ = some (.int .i64 k.org) := cell_of_row _ _ 0 _ _ _ ((HB3.out.block w.heap.size (by have := HSZ.out; omega)).trans HG.out.ses)
            have p1 : w3.cell? ⟨w.heap.size, 1, none⟩ = some (.int .i64 k.num) := cell_of_row _ _ 1 _ _ _ ((HB3.out.block w.heap.size (by have := HSZ.out; omega)).trans HG.out.ses)
            have hn0 : w.heap.size ≠ wr.heap.size := by have := HSZ.out; omega
            have hn0' : wr.heap.size ≠ w.heap.size := by have := HSZ.out; omega
            go_wp2_with fail
            refine hpn.mono ?_
            rintro e w4 ⟨rfl, hb4⟩
            have hb4' := hb4.size
            simp only [World.setCell, Array.size_modify] at hb4'
            have HSW : Hid ((w4.setCell ⟨wr.heap.size, 2, none⟩ (.int .i64 T2)).heap.size = w4.heap.size ∧ wr.heap.size < w4.heap.size) := ⟨by simp [World.setCell], by have := HLT.out; omega⟩
            have HZ : Hid (w4.heap[wr.heap.size]? = some (.cells #[.int .i64 0, .int .i64 at', .int .i64 0, .int .i64 0, .int .i64 0] 46)) := (hb4.block wr.heap.size (by have := HLT.out; simp [World.setCell]; omega)).trans (setAll HZ3.out)
            have HB4 : Hid (Below wr.heap.size wr w4) := (five_below HB3.out (Nat.le_refl _) _ _ _ _ _).trans (hb4.mono (by have := HLT.out; simp [World.setCell]; omega))
            have HBF : Hid (Below wr.heap.size wr (w4.setCell ⟨wr.heap.size, 2, none⟩ (.int .i64 T2))) := HB4.out.setCell (Nat.le_refl _) _
            have HBK : Hid ((w4.setCell ⟨wr.heap.size, 2, none⟩ (.int .i64 T2)).heap[wr.heap.size]? = some (.cells #[.int .i64 0, .int .i64 at', .int .i64 T2, .int .i64 0, .int .i64 0] 46)) := set5 HZ.out
            clear hb4 hb4' hpn z0 z1 z2 z3 z4 f0 f1 f2 f3 f4 q0 q1 q2 q3 q4 p0 p1
            obtain ⟨z0, z1, z2, z3, z4, f0, f1, f2, f3, f4⟩ := box5 HZ.out
            have q2 : w4.cell? ⟨w.heap.size + 1, 2, none⟩ = some (.int .i64 k.red) := cell_of_row _ _ 2 _ _ _ ((HB4.out.block (w.heap.size + 1) (by have := HSZ.out; omega)).trans HG.out.pcl)
            clear HB4
            go_wp2_with (at_builtin; refine wpList_append_own_at _ rfl _ _ 31 rfl (w.heap.size + 2) 46 i0 (.agg #[.int .i64 0, .int .i64 0, .int .i64 0, .int .i64 0, .int .i64 0]) 5 40 Tryd.underlying31 hi hz0 hz1 hz2 rfl (by decide) _ _ _ rfl (World.ownsRow.alloc (own_below HO.out HBF.out) _) ⟨w4.heap.size, 0, none⟩ 1 1 [.int .i64 0, .int .i64 at', .int .i64 T2, .int .i64 0, .int .i64 0] rfl rfl ?c1 ?c2 ?c3 ?c4 ?c5 ?_)
            case c1 => exact cell_five _ _ _ _ _ _ _ _ (by simp)
            case c2 => intro x hx; simp only [List.mem_cons, List.not_mem_nil, or_false] at hx; rcases hx with rfl | rfl | rfl | rfl | rfl <;> rfl
            case c3 => have := HL.out; unfold maxLen; omega
            case c4 => have := HL.out; omega
            case c5 => have h1 := HSZ.out; have h2 := HSW.out; simp; omega
            intro v' w5 hown5 hgrow5 _ _
            have hst := HG.out.step OK.out hlt ⟨hb0, hb1⟩ (HBF.out.alloc HBF.out.size _) (by rw [HX.out.1, HX.out.2, HNP.out]; exact hown5) hgrow5
            rw [HNP.out, HNB.out, HNN.out] at hst
            have hcl : w5.cell? ⟨wr.heap.size, 2, none⟩ = some (.int .i64 T2) := cell_of_row _ _ 2 _ _ _ ((hgrow5.block wr.heap.size (by have := HSW.out; simp only [World.size_alloc]; omega) (fun e => by have := row_ge HO.out _ e.symm; omega)).trans (heapA HBK.out _))
            have HN : Hid (∃ x f', CR k w base v' T2 (bs) (pl + 1) (l ++ [x]) f' w5) := by obtain ⟨f', h⟩ := hst; exact ⟨_, f', h⟩
            clear hst hown5 hgrow5 HG HO HBF HX HL HBK HSW HNP HNB HNN HZ
            go_wp2
            go_roundw
            case rel => obtain ⟨x, f', h⟩ := HN.out; exact ⟨_, _, _, _, _, f', rfl, by go_num, by go_num, by go_num, h⟩
            case measure => simp [intOf]; omega
          · skip
            have HC : Hid (redC k at' bs pl = false) := by unfold Hid; rw [HRC.out, decide_eq_false hC, Bool.false_or, ← Bool.decide_and, decide_eq_false hE]
            have hat : at' < k.red - 1 := by omega
            have hto2 := pPc_to OK.out (at' := at') (e := k.red - 1) hb1'.1 hat (by omega)
            have hr0 := ro0_low OK.out (at' := at') hb1'.1 (by omega)
            have hpn := room_p OK.out 0 at' (.inl rfl) (((((w3.setCell ⟨wr.heap.size, 0, none⟩ (.int .i64 0)).setCell ⟨wr.heap.size, 1, none⟩ (.int .i64 at')).setCell ⟨wr.heap.size, 2, none⟩ (.int .i64 0)).setCell ⟨wr.heap.size, 3, none⟩ (.int .i64 0)).setCell ⟨wr.heap.size, 4, none⟩ (.int .i64 0)) hb1'.1 hb1'.2
            obtain ⟨T2, hT2⟩ : ∃ T2, min (at' + ro0 k at') (k.red - 1) = T2 := ⟨_, rfl⟩
            have HPP : Hid (pPc k at' (k.red - 1) = ⟨0, at', T2, 0, 0⟩) := by unfold Hid pPc; rw [hT2]
            have HNP : Hid (nxP k at' bs pl = ⟨0, at', T2, 0, 0⟩) := by unfold Hid nxP; rw [HC.out, if_neg (by simp), HPP.out]
            have HNB : Hid (nxB k at' bs pl = bs) := by unfold Hid nxB; rw [HC.out, if_neg (by simp)]
            have HNN : Hid (nxN k at' bs pl = pl + 1) := by unfold Hid nxN; rw [HC.out, if_neg (by simp)]
            rw [HPP.out] at hto2
            simp only at hto2
            generalize ro0 k at' = r0 at *
            have u5 : IntKind.i64.wrap (k.red - at' - 1) = k.red - at' - 1 := by rw [IntKind.wrap_i64]; omega
            have u6 : IntKind.i64.wrap (at' + min r0 (k.red - at' - 1)) = T2 := by rw [IntKind.wrap_i64]; omega
            have u7 : IntKind.i64.wrap (pl + 1) = pl + 1 := by rw [IntKind.wrap_i64]; omega
            clear HC HRC HPC HTD HPP hT2 u2 HEN
            have p0 : w3.cell? ⟨w.heap.size, 0, none⟩ = some (.int .i64 k.org) := cell_of_row _ _ 0 _ _ _ ((HB3.out.block w.heap.size (by have := HSZ.out; omega)).trans HG.out.ses)
            have p1 : w3.cell? ⟨w.heap.size, 1, none⟩ = some (.int .i64 k.num) := cell_of_row _ _ 1 _ _ _ ((HB3.out.block w.heap.size (by have := HSZ.out; omega)).trans HG.out.ses)
            have hn0 : w.heap.size ≠ wr.heap.size := by have := HSZ.out; omega
            have hn0' : wr.heap.size ≠ w.heap.size := by have := HSZ.out; omega
            go_wp2_with fail
            refine hpn.mono ?_
            rintro e w4 ⟨rfl, hb4⟩
            have hb4' := hb4.size
            simp only [World.setCell, Array.size_modify] at hb4'
            have HSW : Hid ((w4.setCell ⟨wr.heap.size, 2, none⟩ (.int .i64 T2)).heap.size = w4.heap.size ∧ wr.heap.size < w4.heap.size) := ⟨by simp [World.setCell], by have := HLT.out; omega⟩
            have HZ : Hid (w4.heap[wr.heap.size]? = some (.cells #[.int .i64 0, .int .i64 at', .int .i64 0, .int .i64 0, .int .i64 0] 46)) := (hb4.block wr.heap.size (by have := HLT.out; simp [World.setCell]; omega)).trans (setAll HZ3.out)
            have HB4 : Hid (Below wr.heap.size wr w4) := (five_below HB3.out (Nat.le_refl _) _ _ _ _ _).trans (hb4.mono (by have := HLT.out; simp [World.setCell]; omega))
            have HBF : Hid (Below wr.heap.size wr (w4.setCell ⟨wr.heap.size, 2, none⟩ (.int .i64 T2))) := HB4.out.setCell (Nat.le_refl _) _
            have HBK : Hid ((w4.setCell ⟨wr.heap.size, 2, none⟩ (.int .i64 T2)).heap[wr.heap.size]? = some (.cells #[.int .i64 0, .int .i64 at', .int .i64 T2, .int .i64 0, .int .i64 0] 46)) := set5 HZ.out
            clear hb4 hb4' hpn z0 z1 z2 z3 z4 f0 f1 f2 f3 f4 q0 q1 q2 q3 q4 p0 p1
            obtain ⟨z0, z1, z2, z3, z4, f0, f1, f2, f3, f4⟩ := box5 HZ.out
            have q2 : w4.cell? ⟨w.heap.size + 1, 2, none⟩ = some (.int .i64 k.red) := cell_of_row _ _ 2 _ _ _ ((HB4.out.block (w.heap.size + 1) (by have := HSZ.out; omega)).trans HG.out.pcl)
            clear HB4
            go_wp2_with (at_builtin; refine wpList_append_own_at _ rfl _ _ 31 rfl (w.heap.size + 2) 46 i0 (.agg #[.int .i64 0, .int .i64 0, .int .i64 0, .int .i64 0, .int .i64 0]) 5 40 Tryd.underlying31 hi hz0 hz1 hz2 rfl (by decide) _ _ _ rfl (World.ownsRow.alloc (own_below HO.out HBF.out) _) ⟨w4.heap.size, 0, none⟩ 1 1 [.int .i64 0, .int .i64 at', .int .i64 T2, .int .i64 0, .int .i64 0] rfl rfl ?c1 ?c2 ?c3 ?c4 ?c5 ?_)
            case c1 => exact cell_five _ _ _ _ _ _ _ _ (by simp)
            case c2 => intro x hx; simp only [List.mem_cons, List.not_mem_nil, or_false] at hx; rcases hx with rfl | rfl | rfl | rfl | rfl <;> rfl
            case c3 => have := HL.out; unfold maxLen; omega
            case c4 => have := HL.out; omega
            case c5 => have h1 := HSZ.out; have h2 := HSW.out; simp; omega
            intro v' w5 hown5 hgrow5 _ _
            have hst := HG.out.step OK.out hlt ⟨hb0, hb1⟩ (HBF.out.alloc HBF.out.size _) (by rw [HX.out.1, HX.out.2, HNP.out]; exact hown5) hgrow5
            rw [HNP.out, HNB.out, HNN.out] at hst
            have hcl : w5.cell? ⟨wr.heap.size, 2, none⟩ = some (.int .i64 T2) := cell_of_row _ _ 2 _ _ _ ((hgrow5.block wr.heap.size (by have := HSW.out; simp only [World.size_alloc]; omega) (fun e => by have := row_ge HO.out _ e.symm; omega)).trans (heapA HBK.out _))
            have HN : Hid (∃ x f', CR k w base v' T2 (bs) (pl + 1) (l ++ [x]) f' w5) := by obtain ⟨f', h⟩ := hst; exact ⟨_, f', h⟩
            clear hst hown5 hgrow5 HG HO HBF HX HL HBK HSW HNP HNB HNN HZ
            go_wp2
            go_roundw
            case rel => obtain ⟨x, f', h⟩ := HN.out; exact ⟨_, _, _, _, _, f', rfl, by go_num, by go_num, by go_num, h⟩
            case measure => simp [intOf]; omega
        obtain ⟨rfl, HL0, hgr⟩ := hg.green OK.out (by omega)
        have HS1 : Hid (CG k w l v k.red [] (k.size - k.red).toNat wr) := hgr
        have HL0' : Hid (l = redG k k.red.toNat 0 base 0) := HL0
        obtain ⟨_, _, y2, _, _, _, _, _, _, _⟩ := box5 hgr.pcl
        clear hg hgr HL0
        go_wp2_with fail
        go_loopw [10, 11] (fun p r wr => ∃ (v : Value) (at' : Int) (l1 : List Pc) (f : Nat), v = p ∧ r = .int .i64 at' ∧ CG k w l v at' l1 f wr) (fun _ r _ => (k.size - intOf r).toNat)
        case atStart => exact ⟨_, k.red, [], _, rfl, rfl, HS1.out⟩
        case round =>
          clear y2 HS1
          obtain ⟨v, at', l1, f, rfl, rfl, hg⟩ := hrel
          have HG : Hid (CG k w l v at' l1 f wr) := hg
          clear hg
          obtain ⟨y0, y1, y2, y3, y4, _, _, _, _, _⟩ := box5 HG.out.pcl
          by_cases hlt2 : at' < k.size
          · have hb1' : 0 ≤ at' ∧ at' ≤ 65535 := by have := OK.out.size; have := OK.out.red; have := HG.out.lo; omega
            have hb2 : k.size ≤ 65536 := OK.out.size.2
            have hto := gPc_to OK.out hb1'.1 hlt2
            have HL : Hid ((l ++ l1).length ≤ 65536) := by have := HG.out.len; have := OK.out.red; have := OK.out.size; unfold Hid; omega
            have hrm := room_p OK.out 4 at' (.inr rfl) (wr.alloc (.cells #[.int .i64 4, .int .i64 at', .int .i64 0, .int .i64 0, .int .i64 0] 46)) hb1'.1 hb1'.2
            have hro := ro0_low OK.out hb1'.1 (by omega)
            have s0 : (wr.alloc (.cells #[.int .i64 4, .int .i64 at', .int .i64 0, .int .i64 0, .int .i64 0] 46)).cell? ⟨w.heap.size, 0, none⟩ = some (.int .i64 k.org) := cell_of_row _ _ 0 _ _ _ (heapA HG.out.ses _)
            have s1 : (wr.alloc (.cells #[.int .i64 4, .int .i64 at', .int .i64 0, .int .i64 0, .int .i64 0] 46)).cell? ⟨w.heap.size, 1, none⟩ = some (.int .i64 k.num) := cell_of_row _ _ 1 _ _ _ (heapA HG.out.ses _)
            have t0 : (wr.alloc (.cells #[.int .i64 4, .int .i64 at', .int .i64 0, .int .i64 0, .int .i64 0] 46)).cell? ⟨w.heap.size + 1, 0, none⟩ = some (.int .i64 k.srv) := cell_of_row _ _ 0 _ _ _ (heapA HG.out.pcl _)
            have t1 : (wr.alloc (.cells #[.int .i64 4, .int .i64 at', .int .i64 0, .int .i64 0, .int .i64 0] 46)).cell? ⟨w.heap.size + 1, 1, none⟩ = some (.int .i64 k.size) := cell_of_row _ _ 1 _ _ _ (heapA HG.out.pcl _)
            have t2 : (wr.alloc (.cells #[.int .i64 4, .int .i64 at', .int .i64 0, .int .i64 0, .int .i64 0] 46)).cell? ⟨w.heap.size + 1, 2, none⟩ = some (.int .i64 k.red) := cell_of_row _ _ 2 _ _ _ (heapA HG.out.pcl _)
            have t3 : (wr.alloc (.cells #[.int .i64 4, .int .i64 at', .int .i64 0, .int .i64 0, .int .i64 0] 46)).cell? ⟨w.heap.size + 1, 3, none⟩ = some (.int .i64 k.mtu) := cell_of_row _ _ 3 _ _ _ (heapA HG.out.pcl _)
            have t4 : (wr.alloc (.cells #[.int .i64 4, .int .i64 at', .int .i64 0, .int .i64 0, .int .i64 0] 46)).cell? ⟨w.heap.size + 1, 4, none⟩ = some (.int .i64 k.every) := cell_of_row _ _ 4 _ _ _ (heapA HG.out.pcl _)
            have HGP : Hid (gPc k at' = ⟨if min (at' + ro0 k at') k.size = k.size then 7 else 4, at', min (at' + ro0 k at') k.size, 0, 0⟩) := rfl
            obtain ⟨T, hT⟩ : ∃ T, min (at' + ro0 k at') k.size = T := ⟨_, rfl⟩
            rw [hT] at HGP
            rw [HGP.out] at hto
            simp only at hto
            have HTD : Hid (min (at' + ro0 k at') k.size = T) := hT
            generalize ro0 k at' = ro at *
            have u1 : IntKind.i64.wrap (k.size - at') = k.size - at' := by rw [IntKind.wrap_i64]; omega
            have u2 : IntKind.i64.wrap (at' + min ro (k.size - at')) = T := by rw [IntKind.wrap_i64]; omega
            clear hT
            have HSZ : Hid (w.heap.size + 2 ≤ wr.heap.size) := HG.out.size
            go_wp2_with fail
            refine hrm.mono ?_
            rintro e w3 ⟨rfl, hb3⟩
            obtain ⟨z0, z1, z2, z3, z4, f0, f1, f2, f3, f4⟩ := box5 ((hb3.block wr.heap.size (by simp)).trans (heap_alloc_new' _ _))
            have q1 : w3.cell? ⟨w.heap.size + 1, 1, none⟩ = some (.int .i64 k.size) := cell_of_row _ _ 1 _ _ _ ((hb3.block _ (by have := HSZ.out; simp; omega)).trans (heapA HG.out.pcl _))
            clear hrm s0 s1 y0 y1 y2 y3 y4 t0 t1 t2 t3 t4
            have hne : w.heap.size + 1 ≠ wr.heap.size := by have := HSZ.out; omega
            have hne' : wr.heap.size ≠ w.heap.size + 1 := by have := HSZ.out; omega
            obtain ⟨a, cap, hv⟩ := own_shp HG.out.own
            have HO : Hid (wr.ownsRow (w.heap.size + 2) 46 5 v (l ++ l1).length ((l ++ l1).flatMap pcL)) := HG.out.own
            subst hv
            obtain ⟨X, hX⟩ : ∃ X, (l ++ l1).flatMap pcL = X := ⟨_, rfl⟩
            obtain ⟨m, hm⟩ : ∃ m, (l ++ l1).length = m := ⟨_, rfl⟩
            rw [hX, hm] at HO
            rw [hm] at HG HL
            have HX : Hid ((l ++ l1).flatMap pcL = X ∧ (l ++ l1).length = m) := ⟨hX, hm⟩
            rw [hm]
            clear hX hm
            have HZ : Hid (w3.heap[wr.heap.size]? = some (.cells #[.int .i64 4, .int .i64 at', .int .i64 0, .int .i64 0, .int .i64 0] 46)) := (hb3.block wr.heap.size (by simp)).trans (heap_alloc_new' _ _)
            have HB3 : Hid (Below wr.heap.size wr w3) := ((Below.refl _ _).alloc (Nat.le_refl _) _).trans (hb3.mono (by simp))
            by_cases hTs : T = k.size
            · subst hTs
              have HBF : Hid (Below wr.heap.size wr ((w3.setCell ⟨wr.heap.size, 2, none⟩ (.int .i64 k.size)).setCell ⟨wr.heap.size, 0, none⟩ (.int .i64 7))) := (HB3.out.setCell (Nat.le_refl _) _).setCell (Nat.le_refl _) _
              have HBK : Hid (((w3.setCell ⟨wr.heap.size, 2, none⟩ (.int .i64 k.size)).setCell ⟨wr.heap.size, 0, none⟩ (.int .i64 7)).heap[wr.heap.size]? = some (.cells #[.int .i64 7, .int .i64 at', .int .i64 k.size, .int .i64 0, .int .i64 0] 46)) := set50 (set5 HZ.out)
              have HSW : Hid (((w3.setCell ⟨wr.heap.size, 2, none⟩ (.int .i64 k.size)).setCell ⟨wr.heap.size, 0, none⟩ (.int .i64 7)).heap.size = w3.heap.size ∧ wr.heap.size < w3.heap.size) := ⟨by simp [World.setCell], by have := hb3.size; simp at this; omega⟩
              have HGE : Hid (gPc k at' = ⟨7, at', k.size, 0, 0⟩) := by unfold Hid; rw [HGP.out, if_pos rfl]
              clear hb3 HZ
              go_wp2_with (at_builtin; refine wpList_append_own_at _ rfl _ _ 31 rfl (w.heap.size + 2) 46 i0 (.agg #[.int .i64 0, .int .i64 0, .int .i64 0, .int .i64 0, .int .i64 0]) 5 40 Tryd.underlying31 hi hz0 hz1 hz2 rfl (by decide) _ _ _ rfl (World.ownsRow.alloc (own_below HO.out HBF.out) _) ⟨w3.heap.size, 0, none⟩ 1 1 [.int .i64 7, .int .i64 at', .int .i64 k.size, .int .i64 0, .int .i64 0] rfl rfl ?c1 ?c2 ?c3 ?c4 ?c5 ?_)
              case c1 => exact cell_five _ _ _ _ _ _ _ _ (by simp)
              case c2 => intro x hx; simp only [List.mem_cons, List.not_mem_nil, or_false] at hx; rcases hx with rfl | rfl | rfl | rfl | rfl <;> rfl
              case c3 => have := HL.out; unfold maxLen; omega
              case c4 => have := HL.out; omega
              case c5 => have h1 := HSZ.out; have h2 := HSW.out; simp; omega
              intro v' w5 hown5 hgrow5 _ _
              have hst := HG.out.step OK.out hlt2 (HBF.out.alloc HBF.out.size _) (by rw [HX.out.1, HX.out.2, HGE.out]; exact hown5) hgrow5
              rw [HGE.out] at hst
              have hcl : w5.cell? ⟨wr.heap.size, 2, none⟩ = some (.int .i64 (k.size)) := cell_of_row _ _ 2 _ _ _ ((hgrow5.block wr.heap.size (by have := HSW.out; simp only [World.size_alloc]; omega) (fun e => by have := row_ge HO.out _ e.symm; omega)).trans (heapA HBK.out _))
              have HN : Hid (∃ x f', CG k w l v' (k.size) (l1 ++ [x]) f' w5) := by obtain ⟨f', h⟩ := hst; exact ⟨_, f', h⟩
              clear hst hown5 hgrow5 HG HO HBF HX HL HBK HSW
              go_wp2
              go_roundw
              case rel => obtain ⟨x, f', h⟩ := HN.out; exact ⟨_, _, _, f', rfl, by go_num, h⟩
              case measure => simp [intOf]; omega
            · have e1 : (T == k.size) = false := beq_false_of_ne hTs
              have HBF : Hid (Below wr.heap.size wr (w3.setCell ⟨wr.heap.size, 2, none⟩ (.int .i64 T))) := HB3.out.setCell (Nat.le_refl _) _
              have HBK : Hid ((w3.setCell ⟨wr.heap.size, 2, none⟩ (.int .i64 T)).heap[wr.heap.size]? = some (.cells #[.int .i64 4, .int .i64 at', .int .i64 T, .int .i64 0, .int .i64 0] 46)) := set5 HZ.out
              have HSW : Hid ((w3.setCell ⟨wr.heap.size, 2, none⟩ (.int .i64 T)).heap.size = w3.heap.size ∧ wr.heap.size < w3.heap.size) := ⟨by simp [World.setCell], by have := hb3.size; simp at this; omega⟩
              have HGE : Hid (gPc k at' = ⟨4, at', T, 0, 0⟩) := by unfold Hid; rw [HGP.out, if_neg hTs]
              clear hb3 HZ
              go_wp2_with (at_builtin; refine wpList_append_own_at _ rfl _ _ 31 rfl (w.heap.size + 2) 46 i0 (.agg #[.int .i64 0, .int .i64 0, .int .i64 0, .int .i64 0, .int .i64 0]) 5 40 Tryd.underlying31 hi hz0 hz1 hz2 rfl (by decide) _ _ _ rfl (World.ownsRow.alloc (own_below HO.out HBF.out) _) ⟨w3.heap.size, 0, none⟩ 1 1 [.int .i64 4, .int .i64 at', .int .i64 T, .int .i64 0, .int .i64 0] rfl rfl ?c1 ?c2 ?c3 ?c4 ?c5 ?_)
              case c1 => exact cell_five _ _ _ _ _ _ _ _ (by simp)
              case c2 => intro x hx; simp only [List.mem_cons, List.not_mem_nil, or_false] at hx; rcases hx with rfl | rfl | rfl | rfl | rfl <;> rfl
              case c3 => have := HL.out; unfold maxLen; omega
              case c4 => have := HL.out; omega
              case c5 => have h1 := HSZ.out; have h2 := HSW.out; simp; omega
              intro v' w5 hown5 hgrow5 _ _
              have hst := HG.out.step OK.out hlt2 (HBF.out.alloc HBF.out.size _) (by rw [HX.out.1, HX.out.2, HGE.out]; exact hown5) hgrow5
              rw [HGE.out] at hst
              have hcl : w5.cell? ⟨wr.heap.size, 2, none⟩ = some (.int .i64 (T)) := cell_of_row _ _ 2 _ _ _ ((hgrow5.block wr.heap.size (by have := HSW.out; simp only [World.size_alloc]; omega) (fun e => by have := row_ge HO.out _ e.symm; omega)).trans (heapA HBK.out _))
              have HN : Hid (∃ x f', CG k w l v' (T) (l1 ++ [x]) f' w5) := by obtain ⟨f', h⟩ := hst; exact ⟨_, f', h⟩
              clear hst hown5 hgrow5 HG HO HBF HX HL HBK HSW
              go_wp2
              go_roundw
              case rel => obtain ⟨x, f', h⟩ := HN.out; exact ⟨_, _, _, f', rfl, by go_num, h⟩
              case measure => simp [intOf]; omega
          · have HP : Hid (POwn wr w.heap.size v (cutL k base) ∧ Below w.heap.size w wr) := by
              have hd := HG.out
              rw [HL0'.out] at hd
              exact ⟨hd.done (by omega), hd.bel⟩
            clear HG
            go_wp2
            go_ret2
            exact ⟨v, by rw [HQ.out]; rfl, by rw [HQ.out]; exact HP.out.1, HP.out.2⟩

end Go.Proofs.YtgmbpagbiakciadDoor
