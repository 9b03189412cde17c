import Derived.Test.YtkkmoplijicmpabDoorOb3
import Derived.Test.YtkkmoplijicmpabDoorOe2
namespace Go.Proofs.YtkkmoplijicmpabDoor
open Go.RowKit
set_option linter.unusedVariables false
set_option linter.unusedSimpArgs false

theorem kt_nam {own own' : Nat → Nat} {w w' : World} {al : Option Addr} {os : List Value} (h : C.Nam own' w al os) (hk : C.Kt own w w') (h0 : ∀ gl off, al = some ⟨gl, off, none⟩ → own gl = 0) : C.Nam own' w' al os := by
  rcases h with h | ⟨gl, off, ha, hz, hc⟩
  · exact .inl h
  · refine .inr ⟨gl, off, ha, hz, fun i v hi => ?_⟩
    have h1 := hc i v hi
    have hlt : gl < w.heap.size := World.block_lt_of_cell? w ⟨gl, off + i, none⟩ h1
    exact (World.cell?_of_block (a := ⟨gl, off + i, none⟩) (hk.block gl hlt (h0 gl off ha))).trans h1

/-- What Rows holds: its three lists of lists, each row in a block of its own, told apart by three tags. -/
structure Rws (w : World) (pr : Nat) (oB oS oE : Nat → Nat) (ab asp ae : Option Addr) (cb cs ce : Nat) (bs ss es : List Value) (Cb : Nat → List Int) (Cs : Nat → List C.Sp) (Ce : Nat → List Xr) : Prop where
  box : w.heap[pr]? = some (.cells #[.slice ab bs.length cb, .slice asp ss.length cs, .slice ae es.length ce] 43 (0, 0))
  pr0 : oB pr = 0 ∧ oS pr = 0
  lb : Lob oB w bs Cb 0
  ls : C.Lo oS w ss Cs 0
  le : Loe oE w es Ce 0
  nb : C.Nam oB w ab bs
  ns : C.Nam oS w asp ss
  ne : C.Nam oE w ae es
  ds : ∀ g, g < w.heap.size → oS g ≠ 0 → oB g = 0
  de : ∀ g, g < w.heap.size → oE g ≠ 0 → oB g = 0 ∧ oS g = 0
  qs : ∀ gl off, asp = some ⟨gl, off, none⟩ → oB gl = 0
  qe : ∀ gl off, ae = some ⟨gl, off, none⟩ → oB gl = 0 ∧ oS gl = 0
  few : bs.length ≤ 1048576 ∧ ss.length ≤ 1048576 ∧ es.length ≤ 1048576
  lim : (∀ j, (Cb j).length ≤ 1048600) ∧ (∀ j, (Cs j).length ≤ 1048600) ∧ (∀ j, (Ce j).length ≤ 1048600)

set_option maxRecDepth 100000 in
set_option maxHeartbeats 4000000 in
/-- OWNED: bytes, spans and extensions. -/
theorem ownedRows_any {w : World} {pr : Nat} {oB oS oE : Nat → Nat} {ab asp ae : Option Addr} {cb cs ce : Nat} {bs ss es : List Value} {Cb : Nat → List Int} {Cs : Nat → List C.Sp} {Ce : Nat → List Xr} (h : Rws w pr oB oS oE ab asp ae cb cs ce bs ss es Cb Cs Ce) :
    Calls Tryd.prog 14 #[.pointer (some ⟨pr, 0, none⟩)] w fun e w' => e = .returned (.bool true) ∧ C.Kt (fun g => oB g + oS g + oE g) w w' := by
  have hB := ownedBytes_any ab cb oB bs Cb w h.lb h.nb h.few.1 h.lim.1
  have hlt : pr < w.heap.size := (Array.getElem?_eq_some_iff.1 h.box).1
  have HS : Hid (∀ V, C.Kt oB w V → Calls Tryd.prog 34 #[.slice asp ss.length cs] V fun e w' => e = .returned (.bool true) ∧ C.Kt oS V w') := fun V hV => by
    refine C.ownedSpans_any asp cs oS ss Cs V ⟨fun j v hj hv => (h.ls.kr j v hj hv).blk2 (fun g hg => ?_), h.ls.tk⟩ (kt_nam h.ns hV h.qs) h.few.2.1 h.lim.2.1
    have hgl := ((h.ls.kr j v hj hv).lt g hg).2
    exact hV.block g hgl (h.ds g hgl (by rw [h.ls.tk j v g hj hv hg]; omega))
  have HE : Hid (∀ V V', C.Kt oB w V → C.Kt oS V V' → Calls Tryd.prog 35 #[.slice ae es.length ce] V' fun e w' => e = .returned (.bool true) ∧ C.Kt oE V' w') := fun V V' hV hV' => by
    refine ownedExts_any ae ce oE es Ce V' ⟨fun j v hj hv => (h.le.kr j v hj hv).blk2 (fun g hg => ?_), h.le.tk⟩ (kt_nam (kt_nam h.ne hV (fun gl off e => (h.qe gl off e).1)) hV' (fun gl off e => (h.qe gl off e).2)) h.few.2.2 h.lim.2.2
    have hgl := ((h.le.kr j v hj hv).lt g hg).2
    have hd := h.de g hgl (by rw [h.le.tk j v g hj hv hg]; omega)
    exact (hV'.block g (Nat.lt_of_lt_of_le hgl hV.size) hd.2).trans (hV.block g hgl hd.1)
  have HBx : Hid (w.heap[pr]? = some (.cells #[.slice ab bs.length cb, .slice asp ss.length cs, .slice ae es.length ce] 43 (0, 0)) ∧ pr < w.heap.size ∧ oB pr = 0 ∧ oS pr = 0) := ⟨h.box, hlt, h.pr0.1, h.pr0.2⟩
  clear h hlt
  generalize bs.length = n1 at *
  generalize ss.length = n2 at *
  generalize es.length = n3 at *
  have c0 : w.cell? ⟨pr, 0, none⟩ = some (.slice ab n1 cb) := by rw [cell_of_row _ _ _ _ _ _ HBx.out.1]; rfl
  go_enter Tryd.func14, Tryd.ntmps14
  go_wp2_with fail
  refine hB.mono ?_
  rintro e w1 ⟨rfl, hk1⟩
  have HK1 : Hid (C.Kt oB w w1) := hk1
  have HB1 : Hid (w1.heap[pr]? = some (.cells #[.slice ab n1 cb, .slice asp n2 cs, .slice ae n3 ce] 43 (0, 0))) := (hk1.block pr HBx.out.2.1 HBx.out.2.2.1).trans HBx.out.1
  have c1 : w1.cell? ⟨pr, 1, none⟩ = some (.slice asp n2 cs) := by rw [cell_of_row _ _ _ _ _ _ HB1.out]; rfl
  have hS := HS.out w1 hk1
  clear hk1 c0 hB
  go_wp2_with fail
  refine hS.mono ?_
  rintro e w2 ⟨rfl, hk2⟩
  have HK2 : Hid (C.Kt oS w1 w2) := hk2
  have c2 : w2.cell? ⟨pr, 2, none⟩ = some (.slice ae n3 ce) := by rw [cell_of_row _ _ _ _ _ _ ((hk2.block pr (Nat.lt_of_lt_of_le HBx.out.2.1 HK1.out.size) HBx.out.2.2.2).trans HB1.out)]; rfl
  have hE := HE.out w1 w2 HK1.out hk2
  clear hk2 hS c1
  go_wp2_with fail
  refine hE.mono ?_
  rintro e w3 ⟨rfl, hk3⟩
  have HK3 : Hid (C.Kt oE w2 w3) := hk3
  clear hk3 hE c2
  go_wp2
  go_ret
  refine ⟨rfl, ?_⟩
  have k1 := HK1.out
  have k2 := HK2.out
  have k3 := HK3.out
  refine ⟨k3.os.trans (k2.os.trans k1.os), k3.tape.trans (k2.tape.trans k1.tape), k3.output.trans (k2.output.trans k1.output), Nat.le_trans k1.size (Nat.le_trans k2.size k3.size), fun g hg h0 => ?_⟩
  have h0' : oB g + oS g + oE g = 0 := h0
  exact (k3.block g (by have := k1.size; have := k2.size; omega) (by omega)).trans ((k2.block g (by have := k1.size; omega) (by omega)).trans (k1.block g hg (by omega)))

end Go.Proofs.YtkkmoplijicmpabDoor
