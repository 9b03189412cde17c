import Derived.Test.YtkkmoplijicmpaeDoorOb3
import Derived.Test.YtkkmoplijicmpaeDoorOe2
import Derived.Test.YtkkmoplijicmpaeDoorRx2
import Derived.Test.YtkkmoplijicmpaeDoorLs2
namespace Go.Proofs.YtkkmoplijicmpaeDoor
open Go.RowKit
set_option linter.unusedVariables false
set_option linter.unusedSimpArgs false

theorem kt_nam {own own' : Nat → Nat} {w w' : World} {al : Option Addr} {os : List Value} (h : C.Nam own' w al os) (hk : C.Kt own w w') (h0 : ∀ gl off, al = some ⟨gl, off, none⟩ → own gl = 0) : C.Nam own' w' al os := by
  rcases h with h | ⟨gl, off, ha, hz, hc⟩
  · exact .inl h
  · refine .inr ⟨gl, off, ha, hz, fun i v hi => ?_⟩
    have h1 := hc i v hi
    have hlt : gl < w.heap.size := World.block_lt_of_cell? w ⟨gl, off + i, none⟩ h1
    exact (World.cell?_of_block (a := ⟨gl, off + i, none⟩) (hk.block gl hlt (h0 gl off ha))).trans h1

/-- What Rows holds: its three lists of lists, each row in a block of its own, told apart by three tags. -/
structure Rws (w : World) (pr : Nat) (oB oS oE : Nat → Nat) (ab asp ae : Option Addr) (cb cs ce : Nat) (bs ss es : List Value) (Cb : Nat → List Int) (Cs : Nat → List C.Sp) (Ce : Nat → List Xr) : Prop where
  box : w.heap[pr]? = some (.cells #[.slice ab bs.length cb, .slice asp ss.length cs, .slice ae es.length ce] 73 (0, 0))
  pr0 : oB pr = 0 ∧ oS pr = 0
  lb : Lob oB w bs Cb 0
  ls : C.Lo oS w ss Cs 0
  le : Loe oE w es Ce 0
  nb : C.Nam oB w ab bs
  ns : C.Nam oS w asp ss
  ne : C.Nam oE w ae es
  ds : ∀ g, g < w.heap.size → oS g ≠ 0 → oB g = 0
  de : ∀ g, g < w.heap.size → oE g ≠ 0 → oB g = 0 ∧ oS g = 0
  qs : ∀ gl off, asp = some ⟨gl, off, none⟩ → oB gl = 0
  qe : ∀ gl off, ae = some ⟨gl, off, none⟩ → oB gl = 0 ∧ oS gl = 0
  few : bs.length ≤ 1048576 ∧ ss.length ≤ 1048576 ∧ es.length ≤ 1048576
  lim : (∀ j, (Cb j).length ≤ 1048600) ∧ (∀ j, (Cs j).length ≤ 1048600) ∧ (∀ j, (Ce j).length ≤ 1048600)

set_option maxRecDepth 100000 in
set_option maxHeartbeats 4000000 in
/-- OWNED: bytes, spans and extensions. -/
theorem ownedRows_any {w : World} {pr : Nat} {oB oS oE : Nat → Nat} {ab asp ae : Option Addr} {cb cs ce : Nat} {bs ss es : List Value} {Cb : Nat → List Int} {Cs : Nat → List C.Sp} {Ce : Nat → List Xr} (h : Rws w pr oB oS oE ab asp ae cb cs ce bs ss es Cb Cs Ce) :
    Calls Tryd.prog 30 #[.pointer (some ⟨pr, 0, none⟩)] w fun e w' => e = .returned (.bool true) ∧ C.Kt (fun g => oB g + oS g + oE g) w w' := by
  have hB := ownedBytes_any ab cb oB bs Cb w h.lb h.nb h.few.1 h.lim.1
  have hlt : pr < w.heap.size := (Array.getElem?_eq_some_iff.1 h.box).1
  have HS : Hid (∀ V, C.Kt oB w V → Calls Tryd.prog 81 #[.slice asp ss.length cs] V fun e w' => e = .returned (.bool true) ∧ C.Kt oS V w') := fun V hV => by
    refine C.ownedSpans_any asp cs oS ss Cs V ⟨fun j v hj hv => (h.ls.kr j v hj hv).blk2 (fun g hg => ?_), h.ls.tk⟩ (kt_nam h.ns hV h.qs) h.few.2.1 h.lim.2.1
    have hgl := ((h.ls.kr j v hj hv).lt g hg).2
    exact hV.block g hgl (h.ds g hgl (by rw [h.ls.tk j v g hj hv hg]; omega))
  have HE : Hid (∀ V V', C.Kt oB w V → C.Kt oS V V' → Calls Tryd.prog 82 #[.slice ae es.length ce] V' fun e w' => e = .returned (.bool true) ∧ C.Kt oE V' w') := fun V V' hV hV' => by
    refine ownedExts_any ae ce oE es Ce V' ⟨fun j v hj hv => (h.le.kr j v hj hv).blk2 (fun g hg => ?_), h.le.tk⟩ (kt_nam (kt_nam h.ne hV (fun gl off e => (h.qe gl off e).1)) hV' (fun gl off e => (h.qe gl off e).2)) h.few.2.2 h.lim.2.2
    have hgl := ((h.le.kr j v hj hv).lt g hg).2
    have hd := h.de g hgl (by rw [h.le.tk j v g hj hv hg]; omega)
    exact (hV'.block g (Nat.lt_of_lt_of_le hgl hV.size) hd.2).trans (hV.block g hgl hd.1)
  have HBx : Hid (w.heap[pr]? = some (.cells #[.slice ab bs.length cb, .slice asp ss.length cs, .slice ae es.length ce] 73 (0, 0)) ∧ pr < w.heap.size ∧ oB pr = 0 ∧ oS pr = 0) := ⟨h.box, hlt, h.pr0.1, h.pr0.2⟩
  clear h hlt
  generalize bs.length = n1 at *
  generalize ss.length = n2 at *
  generalize es.length = n3 at *
  have c0 : w.cell? ⟨pr, 0, none⟩ = some (.slice ab n1 cb) := by rw [cell_of_row _ _ _ _ _ _ HBx.out.1]; rfl
  go_enter Tryd.func30, Tryd.ntmps30
  go_wp2_with fail
  refine hB.mono ?_
  rintro e w1 ⟨rfl, hk1⟩
  have HK1 : Hid (C.Kt oB w w1) := hk1
  have HB1 : Hid (w1.heap[pr]? = some (.cells #[.slice ab n1 cb, .slice asp n2 cs, .slice ae n3 ce] 73 (0, 0))) := (hk1.block pr HBx.out.2.1 HBx.out.2.2.1).trans HBx.out.1
  have c1 : w1.cell? ⟨pr, 1, none⟩ = some (.slice asp n2 cs) := by rw [cell_of_row _ _ _ _ _ _ HB1.out]; rfl
  have hS := HS.out w1 hk1
  clear hk1 c0 hB
  go_wp2_with fail
  refine hS.mono ?_
  rintro e w2 ⟨rfl, hk2⟩
  have HK2 : Hid (C.Kt oS w1 w2) := hk2
  have c2 : w2.cell? ⟨pr, 2, none⟩ = some (.slice ae n3 ce) := by rw [cell_of_row _ _ _ _ _ _ ((hk2.block pr (Nat.lt_of_lt_of_le HBx.out.2.1 HK1.out.size) HBx.out.2.2.2).trans HB1.out)]; rfl
  have hE := HE.out w1 w2 HK1.out hk2
  clear hk2 hS c1
  go_wp2_with fail
  refine hE.mono ?_
  rintro e w3 ⟨rfl, hk3⟩
  have HK3 : Hid (C.Kt oE w2 w3) := hk3
  clear hk3 hE c2
  go_wp2
  go_ret
  refine ⟨rfl, ?_⟩
  have k1 := HK1.out
  have k2 := HK2.out
  have k3 := HK3.out
  refine ⟨k3.os.trans (k2.os.trans k1.os), k3.tape.trans (k2.tape.trans k1.tape), k3.output.trans (k2.output.trans k1.output), Nat.le_trans k1.size (Nat.le_trans k2.size k3.size), fun g hg h0 => ?_⟩
  have h0' : oB g + oS g + oE g = 0 := h0
  exact (k3.block g (by have := k1.size; have := k2.size; omega) (by omega)).trans ((k2.block g (by have := k1.size; omega) (by omega)).trans (k1.block g hg (by omega)))

end Go.Proofs.YtkkmoplijicmpaeDoor

namespace Go.Proofs.YtkkmoplijicmpaeDoor
open Go.RowKit
set_option linter.unusedVariables false
set_option linter.unusedSimpArgs false

/-- Whose each block is, where no two rows share one. -/
theorem own_tags2 (vs : List Value) (hd : ∀ (i j : Nat) v u g, vs[i]? = some v → vs[j]? = some u → v.ownBlock = some g → u.ownBlock = some g → i = j) :
    ∃ own : Nat → Nat, (∀ (j : Nat) v g, vs[j]? = some v → v.ownBlock = some g → own g = 10 + j) ∧ (∀ g, (∀ (j : Nat) v, vs[j]? = some v → v.ownBlock ≠ some g) → own g = 0) := by
  classical
  refine ⟨fun g => if h : ∃ j : Nat, ∃ v, vs[j]? = some v ∧ v.ownBlock = some g then 10 + Classical.choose h else 0, fun j v g hj hg => ?_, fun g hg => ?_⟩
  · have h : ∃ j : Nat, ∃ v, vs[j]? = some v ∧ v.ownBlock = some g := ⟨j, v, hj, hg⟩
    show (if h : ∃ j : Nat, ∃ v, vs[j]? = some v ∧ v.ownBlock = some g then 10 + Classical.choose h else 0) = 10 + j
    rw [dif_pos h]
    obtain ⟨u, hu, hug⟩ := Classical.choose_spec h
    rw [hd _ _ _ _ g hu hj hug hg]
  · show (if h : ∃ j : Nat, ∃ v, vs[j]? = some v ∧ v.ownBlock = some g then 10 + Classical.choose h else 0) = 0
    rw [dif_neg]
    rintro ⟨j, v, hj, hv⟩
    exact hg j v hj hv

def xsE (l : List Ex) : Bool := decide (l.length ≤ 15) && l.all (fun e => btw e.tag 0 255 && decide (e.data.length ≤ 200))
theorem xsOk_ex (xs : List Xr) : xsOk xs = xsE (xs.map Xr.ex) := by
  unfold xsOk xsE
  rw [List.length_map, List.all_map]
  rfl
theorem may_ex {h : Int} {s : Sg} {hx tx hy ty : List Xr} (e1 : hx.map Xr.ex = hy.map Xr.ex) (e2 : tx.map Xr.ex = ty.map Xr.ex) : may h s hx tx = may h s hy ty := by
  unfold may
  rw [xsOk_ex hx, xsOk_ex tx, e1, e2, ← xsOk_ex, ← xsOk_ex]
/-- What is printed hangs on what the extensions say alone. -/
theorem prt_ex {s : Sg} {hx tx hy ty : List Xr} (e1 : hx.map Xr.ex = hy.map Xr.ex) (e2 : tx.map Xr.ex = ty.map Xr.ex) : prt s hx tx = prt s hy ty := by
  unfold prt
  rw [may_ex e1 e2]

set_option maxRecDepth 100000 in
set_option maxHeartbeats 4000000 in
/-- segment.Right of any segment. -/
theorem rightS_any (s : Sg) (hv tv dv cv : Value) (hx tx : List Xr) (w : World) (hs : SIn w s hv tv dv cv hx tx) (hT : Tab w) :
    Calls Tryd.prog 92 #[.agg (svC s hv tv dv cv)] w fun e w' => e = .returned (.int .i64 (prt s hx tx).1) ∧ Below w.heap.size w w' := by
  have h00 : 0 < w.heap.size := World.block_lt_of_cell? w ⟨0, 0, none⟩ (hT 0 (by omega))
  obtain ⟨W, hW⟩ : ∃ W, w.alloc (.cells (svC s hv tv dv cv) 81) = W := ⟨_, rfl⟩
  have HWe : Hid (w.alloc (.cells (svC s hv tv dv cv) 81) = W) := hW
  have hbW : Below w.heap.size w W := by rw [← hW]; exact (Below.refl _ _).alloc (Nat.le_refl _) _
  have HBW : Hid (Below w.heap.size w W) := hbW
  have hr : W.heap[w.heap.size]? = some (.cells (svC s hv tv dv cv) 81 (0, 0)) := by rw [← hW]; exact al_new _ _
  obtain ⟨y0, y1, y2, y3, y4, y5, y6, y7, y8, y9, y10, y11, y12, y13⟩ := s14_cells hr
  have hP := print_any s hv tv dv cv hx tx W (hs.below hbW) (hT.below hbW h00)
  obtain ⟨z, hz⟩ : ∃ z, (prt s hx tx).1 = z := ⟨_, rfl⟩
  have HZ : Hid ((prt s hx tx).1 = z) := hz
  rw [hz]
  clear hW hbW hr hs hT hz
  go_enter Tryd.func92, Tryd.ntmps92
  go_wp2_with fail
  rw [HWe.out]
  refine hP.mono ?_
  rintro e w1 ⟨a, c, rfl, _, hb⟩
  rw [HZ.out]
  have HF : Hid (Below w.heap.size w w1) := HBW.out.trans (hb.mono HBW.out.size)
  clear hb hP y0 y1 y2 y3 y4 y5 y6 y7 y8 y9 y10 y11 y12 y13
  go_wp2
  go_ret
  exact ⟨rfl, HF.out⟩

/-- A byte with its last bit turned. -/
def x1 (c : Int) : Int := bits .xor .u8 c 1
def x1s (k : Nat) (zs : List Int) : List Int := (zs.take k).map x1 ++ zs.drop k
/-- A span whose end is one less. -/
def d1 (p : Int × Int) : Int × Int := (p.1, IntKind.i64.wrap (p.2 - 1))
def d1s (k : Nat) (l : List (Int × Int)) : List (Int × Int) := (l.take k).map d1 ++ l.drop k
/-- Nothing but two blocks has changed. -/
structure Off (gd gc : Nat) (w w' : World) : Prop where
  os : w'.os = w.os
  tape : w'.tape = w.tape
  output : w'.output = w.output
  size : w.heap.size ≤ w'.heap.size
  block : ∀ g, g < w.heap.size → g ≠ gd → g ≠ gc → w'.heap[g]? = w.heap[g]?
theorem Off.refl (gd gc : Nat) (w : World) : Off gd gc w w := ⟨rfl, rfl, rfl, Nat.le_refl _, fun _ _ _ _ => rfl⟩
theorem Off.drewN {gd gc : Nat} {w w' : World} (h : Off gd gc w w') (n : Nat) : Off gd gc w (w'.drewN n) := ⟨h.os, h.tape, h.output, h.size, h.block⟩
theorem Off.low {gd gc b : Nat} {w w' : World} (h : Off gd gc w w') (h1 : b ≤ gd) (h2 : b ≤ gc) (hb : b ≤ w.heap.size) : Below b w w' := ⟨h.os, h.tape, h.output, h.size, fun g hg => h.block g (by omega) (by omega) (by omega)⟩
theorem BOwn.lies {w : World} {base n c : Nat} {a : Option Addr} {L : List Int} (h : BOwn w base (.slice a n c) L) : Lies .u8 w a L := by
  have hn := h.lenEq
  subst hn
  obtain ⟨_, ⟨e, e0⟩ | ⟨g, cap, cur, e, q⟩⟩ := id h
  · left; exact List.eq_nil_of_length_eq_zero e0
  · simp only [Value.slice.injEq] at e
    obtain ⟨rfl, _, rfl⟩ := e
    right
    refine ⟨g, 0, rfl, fun i hi => ?_⟩
    obtain ⟨q1, _⟩ := h.cell (k := i) (x := L.getD i 0) (by rw [List.getElem?_eq_getElem hi]; simp [List.getD_eq_getElem?_getD, List.getElem?_eq_getElem hi])
    rw [Nat.zero_add]
    exact q1
theorem BOwn.low {w : World} {b b' : Nat} {v : Value} {L : List Int} (h : BOwn w b v L) (hb : b' ≤ b) : BOwn w b' v L := own_low5 h hb

/-- What Print answers. -/
def PrP (z : Int) (b : List Int) (n : Nat) (w : World) (e : Ending) (w' : World) : Prop := ∃ a c, e = .returned (.tuple #[.slice a n c, .int .i64 z]) ∧ BOwn w' w.heap.size (.slice a n c) b ∧ Below w.heap.size w w'
end Go.Proofs.YtkkmoplijicmpaeDoor
