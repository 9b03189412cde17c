import Derived.Test.YtdfdaambfihjaaaDoorOb2
import Derived.Test.YtdfdaambfihjaaaDoorOe2
import Derived.Test.YtdfdaambfihjaaaDoorBody
import Derived.Test.YtdfdaambfihjaaaDoorOwns
import Derived.Test.YtdfdaambfihjaaaDoorRead
import Derived.Test.YtdfdaambfihjaaaDoorTk2
namespace Go.Proofs.YtdfdaambfihjaaaDoor
open Go.RowKit
set_option linter.unusedVariables false
set_option linter.unusedSimpArgs false

theorem kt_nam {own own' : Nat → Nat} {w w' : World} {al : Option Addr} {os : List Value} (h : C.Nam own' w al os) (hk : C.Kt own w w') (h0 : ∀ gl off, al = some ⟨gl, off, none⟩ → own gl = 0) : C.Nam own' w' al os := by
  rcases h with h | ⟨gl, off, ha, hz, hc⟩
  · exact .inl h
  · refine .inr ⟨gl, off, ha, hz, fun i v hi => ?_⟩
    have h1 := hc i v hi
    have hlt : gl < w.heap.size := World.block_lt_of_cell? w ⟨gl, off + i, none⟩ h1
    exact (World.cell?_of_block (a := ⟨gl, off + i, none⟩) (hk.block gl hlt (h0 gl off ha))).trans h1

/-- What Rows holds: its three lists of lists, each row in a block of its own, told apart by three tags. -/
structure Rws (w : World) (pr : Nat) (oB oS oE : Nat → Nat) (ab asp ae : Option Addr) (cb cs ce : Nat) (bs ss es : List Value) (Cb : Nat → List Int) (Cs : Nat → List C.Sp) (Ce : Nat → List Xr) : Prop where
  box : w.heap[pr]? = some (.cells #[.slice ab bs.length cb, .slice asp ss.length cs, .slice ae es.length ce] 55 (0, 0))
  pr0 : oB pr = 0 ∧ oS pr = 0
  lb : Lob oB w bs Cb 0
  ls : C.Lo oS w ss Cs 0
  le : Loe oE w es Ce 0
  nb : C.Nam oB w ab bs
  ns : C.Nam oS w asp ss
  ne : C.Nam oE w ae es
  ds : ∀ g, g < w.heap.size → oS g ≠ 0 → oB g = 0
  de : ∀ g, g < w.heap.size → oE g ≠ 0 → oB g = 0 ∧ oS g = 0
  qs : ∀ gl off, asp = some ⟨gl, off, none⟩ → oB gl = 0
  qe : ∀ gl off, ae = some ⟨gl, off, none⟩ → oB gl = 0 ∧ oS gl = 0
  few : bs.length ≤ 33554432 ∧ ss.length ≤ 1048576 ∧ es.length ≤ 33554432
  lim : (∀ j, (Cb j).length ≤ 1048600) ∧ (∀ j, (Cs j).length ≤ 1048600) ∧ (∀ j, (Ce j).length ≤ 1048600)

set_option maxRecDepth 100000 in
set_option maxHeartbeats 4000000 in
/-- OWNED: bytes, spans and extensions. -/
theorem ownedRows_any {w : World} {pr : Nat} {oB oS oE : Nat → Nat} {ab asp ae : Option Addr} {cb cs ce : Nat} {bs ss es : List Value} {Cb : Nat → List Int} {Cs : Nat → List C.Sp} {Ce : Nat → List Xr} (h : Rws w pr oB oS oE ab asp ae cb cs ce bs ss es Cb Cs Ce) :
    Calls Tryd.prog 22 #[.pointer (some ⟨pr, 0, none⟩)] w fun e w' => e = .returned (.bool true) ∧ C.Kt (fun g => oB g + oS g + oE g) w w' := by
  have hB := ownedBytes_any ab cb oB bs Cb w h.lb h.nb h.few.1 h.lim.1
  have hlt : pr < w.heap.size := (Array.getElem?_eq_some_iff.1 h.box).1
  have HS : Hid (∀ V, C.Kt oB w V → Calls Tryd.prog 50 #[.slice asp ss.length cs] V fun e w' => e = .returned (.bool true) ∧ C.Kt oS V w') := fun V hV => by
    refine C.ownedSpans_any asp cs oS ss Cs V ⟨fun j v hj hv => (h.ls.kr j v hj hv).blk2 (fun g hg => ?_), h.ls.tk⟩ (kt_nam h.ns hV h.qs) h.few.2.1 h.lim.2.1
    have hgl := ((h.ls.kr j v hj hv).lt g hg).2
    exact hV.block g hgl (h.ds g hgl (by rw [h.ls.tk j v g hj hv hg]; omega))
  have HE : Hid (∀ V V', C.Kt oB w V → C.Kt oS V V' → Calls Tryd.prog 51 #[.slice ae es.length ce] V' fun e w' => e = .returned (.bool true) ∧ C.Kt oE V' w') := fun V V' hV hV' => by
    refine ownedExts_any ae ce oE es Ce V' ⟨fun j v hj hv => (h.le.kr j v hj hv).blk2 (fun g hg => ?_), h.le.tk⟩ (kt_nam (kt_nam h.ne hV (fun gl off e => (h.qe gl off e).1)) hV' (fun gl off e => (h.qe gl off e).2)) h.few.2.2 h.lim.2.2
    have hgl := ((h.le.kr j v hj hv).lt g hg).2
    have hd := h.de g hgl (by rw [h.le.tk j v g hj hv hg]; omega)
    exact (hV'.block g (Nat.lt_of_lt_of_le hgl hV.size) hd.2).trans (hV.block g hgl hd.1)
  have HBx : Hid (w.heap[pr]? = some (.cells #[.slice ab bs.length cb, .slice asp ss.length cs, .slice ae es.length ce] 55 (0, 0)) ∧ pr < w.heap.size ∧ oB pr = 0 ∧ oS pr = 0) := ⟨h.box, hlt, h.pr0.1, h.pr0.2⟩
  clear h hlt
  generalize bs.length = n1 at *
  generalize ss.length = n2 at *
  generalize es.length = n3 at *
  have c0 : w.cell? ⟨pr, 0, none⟩ = some (.slice ab n1 cb) := by rw [cell_of_row _ _ _ _ _ _ HBx.out.1]; rfl
  go_enter Tryd.func22, Tryd.ntmps22
  go_wp2_with fail
  refine hB.mono ?_
  rintro e w1 ⟨rfl, hk1⟩
  have HK1 : Hid (C.Kt oB w w1) := hk1
  have HB1 : Hid (w1.heap[pr]? = some (.cells #[.slice ab n1 cb, .slice asp n2 cs, .slice ae n3 ce] 55 (0, 0))) := (hk1.block pr HBx.out.2.1 HBx.out.2.2.1).trans HBx.out.1
  have c1 : w1.cell? ⟨pr, 1, none⟩ = some (.slice asp n2 cs) := by rw [cell_of_row _ _ _ _ _ _ HB1.out]; rfl
  have hS := HS.out w1 hk1
  clear hk1 c0 hB
  go_wp2_with fail
  refine hS.mono ?_
  rintro e w2 ⟨rfl, hk2⟩
  have HK2 : Hid (C.Kt oS w1 w2) := hk2
  have c2 : w2.cell? ⟨pr, 2, none⟩ = some (.slice ae n3 ce) := by rw [cell_of_row _ _ _ _ _ _ ((hk2.block pr (Nat.lt_of_lt_of_le HBx.out.2.1 HK1.out.size) HBx.out.2.2.2).trans HB1.out)]; rfl
  have hE := HE.out w1 w2 HK1.out hk2
  clear hk2 hS c1
  go_wp2_with fail
  refine hE.mono ?_
  rintro e w3 ⟨rfl, hk3⟩
  have HK3 : Hid (C.Kt oE w2 w3) := hk3
  clear hk3 hE c2
  go_wp2
  go_ret
  refine ⟨rfl, ?_⟩
  have k1 := HK1.out
  have k2 := HK2.out
  have k3 := HK3.out
  refine ⟨k3.os.trans (k2.os.trans k1.os), k3.tape.trans (k2.tape.trans k1.tape), k3.output.trans (k2.output.trans k1.output), Nat.le_trans k1.size (Nat.le_trans k2.size k3.size), fun g hg h0 => ?_⟩
  have h0' : oB g + oS g + oE g = 0 := h0
  exact (k3.block g (by have := k1.size; have := k2.size; omega) (by omega)).trans ((k2.block g (by have := k1.size; omega) (by omega)).trans (k1.block g hg (by omega)))

end Go.Proofs.YtdfdaambfihjaaaDoor

namespace Go.Proofs.YtdfdaambfihjaaaDoor
open Go.RowKit

end Go.Proofs.YtdfdaambfihjaaaDoor

namespace Go.Proofs.YtdfdaambfihjaaaDoor

end Go.Proofs.YtdfdaambfihjaaaDoor

namespace Go.Proofs.YtdfdaambfihjaaaDoor
open Go.RowKit

theorem own_bounds {w : World} {base n c : Nat} {e : TypeId} {a : Option Addr} {xs : List Value} (h : w.ownsRow base e 1 (.slice a n c) n xs) : n ≤ c ∧ c ≤ 9223372036854775807 ∧ (a = none → n = 0 ∧ c = 0) := by
  obtain ⟨_, ⟨hv, h0⟩ | ⟨g, cap, cur, hv, _, _, h1, h2, _⟩⟩ := h
  · simp at hv
    exact ⟨by omega, by omega, fun _ => by omega⟩
  · simp at hv
    obtain ⟨rfl, rfl⟩ := hv
    unfold maxLen at h2
    exact ⟨h1, by omega, fun h => by cases h⟩

def FirstPost (w : World) (e : Ending) (w' : World) : Prop := e = .returned (.bool true) ∧ Below w.heap.size w w'

end Go.Proofs.YtdfdaambfihjaaaDoor

namespace Go.Proofs.YtdfdaambfihjaaaDoor
open Go.RowKit

/-! ## What came out of Parse, as something that lies somewhere -/
theorem bin_own {w : World} {base : Nat} {v : Value} {zs : List Int} (h : w.ownsRow base 5 1 v zs.length (zs.map (Value.int .u8))) (hb : Bytey zs) (hs : zs.length ≤ 70000) : BIn w v zs := by
  obtain ⟨a, c, rfl⟩ := own_shape h
  obtain ⟨b1, b2, b3⟩ := own_bounds h
  exact ⟨⟨a, c, rfl, (own_lies h).1, b3, b1, b2⟩, hb, by omega⟩
theorem xc_get (l : List Xr) (i : Nat) (p : Xr) (h : l[i]? = some p) : (l.flatMap Xr.cells)[i * 2]? = some (.int .i64 p.tag) ∧ (l.flatMap Xr.cells)[i * 2 + 1]? = some p.val := by
  induction l generalizing i with
  | nil => simp at h
  | cons s r ih =>
    cases i with
    | zero => simp at h; subst h; simp [Xr.cells]
    | succ i =>
      simp at h
      have := ih i h
      have e : ∀ j, ((s :: r).flatMap Xr.cells)[(i + 1) * 2 + j]? = (r.flatMap Xr.cells)[i * 2 + j]? := fun j => by
        rw [List.flatMap_cons, List.getElem?_append_right (by simp [Xr.cells]; omega)]
        congr 1
        simp [Xr.cells]; omega
      exact ⟨(e 0).trans this.1, (e 1).trans this.2⟩
theorem sp_get (l : List (Int × Int)) (i : Nat) (p : Int × Int) (h : l[i]? = some p) : (l.flatMap spc)[i * 2]? = some (.int .i64 p.1) ∧ (l.flatMap spc)[i * 2 + 1]? = some (.int .i64 p.2) := by
  induction l generalizing i with
  | nil => simp at h
  | cons s r ih =>
    cases i with
    | zero => simp at h; subst h; simp [spc]
    | succ i =>
      simp at h
      have := ih i h
      have e : ∀ j, ((s :: r).flatMap spc)[(i + 1) * 2 + j]? = (r.flatMap spc)[i * 2 + j]? := fun j => by
        rw [List.flatMap_cons, List.getElem?_append_right (by simp [spc]; omega)]
        congr 1
        simp [spc]; omega
      exact ⟨(e 0).trans this.1, (e 1).trans this.2⟩
theorem own_nz {w : World} {base n sz : Nat} {e : TypeId} {v : Value} {xs : List Value} (h : w.ownsRow base e sz v n xs) (hn : 0 < n) : ∃ g cap, v = .slice (some ⟨g, 0, none⟩) n cap := by
  obtain ⟨_, ⟨rfl, rfl⟩ | ⟨g, cap, cur, rfl, _⟩⟩ := h
  · omega
  · exact ⟨g, cap, rfl⟩
theorem xin_own {w : World} {base : Nat} {v : Value} {xs : List Xr} (h : XOwn w base v xs) (hl : xs.length ≤ 15) : XIn w v xs := by
  refine ⟨?_, fun x hx => bin_own (h.data x hx).row (h.data x hx).bytes (h.data x hx).small, by omega⟩
  rcases Nat.eq_zero_or_pos xs.length with h0 | h0
  · obtain ⟨a, c, rfl⟩ := own_shape h.row
    exact ⟨a, c, rfl, .inl (List.eq_nil_of_length_eq_zero h0)⟩
  · obtain ⟨g, cap, hv⟩ := own_nz h.row h0
    have hr := h.row
    rw [hv] at hr ⊢
    refine ⟨_, cap, rfl, .inr ⟨g, 0, rfl, fun i x hx => ?_⟩⟩
    have hi : i < xs.length := (List.getElem?_eq_some_iff.mp hx).1
    have q := xc_get xs i x hx
    rw [Nat.zero_add]
    exact ⟨(World.ownsRow.cellAt hr _ (by omega)).trans q.1, (World.ownsRow.cellAt hr _ (by omega)).trans q.2⟩
theorem cin_own {w : World} {base : Nat} {v : Value} {cl : List (Int × Int)} (h : w.ownsRow base 91 2 v cl.length (cl.flatMap spc)) (hl : cl.length ≤ 1048576) : CIn w v cl := by
  refine ⟨?_, hl⟩
  rcases Nat.eq_zero_or_pos cl.length with h0 | h0
  · obtain ⟨a, c, rfl⟩ := own_shape h
    exact ⟨a, c, rfl, .inl (List.eq_nil_of_length_eq_zero h0)⟩
  · obtain ⟨g, cap, hv⟩ := own_nz h h0
    rw [hv] at h ⊢
    refine ⟨_, cap, rfl, .inr ⟨g, 0, rfl, fun i x hx => ?_⟩⟩
    have hi : i < cl.length := (List.getElem?_eq_some_iff.mp hx).1
    have q := sp_get cl i x hx
    rw [Nat.zero_add]
    exact ⟨(World.ownsRow.cellAt h _ (by omega)).trans q.1, (World.ownsRow.cellAt h _ (by omega)).trans q.2⟩
end Go.Proofs.YtdfdaambfihjaaaDoor

namespace Go.Proofs.YtdfdaambfihjaaaDoor
open Go.RowKit

end Go.Proofs.YtdfdaambfihjaaaDoor

namespace Go.Proofs.YtdfdaambfihjaaaDoor
open Go.RowKit
set_option linter.unusedVariables false
set_option linter.unusedSimpArgs false

/-- What was read last may be only if ok. -/
def wst (ok : Bool) (st : St) : St := if st.1 = 0 ∧ ok = false then (23, st.2) else st
/-- What 'number' reads, and the state behind it. -/
def numR (zs : List Int) (st : St) : Int × St :=
  if st.1 ≠ 0 then (0, st) else
  if (rd (zs.drop st.2)).2.2 = 10 then (0, (20, st.2)) else
  if (rd (zs.drop st.2)).2.2 ≠ 0 ∨ 4611686018427387903 < (rd (zs.drop st.2)).1 then (0, (22, st.2)) else ((rd (zs.drop st.2)).1, (0, st.2 + (rd (zs.drop st.2)).2.1.toNat))

end Go.Proofs.YtdfdaambfihjaaaDoor

namespace Go.Proofs.YtdfdaambfihjaaaDoor
open Go.RowKit
set_option linter.unusedVariables false
set_option linter.unusedSimpArgs false

end Go.Proofs.YtdfdaambfihjaaaDoor

namespace Go.Proofs.YtdfdaambfihjaaaDoor
open Go.RowKit
set_option linter.unusedVariables false
set_option linter.unusedSimpArgs false

end Go.Proofs.YtdfdaambfihjaaaDoor

namespace Go.Proofs.YtdfdaambfihjaaaDoor
open Go.RowKit
set_option linter.unusedVariables false
set_option linter.unusedSimpArgs false

/-- What a whole struct's store wants. -/
def StorQ (P : Program) (ty : TypeId) (w : World) (vx vy : Value) : Prop := ∃ (g : Nat) (cells old : Array Value) (t : TypeId), vx = .pointer (some ⟨g, 0, none⟩) ∧ vy = .agg cells ∧ w.heap[g]? = some (.cells old t (0, 0)) ∧ old.size = cells.size ∧ (P.info? ty).map (·.size) = some cells.size ∧ cells.all (·.oneCell') = true
def pBlkQ : Value → Nat
  | .pointer (some a) => a.block
  | _ => 0
def pAggQ : Value → Array Value
  | .agg c => c
  | _ => #[]
theorem pBlkQ_ptr (a : Addr) : pBlkQ (.pointer (some a)) = a.block := rfl
theorem pAggQ_agg (c : Array Value) : pAggQ (.agg c) = c := rfl
/-- A store of a whole struct into a block of its own: one step. -/
theorem wp_storeQ {P : Program} {ty tp : TypeId} {x y : Operand} {d : Option Tmp} {ps : String} {af : Array Edge} {a : Act} {w : World} {K : Act → World → Prop} {Q : Exit → Act → World → Prop}
    (hs : StorQ P ty w (a.eval x) (a.eval y)) :
    Oper.wp P { dst := d, op := .store ty x y, type := tp, pos := ps, after := af, guard := none } a w K Q = K (a.put d undef) (w.setRow (pBlkQ (a.eval x)) (pAggQ (a.eval y))) := by
  obtain ⟨g, cells, old, t, hx, hy, hg, ho, hi, h1⟩ := hs
  have hr := run_storeVar_row (P := P) w g t ty old cells hg hi ho h1
  unfold Oper.wp execOp
  simp only [hx, hy, pBlkQ_ptr, pAggQ_agg, Instr.storeAt, Instr.sureAddr, Sem.run_bind, Sem.run_pure, Result.andThen_ok, hr]
  rfl
attribute [local go_sem ↓] wp_storeQ
attribute [local go_sem] pBlkQ_ptr pAggQ_agg

abbrev sC (s : Sg) (hv tv dv cv : Value) : Array Value := #[.int .i64 s.typ, .int .i64 s.org, .int .i64 s.num, hv, tv, .int .i64 s.srv, .int .i64 s.off, dv, .int .i64 s.chk, .int .i64 s.rep, .int .i64 s.upp, .int .i64 s.low, cv, .int .i64 s.rsn]
abbrev zC : Array Value := #[.int .i64 0, .int .i64 0, .int .i64 0, .slice none 0 0, .slice none 0 0, .int .i64 0, .int .i64 0, .slice none 0 0, .int .i64 0, .int .i64 0, .int .i64 0, .int .i64 0, .slice none 0 0, .int .i64 0]
abbrev nlQ : Value := .slice none 0 0

def isD (t : Int) : Bool := (decide (0 ≤ t) && decide (t ≤ 4)) || (t == 7)
def isK (t : Int) : Bool := ((decide (0 ≤ t) && decide (t ≤ 4)) || (decide (7 ≤ t) && decide (t ≤ 9))) || (decide (12 ≤ t) && decide (t ≤ 15))
end Go.Proofs.YtdfdaambfihjaaaDoor

namespace Go.Proofs.YtdfdaambfihjaaaDoor
open Go.RowKit
set_option linter.unusedVariables false
set_option linter.unusedSimpArgs false
attribute [local go_sem ↓] wp_storeQ
attribute [local go_sem] pBlkQ_ptr pAggQ_agg

end Go.Proofs.YtdfdaambfihjaaaDoor

namespace Go.Proofs.YtdfdaambfihjaaaDoor
open Go.RowKit
set_option linter.unusedVariables false
set_option linter.unusedSimpArgs false
attribute [local go_sem ↓] wp_storeQ
attribute [local go_sem] pBlkQ_ptr pAggQ_agg

end Go.Proofs.YtdfdaambfihjaaaDoor

namespace Go.Proofs.YtdfdaambfihjaaaDoor
open Go.RowKit
set_option linter.unusedVariables false
set_option linter.unusedSimpArgs false
attribute [local go_sem ↓] wp_storeQ
attribute [local go_sem] pBlkQ_ptr pAggQ_agg

end Go.Proofs.YtdfdaambfihjaaaDoor

namespace Go.Proofs.YtdfdaambfihjaaaDoor
open Go.RowKit
set_option linter.unusedVariables false
set_option linter.unusedSimpArgs false
attribute [local go_sem ↓] wp_storeQ
attribute [local go_sem] pBlkQ_ptr pAggQ_agg

/-- The head is none. -/
def badH (e v : Int) : Bool := (e == 0) && (decide (16 ≤ v) || !(isK (v % 16)))
def hst (s1 : St) (v : Int) : St := if badH s1.1 v = true then (21, s1.2) else s1
abbrev zQ : Obj := .cells zC 37
end Go.Proofs.YtdfdaambfihjaaaDoor

namespace Go.Proofs.YtdfdaambfihjaaaDoor
open Go.RowKit
set_option linter.unusedVariables false
set_option linter.unusedSimpArgs false

/-- Whose each block is, where no two rows share one. -/
theorem own_tagsX (vs : List Value) (hd : ∀ (i j : Nat) v u g, vs[i]? = some v → vs[j]? = some u → v.ownBlock = some g → u.ownBlock = some g → i = j) :
    ∃ own : Nat → Nat, (∀ (j : Nat) v g, vs[j]? = some v → v.ownBlock = some g → own g = 10 + j) ∧ (∀ g, (∀ (j : Nat) v, vs[j]? = some v → v.ownBlock ≠ some g) → own g = 0) := by
  classical
  refine ⟨fun g => if h : ∃ j : Nat, ∃ v, vs[j]? = some v ∧ v.ownBlock = some g then 10 + Classical.choose h else 0, fun j v g hj hg => ?_, fun g hg => ?_⟩
  · have h : ∃ j : Nat, ∃ v, vs[j]? = some v ∧ v.ownBlock = some g := ⟨j, v, hj, hg⟩
    show (if h : ∃ j : Nat, ∃ v, vs[j]? = some v ∧ v.ownBlock = some g then 10 + Classical.choose h else 0) = 10 + j
    rw [dif_pos h]
    obtain ⟨u, hu, hug⟩ := Classical.choose_spec h
    rw [hd _ _ _ _ g hu hj hug hg]
  · show (if h : ∃ j : Nat, ∃ v, vs[j]? = some v ∧ v.ownBlock = some g then 10 + Classical.choose h else 0) = 0
    rw [dif_neg]
    rintro ⟨j, v, hj, hv⟩
    exact hg j v hj hv
theorem idx_nodup (vs : List Value) (h : (vs.filterMap Value.ownBlock).Nodup) : ∀ (i j : Nat) v u g, vs[i]? = some v → vs[j]? = some u → v.ownBlock = some g → u.ownBlock = some g → i = j := by
  induction vs with
  | nil => intro i j v u g hi; simp at hi
  | cons a r ih =>
    have hr : (r.filterMap Value.ownBlock).Nodup := by
      rw [List.filterMap_cons] at h
      split at h
      · exact h
      · exact (List.nodup_cons.mp h).2
    have hmem : ∀ (j : Nat) u g, r[j]? = some u → u.ownBlock = some g → g ∈ r.filterMap Value.ownBlock := fun j u g hj hu => List.mem_filterMap.mpr ⟨u, List.mem_of_getElem? hj, hu⟩
    have hno : ∀ g, a.ownBlock = some g → g ∉ r.filterMap Value.ownBlock := fun g hg hm => by
      rw [List.filterMap_cons, hg] at h
      exact (List.nodup_cons.mp h).1 hm
    intro i j v u g hi hj hv hu
    cases i with
    | zero =>
      cases j with
      | zero => rfl
      | succ j =>
        simp at hi hj; subst hi
        exact absurd (hmem j u g hj hu) (hno g hv)
    | succ i =>
      cases j with
      | zero =>
        simp at hi hj; subst hj
        exact absurd (hmem i v g hi hv) (hno g hu)
      | succ j =>
        simp at hi hj
        rw [ih hr i j v u g hi hj hv hu]
/-- Of a row and what it holds. -/
theorem pair_at {α : Type} (R : List (Value × α)) (d : α) (j : Nat) (v : Value) (h : (R.map Prod.fst)[j]? = some v) : ∃ p ∈ R, p.1 = v ∧ (R.map Prod.snd).getD j d = p.2 := by
  rw [List.getElem?_map] at h
  cases hp : R[j]? with
  | none => rw [hp] at h; cases h
  | some p =>
    rw [hp] at h
    simp only [Option.map_some, Option.some.injEq] at h
    refine ⟨p, List.mem_of_getElem? hp, h, ?_⟩
    rw [List.getD_eq_getElem?_getD, List.getElem?_map, hp]
    rfl

/-- A segment in memory of its own, all of it in blocks from lo up to hi. -/
structure SgR (W : World) (lo hi : Nat) (s : Sg) (q : SvX) : Prop where
  ex : ∃ B1 B2, SOwn W lo s q.hv q.tv q.dv q.cv q.hx q.tx B1 B2 ∧ (∀ k, (q.tv.ownBlock = some k ∨ ∃ x ∈ q.tx, x.val.ownBlock = some k) → k < hi) ∧ B2 ≤ hi
def rB (s : Sg) (q : SvX) : List (Value × List Int) := ((q.dv, s.data) :: q.hx.map (fun x => (x.val, x.data))) ++ q.tx.map (fun x => (x.val, x.data))
theorem rB_fst (s : Sg) (q : SvX) : (rB s q).map Prod.fst = tB q := by
  unfold rB tB
  rw [List.map_append, List.map_cons, List.map_map, List.map_map]
  rfl
theorem filt_map (xs : List Xr) : (xs.map Xr.val).filterMap Value.ownBlock = xs.filterMap fun x => x.val.ownBlock := by rw [List.filterMap_map]; rfl
theorem mem_filt {xs : List Xr} {g : Nat} (h : g ∈ (xs.map Xr.val).filterMap Value.ownBlock) : ∃ x ∈ xs, x.val.ownBlock = some g := by
  rw [filt_map] at h
  exact List.mem_filterMap.mp h
end Go.Proofs.YtdfdaambfihjaaaDoor

namespace Go.Proofs.YtdfdaambfihjaaaDoor
open Go.RowKit
set_option linter.unusedVariables false
set_option linter.unusedSimpArgs false

theorem nam_own {w : World} {n c : Nat} {a : Option Addr} {e : TypeId} {xs : List Value} (o : Nat → Nat) (h : w.ownsRow 0 e 1 (.slice a n c) n xs) (h0 : ∀ g, a = some ⟨g, 0, none⟩ → o g = 0) : C.Nam o w a xs := by
  obtain ⟨k1, ⟨e1, e0⟩ | ⟨g, cap, cur, e1, _⟩⟩ := id h
  · left; exact List.eq_nil_of_length_eq_zero (by omega)
  · simp only [Value.slice.injEq] at e1
    obtain ⟨rfl, _, rfl⟩ := e1
    refine .inr ⟨g, 0, rfl, h0 g rfl, fun i v hi => ?_⟩
    have hil := (List.getElem?_eq_some_iff.mp hi).1
    rw [Nat.zero_add]
    exact (World.ownsRow.cellAt h i (by omega)).trans hi
/-- An address of a row of the call's own begins its block. -/
theorem own_zero {w : World} {n c b : Nat} {a : Option Addr} {e : TypeId} {xs : List Value} (h : w.ownsRow b e 1 (.slice a n c) n xs) {gl off : Nat} (ha : a = some ⟨gl, off, none⟩) : (Value.slice a n c).ownBlock = some gl := by
  rw [ha]; rfl

end Go.Proofs.YtdfdaambfihjaaaDoor

namespace Go.Proofs.YtdfdaambfihjaaaDoor
open Go.RowKit
set_option linter.unusedVariables false
set_option linter.unusedSimpArgs false

/-- lines.copyOfList of bytes: new memory. -/
theorem lnB_any {v : Value} {zs : List Int} {w : World} (h : BIn w v zs) :
    Calls Tryd.prog 60 #[v] w fun e w' => ∃ a c, e = .returned (.slice a zs.length c) ∧ w'.ownsRow w.heap.size 5 1 (.slice a zs.length c) zs.length (zs.map (Value.int .u8)) ∧ Below w.heap.size w w' := by
  obtain ⟨i0, hi, hz0, hz1, hz2⟩ := info_parts Tryd.info_u8
  obtain ⟨a, c, rfl, hl, hn, hlc, hcm⟩ := h.shape
  have hsm := h.small
  have HL : Hid (Lies .u8 w a zs) := hl
  have HN : Hid (a = none → zs.length = 0 ∧ c = 0) := hn
  clear h hl hn
  go_enter Tryd.func60, Tryd.ntmps60
  go_wp2_with (at_builtin; refine append_any _ rfl _ _ 34 rfl w.heap.size 5 i0 (.int .u8 0) 1 Tryd.underlying34 hi hz0 hz1 hz2 rfl _ _ _ rfl (World.ownsRow_nil _ _ _ _) .u8 a zs.length c zs rfl HN.out rfl HL.out (by unfold maxLen; omega) (by omega) (by simp) ?_)
  intro v' w1 hown1 hgrow
  have hb : Below w.heap.size w w1 := ⟨hgrow.os, hgrow.tape, hgrow.output, hgrow.size, fun k hk => hgrow.block k hk (by intro h; cases h)⟩
  have HO : Hid (w1.ownsRow w.heap.size 5 1 v' zs.length (zs.map (Value.int .u8))) := by
    first | exact hown1 | (have := hown1; rw [Nat.zero_add, List.nil_append] at this; exact this)
  clear hown1 hgrow
  obtain ⟨av, cv, rfl⟩ := own_shape HO.out
  go_wp2
  go_ret
  exact ⟨av, cv, rfl, HO.out, hb⟩

theorem lnS_info : (Tryd.prog.info? 91).map (fun i => (i.zero, i.size, i.bytes)) = some (some (.agg #[.int .i64 0, .int .i64 0]), 2, 16) := by kernel_rfl
theorem lnE_info : (Tryd.prog.info? 93).map (fun i => (i.zero, i.size, i.bytes)) = some (some (.agg #[.int .i64 0, .slice none 0 0]), 2, 32) := by kernel_rfl
def spL (p : Int × Int) : List Value := [.int .i64 p.1, .int .i64 p.2]
theorem two_get {α : Type} (f : α → List Value) (hf : ∀ x, (f x).length = 2) : ∀ (l : List α) (j : Nat) u, (l.flatMap f)[j]? = some u → ∃ i x, l[i]? = some x ∧ ((j = i * 2 ∧ (f x)[0]? = some u) ∨ (j = i * 2 + 1 ∧ (f x)[1]? = some u))
  | [], j, u, h => by simp at h
  | y :: r, j, u, h => by
    rw [List.flatMap_cons] at h
    by_cases hj : j < 2
    · rw [List.getElem?_append_left (by rw [hf]; exact hj)] at h
      have : j = 0 ∨ j = 1 := by omega
      rcases this with rfl | rfl
      · exact ⟨0, y, rfl, .inl ⟨rfl, h⟩⟩
      · exact ⟨0, y, rfl, .inr ⟨rfl, h⟩⟩
    · rw [List.getElem?_append_right (by rw [hf]; omega), hf] at h
      obtain ⟨i, x, h1, h2⟩ := two_get f hf r (j - 2) u h
      exact ⟨i + 1, x, by simpa using h1, by rcases h2 with ⟨e, h2⟩ | ⟨e, h2⟩; exact .inl ⟨by omega, h2⟩; exact .inr ⟨by omega, h2⟩⟩
theorem flat_len {α : Type} (f : α → List Value) (hf : ∀ x, (f x).length = 2) : ∀ l : List α, (l.flatMap f).length = l.length * 2
  | [] => rfl
  | y :: r => by rw [List.flatMap_cons, List.length_append, hf, flat_len f hf r, List.length_cons]; omega
theorem addr_add (g off j : Nat) : (⟨g, off, none⟩ : Addr).add j = ⟨g, off + j, none⟩ := by unfold Addr.add; split <;> simp_all

set_option maxHeartbeats 1000000 in
/-- lines.copyOfList of spans. -/
theorem lnS_any {v : Value} {cl : List (Int × Int)} {w : World} (h : CIn w v cl) :
    Calls Tryd.prog 61 #[v] w fun e w' => ∃ a c, e = .returned (.slice a cl.length c) ∧ w'.ownsRow w.heap.size 91 2 (.slice a cl.length c) cl.length (cl.flatMap spL) ∧ Below w.heap.size w w' := by
  obtain ⟨i0, hi, hz0, hz1, hz2⟩ := info_parts lnS_info
  obtain ⟨a, c, rfl, hs⟩ := h.shape
  have hsm := h.small
  have HS : Hid (cl = [] ∨ ∃ g off, a = some ⟨g, off, none⟩ ∧ ∀ (i : Nat) (p : Int × Int), cl[i]? = some p → w.cell? ⟨g, off + i * 2, none⟩ = some (.int .i64 p.1) ∧ w.cell? ⟨g, off + i * 2 + 1, none⟩ = some (.int .i64 p.2)) := hs
  clear h hs
  have HNw : Hid ((cl.flatMap spL).length = cl.length * 2 ∧ ∀ u ∈ cl.flatMap spL, u.oneCell' = true) := ⟨flat_len spL (fun _ => rfl) cl, fun u hu => by
    obtain ⟨p, _, hp⟩ := List.mem_flatMap.mp hu
    simp [spL] at hp
    rcases hp with rfl | rfl <;> rfl⟩
  cases a with
  | none =>
    have hcl : cl = [] := by
      rcases HS.out with h | ⟨g, off, e, _⟩
      · exact h
      · cases e
    subst hcl
    go_enter Tryd.func61, Tryd.ntmps61
    go_wp2_with (at_builtin; refine wpList_append_own_none rfl _ _ 35 rfl w.heap.size 91 i0 2 Tryd.underlying35 hi (.slice none 0 0) 0 [] rfl (World.ownsRow_nil _ _ _ _) rfl ?_)
    go_wp2
    go_ret
    exact ⟨none, 0, rfl, World.ownsRow_nil _ _ _ _, Below.refl _ _⟩
  | some ad =>
    have HC : Hid (∀ j u, (cl.flatMap spL)[j]? = some u → w.cell? (ad.add j) = some u) := fun j u hj => by
      obtain ⟨i, p, h1, h2⟩ := two_get spL (fun _ => rfl) cl j u hj
      rcases HS.out with h | ⟨g, off, e, hc⟩
      · rw [h] at h1; simp at h1
      · simp only [Option.some.injEq] at e
        subst e
        rw [addr_add]
        obtain ⟨q1, q2⟩ := hc i p h1
        rcases h2 with ⟨rfl, h2⟩ | ⟨rfl, h2⟩
        · rw [q1]; exact h2
        · rw [← Nat.add_assoc, q2]; exact h2
    clear HS
    go_enter Tryd.func61, Tryd.ntmps61
    go_wp2_with (at_builtin; refine wpList_append_own_at _ rfl _ _ 35 rfl w.heap.size 91 i0 (.agg #[.int .i64 0, .int .i64 0]) 2 16 Tryd.underlying35 hi hz0 hz1 hz2 rfl (by decide) (.slice none 0 0) 0 [] rfl (World.ownsRow_nil _ _ _ _) ad cl.length c (cl.flatMap spL) rfl HNw.out.1 HC.out HNw.out.2 (by unfold maxLen; omega) (by omega) (by simp) ?_)
    intro v' w1 hown1 hgrow _ _
    have hb : Below w.heap.size w w1 := ⟨hgrow.os, hgrow.tape, hgrow.output, hgrow.size, fun k hk => hgrow.block k hk (by intro h; cases h)⟩
    have HO : Hid (w1.ownsRow w.heap.size 91 2 v' cl.length (cl.flatMap spL)) := by
      first | exact hown1 | (have := hown1; rw [Nat.zero_add, List.nil_append] at this; exact this)
    clear hown1 hgrow
    obtain ⟨av, cv, rfl⟩ := own_shape HO.out
    go_wp2
    go_ret
    exact ⟨av, cv, rfl, HO.out, hb⟩

set_option maxHeartbeats 1000000 in
/-- lines.copyOfList of extensions: their own lists are the old ones still. -/
theorem lnE_any {v : Value} {xs : List Xr} {w : World} (h : XIn w v xs) :
    Calls Tryd.prog 69 #[v] w fun e w' => ∃ a c, e = .returned (.slice a xs.length c) ∧ w'.ownsRow w.heap.size 93 2 (.slice a xs.length c) xs.length (xs.flatMap Xr.cells) ∧ Below w.heap.size w w' := by
  obtain ⟨i0, hi, hz0, hz1, hz2⟩ := info_parts lnE_info
  obtain ⟨a, c, rfl, hs⟩ := h.shape
  have hsm := h.small
  have HS : Hid (xs = [] ∨ ∃ g off, a = some ⟨g, off, none⟩ ∧ ∀ (i : Nat) (x : Xr), xs[i]? = some x → w.cell? ⟨g, off + i * 2, none⟩ = some (.int .i64 x.tag) ∧ w.cell? ⟨g, off + i * 2 + 1, none⟩ = some x.val) := hs
  clear h hs
  have HNw : Hid ((xs.flatMap Xr.cells).length = xs.length * 2 ∧ ∀ u ∈ xs.flatMap Xr.cells, u.oneCell' = true) := ⟨flat_len Xr.cells (fun _ => rfl) xs, fun u hu => by
    obtain ⟨p, _, hp⟩ := List.mem_flatMap.mp hu
    simp [Xr.cells] at hp
    rcases hp with rfl | rfl <;> rfl⟩
  cases a with
  | none =>
    have hcl : xs = [] := by
      rcases HS.out with h | ⟨g, off, e, _⟩
      · exact h
      · cases e
    subst hcl
    go_enter Tryd.func69, Tryd.ntmps69
    go_wp2_with (at_builtin; refine wpList_append_own_none rfl _ _ 33 rfl w.heap.size 93 i0 2 Tryd.underlying33 hi (.slice none 0 0) 0 [] rfl (World.ownsRow_nil _ _ _ _) rfl ?_)
    go_wp2
    go_ret
    exact ⟨none, 0, rfl, World.ownsRow_nil _ _ _ _, Below.refl _ _⟩
  | some ad =>
    have HC : Hid (∀ j u, (xs.flatMap Xr.cells)[j]? = some u → w.cell? (ad.add j) = some u) := fun j u hj => by
      obtain ⟨i, p, h1, h2⟩ := two_get Xr.cells (fun _ => rfl) xs j u hj
      rcases HS.out with h | ⟨g, off, e, hc⟩
      · rw [h] at h1; simp at h1
      · simp only [Option.some.injEq] at e
        subst e
        rw [addr_add]
        obtain ⟨q1, q2⟩ := hc i p h1
        rcases h2 with ⟨rfl, h2⟩ | ⟨rfl, h2⟩
        · rw [q1]; exact h2
        · rw [← Nat.add_assoc, q2]; exact h2
    clear HS
    go_enter Tryd.func69, Tryd.ntmps69
    go_wp2_with (at_builtin; refine wpList_append_own_at _ rfl _ _ 33 rfl w.heap.size 93 i0 (.agg #[.int .i64 0, .slice none 0 0]) 2 32 Tryd.underlying33 hi hz0 hz1 hz2 rfl (by decide) (.slice none 0 0) 0 [] rfl (World.ownsRow_nil _ _ _ _) ad xs.length c (xs.flatMap Xr.cells) rfl HNw.out.1 HC.out HNw.out.2 (by unfold maxLen; omega) (by omega) (by simp) ?_)
    intro v' w1 hown1 hgrow _ _
    have hb : Below w.heap.size w w1 := ⟨hgrow.os, hgrow.tape, hgrow.output, hgrow.size, fun k hk => hgrow.block k hk (by intro h; cases h)⟩
    have HO : Hid (w1.ownsRow w.heap.size 93 2 v' xs.length (xs.flatMap Xr.cells)) := by
      first | exact hown1 | (have := hown1; rw [Nat.zero_add, List.nil_append] at this; exact this)
    clear hown1 hgrow
    obtain ⟨av, cv, rfl⟩ := own_shape HO.out
    go_wp2
    go_ret
    exact ⟨av, cv, rfl, HO.out, hb⟩

end Go.Proofs.YtdfdaambfihjaaaDoor

namespace Go.Proofs.YtdfdaambfihjaaaDoor
open Go.RowKit
set_option linter.unusedVariables false
set_option linter.unusedSimpArgs false

theorem ln_nz {w : World} {base n sz : Nat} {e : TypeId} {a : Option Addr} {c : Nat} {xs : List Value} (h : w.ownsRow base e sz (.slice a n c) n xs) (hn : 0 < n) : ∃ g, a = some ⟨g, 0, none⟩ := by
  obtain ⟨_, ⟨e1, e0⟩ | ⟨g, cap, cur, e1, _⟩⟩ := h
  · omega
  · simp only [Value.slice.injEq] at e1
    exact ⟨g, e1.1⟩
theorem ln_set (ys : List Xr) (x y : Xr) (r : List Xr) (ht : y.tag = x.tag) : ((ys ++ x :: r).flatMap Xr.cells).set (ys.length * 2 + 1) y.val = (ys ++ y :: r).flatMap Xr.cells := by
  have hl := flat_len Xr.cells (fun _ => rfl) ys
  rw [List.flatMap_append, List.flatMap_append, List.set_append_right _ _ (by omega), hl, show ys.length * 2 + 1 - ys.length * 2 = 1 by omega, List.flatMap_cons, List.flatMap_cons]
  simp [Xr.cells, ht]
theorem ln_at (ys : List Xr) (x : Xr) (r : List Xr) : ((ys ++ x :: r).flatMap Xr.cells)[ys.length * 2 + 1]? = some x.val := by
  have hl := flat_len Xr.cells (fun _ => rfl) ys
  rw [List.flatMap_append, List.getElem?_append_right (by omega), hl, show ys.length * 2 + 1 - ys.length * 2 = 1 by omega, List.flatMap_cons]
  simp [Xr.cells]

/-- So far the extensions' own lists were copied. -/
structure LnS (w wr : World) (a : Option Addr) (c : Nat) (xs ys : List Xr) : Prop where
  row : wr.ownsRow w.heap.size 93 2 (.slice a xs.length c) xs.length ((ys ++ xs.drop ys.length).flatMap Xr.cells)
  ex : ys.map Xr.ex = (xs.take ys.length).map Xr.ex
  data : ∀ y ∈ ys, y.Own wr w.heap.size
  apart : ∀ y ∈ ys, ∀ k, y.val.ownBlock = some k → (Value.slice a xs.length c).ownBlock ≠ some k
  nodup : (ys.filterMap fun y => y.val.ownBlock).Nodup
  low : Below w.heap.size w wr

theorem LnS.step {w wr w2 : World} {a : Option Addr} {c g : Nat} {xs ys : List Xr} {x : Xr} {ad : Option Addr} {cd : Nat} (h : LnS w wr a c xs ys) (hx : xs[ys.length]? = some x) (ha : a = some ⟨g, 0, none⟩) (ho : w2.ownsRow wr.heap.size 5 1 (.slice ad x.data.length cd) x.data.length (x.data.map (Value.int .u8))) (hb : Below wr.heap.size wr w2)
    (hok : Bytey x.data ∧ x.data.length ≤ 70000 ∧ 0 ≤ x.tag ∧ x.tag ≤ 255) : LnS w (w2.setCell ⟨g, ys.length * 2 + 1, none⟩ (.slice ad x.data.length cd)) a c xs (ys ++ [⟨x.tag, ad, cd, x.data⟩]) := by
  subst ha
  have hlt : ys.length < xs.length := (List.getElem?_eq_some_iff.mp hx).1
  have hgl : w.heap.size ≤ g ∧ g < wr.heap.size := h.row.lt g rfl
  have hdr : xs.drop ys.length = x :: xs.drop (ys.length + 1) := drop_get xs ys.length x hx
  have gw : wr.grownBy w2 none := ⟨hb.os, hb.tape, hb.output, hb.size, fun k hk _ => hb.block k hk⟩
  have r1 := h.row
  rw [hdr] at r1
  have r2 : w2.ownsRow w.heap.size 93 2 (.slice (some ⟨g, 0, none⟩) xs.length c) xs.length ((ys ++ x :: xs.drop (ys.length + 1)).flatMap Xr.cells) := own_keep r1 gw (by simp)
  have r3 := (World.ownsRow.stored r2 (ys.length * 2 + 1) (.slice ad x.data.length cd)).1
  have e3 := ln_set ys x ⟨x.tag, ad, cd, x.data⟩ (xs.drop (ys.length + 1)) rfl
  have e3' : ((ys ++ x :: xs.drop (ys.length + 1)).flatMap Xr.cells).set (ys.length * 2 + 1) (.slice ad x.data.length cd) = (ys ++ ⟨x.tag, ad, cd, x.data⟩ :: xs.drop (ys.length + 1)).flatMap Xr.cells := e3
  rw [e3'] at r3
  have hnw : ∀ k, (Value.slice ad x.data.length cd).ownBlock = some k → wr.heap.size ≤ k := fun k hk => (ho.lt k hk).1
  refine ⟨?_, ?_, fun y hy => ?_, fun y hy k hk => ?_, ?_, ?_⟩
  · rw [List.length_append, List.length_singleton, List.append_assoc]
    exact r3
  · rw [List.length_append, List.length_singleton, List.map_append, h.ex, List.take_add_one, hx, List.map_append]
    rfl
  · rcases List.mem_append.mp hy with hy | hy
    · have d := h.data y hy
      exact ⟨own_keep (own_keep d.row gw (by simp)) (grown_set _ _ _ _) (fun k hk e => by simp at e; subst e; exact h.apart y hy _ hk rfl), d.bytes, d.small, d.tag⟩
    · simp at hy
      subst hy
      exact ⟨own_base (own_keep ho (grown_set _ _ _ _) (fun k hk e => by have := hnw k hk; simp at e; omega)) (by omega), hok.1, hok.2.1, hok.2.2⟩
  · rcases List.mem_append.mp hy with hy | hy
    · exact h.apart y hy k hk
    · simp at hy
      subst hy
      have := hnw k hk
      intro e
      have e' : g = k := by simpa [Value.ownBlock] using e
      omega
  · rw [List.filterMap_append]
    refine List.nodup_append.mpr ⟨h.nodup, ?_, fun p hp q hq e => ?_⟩
    · cases hq : (Xr.mk x.tag ad cd x.data).val.ownBlock <;> simp [List.filterMap_cons, hq]
    · obtain ⟨y, hy, e1⟩ := List.mem_filterMap.mp hp
      obtain ⟨z, hz, e2⟩ := List.mem_filterMap.mp hq
      simp at hz
      subst hz
      have h1 := ((h.data y hy).row.lt p e1).2
      have h2 := hnw q e2
      omega
  · exact (h.low.trans (hb.mono h.low.size)).setCell (by show w.heap.size ≤ g; exact hgl.1) _

set_option maxRecDepth 100000 in
set_option maxHeartbeats 4000000 in
/-- lines.copyOfExts: extensions in memory of their own. -/
theorem lnX_any {v : Value} {xs : List Xr} {w : World} (h : XIn w v xs) (hok : ∀ x ∈ xs, x.data.length ≤ 70000 ∧ 0 ≤ x.tag ∧ x.tag ≤ 255) :
    Calls Tryd.prog 59 #[v] w fun e w' => ∃ a c ys, e = .returned (.slice a xs.length c) ∧ XOwn w' w.heap.size (.slice a xs.length c) ys ∧ ys.length = xs.length ∧ ys.map Xr.ex = xs.map Xr.ex ∧ Below w.heap.size w w' := by
  have hE := lnE_any h
  have hsm := h.small
  have HD : Hid (∀ V, Below w.heap.size w V → ∀ x ∈ xs, BIn V x.val x.data) := fun V hV x hx => (h.data x hx).below hV
  have HOk : Hid (∀ x ∈ xs, Bytey x.data ∧ x.data.length ≤ 70000 ∧ 0 ≤ x.tag ∧ x.tag ≤ 255) := fun x hx => ⟨(h.data x hx).bytes, (hok x hx).1, (hok x hx).2⟩
  obtain ⟨a0, c0, rfl, _⟩ := h.shape
  obtain ⟨n, hn⟩ : ∃ n, xs.length = n := ⟨_, rfl⟩
  have HN : Hid (xs.length = n) := hn
  rw [hn] at hsm hE ⊢
  clear h hok hn
  go_enter Tryd.func59, Tryd.ntmps59
  go_wp2_with fail
  refine hE.mono ?_
  rintro e w1 ⟨a, c, rfl, ho, hb⟩
  have HS0 : Hid (LnS w w1 a c xs []) := by
    refine ⟨?_, rfl, fun _ h => (by cases h), fun _ h => (by cases h), List.nodup_nil, hb⟩
    rw [HN.out]; simpa using ho
  clear ho hb hE
  go_wp2_with fail
  go_loopw [8] (fun i wr => ∃ (k : Nat), k ≤ n ∧ i = .int .i64 k ∧ Hid (∃ ys, ys.length = k ∧ LnS w wr a c xs ys)) (fun i _ => n - (intOf i).toNat)
  case atStart => exact ⟨0, by omega, rfl, [], rfl, HS0.out⟩
  case round =>
    obtain ⟨k, hk, rfl, HJ⟩ := hrel
    clear HS0
    obtain ⟨ys, hyl, hS⟩ := HJ.out
    by_cases hlt : k < n
    · have hlt' : (k : Int) < (n : Int) := by omega
      have hwk : IntKind.i64.wrap ((k : Int) + 1) = (k : Int) + 1 := by rw [IntKind.wrap_i64]; omega
      obtain ⟨x, hx⟩ := get_one xs k (by rw [HN.out]; exact hlt)
      have HX : Hid (xs[k]? = some x ∧ x ∈ xs) := ⟨hx, List.mem_of_getElem? hx⟩
      have hrow := hS.row
      obtain ⟨g, hg⟩ := ln_nz hrow (by rw [HN.out]; omega)
      subst hg
      rw [hyl, drop_get xs k x hx, HN.out] at hrow
      have hat := ln_at ys x (xs.drop (k + 1))
      rw [hyl] at hat
      have hce : wr.cell? ⟨g, k * 2 + 1, none⟩ = some (.slice x.adr x.data.length x.cap) := (World.ownsRow.cellAt hrow _ (by omega)).trans hat
      have hgl := (hrow.lt g rfl)
      have HGl : Hid (w.heap.size ≤ g ∧ g < wr.heap.size) := hgl
      have hB := lnB_any (HD.out wr hS.low x HX.out.2)
      have hxv : x.val = .slice x.adr x.data.length x.cap := rfl
      rw [hxv] at hB
      have HS : Hid (LnS w wr (some ⟨g, 0, none⟩) c xs ys ∧ ys.length = k) := ⟨hS, hyl⟩
      have HRo : Hid (wr.ownsRow w.heap.size 93 2 (.slice (some ⟨g, 0, none⟩) n c) n ((ys ++ x :: xs.drop (k + 1)).flatMap Xr.cells)) := hrow
      have HXd : Hid (x.data.length = x.data.length) := rfl
      obtain ⟨d, hd⟩ : ∃ d, x.data.length = d := ⟨_, rfl⟩
      have HDl : Hid (x.data.length = d) := hd
      rw [hd] at hce hB
      clear hx hS hyl hrow hat hxv hgl HJ hd
      generalize x.adr = xa at *
      generalize x.cap = xc at *
      go_wp2_with fail
      refine hB.mono ?_
      rintro e w2 ⟨ad, cd, rfl, ho, hb2⟩
      have hc2 : w2.cell? ⟨g, k * 2 + 1, none⟩ = some (.slice xa d xc) := (hb2.cell (p := ⟨g, k * 2 + 1, none⟩) HGl.out.2).trans hce
      have hf2 : w2.frozen? ⟨g, k * 2 + 1, none⟩ = false := by
        obtain ⟨_, ⟨e1, _⟩ | ⟨g', cap, cur, e1, _, q1, _⟩⟩ := HRo.out
        · cases e1
        · simp only [Value.slice.injEq, Option.some.injEq, Addr.mk.injEq] at e1
          obtain ⟨⟨rfl, _⟩, _⟩ := e1
          exact frozen_of_row _ _ _ _ _ ((hb2.block _ HGl.out.2).trans q1)
      have HR : Hid (∃ ys', ys'.length = k + 1 ∧ LnS w (w2.setCell ⟨g, k * 2 + 1, none⟩ (.slice ad d cd)) (some ⟨g, 0, none⟩) c xs ys') := by
        have hst := HS.out.1.step (x := x) (ad := ad) (cd := cd) (g := g) (w2 := w2) (by rw [HS.out.2]; exact HX.out.1) rfl (by rw [HDl.out]; exact ho) hb2 (HOk.out x HX.out.2)
        rw [HS.out.2, HDl.out] at hst
        exact ⟨_, by rw [List.length_append, HS.out.2]; rfl, hst⟩
      clear ho hb2 hce hB
      go_wp2
      go_roundw
      case rel => first | exact ⟨k + 1, by omega, by go_num, HR⟩ | exact ⟨k + 1, by omega, by omega, HR⟩
      case measure => simp [intOf]; omega
    · have hlt' : ¬ (k : Int) < (n : Int) := by omega
      have hkn : k = n := by omega
      have HE : Hid (∃ ys, XOwn wr w.heap.size (.slice a n c) ys ∧ ys.length = n ∧ ys.map Xr.ex = xs.map Xr.ex ∧ Below w.heap.size w wr) := by
        have e1 : xs.drop ys.length = [] := List.drop_of_length_le (by rw [HN.out]; omega)
        have e2 : xs.take ys.length = xs := List.take_of_length_le (by rw [HN.out]; omega)
        have hr := hS.row
        have hap := hS.apart
        rw [e1, List.append_nil, HN.out] at hr
        rw [HN.out] at hap
        have hex := hS.ex
        rw [e2] at hex
        exact ⟨ys, ⟨by rw [hyl, hkn]; exact hr, hS.data, fun x hx k hk => hap x hx k hk, hS.nodup⟩, by omega, hex, hS.low⟩
      clear hS hyl HJ
      go_wp2
      go_ret
      obtain ⟨ys, h1, h2, h3, h4⟩ := HE.out
      first | exact ⟨a, c, ys, rfl, h1, h2, h3, h4⟩ | exact ⟨a, c, rfl, ys, h1, h2, h3, h4⟩

end Go.Proofs.YtdfdaambfihjaaaDoor
