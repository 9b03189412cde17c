import Derived.Test.YthkphihgdklbbaaDoorBkGrn
import Derived.Test.YthkphihgdklbbaaDoorSam
namespace Go.Proofs.YthkphihgdklbbaaDoor
open Go.RowKit

/-- Pieces one behind another, up to an end. -/
def itG (nx : Int → Pc) (tt : Int) : Nat → Int → List Pc
  | 0, _ => []
  | f + 1, at' => if at' < tt then nx at' :: itG nx tt f (nx at').to else []
theorem itG_end {nx : Int → Pc} {tt : Int} {f : Nat} {at' : Int} (h : tt ≤ at') : itG nx tt f at' = [] := by
  cases f with
  | zero => rfl
  | succ f => rw [itG, if_neg (by omega)]
/-- Does each go on? -/
def Goes (nx : Int → Pc) (frm tt : Int) : Prop := ∀ at', frm ≤ at' → at' < tt → at' < (nx at').to ∧ (nx at').to ≤ tt
theorem itG_len {nx : Int → Pc} {tt : Int} : ∀ (f : Nat) (at' : Int), (itG nx tt f at').length ≤ f
  | 0, _ => by simp [itG]
  | f + 1, at' => by
    rw [itG]
    split
    · have := itG_len (nx := nx) (tt := tt) f (nx at').to; simp only [List.length_cons]; omega
    · simp

/-- A gap that is cut without a checkpoint; the next piece of one that ends with a checkpoint. -/
def plG (k : Pk) (frm tt : Int) : List Pc := itG (fun a => pPc k a tt) tt (tt - frm).toNat frm
def akP (k : Pk) (tt c r at' : Int) : Pc := if (cPc k at' tt c r).to < tt then pPc k at' (tt - 1) else cPc k at' tt c r
def akG (k : Pk) (frm tt c r : Int) : List Pc := itG (akP k tt c r) tt (tt - frm).toNat frm
theorem pl_goes {k : Pk} (ok : k.Ok) {frm tt : Int} (h0 : 0 ≤ frm) (h1 : tt ≤ 65536) : Goes (fun a => pPc k a tt) frm tt := fun at' h h' => pPc_to ok (by omega) h' h1
theorem ak_goes {k : Pk} (ok : k.Ok) {frm tt c r : Int} (h0 : 0 ≤ frm) (h1 : tt ≤ 65536) (hc : 0 ≤ c ∧ c ≤ 4611686018427387903) (hr : 0 ≤ r ∧ r ≤ 4611686018427387903) : Goes (akP k tt c r) frm tt := fun at' h h' => by
  unfold akP
  split
  · rename_i hq
    have := ro1_low ok (at' := at') (c := c) (r := r) (by omega) (by omega) hc hr
    simp only [cPc] at hq
    have := pPc_to ok (at' := at') (e := tt - 1) (by omega) (by omega) (by omega)
    omega
  · exact cPc_to ok (by omega) h' h1 hc hr

/-- How far a gap is cut, behind what stood there. -/
structure II (nx : Int → Pc) (frm tt : Int) (acc : List Pc) (B : Nat) (w : World) (v : Value) (at' : Int) (l : List Pc) (f : Nat) (wr : World) : Prop where
  lo : frm ≤ at'
  hi : at' ≤ max frm tt
  own : POwn wr B v (acc ++ l)
  bel : Below w.heap.size w wr
  whole : itG nx tt (tt - frm).toNat frm = l ++ itG nx tt f at'
  fuel : tt - at' ≤ f
  len : l.length ≤ at' - frm
theorem II.start {nx : Int → Pc} {frm tt : Int} {acc : List Pc} {B : Nat} {w : World} {v : Value} {wr : World} (hb : Below w.heap.size w wr) (ho : POwn wr B v acc) : II nx frm tt acc B w v frm [] (tt - frm).toNat wr :=
  ⟨by omega, by omega, by rw [List.append_nil]; exact ho, hb, rfl, by omega, by simp⟩
theorem II.step {nx : Int → Pc} {frm tt : Int} {acc : List Pc} {B : Nat} {w wr W w5 : World} {v v' : Value} {at' : Int} {l : List Pc} {f : Nat} (h : II nx frm tt acc B w v at' l f wr) (hG : Goes nx frm tt) (hlt : at' < tt) (hB : w.heap.size ≤ B) (hb : Below w.heap.size wr W)
    (hown : w5.ownsRow B 57 5 v' ((acc ++ l).length + 1) ((acc ++ l).flatMap pcL ++ pcL (nx at'))) (hgr : W.grownBy w5 v.ownBlock) : ∃ f', II nx frm tt acc B w v' (nx at').to (l ++ [nx at']) f' w5 := by
  have hto := hG at' h.lo hlt
  have hfu := h.fuel
  obtain ⟨f', rfl⟩ : ∃ f', f = f' + 1 := ⟨f - 1, by omega⟩
  have hrow := row_ge h.own
  refine ⟨f', by have := h.lo; omega, by omega, ?_, ?_, ?_, by omega, ?_⟩
  · unfold POwn
    rw [← List.append_assoc, List.flatMap_append, show ((acc ++ l) ++ [nx at']).length = (acc ++ l).length + 1 from by simp; omega, show [nx at'].flatMap pcL = pcL (nx at') from by simp]
    exact hown
  · exact (h.bel.trans hb).grown hgr (by have := hb.size; have := h.bel.size; omega) (fun r hr => by have := hrow r hr; omega)
  · rw [h.whole, itG, if_pos hlt]; simp
  · have := h.len
    simp; omega
theorem II.done {nx : Int → Pc} {frm tt : Int} {acc : List Pc} {B : Nat} {w : World} {v : Value} {at' : Int} {l : List Pc} {f : Nat} {wr : World} (h : II nx frm tt acc B w v at' l f wr) (hlt : ¬ at' < tt) : POwn wr B v (acc ++ itG nx tt (tt - frm).toNat frm) := by
  have := h.whole
  rw [itG_end (f := f) (at' := at') (by omega), List.append_nil] at this
  rw [this]
  exact h.own

/-- What Again answers of gaps that may be. -/
def agL (k : Pk) (c r : Int) : List (Int × Int) → List Pc
  | [] => []
  | [g] => akG k g.1 g.2 c r
  | g :: gs => plG k g.1 g.2 ++ agL k c r gs

end Go.Proofs.YthkphihgdklbbaaDoor

namespace Go.Proofs.YthkphihgdklbbaaDoor
open Go.RowKit

set_option maxRecDepth 100000 in
set_option maxHeartbeats 2000000 in
theorem plains_any {k : Pk} (ok : k.Ok) (frm tt : Int) (h0 : 0 ≤ frm) (h1 : tt ≤ 65536) (w : World) (hT : Tab w) :
    Calls Tryd.prog 44 #[.agg (knC k), .agg #[.int .i64 frm, .int .i64 tt]] w (PsPost (plG k frm tt) w) := by
  obtain ⟨i0, hi, hz0, hz1, hz2⟩ := info_parts Tryd.info_piece
  obtain ⟨w0, hw0⟩ : ∃ w0, w0 = (w.alloc (.cells (knC k) 80)).alloc (.cells #[.int .i64 frm, .int .i64 tt] 38) := ⟨_, rfl⟩
  have HB0 : Hid (Below w.heap.size w w0) := by rw [hw0]; exact ((Below.refl _ _).alloc (Nat.le_refl _) _).alloc (by simp) _
  have HZ0 : Hid (w0.heap.size = w.heap.size + 2) := by rw [hw0]; unfold Hid; simp
  have HK0 : Hid (w0.heap[w.heap.size]? = some (.cells (knC k) 80)) := by rw [hw0]; exact heapA (heap_alloc_new' _ _) _
  have HG0 : Hid (w0.heap[w.heap.size + 1]? = some (.cells #[.int .i64 frm, .int .i64 tt] 38)) := by
    have := heap_alloc_new' (w.alloc (.cells (knC k) 80)) (.cells #[.int .i64 frm, .int .i64 tt] 38)
    rw [World.size_alloc] at this; rw [hw0]; exact this
  have OK : Hid k.Ok := ok
  have HT : Hid (Tab w) := hT
  clear ok hT
  have HST : Hid (II (fun a => pPc k a tt) frm tt [] w0.heap.size w0 (.slice none 0 0) frm [] (tt - frm).toNat w0) := II.start (Below.refl _ _) ⟨rfl, .inl ⟨rfl, rfl⟩⟩
  go_enter Tryd.func44, Tryd.ntmps44
  go_wp2_with fail
  rw [← hw0]
  clear hw0
  go_loopw [5, 6] (fun p q wr => ∃ (v : Value) (at' : Int) (l : List Pc) (f : Nat), v = p ∧ q = .int .i64 at' ∧ II (fun a => pPc k a tt) frm tt [] w0.heap.size w0 v at' l f wr) (fun _ q _ => (tt - intOf q).toNat)
  case atStart => exact ⟨_, frm, [], _, rfl, rfl, HST.out⟩
  case round =>
    obtain ⟨v, at', l, f, rfl, rfl, hg⟩ := hrel
    clear HST
    have HG : Hid (II (fun a => pPc k a tt) frm tt [] w0.heap.size w0 v at' l f wr) := hg
    clear hg
    have g1 : wr.cell? ⟨w.heap.size + 1, 1, none⟩ = some (.int .i64 tt) := cell_of_row _ _ 1 _ _ _ ((HG.out.bel.block _ (by have := HZ0.out; omega)).trans HG0.out)
    by_cases hlt : at' < tt
    · have hb1 : 0 ≤ at' ∧ at' ≤ 65535 := by have := HG.out.lo; omega
      have hpn := plain_any OK.out at' tt wr (HT.out.below (HB0.out.trans (HG.out.bel.mono HB0.out.size)) (tab_pos HT.out)) hb1.1 hb1.2
      have hto := pPc_to OK.out (at' := at') (e := tt) hb1.1 hlt h1
      have HL : Hid (l.length ≤ 65536) := by have := HG.out.len; have := HG.out.hi; unfold Hid; omega
      have hbx := (HG.out.bel.block w.heap.size (by have := HZ0.out; omega)).trans HK0.out
      have k0 : wr.cell? ⟨w.heap.size, 0, none⟩ = some (.int .i64 k.org) := cell_of_row _ _ 0 _ _ _ hbx
      have k1 : wr.cell? ⟨w.heap.size, 1, none⟩ = some (.int .i64 k.num) := cell_of_row _ _ 1 _ _ _ hbx
      have k2 : wr.cell? ⟨w.heap.size, 2, none⟩ = some (.int .i64 k.srv) := cell_of_row _ _ 2 _ _ _ hbx
      have k3 : wr.cell? ⟨w.heap.size, 3, none⟩ = some (.int .i64 k.size) := cell_of_row _ _ 3 _ _ _ hbx
      have k4 : wr.cell? ⟨w.heap.size, 4, none⟩ = some (.int .i64 k.red) := cell_of_row _ _ 4 _ _ _ hbx
      have k5 : wr.cell? ⟨w.heap.size, 5, none⟩ = some (.int .i64 k.mtu) := cell_of_row _ _ 5 _ _ _ hbx
      have k6 : wr.cell? ⟨w.heap.size, 6, none⟩ = some (.int .i64 k.every) := cell_of_row _ _ 6 _ _ _ hbx
      obtain ⟨T, hT⟩ : ∃ T, min (at' + ro0 k at') tt = T := ⟨_, rfl⟩
      have HPP : Hid (pPc k at' tt = ⟨0, at', T, 0, 0⟩) := by unfold Hid pPc; rw [hT]
      rw [HPP.out] at hpn hto
      simp only at hto
      clear hT hbx
      obtain ⟨a, cap, hv⟩ := own_shp HG.out.own
      rw [List.nil_append] at hv
      have HO : Hid (wr.ownsRow w0.heap.size 57 5 v l.length (l.flatMap pcL)) := HG.out.own
      subst hv
      have HXL : Hid ((l.flatMap pcL).length = l.length * 5) := pc_len l
      obtain ⟨X, hX⟩ : ∃ X, l.flatMap pcL = X := ⟨_, rfl⟩
      obtain ⟨m, hm⟩ : ∃ m, l.length = m := ⟨_, rfl⟩
      rw [hX, hm] at HXL HO
      rw [hm] at HG HL
      have HX : Hid (l.flatMap pcL = X ∧ l.length = m) := ⟨hX, hm⟩
      rw [hm]
      clear hX hm
      go_wp2_with fail
      refine hpn.mono ?_
      rintro e w2 ⟨rfl, hb⟩
      clear hpn k0 k1 k2 k3 k4 k5 k6 g1
      have HB2 : Hid (Below wr.heap.size wr w2) := hb
      clear hb
      go_wp2_with (at_builtin; refine wpList_append_own_at _ rfl _ _ 51 rfl w0.heap.size 57 i0 (.agg #[.int .i64 0, .int .i64 0, .int .i64 0, .int .i64 0, .int .i64 0]) 5 40 Tryd.underlying51 hi hz0 hz1 hz2 rfl (by decide) _ _ _ rfl (World.ownsRow.alloc (own_below HO.out HB2.out) _) ⟨w2.heap.size, 0, none⟩ 1 1 [.int .i64 0, .int .i64 at', .int .i64 T, .int .i64 0, .int .i64 0] rfl rfl ?c1 ?c2 ?c3 ?c4 ?c5 ?_)
      case c1 => exact cell_five _ _ _ _ _ _ _ _ (by simp)
      case c2 => intro x hx; simp only [List.mem_cons, List.not_mem_nil, or_false] at hx; rcases hx with rfl | rfl | rfl | rfl | rfl <;> rfl
      case c3 => have := HL.out; unfold maxLen; omega
      case c4 => have := HL.out; omega
      case c5 => have := HG.out.bel.size; have := HB2.out.size; simp; omega
      intro v' w5 hown5 hgrow5 _ _
      have hbw : Below w0.heap.size wr (w2.alloc (.cells #[.int .i64 0, .int .i64 at', .int .i64 T, .int .i64 0, .int .i64 0] 57)) := (HB2.out.alloc HB2.out.size _).mono HG.out.bel.size
      have hst := HG.out.step (pl_goes OK.out h0 h1) hlt (Nat.le_refl _) hbw (by simp only [List.nil_append]; rw [HX.out.1, HX.out.2, HPP.out]; exact hown5) hgrow5
      simp only [HPP.out] at hst
      obtain ⟨g, cap', rfl, hcl⟩ := row_last hown5 HXL.out
      have HN : Hid (∃ x f', II (fun a => pPc k a tt) frm tt [] w0.heap.size w0 (.slice (some ⟨g, 0, none⟩) (m + 1) cap') T (l ++ [x]) f' w5) := by obtain ⟨f', h⟩ := hst; exact ⟨_, f', h⟩
      have hm1 : m + 1 ≤ 65537 := by have := HL.out; omega
      clear hst hown5 hgrow5 hbw HG HO HB2 HXL HX HL
      have hwm : IntKind.i64.wrap (((m + 1 : Nat) : Int) - 1) = m := by rw [IntKind.wrap_i64]; omega
      have hlt' : (m : Int) < ((m + 1 : Nat) : Int) := by omega
      generalize m + 1 = n at *
      go_wp2
      go_roundw
      case rel => obtain ⟨x, f', h⟩ := HN.out; exact ⟨_, _, _, f', rfl, rfl, h⟩
      case measure => simp [intOf]; omega
    · have HP : Hid (POwn wr w.heap.size v (plG k frm tt) ∧ Below w.heap.size w wr) := ⟨POwn.weak (HG.out.done hlt) (by have := HZ0.out; omega), HB0.out.trans (HG.out.bel.mono HB0.out.size)⟩
      clear HG
      go_wp2
      go_ret
      exact ⟨v, rfl, HP.out.1, HP.out.2⟩

set_option maxRecDepth 100000 in
set_option maxHeartbeats 4000000 in
theorem asking_any {k : Pk} (ok : k.Ok) (frm tt c r : Int) (h0 : 0 ≤ frm) (h1 : tt ≤ 65536) (hc : 1 ≤ c ∧ c ≤ 4611686018427387903) (hr : 0 ≤ r ∧ r ≤ 4611686018427387903) (w : World) (hT : Tab w) :
    Calls Tryd.prog 45 #[.agg (knC k), .agg #[.int .i64 frm, .int .i64 tt], .int .i64 c, .int .i64 r] w (PsPost (akG k frm tt c r) w) := by
  obtain ⟨i0, hi, hz0, hz1, hz2⟩ := info_parts Tryd.info_piece
  obtain ⟨w0, hw0⟩ : ∃ w0, w0 = (w.alloc (.cells (knC k) 80)).alloc (.cells #[.int .i64 frm, .int .i64 tt] 38) := ⟨_, rfl⟩
  have HB0 : Hid (Below w.heap.size w w0) := by rw [hw0]; exact ((Below.refl _ _).alloc (Nat.le_refl _) _).alloc (by simp) _
  have HZ0 : Hid (w0.heap.size = w.heap.size + 2) := by rw [hw0]; unfold Hid; simp
  have HK0 : Hid (w0.heap[w.heap.size]? = some (.cells (knC k) 80)) := by rw [hw0]; exact heapA (heap_alloc_new' _ _) _
  have HG0 : Hid (w0.heap[w.heap.size + 1]? = some (.cells #[.int .i64 frm, .int .i64 tt] 38)) := by
    have := heap_alloc_new' (w.alloc (.cells (knC k) 80)) (.cells #[.int .i64 frm, .int .i64 tt] 38)
    rw [World.size_alloc] at this; rw [hw0]; exact this
  have OK : Hid k.Ok := ok
  have HT : Hid (Tab w) := hT
  have HC : Hid ((1 ≤ c ∧ c ≤ 4611686018427387903) ∧ 0 ≤ r ∧ r ≤ 4611686018427387903) := ⟨hc, hr⟩
  clear ok hT hc hr
  have HST : Hid (II (akP k tt c r) frm tt [] w0.heap.size w0 (.slice none 0 0) frm [] (tt - frm).toNat w0) := II.start (Below.refl _ _) ⟨rfl, .inl ⟨rfl, rfl⟩⟩
  have HGO : Hid (Goes (akP k tt c r) frm tt) := ak_goes OK.out h0 h1 ⟨by have := HC.out.1; omega, HC.out.1.2⟩ HC.out.2
  go_enter Tryd.func45, Tryd.ntmps45
  go_wp2_with fail
  rw [← hw0]
  clear hw0
  go_loopw [9, 10] (fun p q wr => ∃ (v : Value) (at' : Int) (l : List Pc) (f : Nat), v = p ∧ q = .int .i64 at' ∧ II (akP k tt c r) frm tt [] w0.heap.size w0 v at' l f wr) (fun _ q _ => (tt - intOf q).toNat)
  case atStart => exact ⟨_, frm, [], _, rfl, rfl, HST.out⟩
  case round =>
    obtain ⟨v, at', l, f, rfl, rfl, hg⟩ := hrel
    clear HST
    have HG : Hid (II (akP k tt c r) frm tt [] w0.heap.size w0 v at' l f wr) := hg
    clear hg
    have HSP : Hid (wr.heap[w.heap.size + 1]? = some (.cells #[.int .i64 frm, .int .i64 tt] 38)) := (HG.out.bel.block _ (by have := HZ0.out; omega)).trans HG0.out
    have g1 : wr.cell? ⟨w.heap.size + 1, 1, none⟩ = some (.int .i64 tt) := cell_of_row _ _ 1 _ _ _ HSP.out
    by_cases hlt : at' < tt
    · have hb1 : 0 ≤ at' ∧ at' ≤ 65535 := by have := HG.out.lo; omega
      have hck := checkpoint_any OK.out at' tt c r wr (HT.out.below (HB0.out.trans (HG.out.bel.mono HB0.out.size)) (tab_pos HT.out)) hb1.1 hb1.2 HC.out.1 HC.out.2
      have hto : at' < (cPc k at' tt c r).to ∧ (cPc k at' tt c r).to ≤ tt := cPc_to OK.out hb1.1 hlt h1 ⟨by have := HC.out.1; omega, HC.out.1.2⟩ HC.out.2
      have HR1 : Hid (20 ≤ ro1 k at' c r) := (ro1_low OK.out hb1.1 (by omega) ⟨by have := HC.out.1; omega, HC.out.1.2⟩ HC.out.2).1
      have HL : Hid (l.length ≤ 65536) := by have := HG.out.len; have := HG.out.hi; unfold Hid; omega
      have HBX : Hid (wr.heap[w.heap.size]? = some (.cells (knC k) 80)) := (HG.out.bel.block w.heap.size (by have := HZ0.out; omega)).trans HK0.out
      have k0 : wr.cell? ⟨w.heap.size, 0, none⟩ = some (.int .i64 k.org) := cell_of_row _ _ 0 _ _ _ HBX.out
      have k1 : wr.cell? ⟨w.heap.size, 1, none⟩ = some (.int .i64 k.num) := cell_of_row _ _ 1 _ _ _ HBX.out
      have k2 : wr.cell? ⟨w.heap.size, 2, none⟩ = some (.int .i64 k.srv) := cell_of_row _ _ 2 _ _ _ HBX.out
      have k3 : wr.cell? ⟨w.heap.size, 3, none⟩ = some (.int .i64 k.size) := cell_of_row _ _ 3 _ _ _ HBX.out
      have k4 : wr.cell? ⟨w.heap.size, 4, none⟩ = some (.int .i64 k.red) := cell_of_row _ _ 4 _ _ _ HBX.out
      have k5 : wr.cell? ⟨w.heap.size, 5, none⟩ = some (.int .i64 k.mtu) := cell_of_row _ _ 5 _ _ _ HBX.out
      have k6 : wr.cell? ⟨w.heap.size, 6, none⟩ = some (.int .i64 k.every) := cell_of_row _ _ 6 _ _ _ HBX.out
      obtain ⟨T, hT⟩ : ∃ T, min (at' + ro1 k at' c r) tt = T := ⟨_, rfl⟩
      obtain ⟨Y, hY⟩ : ∃ Y, ckT k T = Y := ⟨_, rfl⟩
      have HTD : Hid (min (at' + ro1 k at' c r) tt = T) := hT
      have HPC : Hid (cPc k at' tt c r = ⟨Y, at', T, c, r⟩) := by unfold Hid cPc; rw [hT, hY]
      have HAK : Hid (akP k tt c r at' = if T < tt then pPc k at' (tt - 1) else ⟨Y, at', T, c, r⟩) := by unfold Hid akP; rw [HPC.out]
      rw [HPC.out] at hck hto
      simp only at hto
      clear hT hY
      obtain ⟨a, cap, hv⟩ := own_shp HG.out.own
      rw [List.nil_append] at hv
      have HO : Hid (wr.ownsRow w0.heap.size 57 5 v l.length (l.flatMap pcL)) := HG.out.own
      subst hv
      have HXL : Hid ((l.flatMap pcL).length = l.length * 5) := pc_len l
      obtain ⟨X, hX⟩ : ∃ X, l.flatMap pcL = X := ⟨_, rfl⟩
      obtain ⟨m, hm⟩ : ∃ m, l.length = m := ⟨_, rfl⟩
      rw [hX, hm] at HXL HO
      rw [hm] at HG HL
      have HX : Hid (l.flatMap pcL = X ∧ l.length = m) := ⟨hX, hm⟩
      rw [hm]
      clear hX hm
      go_wp2_with fail
      refine hck.mono ?_
      rintro e w2 ⟨rfl, hb⟩
      clear hck k0 k1 k2 k3 k4 k5 k6 g1
      have HSZ : Hid (w0.heap.size ≤ wr.heap.size) := HG.out.bel.size
      have HBK : Hid ((w2.alloc (.cells #[.int .i64 Y, .int .i64 at', .int .i64 T, .int .i64 c, .int .i64 r] 57)).heap[w.heap.size]? = some (.cells (knC k) 80)) := heapA ((hb.block _ (by have := HSZ.out; have := HZ0.out; omega)).trans HBX.out) _
      have g1 : (w2.alloc (.cells #[.int .i64 Y, .int .i64 at', .int .i64 T, .int .i64 c, .int .i64 r] 57)).cell? ⟨w.heap.size + 1, 1, none⟩ = some (.int .i64 tt) := cell_of_row _ _ 1 _ _ _ (heapA ((hb.block _ (by have := HSZ.out; have := HZ0.out; omega)).trans HSP.out) _)
      have HBW : Hid (Below wr.heap.size wr (w2.alloc (.cells #[.int .i64 Y, .int .i64 at', .int .i64 T, .int .i64 c, .int .i64 r] 57))) := hb.alloc hb.size _
      have HLE : Hid (wr.heap.size ≤ w2.heap.size) := hb.size
      clear hb HBX
      by_cases hTs : T < tt
      rotate_left
      · have HNP : Hid (akP k tt c r at' = ⟨Y, at', T, c, r⟩) := by unfold Hid; rw [HAK.out, if_neg hTs]
        clear HAK HPC HTD HR1 HBK
        go_wp2_with (at_builtin; refine wpList_append_own_at _ rfl _ _ 51 rfl w0.heap.size 57 i0 (.agg #[.int .i64 0, .int .i64 0, .int .i64 0, .int .i64 0, .int .i64 0]) 5 40 Tryd.underlying51 hi hz0 hz1 hz2 rfl (by decide) _ _ _ rfl (World.ownsRow.alloc (own_below HO.out HBW.out) _) ⟨w2.heap.size + 1, 0, none⟩ 1 1 [.int .i64 Y, .int .i64 at', .int .i64 T, .int .i64 c, .int .i64 r] rfl rfl ?c1 ?c2 ?c3 ?c4 ?c5 ?_)
        case c1 => exact cell_five _ _ _ _ _ _ _ _ (by simp)
        case c2 => intro x hx; simp only [List.mem_cons, List.not_mem_nil, or_false] at hx; rcases hx with rfl | rfl | rfl | rfl | rfl <;> rfl
        case c3 => have := HL.out; unfold maxLen; omega
        case c4 => have := HL.out; omega
        case c5 => have h1 := HSZ.out; have h2 := HBW.out.size; simp only [World.size_alloc] at h2 ⊢; omega
        intro v' w5 hown5 hgrow5 _ _
        have hst := HG.out.step HGO.out hlt (Nat.le_refl _) ((HBW.out.alloc HBW.out.size _).mono HSZ.out) (by rw [List.nil_append, HX.out.1, HX.out.2, HNP.out]; exact hown5) hgrow5
        simp only [HNP.out] at hst
        obtain ⟨g, cap', rfl, hcl⟩ := row_last hown5 HXL.out
        have HN : Hid (∃ x f', II (akP k tt c r) frm tt [] w0.heap.size w0 (.slice (some ⟨g, 0, none⟩) (m + 1) cap') T (l ++ [x]) f' w5) := by obtain ⟨f', h⟩ := hst; exact ⟨_, f', h⟩
        have hm1 : m + 1 ≤ 65537 := by have := HL.out; omega
        clear hst hown5 hgrow5 HG HO HBW HXL HX HL HNP
        have hwm : IntKind.i64.wrap (((m + 1 : Nat) : Int) - 1) = m := by rw [IntKind.wrap_i64]; omega
        have hlt' : (m : Int) < ((m + 1 : Nat) : Int) := by omega
        generalize m + 1 = n at *
        go_wp2
        go_roundw
        case rel => obtain ⟨x, f', h⟩ := HN.out; exact ⟨_, _, _, f', rfl, rfl, h⟩
        case measure => simp [intOf]; omega
      · have hat : at' < tt - 1 := by have := HTD.out; have := HR1.out; omega
        have hto2 := pPc_to OK.out (at' := at') (e := tt - 1) hb1.1 hat (by omega)
        have hpn := plain_any OK.out at' (tt - 1) (w2.alloc (.cells #[.int .i64 Y, .int .i64 at', .int .i64 T, .int .i64 c, .int .i64 r] 57)) (HT.out.below (HB0.out.trans ((HG.out.bel.trans (HBW.out.mono HSZ.out)).mono HB0.out.size)) (tab_pos HT.out)) hb1.1 hb1.2
        have k0 : (w2.alloc (.cells #[.int .i64 Y, .int .i64 at', .int .i64 T, .int .i64 c, .int .i64 r] 57)).cell? ⟨w.heap.size, 0, none⟩ = some (.int .i64 k.org) := cell_of_row _ _ 0 _ _ _ HBK.out
        have k1 : (w2.alloc (.cells #[.int .i64 Y, .int .i64 at', .int .i64 T, .int .i64 c, .int .i64 r] 57)).cell? ⟨w.heap.size, 1, none⟩ = some (.int .i64 k.num) := cell_of_row _ _ 1 _ _ _ HBK.out
        have k2 : (w2.alloc (.cells #[.int .i64 Y, .int .i64 at', .int .i64 T, .int .i64 c, .int .i64 r] 57)).cell? ⟨w.heap.size, 2, none⟩ = some (.int .i64 k.srv) := cell_of_row _ _ 2 _ _ _ HBK.out
        have k3 : (w2.alloc (.cells #[.int .i64 Y, .int .i64 at', .int .i64 T, .int .i64 c, .int .i64 r] 57)).cell? ⟨w.heap.size, 3, none⟩ = some (.int .i64 k.size) := cell_of_row _ _ 3 _ _ _ HBK.out
        have k4 : (w2.alloc (.cells #[.int .i64 Y, .int .i64 at', .int .i64 T, .int .i64 c, .int .i64 r] 57)).cell? ⟨w.heap.size, 4, none⟩ = some (.int .i64 k.red) := cell_of_row _ _ 4 _ _ _ HBK.out
        have k5 : (w2.alloc (.cells #[.int .i64 Y, .int .i64 at', .int .i64 T, .int .i64 c, .int .i64 r] 57)).cell? ⟨w.heap.size, 5, none⟩ = some (.int .i64 k.mtu) := cell_of_row _ _ 5 _ _ _ HBK.out
        have k6 : (w2.alloc (.cells #[.int .i64 Y, .int .i64 at', .int .i64 T, .int .i64 c, .int .i64 r] 57)).cell? ⟨w.heap.size, 6, none⟩ = some (.int .i64 k.every) := cell_of_row _ _ 6 _ _ _ HBK.out
        obtain ⟨T2, hT2⟩ : ∃ T2, min (at' + ro0 k at') (tt - 1) = T2 := ⟨_, rfl⟩
        have HPP : Hid (pPc k at' (tt - 1) = ⟨0, at', T2, 0, 0⟩) := by unfold Hid pPc; rw [hT2]
        have HNP : Hid (akP k tt c r at' = ⟨0, at', T2, 0, 0⟩) := by unfold Hid; rw [HAK.out, if_pos hTs, HPP.out]
        rw [HPP.out] at hpn hto2
        simp only at hto2
        have hwr : IntKind.i64.wrap (tt - 1) = tt - 1 := by rw [IntKind.wrap_i64]; omega
        clear HAK HPC HTD HR1 HBK hT2 HPP
        go_wp2_with fail
        refine hpn.mono ?_
        rintro e w4 ⟨rfl, hb4⟩
        obtain ⟨z0, z1, z2, z3, z4, f0, f1, f2, f3, f4⟩ := box5 ((hb4.block w2.heap.size (by simp)).trans (heap_alloc_new' _ _))
        have hsz2 : w2.heap.size < w4.heap.size := by have := hb4.size; simp at this; omega
        have HB4 : Hid (Below wr.heap.size wr w4) := HBW.out.trans (hb4.mono HBW.out.size)
        have HWS : Hid (wr.heap.size ≤ w2.heap.size) := HLE.out
        have HBF : Hid (Below wr.heap.size wr (((((w4.setCell ⟨w2.heap.size, 0, none⟩ (.int .i64 0)).setCell ⟨w2.heap.size, 1, none⟩ (.int .i64 at')).setCell ⟨w2.heap.size, 2, none⟩ (.int .i64 T2)).setCell ⟨w2.heap.size, 3, none⟩ (.int .i64 0)).setCell ⟨w2.heap.size, 4, none⟩ (.int .i64 0))) := five_below HB4.out HWS.out _ _ _ _ _
        clear hb4 hpn k0 k1 k2 k3 k4 k5 k6 HB4 HBW g1
        go_wp2_with (at_builtin; refine wpList_append_own_at _ rfl _ _ 51 rfl w0.heap.size 57 i0 (.agg #[.int .i64 0, .int .i64 0, .int .i64 0, .int .i64 0, .int .i64 0]) 5 40 Tryd.underlying51 hi hz0 hz1 hz2 rfl (by decide) _ _ _ rfl (World.ownsRow.alloc (own_below HO.out HBF.out) _) ⟨w4.heap.size, 0, none⟩ 1 1 [.int .i64 0, .int .i64 at', .int .i64 T2, .int .i64 0, .int .i64 0] rfl rfl ?c1 ?c2 ?c3 ?c4 ?c5 ?_)
        case c1 => exact cell_five _ _ _ _ _ _ _ _ (by simp)
        case c2 => intro x hx; simp only [List.mem_cons, List.not_mem_nil, or_false] at hx; rcases hx with rfl | rfl | rfl | rfl | rfl <;> rfl
        case c3 => have := HL.out; unfold maxLen; omega
        case c4 => have := HL.out; omega
        case c5 => have h1 := HSZ.out; have h2 := HWS.out; simp; omega
        intro v' w5 hown5 hgrow5 _ _
        have hst := HG.out.step HGO.out hlt (Nat.le_refl _) ((HBF.out.alloc HBF.out.size _).mono HSZ.out) (by rw [List.nil_append, HX.out.1, HX.out.2, HNP.out]; exact hown5) hgrow5
        simp only [HNP.out] at hst
        obtain ⟨g, cap', rfl, hcl⟩ := row_last hown5 HXL.out
        have HN : Hid (∃ x f', II (akP k tt c r) frm tt [] w0.heap.size w0 (.slice (some ⟨g, 0, none⟩) (m + 1) cap') T2 (l ++ [x]) f' w5) := by obtain ⟨f', h⟩ := hst; exact ⟨_, f', h⟩
        have hm1 : m + 1 ≤ 65537 := by have := HL.out; omega
        clear hst hown5 hgrow5 HG HO HBF HXL HX HL HNP z0 z1 z2 z3 z4 f0 f1 f2 f3 f4
        have hwm : IntKind.i64.wrap (((m + 1 : Nat) : Int) - 1) = m := by rw [IntKind.wrap_i64]; omega
        have hlt' : (m : Int) < ((m + 1 : Nat) : Int) := by omega
        generalize m + 1 = n at *
        go_wp2
        go_roundw
        case rel => obtain ⟨x, f', h⟩ := HN.out; exact ⟨_, _, _, f', rfl, rfl, h⟩
        case measure => simp [intOf]; omega
    · have HP : Hid (POwn wr w.heap.size v (akG k frm tt c r) ∧ Below w.heap.size w wr) := ⟨POwn.weak (HG.out.done hlt) (by have := HZ0.out; omega), HB0.out.trans (HG.out.bel.mono HB0.out.size)⟩
      clear HG
      go_wp2
      go_ret
      exact ⟨v, rfl, HP.out.1, HP.out.2⟩

end Go.Proofs.YthkphihgdklbbaaDoor

namespace Go.Proofs.YthkphihgdklbbaaDoor
open Go.RowKit

/-! ## What Again answers -/
def lastTo (gs : List (Int × Int)) : Int := (gs.getLast?.map (·.2)).getD 0
def gapB (gs : List (Int × Int)) (red : Int) : Bool := decide (gs ≠ []) && (C.setB gs && decide (lastTo gs ≤ red))
def asB (c r : Int) : Bool := btw c 1 4611686018427387903 && btw r 0 4611686018427387903
def ag (k : Pk) (gs : List (Int × Int)) (c r : Int) : List Pc × Int :=
  if 2000 < gs.length then ([], 2) else if sesB k = false then ([], 1) else if pclB k = false then ([], 40) else if gapB gs k.red = false then ([], 40) else if asB c r = false then ([], 1) else (agL k c r gs, 0)

theorem lastTo_snoc (l : List (Int × Int)) (g : Int × Int) : lastTo (l ++ [g]) = g.2 := by simp [lastTo]
theorem agL_snoc (k : Pk) (c r : Int) (g : Int × Int) : ∀ l : List (Int × Int), agL k c r (l ++ [g]) = l.flatMap (fun s => plG k s.1 s.2) ++ akG k g.1 g.2 c r
  | [] => by simp [agL]
  | s :: t => by
    have ih := agL_snoc k c r g t
    have h : agL k c r (s :: (t ++ [g])) = plG k s.1 s.2 ++ agL k c r (t ++ [g]) := by
      cases t with
      | nil => simp [agL]
      | cons u v => simp [agL]
    rw [List.cons_append, h, ih, List.flatMap_cons, List.append_assoc]

/-- Gaps that may be, of a part of so many bytes. -/
structure Gp (gs : List (Int × Int)) (red : Int) : Prop where
  ne : gs ≠ []
  rt : C.Rt 0 gs
  few : gs.length ≤ 2000
  last : lastTo gs ≤ red
theorem gp_of {gs : List (Int × Int)} {red : Int} (h : gapB gs red = true) : Gp gs red := by
  simp only [gapB, Bool.and_eq_true, decide_eq_true_eq] at h
  have := C.setB_iff.mp h.2.1
  exact ⟨h.1, this.2, this.1, h.2.2⟩
theorem rt_last : ∀ {gs : List (Int × Int)} {lo : Int}, C.Rt lo gs → ∀ g ∈ gs, g.2 ≤ lastTo gs
  | [], _, _, g, hg => by cases hg
  | [s], _, _, g, hg => by simp at hg; subst hg; simp [lastTo]
  | s :: t :: r, lo, h, g, hg => by
    have e : lastTo (s :: t :: r) = lastTo (t :: r) := by simp [lastTo]
    rw [e]
    have ih := rt_last (gs := t :: r) h.2.2.2
    rcases List.mem_cons.mp hg with rfl | hg
    · have h1 := ih t (by simp)
      have h2 := h.2.2.2
      have h3 := h2.1; have h4 := h2.2.1
      omega
    · exact ih g hg
theorem Gp.mem {gs : List (Int × Int)} {red : Int} (h : Gp gs red) : ∀ g ∈ gs, 0 ≤ g.1 ∧ g.1 < g.2 ∧ g.2 ≤ red := fun g hg => by
  have := h.rt.mem g hg; have := rt_last h.rt g hg; have := h.last; omega

theorem plG_len (k : Pk) (f t : Int) : (plG k f t).length ≤ (t - f).toNat := itG_len _ _
theorem akG_len (k : Pk) (f t c r : Int) : (akG k f t c r).length ≤ (t - f).toNat := itG_len _ _
theorem pls_len (k : Pk) : ∀ {gs : List (Int × Int)} {lo : Int}, C.Rt lo gs → (∀ g ∈ gs, g.2 ≤ 65536) → 0 ≤ lo → ((gs.flatMap (fun s => plG k s.1 s.2)).length : Int) ≤ max 0 (65536 - lo)
  | [], lo, _, _, _ => by simp; omega
  | s :: r, lo, h, hm, h0 => by
    obtain ⟨h1, h2, h3, h4⟩ := h
    have ih := pls_len k h4 (fun g hg => hm g (by simp [hg])) (by omega)
    have := plG_len k s.1 s.2
    have := hm s (by simp)
    rw [List.flatMap_cons, List.length_append]
    omega
theorem agL_len {k : Pk} {gs : List (Int × Int)} {red c r : Int} (h : Gp gs red) (hr : red ≤ 65536) : (agL k c r gs).length ≤ 131072 := by
  obtain ⟨l, g, rfl⟩ : ∃ l g, gs = l ++ [g] := ⟨gs.dropLast, gs.getLast h.ne, (List.dropLast_concat_getLast h.ne).symm⟩
  rw [agL_snoc, List.length_append]
  have h1 := pls_len k (C.Rt.cut h.rt) (fun s hs => by have := h.mem s (by simp [hs]); omega) (Int.le_refl 0)
  have h2 := akG_len k g.1 g.2 c r
  have h3 := h.mem g (by simp)
  omega
theorem ag_len (k : Pk) (gs : List (Int × Int)) (c r : Int) : (ag k gs c r).1.length ≤ 131072 := by
  unfold ag
  split
  · simp
  · split
    · simp
    · rename_i h1
      split
      · simp
      · rename_i h2
        split
        · simp
        · rename_i h3
          split
          · simp
          · have ok := Pk.ok_of (k := k) (by simpa using h1) (by simpa using h2)
            exact agL_len (gp_of (by simpa using h3)) (by have := ok.size; have := ok.red; omega)
theorem plG_pos {k : Pk} {f t : Int} (h : f < t) : 0 < (plG k f t).length := by
  unfold plG
  obtain ⟨n, hn⟩ : ∃ n, (t - f).toNat = n + 1 := ⟨(t - f).toNat - 1, by omega⟩
  rw [hn, itG, if_pos h]; simp

/-! ## The program's -/
set_option maxHeartbeats 400000 in
theorem asks_any (c r : Int) (w : World) : Calls Tryd.prog 43 #[.int .i64 c, .int .i64 r] w fun e w' => e = .returned (.bool (asB c r)) ∧ w = w' := by
  unfold asB
  obtain ⟨q1, h1⟩ : ∃ q, btw c 1 4611686018427387903 = q := ⟨_, rfl⟩
  obtain ⟨q2, h2⟩ : ∃ q, btw r 0 4611686018427387903 = q := ⟨_, rfl⟩
  have C1 := btwn_v _ _ _ _ h1
  have C2 := btwn_v _ _ _ _ h2
  rw [h1, h2]
  clear h1 h2
  go_enter Tryd.func43, Tryd.ntmps43
  go_wp2_with fail
  refine (C1 _).mono ?_
  rintro e w' ⟨rfl, rfl⟩
  cases q1
  · go_wp2
    go_ret
    exact ⟨rfl, rfl⟩
  go_wp2_with fail
  refine (C2 _).mono ?_
  rintro e w' ⟨rfl, rfl⟩
  go_wp2
  go_ret
  exact ⟨rfl, rfl⟩

set_option maxHeartbeats 1000000 in
theorem isGaps_any (a : Option Addr) (cap : Nat) (gs : List (Int × Int)) (red : Int) (w : World) (h : C.Ls w (.slice a gs.length cap) gs) :
    Calls Tryd.prog 42 #[.slice a gs.length cap, .int .i64 red] w fun e w' => e = .returned (.bool (gapB gs red)) ∧ Below w.heap.size w w' := by
  have hR := C.right_ls h
  have hsm := h.small
  unfold gapB
  by_cases hn : gs = []
  · subst hn
    clear hR
    rw [decide_eq_false (by simp), Bool.false_and]
    go_enter Tryd.func42, Tryd.ntmps42
    go_wp2
    go_ret
    exact ⟨rfl, Below.refl _ _⟩
  · rw [decide_eq_true hn, Bool.true_and]
    have hpos : 0 < gs.length := List.length_pos_iff.mpr hn
    obtain ⟨p, hp⟩ : ∃ p, gs[gs.length - 1]? = some p := ⟨gs[gs.length - 1], List.getElem?_eq_getElem (by omega)⟩
    have hlt : lastTo gs = p.2 := by
      unfold lastTo; rw [List.getLast?_eq_getElem?, hp]; rfl
    obtain ⟨a', c', hv, hspa, _⟩ := h.shape
    simp only [Value.slice.injEq, true_and] at hv
    obtain ⟨rfl, rfl⟩ := hv
    rw [hlt]
    have HS : Hid (C.Spa w a gs) := hspa
    have HP : Hid (gs[gs.length - 1]? = some p) := hp
    have hwm : IntKind.i64.wrap ((gs.length : Int) - 1) = ((gs.length - 1 : Nat) : Int) := by rw [IntKind.wrap_i64]; omega
    have hix : ((gs.length - 1 : Nat) : Int) < (gs.length : Int) := by omega
    have hgt : (0 : Int) < (gs.length : Int) := by omega
    clear h hspa hp hlt hn
    generalize C.setB gs = q at *
    go_enter Tryd.func42, Tryd.ntmps42
    go_wp2_with fail
    refine hR.mono ?_
    rintro e w2 ⟨rfl, hb2⟩
    clear hR
    have HB2 : Hid (Below w.heap.size w w2) := hb2
    obtain ⟨g, off, rfl, c1, c2⟩ := (HS.out.below hb2).at HP.out
    clear hb2
    generalize gs.length - 1 = m at *
    generalize gs.length = n at *
    cases q
    · go_wp2
      go_ret
      exact ⟨rfl, HB2.out⟩
    by_cases hle : p.2 ≤ red
    · go_wp2
      go_ret
      exact ⟨by simp [hle], HB2.out⟩
    · go_wp2
      go_ret
      exact ⟨by simp, HB2.out⟩

/-- How far the gaps but the last are cut. -/
structure AI (k : Pk) (gs : List (Int × Int)) (w : World) (B : Nat) (v : Value) (i : Nat) (wr : World) : Prop where
  own : POwn wr B v ((gs.take i).flatMap (fun s => plG k s.1 s.2))
  bel : Below B w wr
theorem AI.step {k : Pk} {gs : List (Int × Int)} {w wr W w5 : World} {B i : Nat} {v v' : Value} {g : Int × Int} (h : AI k gs w B v i wr) (hg : gs[i]? = some g) (hB : B ≤ wr.heap.size) (hb : Below B wr W)
    (hown : w5.ownsRow B 57 5 v' (((gs.take i).flatMap (fun s => plG k s.1 s.2)).length + (plG k g.1 g.2).length) (((gs.take i).flatMap (fun s => plG k s.1 s.2)).flatMap pcL ++ (plG k g.1 g.2).flatMap pcL)) (hgr : W.grownBy w5 v.ownBlock) : AI k gs w B v' (i + 1) w5 := by
  have e : gs.take (i + 1) = gs.take i ++ [g] := by rw [List.take_add_one, hg]; rfl
  refine ⟨?_, (h.bel.trans hb).grown hgr (by have := hb.size; omega) (fun r hr => (row_ge h.own r hr).1)⟩
  unfold POwn
  rw [e, List.flatMap_append, List.flatMap_append, List.length_append]
  simpa using hown

set_option maxRecDepth 100000 in
set_option maxHeartbeats 8000000 in
theorem again_any (k : Pk) (gs : List (Int × Int)) (c r : Int) (a : Option Addr) (cap : Nat) (w : World) (hT : Tab w) (hs : C.Ls w (.slice a gs.length cap) gs) :
    Calls Tryd.prog 15 #[.agg #[.int .i64 k.org, .int .i64 k.num], .agg #[.int .i64 k.srv, .int .i64 k.size, .int .i64 k.red, .int .i64 k.mtu, .int .i64 k.every], .slice a gs.length cap, .int .i64 c, .int .i64 r] w (CutPost (ag k gs c r) w) := by
  obtain ⟨i0, hi, hz0, hz1, hz2⟩ := info_parts Tryd.info_piece
  have HT : Hid (Tab w) := hT
  have HS : Hid (C.Ls w (.slice a gs.length cap) gs) := hs
  have hsm := hs.small
  clear hT hs
  have HB1 : Hid (Below w.heap.size w (((w.alloc (.cells #[.int .i64 k.org, .int .i64 k.num] 43)).alloc (.cells #[.int .i64 k.srv, .int .i64 k.size, .int .i64 k.red, .int .i64 k.mtu, .int .i64 k.every] 45)).alloc (.cells (knC k) 80))) := (((Below.refl _ _).alloc (Nat.le_refl _) _).alloc (by simp) _).alloc (by simp; omega) _
  have HP1 : Hid ((((w.alloc (.cells #[.int .i64 k.org, .int .i64 k.num] 43)).alloc (.cells #[.int .i64 k.srv, .int .i64 k.size, .int .i64 k.red, .int .i64 k.mtu, .int .i64 k.every] 45)).alloc (.cells (knC k) 80)).heap[w.heap.size + 1]? = some (.cells #[.int .i64 k.srv, .int .i64 k.size, .int .i64 k.red, .int .i64 k.mtu, .int .i64 k.every] 45)) := by
    have := heap_alloc_new' (w.alloc (.cells #[.int .i64 k.org, .int .i64 k.num] 43)) (.cells #[.int .i64 k.srv, .int .i64 k.size, .int .i64 k.red, .int .i64 k.mtu, .int .i64 k.every] 45)
    rw [World.size_alloc] at this; exact heapA this _
  have HK1 : Hid ((((w.alloc (.cells #[.int .i64 k.org, .int .i64 k.num] 43)).alloc (.cells #[.int .i64 k.srv, .int .i64 k.size, .int .i64 k.red, .int .i64 k.mtu, .int .i64 k.every] 45)).alloc (.cells (knC k) 80)).heap[w.heap.size + 1 + 1]? = some (.cells (knC k) 80)) := by
    have := heap_alloc_new' ((w.alloc (.cells #[.int .i64 k.org, .int .i64 k.num] 43)).alloc (.cells #[.int .i64 k.srv, .int .i64 k.size, .int .i64 k.red, .int .i64 k.mtu, .int .i64 k.every] 45)) (.cells (knC k) 80)
    rw [World.size_alloc, World.size_alloc] at this; exact this
  have hf := fault_any k
  have HC : Hid (ag k gs c r = if 2000 < gs.length then ([], 2) else if sesB k = false then ([], 1) else if pclB k = false then ([], 40) else if gapB gs k.red = false then ([], 40) else if asB c r = false then ([], 1) else (agL k c r gs, 0)) := rfl
  have HOK : Hid (sesB k = true → pclB k = true → k.Ok) := Pk.ok_of
  have HGP : Hid (gapB gs k.red = true → Gp gs k.red) := gp_of
  have HIG : Hid (∀ W, Below w.heap.size w W → Calls Tryd.prog 42 #[.slice a gs.length cap, .int .i64 k.red] W fun e w' => e = .returned (.bool (gapB gs k.red)) ∧ Below W.heap.size W w') := fun W hW => isGaps_any a cap gs k.red W (HS.out.below hW)
  have HAK : Hid (∀ W, Calls Tryd.prog 43 #[.int .i64 c, .int .i64 r] W fun e w' => e = .returned (.bool (asB c r)) ∧ W = w') := fun W => asks_any c r W
  generalize ag k gs c r = R at *
  obtain ⟨q1, h1⟩ : ∃ q, sesB k = q := ⟨_, rfl⟩
  obtain ⟨q2, h2⟩ : ∃ q, pclB k = q := ⟨_, rfl⟩
  obtain ⟨q3, h3⟩ : ∃ q, gapB gs k.red = q := ⟨_, rfl⟩
  obtain ⟨q4, h4⟩ : ∃ q, asB c r = q := ⟨_, rfl⟩
  rw [h1, h2] at hf HC HOK
  rw [h3] at HC HGP HIG
  rw [h4] at HC HAK
  have HQ4 : Hid (asB c r = q4) := h4
  clear h1 h2 h3 h4
  go_enter Tryd.func15, Tryd.ntmps15
  by_cases hlong : 2000 < gs.length
  · have hl' : (2000 : Int) < (gs.length : Int) := by omega
    have hR : R = ([], 2) := by rw [HC.out, if_pos hlong]
    subst hR
    clear hf
    go_wp2
    go_ret2
    exact ⟨_, rfl, ⟨rfl, .inl ⟨rfl, rfl⟩⟩, ((Below.refl _ _).alloc (Nat.le_refl _) _).alloc (by simp) _⟩
  have hl' : ¬ (2000 : Int) < (gs.length : Int) := by omega
  have HC' : Hid (R = if q1 = false then ([], 1) else if q2 = false then ([], 40) else if q3 = false then ([], 40) else if q4 = false then ([], 1) else (agL k c r gs, 0)) := by unfold Hid; rw [HC.out, if_neg hlong]
  clear HC
  go_wp2_with fail
  refine (hf _).mono ?_
  rintro e w2 ⟨rfl, hb2⟩
  have HB2 : Hid (Below w.heap.size w w2) := HB1.out.trans (hb2.mono (by simp; omega))
  have HK2 : Hid (w2.heap[w.heap.size + 1 + 1]? = some (.cells (knC k) 80)) := (hb2.block _ (by simp)).trans HK1.out
  have HP2 : Hid (w2.heap[w.heap.size + 1]? = some (.cells #[.int .i64 k.srv, .int .i64 k.size, .int .i64 k.red, .int .i64 k.mtu, .int .i64 k.every] 45)) := (hb2.block _ (by simp)).trans HP1.out
  clear hf hb2 HB1 HK1 HP1
  cases q1 with
  | false =>
    have hR : R = ([], 1) := HC'.out
    subst hR
    go_wp2
    go_ret2
    exact ⟨_, rfl, ⟨rfl, .inl ⟨rfl, rfl⟩⟩, HB2.out⟩
  | true =>
    cases q2 with
    | false =>
      have hR : R = ([], 40) := HC'.out
      subst hR
      go_wp2
      go_ret2
      exact ⟨_, rfl, ⟨rfl, .inl ⟨rfl, rfl⟩⟩, HB2.out⟩
    | true =>
      have OK : Hid k.Ok := HOK.out rfl rfl
      have p2 : w2.cell? ⟨w.heap.size + 1, 2, none⟩ = some (.int .i64 k.red) := cell_of_row _ _ 2 _ _ _ HP2.out
      have hig := HIG.out w2 HB2.out
      clear HIG HOK
      go_wp2_with fail
      refine hig.mono ?_
      rintro e w3 ⟨rfl, hb3⟩
      have HB3 : Hid (Below w.heap.size w w3) := HB2.out.trans (hb3.mono HB2.out.size)
      have HK3 : Hid (w3.heap[w.heap.size + 1 + 1]? = some (.cells (knC k) 80)) := (hb3.block _ (Array.getElem?_eq_some_iff.mp HK2.out).1).trans HK2.out
      clear hig hb3 HB2 HK2 HP2 p2
      cases q3 with
      | false =>
        have hR : R = ([], 40) := HC'.out
        subst hR
        go_wp2
        go_ret2
        exact ⟨_, rfl, ⟨rfl, .inl ⟨rfl, rfl⟩⟩, HB3.out⟩
      | true =>
        have GP : Hid (Gp gs k.red) := HGP.out rfl
        clear HGP
        go_wp2_with fail
        refine (HAK.out _).mono ?_
        rintro e w' ⟨rfl, rfl⟩
        clear HAK
        cases q4 with
        | false =>
          have hR : R = ([], 1) := HC'.out
          subst hR
          go_wp2
          go_ret2
          exact ⟨_, rfl, ⟨rfl, .inl ⟨rfl, rfl⟩⟩, HB3.out⟩
        | true =>
          have hR : R = (agL k c r gs, 0) := HC'.out
          subst hR
          have HCR : Hid ((1 ≤ c ∧ c ≤ 4611686018427387903) ∧ 0 ≤ r ∧ r ≤ 4611686018427387903) := by
            have := HQ4.out
            simp only [asB, btw, Bool.and_eq_true, decide_eq_true_eq] at this
            exact this
          clear HQ4 HC'
          have hpos : 0 < gs.length := List.length_pos_iff.mpr GP.out.ne
          have hred : k.red ≤ 65536 := by have := OK.out.size; have := OK.out.red; omega
          obtain ⟨a', cap', hv, hspa, hcap, hcm⟩ := HS.out.shape
          simp only [Value.slice.injEq, true_and] at hv
          obtain ⟨rfl, rfl⟩ := hv
          obtain ⟨n, hn⟩ : ∃ n, gs.length = n + 1 := ⟨gs.length - 1, by omega⟩
          obtain ⟨gl, hgl⟩ : ∃ gl, gs[n]? = some gl := ⟨gs[n], List.getElem?_eq_getElem (by omega)⟩
          obtain ⟨G, off, rfl, _, _⟩ := hspa.at hgl
          have HSP : Hid (∀ W, Below w.heap.size w W → ∀ i p, gs[i]? = some p → W.cell? ⟨G, off + i * 2, none⟩ = some (.int .i64 p.1) ∧ W.cell? ⟨G, off + i * 2 + 1, none⟩ = some (.int .i64 p.2)) := fun W hW i p hp => by
            obtain ⟨g', off', e, c1, c2⟩ := (hspa.below hW).at hp
            simp only [Option.some.injEq, Addr.mk.injEq, and_true] at e
            obtain ⟨rfl, rfl⟩ := e
            exact ⟨c1, c2⟩
          have HGS : Hid (gs = gs.take n ++ [gl]) := by
            unfold Hid
            conv => lhs; rw [← List.take_append_drop n gs]
            congr 1
            rw [List.drop_eq_getElem_cons (by omega), List.drop_eq_nil_of_le (by omega)]
            rw [List.getElem?_eq_getElem (by omega)] at hgl
            simp only [Option.some.injEq] at hgl
            rw [hgl]
          have HGL : Hid (gs[n]? = some gl) := hgl
          rw [hn] at hcap hsm hl' ⊢
          have HN : Hid (gs.length = n + 1) := hn
          have hn2 : n ≤ 2000 := by omega
          have hcap' : ((n + 1 : Nat) : Int) ≤ (cap : Int) := by omega
          have hncap : (n : Int) ≤ (cap : Int) := by omega
          have hwm : IntKind.i64.wrap (((n + 1 : Nat) : Int) - 1) = n := by rw [IntKind.wrap_i64]; omega
          have HST : Hid (AI k gs w3 w3.heap.size (.slice none 0 0) 0 w3) := ⟨by simp only [List.take_zero, List.flatMap_nil]; exact ⟨rfl, .inl ⟨rfl, rfl⟩⟩, Below.refl _ _⟩
          clear hspa hgl hn hpos HS
          generalize hN1 : n + 1 = N1 at *
          go_wp2_with fail
          go_loopw [15, 45] (fun p q wr => ∃ (v : Value) (i : Nat), v = p ∧ q = .int .i64 i ∧ i ≤ n ∧ AI k gs w3 w3.heap.size v i wr) (fun _ q _ => n - (intOf q).toNat)
          case atStart => exact ⟨_, 0, rfl, rfl, by omega, HST.out⟩
          case round =>
            obtain ⟨v, i, rfl, rfl, hin, hg⟩ := hrel
            clear HST
            have HG : Hid (AI k gs w3 w3.heap.size v i wr) := hg
            clear hg
            have HBw : Hid (Below w.heap.size w wr) := HB3.out.trans (HG.out.bel.mono HB3.out.size)
            have HKw : Hid (wr.heap[w.heap.size + 1 + 1]? = some (.cells (knC k) 80)) := (HG.out.bel.block _ (Array.getElem?_eq_some_iff.mp HK3.out).1).trans HK3.out
            have HKL : Hid (w.heap.size + 1 + 1 < w3.heap.size) := (Array.getElem?_eq_some_iff.mp HK3.out).1
            obtain ⟨pa, pcap, hv⟩ := own_shp HG.out.own
            obtain ⟨A, hA⟩ : ∃ A, (gs.take i).flatMap (fun s => plG k s.1 s.2) = A := ⟨_, rfl⟩
            have HAl : Hid ((A.length : Int) ≤ 65536) := by
              have h5 : C.Rt 0 (gs.take i ++ gs.drop i) := by rw [List.take_append_drop]; exact GP.out.rt
              have := pls_len k (C.Rt.cut h5) (fun s hs => by have := GP.out.mem s (List.mem_of_mem_take hs); omega) (Int.le_refl 0)
              rw [hA] at this
              unfold Hid; omega
            have HO : Hid (wr.ownsRow w3.heap.size 57 5 v A.length (A.flatMap pcL)) := by have := HG.out.own; unfold POwn at this; rw [hA] at this; exact this
            rw [hA] at hv
            have HA : Hid ((gs.take i).flatMap (fun s => plG k s.1 s.2) = A) := hA
            clear hA
            by_cases hlt : i < n
            · have hlt' : (i : Int) < (n : Int) := by omega
              obtain ⟨g, hgi⟩ : ∃ g, gs[i]? = some g := ⟨gs[i]'(by have := HN.out; omega), List.getElem?_eq_getElem _⟩
              obtain ⟨c1, c2⟩ := HSP.out wr HBw.out i g hgi
              have HGI : Hid (gs[i]? = some g) := hgi
              have hgm := GP.out.mem g (List.mem_of_getElem? hgi)
              have hpl := plains_any OK.out g.1 g.2 hgm.1 (by omega) (wr.alloc (.cells #[.int .i64 g.1, .int .i64 g.2] 38)) (HT.out.below (HBw.out.alloc HBw.out.size _) (tab_pos HT.out))
              have hpp := plG_pos (k := k) hgm.2.1
              have hpl2 : (plG k g.1 g.2).length ≤ 65536 := by have := plG_len k g.1 g.2; omega
              obtain ⟨P, hP⟩ : ∃ P, plG k g.1 g.2 = P := ⟨_, rfl⟩
              rw [hP] at hpl hpp hpl2
              have HP : Hid (plG k g.1 g.2 = P) := hP
              have k0 : (wr.alloc (.cells #[.int .i64 g.1, .int .i64 g.2] 38)).cell? ⟨w.heap.size + 1 + 1, 0, none⟩ = some (.int .i64 k.org) := cell_of_row _ _ 0 _ _ _ (heapA HKw.out _)
              have k1 : (wr.alloc (.cells #[.int .i64 g.1, .int .i64 g.2] 38)).cell? ⟨w.heap.size + 1 + 1, 1, none⟩ = some (.int .i64 k.num) := cell_of_row _ _ 1 _ _ _ (heapA HKw.out _)
              have k2 : (wr.alloc (.cells #[.int .i64 g.1, .int .i64 g.2] 38)).cell? ⟨w.heap.size + 1 + 1, 2, none⟩ = some (.int .i64 k.srv) := cell_of_row _ _ 2 _ _ _ (heapA HKw.out _)
              have k3 : (wr.alloc (.cells #[.int .i64 g.1, .int .i64 g.2] 38)).cell? ⟨w.heap.size + 1 + 1, 3, none⟩ = some (.int .i64 k.size) := cell_of_row _ _ 3 _ _ _ (heapA HKw.out _)
              have k4 : (wr.alloc (.cells #[.int .i64 g.1, .int .i64 g.2] 38)).cell? ⟨w.heap.size + 1 + 1, 4, none⟩ = some (.int .i64 k.red) := cell_of_row _ _ 4 _ _ _ (heapA HKw.out _)
              have k5 : (wr.alloc (.cells #[.int .i64 g.1, .int .i64 g.2] 38)).cell? ⟨w.heap.size + 1 + 1, 5, none⟩ = some (.int .i64 k.mtu) := cell_of_row _ _ 5 _ _ _ (heapA HKw.out _)
              have k6 : (wr.alloc (.cells #[.int .i64 g.1, .int .i64 g.2] 38)).cell? ⟨w.heap.size + 1 + 1, 6, none⟩ = some (.int .i64 k.every) := cell_of_row _ _ 6 _ _ _ (heapA HKw.out _)
              have hu1 : IntKind.i64.wrap ((i : Int) + 1) = (i : Int) + 1 := by rw [IntKind.wrap_i64]; omega
              subst hv
              clear hgi hP
              go_wp2_with fail
              refine hpl.mono ?_
              rintro e w4 ⟨v4, rfl, ho4, hb4⟩
              obtain ⟨g4, cap4, hv4⟩ := own_pos ho4 hpp
              subst hv4
              have HBX : Hid (Below wr.heap.size wr w4) := ((Below.refl _ _).alloc (Nat.le_refl _) _).trans (hb4.mono (by simp))
              have HO4 : Hid (POwn w4 (wr.heap.size + 1) (.slice (some ⟨g4, 0, none⟩) P.length cap4) P) := by have := ho4; rw [World.size_alloc] at this; exact this
              clear hpl ho4 hb4 k0 k1 k2 k3 k4 k5 k6 c1 c2
              go_wp2_with (at_builtin; refine wpList_append_own_at _ rfl _ _ 51 rfl w3.heap.size 57 i0 (.agg #[.int .i64 0, .int .i64 0, .int .i64 0, .int .i64 0, .int .i64 0]) 5 40 Tryd.underlying51 hi hz0 hz1 hz2 rfl (by decide) _ _ _ rfl (own_below HO.out HBX.out) ⟨g4, 0, none⟩ P.length cap4 (P.flatMap pcL) rfl (pc_len P) ?d1 (pc_one P) ?d3 ?d4 ?d5 ?_)
              case d1 => exact World.ownsRow.cells HO4.out (g := g4) rfl
              case d3 => have := HAl.out; unfold maxLen; omega
              case d4 => have := HAl.out; omega
              case d5 => have := HG.out.bel.size; have := HBX.out.size; omega
              intro v' w5 hown5 hgrow5 _ _
              have hst := HG.out.step HGI.out HG.out.bel.size (HBX.out.mono HG.out.bel.size) (by rw [HA.out, HP.out]; exact hown5) hgrow5
              have HNx : Hid (AI k gs w3 w3.heap.size v' (i + 1) w5) := hst
              clear hst hown5 hgrow5 HG HO HBX HO4 HA HAl HP
              go_wp2
              go_roundw
              case rel => exact ⟨_, i + 1, rfl, by go_num, by omega, HNx.out⟩
              case measure => simp [intOf]; omega
            · have hin' : i = n := by omega
              subst hin'
              obtain ⟨c1, c2⟩ := HSP.out wr HBw.out i gl HGL.out
              have hgm := GP.out.mem gl (List.mem_of_getElem? HGL.out)
              have HAS : Hid (∀ W, Below w.heap.size w W → Calls Tryd.prog 45 #[.agg (knC k), .agg #[.int .i64 gl.1, .int .i64 gl.2], .int .i64 c, .int .i64 r] W (PsPost (akG k gl.1 gl.2 c r) W)) := fun W hb => asking_any OK.out gl.1 gl.2 c r hgm.1 (by omega) HCR.out.1 HCR.out.2 W (HT.out.below hb (tab_pos HT.out))
              have hal2 : (akG k gl.1 gl.2 c r).length ≤ 65536 := by have := akG_len k gl.1 gl.2 c r; omega
              have HRes : Hid (agL k c r gs = A ++ akG k gl.1 gl.2 c r) := by
                unfold Hid
                conv => lhs; rw [HGS.out]
                rw [agL_snoc, HA.out]
              generalize akG k gl.1 gl.2 c r = P at *
              have k0 : wr.cell? ⟨w.heap.size + 1 + 1, 0, none⟩ = some (.int .i64 k.org) := cell_of_row _ _ 0 _ _ _ HKw.out
              have k1 : wr.cell? ⟨w.heap.size + 1 + 1, 1, none⟩ = some (.int .i64 k.num) := cell_of_row _ _ 1 _ _ _ HKw.out
              have k2 : wr.cell? ⟨w.heap.size + 1 + 1, 2, none⟩ = some (.int .i64 k.srv) := cell_of_row _ _ 2 _ _ _ HKw.out
              have k3 : wr.cell? ⟨w.heap.size + 1 + 1, 3, none⟩ = some (.int .i64 k.size) := cell_of_row _ _ 3 _ _ _ HKw.out
              have k4 : wr.cell? ⟨w.heap.size + 1 + 1, 4, none⟩ = some (.int .i64 k.red) := cell_of_row _ _ 4 _ _ _ HKw.out
              have k5 : wr.cell? ⟨w.heap.size + 1 + 1, 5, none⟩ = some (.int .i64 k.mtu) := cell_of_row _ _ 5 _ _ _ HKw.out
              have k6 : wr.cell? ⟨w.heap.size + 1 + 1, 6, none⟩ = some (.int .i64 k.every) := cell_of_row _ _ 6 _ _ _ HKw.out
              have hA65 := HAl.out
              have hix : (i : Int) < (N1 : Int) := by omega
              subst hv
              clear hlt hgm HGL HSP
              go_wp2_with fail
              go_region_law (first
                | (go_simp
                   go_at_call 45
                   refine (HAS.out _ HBw.out.drew).mono ?_
                   rintro e w4 ⟨v4, rfl, hown4, hb4⟩
                   have HB4 : Hid (Below w.heap.size w w4) := HBw.out.drew.trans (hb4.mono HBw.out.size)
                   have HO4 : Hid (w4.ownsRow w3.heap.size 57 5 (.slice pa A.length pcap) A.length (A.flatMap pcL)) := own_below (w := wr.drew) HO.out hb4
                   have HO5 : Hid (w4.ownsRow wr.heap.size 57 5 v4 P.length (P.flatMap pcL)) := hown4
                   have HZ4 : Hid (wr.heap.size ≤ w4.heap.size) := hb4.size
                   clear hown4 hb4)
                | (refine step_append_row rfl (.tmp 55) (.tmp 63) 51 rfl w3.heap.size wr.heap.size 57 i0 (.agg pz) 5 40 Tryd.underlying51 hi hz0 hz1 hz2 rfl (by decide) (.slice pa A.length pcap) A.length (A.flatMap pcL) (by simp [Act.eval]) HO4.out v4 P.length (P.flatMap pcL) (by simp [Act.eval]) HO5.out (pc_one P) (by unfold maxLen; omega) (by omega) (by have := HG.out.bel.size; have := HZ4.out; omega) ?_
                   intro v5 w5 ho5 hg5
                   have HO6 : Hid (POwn w5 w.heap.size v5 (A ++ P)) := by
                     have h9 : POwn w5 w3.heap.size v5 (A ++ P) := by unfold POwn; rw [List.flatMap_append, List.length_append]; exact ho5
                     exact h9.weak HB3.out.size
                   have HB5 : Hid (Below w.heap.size w w5) := HB4.out.grown hg5 HB4.out.size (fun r hr => by have := (row_ge HO4.out r hr).1; have := HB3.out.size; omega)
                   clear ho5 hg5))
              all_goals (
                go_wp2
                go_ret2
                exact ⟨v5, by simp [Act.put], by show POwn w5 w.heap.size v5 (agL k c r gs); rw [HRes.out]; exact HO6.out, HB5.out⟩)

end Go.Proofs.YthkphihgdklbbaaDoor
