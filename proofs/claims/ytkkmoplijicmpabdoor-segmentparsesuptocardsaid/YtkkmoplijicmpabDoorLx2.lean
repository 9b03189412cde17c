import Derived.Test.YtkkmoplijicmpabDoorLb2
import Derived.Deep.RegionHeld3
import Derived.BigQuiet
namespace Go.Proofs.YtkkmoplijicmpabDoor
open Go.RowKit
set_option linter.unusedVariables false
set_option linter.unusedSimpArgs false

def xM : Xr := ⟨-77, none, 0, []⟩
def xZ : Xr := ⟨0, none, 0, []⟩
theorem xc_put : ∀ (L : List Xr) (k : Nat) (y : Xr), ((L.flatMap Xr.cells).set (k * 2) (.int .i64 y.tag)).set (k * 2 + 1) y.val = (L.set k y).flatMap Xr.cells
  | [], k, y => by simp
  | s :: r, 0, y => by simp [Xr.cells]
  | s :: r, k + 1, y => by
    have := xc_put r k y
    rw [List.flatMap_cons, List.set_cons_succ, List.flatMap_cons, ← this]
    rw [List.set_append_right _ _ (by simp [Xr.cells]; omega), List.set_append_right _ _ (by simp [Xr.cells]; omega)]
    congr 1
    simp only [Xr.cells, List.length_cons, List.length_nil]
    rw [show (k + 1) * 2 - (0 + 1 + 1) = k * 2 from by omega, show (k + 1) * 2 + 1 - (0 + 1 + 1) = k * 2 + 1 from by omega]
theorem xc_get2 (l : List Xr) (i : Nat) (p : Xr) (h : l[i]? = some p) : (l.flatMap Xr.cells)[i * 2]? = some (.int .i64 p.tag) ∧ (l.flatMap Xr.cells)[i * 2 + 1]? = some p.val := by
  induction l generalizing i with
  | nil => simp at h
  | cons x r ih =>
    cases i with
    | zero => simp at h; subst h; simp [Xr.cells]
    | succ j =>
      obtain ⟨a, b⟩ := ih j (by simpa using h)
      rw [List.flatMap_cons, List.getElem?_append_right (by simp [Xr.cells]; omega), List.getElem?_append_right (by simp [Xr.cells]; omega)]
      simp only [Xr.cells, List.length_cons, List.length_nil]
      rw [show (j + 1) * 2 - (0 + 1 + 1) = j * 2 from by omega, show (j + 1) * 2 + 1 - (0 + 1 + 1) = j * 2 + 1 from by omega]
      exact ⟨a, b⟩
theorem xc_len2 (l : List Xr) : (l.flatMap Xr.cells).length = l.length * 2 := by
  induction l with
  | nil => rfl
  | cons x r ih => rw [List.flatMap_cons, List.length_append, ih]; simp [Xr.cells]; omega
theorem made_exts (n : Nat) : (madeCells (Value.cells (.agg #[.int .i64 0, .slice none 0 0])) (n * 2)).toList = (List.replicate n xZ).flatMap Xr.cells := by
  apply List.ext_getElem?
  intro j
  by_cases hj : j < n * 2
  · have hr : (List.replicate n xZ)[j / 2]? = some xZ := by rw [List.getElem?_replicate, if_pos (by omega)]
    obtain ⟨q1, q2⟩ := xc_get2 _ _ _ hr
    rcases Nat.mod_two_eq_zero_or_one j with h | h
    · have e0 : (madeCells (Value.cells (.agg #[.int .i64 0, .slice none 0 0])) (n * 2)).toList[j]? = some (.int .i64 0) := by
        simp only [madeCells, Value.cells]
        simp [hj, h]
      rw [show j / 2 * 2 = j from by omega] at q1; exact e0.trans q1.symm
    · have e0 : (madeCells (Value.cells (.agg #[.int .i64 0, .slice none 0 0])) (n * 2)).toList[j]? = some (.slice none 0 0) := by
        simp only [madeCells, Value.cells]
        simp [hj, h]
      rw [show j / 2 * 2 + 1 = j from by omega] at q2; exact e0.trans q2.symm
  · rw [List.getElem?_eq_none (by simp [madeCells]; omega), List.getElem?_eq_none (by rw [xc_len2]; simp; omega)]
theorem q2fullE {w : World} {base n g : Nat} {e : TypeId} {xs : List Value} (h : w.ownsRow base e 2 (.slice (some ⟨g, 0, none⟩) n n) n xs) : w.heap[g]? = some (.cells xs.toArray e (0, 0)) := by
  obtain ⟨_, ⟨hv, _⟩ | ⟨g', cap, cur, hv, _, hg, _, _, hs, ht⟩⟩ := h
  · cases hv
  · simp only [Value.slice.injEq, Option.some.injEq, Addr.mk.injEq, and_true, true_and] at hv
    obtain ⟨rfl, rfl⟩ := hv
    rw [List.take_of_length_le (by simp; omega)] at ht
    rw [hg, ← ht]
/-- A row of extensions that fills a block. -/
def Xrow (w : World) (g : Nat) (R : List Xr) : Prop := w.heap[g]? = some (.cells (R.flatMap Xr.cells).toArray 81 (0, 0))
theorem Xrow.put {w : World} {g : Nat} {R : List Xr} (h : Xrow w g R) (k : Nat) (y : Xr) : Xrow ((w.setCell ⟨g, k * 2, none⟩ (.int .i64 y.tag)).setCell ⟨g, k * 2 + 1, none⟩ y.val) g (R.set k y) := by
  have h1 := heap_setCell_same _ _ (k * 2) _ _ (.int .i64 y.tag) h
  have h2 := heap_setCell_same _ _ (k * 2 + 1) _ _ y.val h1
  unfold Xrow
  rw [h2, ← xc_put]
  simp
theorem Xrow.cells {w : World} {g : Nat} {R : List Xr} (h : Xrow w g R) {k : Nat} {y : Xr} (hk : R[k]? = some y) : w.cell? ⟨g, k * 2, none⟩ = some (.int .i64 y.tag) ∧ w.cell? ⟨g, k * 2 + 1, none⟩ = some y.val ∧ w.frozen? ⟨g, k * 2, none⟩ = false ∧ w.frozen? ⟨g, k * 2 + 1, none⟩ = false := by
  obtain ⟨q1, q2⟩ := xc_get2 R k y hk
  refine ⟨?_, ?_, frozen_of_row _ _ _ _ _ h, frozen_of_row _ _ _ _ _ h⟩
  · rw [cell_of_row _ _ _ _ _ _ h]; simpa using q1
  · rw [cell_of_row _ _ _ _ _ _ h]; simpa using q2

/-- Extensions that were lent, up to k. -/
structure Lxp (w wr : World) (g : Nat) (xs R : List Xr) (k : Nat) : Prop where
  row : Xrow wr g R
  len : R.length = xs.length + 2
  got : ∀ (j : Nat) (x : Xr), j < k → xs[j]? = some x → ∃ b, R[j]? = some ⟨x.tag, some ⟨b, 0, none⟩, x.data.length + 2, x.data⟩ ∧ g < b ∧ Blk .u8 wr b 5 (mk2 x.data)
  mks : ∀ j, xs.length ≤ j → j < k → R[j]? = some xM
  bel : Below g w wr
theorem blk_lt {w : World} {b : Nat} {zs : List Int} (h : Blk .u8 w b 5 zs) : b < w.heap.size := (Array.getElem?_eq_some_iff.mp h).1
theorem set2_other {w : World} {g i j b : Nat} {x y : Value} (hb : b ≠ g) : ((w.setCell ⟨g, i, none⟩ x).setCell ⟨g, j, none⟩ y).heap[b]? = w.heap[b]? :=
  (heap_setCell_other _ _ _ _ hb).trans (heap_setCell_other _ _ _ _ hb)
theorem cell_set2 {w : World} {g i j b o : Nat} {x y : Value} (hb : b ≠ g) : ((w.setCell ⟨g, i, none⟩ x).setCell ⟨g, j, none⟩ y).cell? ⟨b, o, none⟩ = w.cell? ⟨b, o, none⟩ := by
  simp only [World.cell?]
  rw [set2_other hb]
theorem Lxp.put {w wr : World} {g k : Nat} {xs R : List Xr} (h : Lxp w wr g xs R k) (y : Xr) : Lxp w ((wr.setCell ⟨g, k * 2, none⟩ (.int .i64 y.tag)).setCell ⟨g, k * 2 + 1, none⟩ y.val) g xs (R.set k y) k where
  row := h.row.put k y
  len := by rw [List.length_set]; exact h.len
  got := fun j x hj hx => by
    obtain ⟨b, e, h1, h2⟩ := h.got j x hj hx
    exact ⟨b, by rw [List.getElem?_set_ne (by omega)]; exact e, h1, (set2_other (by omega)).trans h2⟩
  mks := fun j h1 h2 => by rw [List.getElem?_set_ne (by omega)]; exact h.mks j h1 h2
  bel := (h.bel.setCell (p := ⟨g, k * 2, none⟩) (Nat.le_refl _) _).setCell (p := ⟨g, k * 2 + 1, none⟩) (Nat.le_refl _) _
theorem Lxp.below {w wr wr' : World} {g k : Nat} {xs R : List Xr} (h : Lxp w wr g xs R k) (hb : Below wr.heap.size wr wr') : Lxp w wr' g xs R k where
  row := (hb.block _ (Array.getElem?_eq_some_iff.mp h.row).1).trans h.row
  len := h.len
  got := fun j x hj hx => by
    obtain ⟨b, e, h1, h2⟩ := h.got j x hj hx
    exact ⟨b, e, h1, (hb.block _ (blk_lt h2)).trans h2⟩
  mks := h.mks
  bel := h.bel.trans (hb.mono (Nat.le_of_lt (Array.getElem?_eq_some_iff.mp h.row).1))
theorem Lxp.mark {w wr : World} {g k : Nat} {xs R : List Xr} (h : Lxp w wr g xs R k) (hk : R[k]? = some xM) (hn : xs.length ≤ k) : Lxp w wr g xs R (k + 1) where
  row := h.row
  len := h.len
  got := fun j x hj hx => h.got j x (by have := (List.getElem?_eq_some_iff.mp hx).1; omega) hx
  mks := fun j h1 h2 => by
    rcases Nat.lt_or_ge j k with q | q
    · exact h.mks j h1 q
    · obtain rfl : j = k := by omega
      exact hk
  bel := h.bel
theorem Lxp.next {w wr : World} {g k b : Nat} {xs R : List Xr} {x : Xr} (h : Lxp w wr g xs R k) (hx : xs[k]? = some x) (hk : R[k]? = some ⟨x.tag, some ⟨b, 0, none⟩, x.data.length + 2, x.data⟩) (hb : g < b) (hB : Blk .u8 wr b 5 (mk2 x.data)) : Lxp w wr g xs R (k + 1) where
  row := h.row
  len := h.len
  got := fun j z hj hz => by
    rcases Nat.lt_or_ge j k with q | q
    · exact h.got j z q hz
    · obtain rfl : j = k := by omega
      rw [hx] at hz
      cases hz
      exact ⟨b, hk, hb, hB⟩
  mks := fun j h1 h2 => h.mks j h1 (by have := (List.getElem?_eq_some_iff.mp hx).1; omega)
  bel := h.bel

/-- Extensions that were lent: their row, their bytes, the marks. -/
structure LX (w : World) (base top g : Nat) (xs R : List Xr) : Prop where
  row : Xrow w g R
  len : R.length = xs.length + 2
  got : ∀ (j : Nat) (x : Xr), xs[j]? = some x → ∃ b, R[j]? = some ⟨x.tag, some ⟨b, 0, none⟩, x.data.length + 2, x.data⟩ ∧ base ≤ b ∧ b < top ∧ b ≠ g ∧ Blk .u8 w b 5 (mk2 x.data)
  mks : R[xs.length]? = some xM ∧ R[xs.length + 1]? = some xM
  g0 : base ≤ g ∧ g < top

theorem Lxp.done {w wr : World} {g : Nat} {xs R : List Xr} (h : Lxp w wr g xs R (xs.length + 2)) : LX wr g wr.heap.size g xs R where
  row := h.row
  len := h.len
  got := fun j x hx => by
    obtain ⟨b, e, h1, h2⟩ := h.got j x (by have := (List.getElem?_eq_some_iff.mp hx).1; omega) hx
    exact ⟨b, e, by omega, blk_lt h2, by omega, h2⟩
  mks := ⟨h.mks _ (by omega) (by omega), h.mks _ (by omega) (by omega)⟩
  g0 := ⟨Nat.le_refl _, (Array.getElem?_eq_some_iff.mp h.row).1⟩
theorem LX.keep {w w' : World} {base top g : Nat} {xs R : List Xr} (h : LX w base top g xs R) (hb : ∀ k, base ≤ k → k < top → w'.heap[k]? = w.heap[k]?) : LX w' base top g xs R where
  row := (hb _ h.g0.1 h.g0.2).trans h.row
  len := h.len
  got := fun j x hx => by
    obtain ⟨b, e, h1, h2, h3, h4⟩ := h.got j x hx
    exact ⟨b, e, h1, h2, h3, (hb _ h1 h2).trans h4⟩
  mks := h.mks
  g0 := h.g0
theorem LX.below {w w' : World} {base top g : Nat} {xs R : List Xr} (h : LX w base top g xs R) (ht : top ≤ w.heap.size) (hb : Below w.heap.size w w') : LX w' base top g xs R := h.keep fun k _ hk => hb.block k (by omega)

set_option maxRecDepth 100000 in
set_option maxHeartbeats 8000000 in
theorem lentExts_any {v : Value} {xs : List Xr} {w : World} (h : XIn w v xs) :
    Calls Tryd.prog 25 #[v] w fun e w' => e = .returned (.slice (some ⟨w.heap.size, 0, none⟩) xs.length (xs.length + 2)) ∧ (∃ R, LX w' w.heap.size w'.heap.size w.heap.size xs R) ∧ Below w.heap.size w w' := by
  obtain ⟨i0, hi, hz0, hz1, hz2⟩ := info_parts Tryd.info_ext
  have hm := h.small
  have HX : Hid (XIn w v xs) := h
  obtain ⟨a, c, rfl, _⟩ := h.shape
  obtain ⟨n, hn⟩ : ∃ n, xs.length = n := ⟨_, rfl⟩
  have HN : Hid (xs.length = n) := hn
  rw [hn] at hm ⊢
  have HX : Hid (XIn w (.slice a n c) xs) := by have := HX.out; rw [hn] at this; exact this
  have hw1 : IntKind.i64.wrap ((n : Int) + 2) = ((n + 2 : Nat) : Int) := by rw [IntKind.wrap_i64]; omega
  have hw2 : IntKind.i64.wrap ((n : Int) + 1) = (n : Int) + 1 := by rw [IntKind.wrap_i64]; omega
  clear h hn
  go_enter Tryd.func25, Tryd.ntmps25
  go_upto_region 3 with (first
    | (at_make; refine wpList_make_full _ rfl _ _ 24 rfl w.heap.size 81 i0 (.agg #[.int .i64 0, .slice none 0 0]) 2 Tryd.underlying24 hi hz0 hz1 .i64 .i64 _ _ (n + 2) rfl rfl (by simp) (by simp) (by rw [hz2]; omega) (by unfold maxLen; omega) (Nat.le_refl _) ?_
       intro w1 hown1 hgrow1
       have HB1 : Hid (Below w.heap.size w w1) := (Below.refl _ _).grown hgrow1 (Nat.le_refl _) (by intro j hj; cases hj)
       have HG1 : Hid (Lxp w w1 w.heap.size xs (List.replicate (n + 2) xZ) 0) := (by rw [made_exts] at hown1; exact ⟨q2fullE hown1, by rw [List.length_replicate, HN.out], fun j x hj => absurd hj (Nat.not_lt_zero _), fun j _ hj => absurd hj (Nat.not_lt_zero _), HB1.out⟩)
       clear hown1 hgrow1)
    | go_in)
  go_loopw [4] (fun i wr => ∃ (k : Nat) (R : List Xr), k ≤ n + 2 ∧ i = .int .i64 k ∧ Hid (Lxp w wr w.heap.size xs R k)) (fun i _ => n + 2 - (intOf i).toNat)
  case atStart => exact ⟨0, _, by omega, rfl, HG1⟩
  case round =>
    obtain ⟨k, R, hk, rfl, HR⟩ := hrel
    by_cases hlt : k < n + 2
    · have hlt' : (k : Int) < ((n + 2 : Nat) : Int) := by omega
      obtain ⟨z, hz⟩ := get_one R k (by rw [HR.out.len, HN.out]; exact hlt)
      obtain ⟨q1, q2, q3, q4⟩ := HR.out.row.cells hz
      have HR2 : Hid (Lxp w ((wr.setCell ⟨w.heap.size, k * 2, none⟩ (.int .i64 (-77))).setCell ⟨w.heap.size, k * 2 + 1, none⟩ (.slice none 0 0)) w.heap.size xs (R.set k xM) k) := HR.out.put xM
      have HM : Hid ((R.set k xM)[k]? = some xM) := by show _ = _; rw [List.getElem?_set_self (by rw [HR.out.len, HN.out]; exact hlt)]
      have hwk : IntKind.i64.wrap ((k : Int) + 1) = (k : Int) + 1 := by rw [IntKind.wrap_i64]; omega
      clear hz HG1 HB1 HR
      by_cases hkn : k < n
      · have hkn' : (k : Int) < (n : Int) := by omega
        go_upto_region 7 with fail
        obtain ⟨w5, hw5⟩ : ∃ x, (wr.setCell ⟨w.heap.size, k * 2, none⟩ (.int .i64 (-77))).setCell ⟨w.heap.size, k * 2 + 1, none⟩ (.slice none 0 0) = x := ⟨_, rfl⟩
        rw [hw5] at HR2
        rw [hw5]
        clear q1 q2 q3 q4 hw5
        obtain ⟨x, hx⟩ := get_one xs k (by rw [HN.out]; exact hkn)
        have hbX := HX.out.below HR2.out.bel
        obtain ⟨ga, off, rfl, x0, x1⟩ := hbX.at hx
        have hD := hbX.data x (List.mem_of_getElem? hx)
        obtain ⟨p0, p1, p2, p3⟩ := HR2.out.row.cells HM.out
        have HC : Hid (∀ V, Below w5.heap.size w5 V → V.cell? ⟨ga, off + k * 2, none⟩ = some (.int .i64 x.tag) ∧ V.cell? ⟨ga, off + k * 2 + 1, none⟩ = some x.val) := fun V hV => ⟨cell_below x0 hV, cell_below x1 hV⟩
        have HP : Hid (∀ V, Below w5.heap.size w5 V → V.cell? ⟨w.heap.size, k * 2, none⟩ = some (.int .i64 (-77)) ∧ V.cell? ⟨w.heap.size, k * 2 + 1, none⟩ = some (.slice none 0 0) ∧ V.frozen? ⟨w.heap.size, k * 2, none⟩ = false ∧ V.frozen? ⟨w.heap.size, k * 2 + 1, none⟩ = false) := fun V hV => by
          obtain ⟨p0, p1, p2, p3⟩ := (HR2.out.below hV).row.cells HM.out
          exact ⟨p0, p1, p2, p3⟩
        have HGa : Hid (ga ≠ w.heap.size) := by
          have := HX.out.at hx
          obtain ⟨g', off', he, h0, _⟩ := this
          cases he
          have := World.block_lt_of_cell? w ⟨ga, off + k * 2, none⟩ h0
          exact fun e => by simp only at this; omega
        have HLB : Hid (∀ V, Below w5.heap.size w5 V → Calls Tryd.prog 16 #[x.val] V fun e w' => e = .returned (.slice (some ⟨V.heap.size, 0, none⟩) x.data.length (x.data.length + 2)) ∧ Blk .u8 w' V.heap.size 5 (mk2 x.data) ∧ Below V.heap.size V w') := fun V hV => lentBytes_any (hD.below hV)
        have HXk : Hid (xs[k]? = some x) := hx
        have hR0 := HC.out w5 (Below.refl _ _)
        clear hx hbX hD x0 x1 p0 p1 p2 p3
        go_region_held3 (fun V => V.cell? ⟨ga, off + k * 2, none⟩ = some (.int .i64 x.tag) ∧ V.cell? ⟨ga, off + k * 2 + 1, none⟩ = some x.val)
          (first | exact hR1 | exact ⟨(cell_set2 HGa.out).trans hR1.1, (cell_set2 HGa.out).trans hR1.2⟩ | exact hR0)
          (first
            | (go_at_call 16
               refine (HLB.out _ (Below.refl _ _).drew).mono ?_
               rintro e v1 ⟨rfl, hB, hb⟩
               have HB : Hid (Blk .u8 v1 w5.heap.size 5 (mk2 x.data)) := hB
               have HV1 : Hid (Below w5.heap.size w5 v1) := ((Below.refl w5.heap.size w5).drew).trans hb
               have hR1 := HC.out v1 HV1.out
               obtain ⟨p0, p1, p2, p3⟩ := HP.out v1 HV1.out
               clear hB hb))
        have hgw : w.heap.size < w5.heap.size := (Array.getElem?_eq_some_iff.mp HR2.out.row).1
        have h3 := (HR2.out.below HV1.out).put ⟨x.tag, some ⟨w5.heap.size, 0, none⟩, x.data.length + 2, x.data⟩
        have HR3 : Hid (Lxp w ((v1.setCell ⟨w.heap.size, k * 2, none⟩ (.int .i64 x.tag)).setCell ⟨w.heap.size, k * 2 + 1, none⟩ (.slice (some ⟨w5.heap.size, 0, none⟩) x.data.length (x.data.length + 2))) w.heap.size xs ((R.set k xM).set k ⟨x.tag, some ⟨w5.heap.size, 0, none⟩, x.data.length + 2, x.data⟩) (k + 1)) :=
          h3.next (b := w5.heap.size) HXk.out (by rw [List.getElem?_set_self (by rw [List.length_set]; have := (List.getElem?_eq_some_iff.mp HM.out).1; simpa using this)]) hgw ((set2_other (by omega)).trans HB.out)
        clear h3 hgw hR0 hR1 p0 p1 p2 p3
        go_wp2
        go_roundw
        case rel => exact ⟨k + 1, _, by omega, by go_num, HR3⟩
        case measure => simp [intOf]; omega
      · have hkn' : ¬ (k : Int) < (n : Int) := by omega
        have HR3 : Hid (Lxp w ((wr.setCell ⟨w.heap.size, k * 2, none⟩ (.int .i64 (-77))).setCell ⟨w.heap.size, k * 2 + 1, none⟩ (.slice none 0 0)) w.heap.size xs (R.set k xM) (k + 1)) := HR2.out.mark HM.out (by rw [HN.out]; omega)
        go_wp2
        go_roundw
        case rel => exact ⟨k + 1, _, by omega, by go_num, HR3⟩
        case measure => simp [intOf]; omega
    · have hlt' : ¬ (k : Int) < ((n + 2 : Nat) : Int) := by omega
      have hkn : k = n + 2 := by omega
      have HD : Hid (LX wr w.heap.size wr.heap.size w.heap.size xs R) := by
        have h := HR.out
        rw [hkn, ← HN.out] at h
        exact h.done
      have HB : Hid (Below w.heap.size w wr) := HR.out.bel
      clear HG1 HB1 hkn
      have hl3 : (n : Int) ≤ ((n + 2 : Nat) : Int) := by omega
      go_wp2
      go_ret
      exact ⟨rfl, ⟨R, HD.out⟩, HB.out⟩

/-- Lent extensions lie somewhere. -/
theorem LX.xin {w w0 : World} {base top g : Nat} {v : Value} {xs R : List Xr} (h : LX w base top g xs R) (hx : XIn w0 v xs) : XIn w (.slice (some ⟨g, 0, none⟩) xs.length (xs.length + 2)) (R.take xs.length) := by
  have hl : (R.take xs.length).length = xs.length := by rw [List.length_take, h.len]; omega
  refine ⟨⟨some ⟨g, 0, none⟩, xs.length + 2, by rw [hl], ?_⟩, fun y hy => ?_, by rw [hl]; exact hx.small⟩
  · by_cases h0 : R.take xs.length = []
    · exact .inl h0
    · refine .inr ⟨g, 0, rfl, fun i y hy => ?_⟩
      have hy' : R[i]? = some y := by
        have hi := (List.getElem?_eq_some_iff.mp hy).1
        rw [List.getElem?_take_of_lt (by rw [hl] at hi; exact hi)] at hy
        exact hy
      obtain ⟨q1, q2, _, _⟩ := h.row.cells hy'
      rw [Nat.zero_add]
      exact ⟨q1, q2⟩
  · obtain ⟨i, hi⟩ := List.mem_iff_getElem?.mp hy
    have hil := (List.getElem?_eq_some_iff.mp hi).1
    rw [hl] at hil
    obtain ⟨x, hx1⟩ := get_one xs i hil
    obtain ⟨b, hb, _, _, _, hB⟩ := h.got i x hx1
    rw [List.getElem?_take_of_lt hil, hb] at hi
    cases hi
    have := hx.data x (List.mem_of_getElem? hx1)
    exact hB.bin2 this.bytes this.small
theorem LX.ex {w w0 : World} {base top g : Nat} {v : Value} {xs R : List Xr} (h : LX w base top g xs R) : (R.take xs.length).map Xr.ex = xs.map Xr.ex := by
  apply List.ext_getElem?
  intro i
  rw [List.getElem?_map, List.getElem?_map]
  by_cases hi : i < xs.length
  · obtain ⟨x, hx1⟩ := get_one xs i hi
    obtain ⟨b, hb, _⟩ := h.got i x hx1
    rw [List.getElem?_take_of_lt hi, hb, hx1]
    rfl
  · rw [List.getElem?_eq_none (by rw [List.length_take]; omega), List.getElem?_eq_none (by omega)]

set_option maxRecDepth 100000 in
set_option maxHeartbeats 8000000 in
theorem keptExts_any {v : Value} {xs R : List Xr} {w : World} {base top g : Nat} (h : XIn w v xs) (hL : LX w base top g xs R) :
    Calls Tryd.prog 31 #[.slice (some ⟨g, 0, none⟩) xs.length (xs.length + 2), v] w fun e w' => e = .returned (.bool true) ∧ Below w.heap.size w w' := by
  have hm := h.small
  have HX : Hid (XIn w v xs) := h
  obtain ⟨a, c, rfl, _⟩ := h.shape
  obtain ⟨m1, m2⟩ := hL.mks
  obtain ⟨n, hn⟩ : ∃ n, xs.length = n := ⟨_, rfl⟩
  have HN : Hid (xs.length = n) := hn
  rw [hn] at hm m1 m2 ⊢
  have HX : Hid (∀ V, Below w.heap.size w V → XIn V (.slice a n c) xs) := fun V hV => by have := HX.out.below hV; rw [hn] at this; exact this
  have HRw : Hid (∀ V, Below w.heap.size w V → Xrow V g R) := fun V hV => (hV.block _ (Array.getElem?_eq_some_iff.mp hL.row).1).trans hL.row
  have HGt : Hid (∀ V, Below w.heap.size w V → ∀ (j : Nat) (x : Xr), xs[j]? = some x → ∃ b, R[j]? = some ⟨x.tag, some ⟨b, 0, none⟩, x.data.length + 2, x.data⟩ ∧ Blk .u8 V b 5 (mk2 x.data)) := fun V hV j x hx => by
    obtain ⟨b, e, _, _, _, hB⟩ := hL.got j x hx
    exact ⟨b, e, (hV.block _ (blk_lt hB)).trans hB⟩
  have HM : Hid (R[n]? = some xM ∧ R[n + 1]? = some xM) := ⟨m1, m2⟩
  have hw1 : IntKind.i64.wrap ((n : Int) + 2) = (n : Int) + 2 := by rw [IntKind.wrap_i64]; omega
  have hw2 : IntKind.i64.wrap ((n : Int) + 1) = (n : Int) + 1 := by rw [IntKind.wrap_i64]; omega
  clear h hn hL m1 m2
  go_enter Tryd.func31, Tryd.ntmps31
  go_wp2
  go_loopw [6] (fun i wr => ∃ (k : Nat), k ≤ n ∧ i = .int .i64 k ∧ Hid (Below w.heap.size w wr)) (fun i _ => n - (intOf i).toNat)
  case atStart => exact ⟨0, by omega, rfl, Below.refl _ _⟩
  case round =>
    obtain ⟨k, hk, rfl, HB⟩ := hrel
    by_cases hlt : k < n
    · have hlt' : (k : Int) < (n : Int) := by omega
      have hlt2 : (k : Int) < (n : Int) + 2 := by omega
      have hwk : IntKind.i64.wrap ((k : Int) + 1) = (k : Int) + 1 := by rw [IntKind.wrap_i64]; omega
      obtain ⟨x, hx⟩ := get_one xs k (by rw [HN.out]; exact hlt)
      have hbX := HX.out wr HB.out
      obtain ⟨ga, off, rfl, x0, x1⟩ := hbX.at hx
      have hD := hbX.data x (List.mem_of_getElem? hx)
      obtain ⟨b, hb, hB⟩ := HGt.out wr HB.out k x hx
      have HRk : Hid (R[k]? = some ⟨x.tag, some ⟨b, 0, none⟩, x.data.length + 2, x.data⟩) := hb
      have HC : Hid (∀ V, Below wr.heap.size wr V → (V.cell? ⟨ga, off + k * 2, none⟩ = some (.int .i64 x.tag) ∧ V.cell? ⟨ga, off + k * 2 + 1, none⟩ = some x.val) ∧ V.cell? ⟨g, k * 2, none⟩ = some (.int .i64 x.tag) ∧ V.cell? ⟨g, k * 2 + 1, none⟩ = some (.slice (some ⟨b, 0, none⟩) x.data.length (x.data.length + 2))) := fun V hV => by
        have hV' : Below w.heap.size w V := HB.out.trans (hV.mono HB.out.size)
        obtain ⟨p0, p1, _, _⟩ := (HRw.out V hV').cells HRk.out
        exact ⟨⟨cell_below x0 hV, cell_below x1 hV⟩, p0, p1⟩
      have HKB : Hid (∀ V, Below wr.heap.size wr V → Calls Tryd.prog 18 #[.slice (some ⟨b, 0, none⟩) x.data.length (x.data.length + 2), x.val] V fun e w' => e = .returned (.bool true) ∧ Below V.heap.size V w') := fun V hV => keptBytes_any (hD.below hV) ((hV.block _ (blk_lt hB)).trans hB)
      obtain ⟨⟨s0, s1⟩, s2, s3⟩ := HC.out wr (Below.refl _ _)
      clear hx hbX hD x0 x1 hb hB
      go_wp2_with fail
      go_region_held3 (fun V => V.cell? ⟨ga, off + k * 2 + 1, none⟩ = some x.val ∧ V.cell? ⟨g, k * 2 + 1, none⟩ = some (.slice (some ⟨b, 0, none⟩) x.data.length (x.data.length + 2)))
        (first | exact ⟨r1, r3⟩ | exact ⟨s1, s3⟩)
        (first
          | (go_at_call 18
             refine (HKB.out _ (Below.refl _ _).drew).mono ?_
             rintro e v1 ⟨rfl, hb⟩
             have HV1 : Hid (Below wr.heap.size wr v1) := ((Below.refl wr.heap.size wr).drew).trans hb
             obtain ⟨⟨r0, r1⟩, r2, r3⟩ := HC.out v1 HV1.out
             clear hb))
      have HB2 : Hid (Below w.heap.size w v1) := HB.out.trans (HV1.out.mono HB.out.size)
      clear s0 s1 s2 s3
      generalize x.tag = tg at *
      have e0 : (tg != tg) = false := by simp
      go_wp2_with fail
      go_quiet (fail)
      go_wp2
      go_roundw
      case rel => exact ⟨k + 1, by omega, by go_num, below_drewN' HB2.out _⟩
      case measure => simp [intOf]; omega
    · have hkn : k = n := by omega
      subst hkn
      have hz : ¬ (k : Int) < (k : Int) := by omega
      have hl1 : (k : Int) < (k : Int) + 2 := by omega
      have hl2 : (k : Int) + 1 < (k : Int) + 2 := by omega
      obtain ⟨q1, q2, _, _⟩ := (HRw.out wr HB.out).cells HM.out.1
      obtain ⟨q3, q4, _, _⟩ := (HRw.out wr HB.out).cells HM.out.2
      simp only [xM] at q1 q2 q3 q4
      go_wp2
      go_ret
      exact ⟨rfl, HB.out⟩

end Go.Proofs.YtkkmoplijicmpabDoor
