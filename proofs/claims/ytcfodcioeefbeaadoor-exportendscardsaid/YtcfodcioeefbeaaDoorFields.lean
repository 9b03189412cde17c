import Derived.Test.YtcfodcioeefbeaaDoorFldA
import Derived.Test.YtcfodcioeefbeaaDoorFldB
import Derived.Test.YtcfodcioeefbeaaDoorFldC
import Derived.Test.YtcfodcioeefbeaaDoorFldD
import Derived.Test.YtcfodcioeefbeaaDoorFldE
import Derived.Test.YtcfodcioeefbeaaDoorForm
namespace Go.Proofs.YtcfodcioeefbeaaDoor
open Go.RowKit

theorem fields_any (h : Int) (s : Sg) (hv tv dv cv : Value) (hx tx : List Xr) (w : World) (hs : SIn w s hv tv dv cv hx tx) :
    Calls Tryd.prog 41 #[.agg (svC s hv tv dv cv), .int .u8 h] w fun e w' => e = .returned (.bool (may h s hx tx)) ∧ ∃ y, w' = ext w y := by
  obtain ⟨ah, ch, rfl, _⟩ := hs.head.shape
  obtain ⟨at', ct, rfl, _⟩ := hs.tail.shape
  obtain ⟨ad, cd, rfl, _⟩ := hs.data.shape
  obtain ⟨ac, cc, rfl, _⟩ := hs.clm.shape
  unfold may
  cases hb0 : btw s.org 1 4611686018427387903
  · have q := fields_0 h s ah at' ad ac ch ct cd cc hx tx w hs hb0
    simpa only [Bool.false_and, Bool.true_and] using q
  rw [Bool.true_and]
  cases hb1 : btw s.num 1 4611686018427387902
  · have q := fields_1 h s ah at' ad ac ch ct cd cc hx tx w hs hb0 hb1
    simpa only [Bool.false_and, Bool.true_and] using q
  rw [Bool.true_and]
  cases hb2 : xsOk hx
  · have q := fields_2 h s ah at' ad ac ch ct cd cc hx tx w hs hb0 hb1 hb2
    simpa only [Bool.false_and, Bool.true_and] using q
  rw [Bool.true_and]
  cases hb3 : xsOk tx
  · have q := fields_3 h s ah at' ad ac ch ct cd cc hx tx w hs hb0 hb1 hb2 hb3
    simpa only [Bool.false_and, Bool.true_and] using q
  rw [Bool.true_and]
  cases hb4 : alw h s.srv 2 0 4611686018427387903
  · have q := fields_4 h s ah at' ad ac ch ct cd cc hx tx w hs hb0 hb1 hb2 hb3 hb4
    simpa only [Bool.false_and, Bool.true_and] using q
  rw [Bool.true_and]
  cases hb5 : alw h (s.data.length : Int) 2 1 65536
  · have q := fields_5 h s ah at' ad ac ch ct cd cc hx tx w hs hb0 hb1 hb2 hb3 hb4 hb5
    simpa only [Bool.false_and, Bool.true_and] using q
  rw [Bool.true_and]
  cases hb6 : alw h s.off 2 0 (65536 - (s.data.length : Int))
  · have q := fields_6 h s ah at' ad ac ch ct cd cc hx tx w hs hb0 hb1 hb2 hb3 hb4 hb5 hb6
    simpa only [Bool.false_and, Bool.true_and] using q
  rw [Bool.true_and]
  cases hb7 : alw h s.chk 12 (one (anyB h 4)) 4611686018427387903
  · have q := fields_7 h s ah at' ad ac ch ct cd cc hx tx w hs hb0 hb1 hb2 hb3 hb4 hb5 hb6 hb7
    simpa only [Bool.false_and, Bool.true_and] using q
  rw [Bool.true_and]
  cases hb8 : alw h s.rep 28 (one (anyB h 24)) 4611686018427387903
  · have q := fields_8 h s ah at' ad ac ch ct cd cc hx tx w hs hb0 hb1 hb2 hb3 hb4 hb5 hb6 hb7 hb8
    simpa only [Bool.false_and, Bool.true_and] using q
  rw [Bool.true_and]
  cases hb9 : alw h s.upp 8 1 65536
  · have q := fields_9 h s ah at' ad ac ch ct cd cc hx tx w hs hb0 hb1 hb2 hb3 hb4 hb5 hb6 hb7 hb8 hb9
    simpa only [Bool.false_and, Bool.true_and] using q
  rw [Bool.true_and]
  cases hb10 : alw h s.low 8 0 (s.upp - 1)
  · have q := fields_10 h s ah at' ad ac ch ct cd cc hx tx w hs hb0 hb1 hb2 hb3 hb4 hb5 hb6 hb7 hb8 hb9 hb10
    simpa only [Bool.false_and, Bool.true_and] using q
  rw [Bool.true_and]
  cases hb11 : alw h (s.clm.length : Int) 8 1 1000
  · have q := fields_11 h s ah at' ad ac ch ct cd cc hx tx w hs hb0 hb1 hb2 hb3 hb4 hb5 hb6 hb7 hb8 hb9 hb10 hb11
    simpa only [Bool.false_and, Bool.true_and] using q
  rw [Bool.true_and]
  cases hb12 : clOk s.upp s.low s.clm
  · have q := fields_12 h s ah at' ad ac ch ct cd cc hx tx w hs hb0 hb1 hb2 hb3 hb4 hb5 hb6 hb7 hb8 hb9 hb10 hb11 hb12
    simpa only [Bool.false_and, Bool.true_and] using q
  rw [Bool.true_and]
  cases hb13 : alw h s.rsn 32 0 5
  · have q := fields_13 h s ah at' ad ac ch ct cd cc hx tx w hs hb0 hb1 hb2 hb3 hb4 hb5 hb6 hb7 hb8 hb9 hb10 hb11 hb12 hb13
    simpa only [Bool.false_and, Bool.true_and] using q
  exact fields_14 h s ah at' ad ac ch ct cd cc hx tx w hs hb0 hb1 hb2 hb3 hb4 hb5 hb6 hb7 hb8 hb9 hb10 hb11 hb12 hb13

end Go.Proofs.YtcfodcioeefbeaaDoor

namespace Go.Proofs.YtcfodcioeefbeaaDoor
open Go.RowKit

/-- What Print answers: the error, and the bytes where there is none. -/
def prt (s : Sg) (hx tx : List Xr) : Int × List Int :=
  if shp s.typ % 2 ≠ 1 then (21, []) else if may (shp s.typ) s hx tx = false then (23, []) else if 8192 < (layB (shp s.typ) s).length then (3, []) else (0, layB (shp s.typ) s)

theorem btw_of {n lo hi : Int} (h : btw n lo hi = true) : lo ≤ n ∧ n ≤ hi := by simpa [btw] using h
theorem xsOk_of {xs : List Xr} (h : xsOk xs = true) : xs.length ≤ 15 ∧ XsIn xs := by
  unfold xsOk at h
  rw [Bool.and_eq_true, List.all_eq_true] at h
  refine ⟨by simpa using h.1, fun x hx => ?_⟩
  have h1 := h.2 x hx
  unfold xOk at h1
  rw [Bool.and_eq_true] at h1
  have h2 := btw_of h1.1
  exact ⟨h2.1, h2.2, by simpa using h1.2⟩
theorem clOk_of (upp : Int) (hu : upp ≤ 65536) : ∀ (cl : List (Int × Int)) (least low : Int), low ≤ least → clOk upp least cl = true → ClIn low cl
  | [], _, _, _, _ => fun _ h => by cases h
  | p :: r, least, low, hl, h => by
    simp only [clOk, Bool.and_eq_true, decide_eq_true_eq] at h
    obtain ⟨a, b, c, d⟩ := h
    have ih := clOk_of upp hu r (p.2 + 1) low (by omega) d
    intro q hq
    rcases List.mem_cons.mp hq with rfl | hq
    · exact ⟨by omega, by omega, by omega⟩
    · exact ih q hq

/-- Fields that may be can be written. -/
theorem wr_of {s : Sg} {hx tx : List Xr} (ht : shp s.typ % 2 = 1) (h : may (shp s.typ) s hx tx = true) : Wr (shp s.typ) s hx tx := by
  unfold may at h
  simp only [Bool.and_eq_true] at h
  obtain ⟨h0, h1, h2, h3, h4, h5, h6, h7, h8, h9, h10, h11, h12, h13⟩ := h
  have b0 := btw_of h0
  have b1 := btw_of h1
  have b2 := xsOk_of h2
  have b3 := xsOk_of h3
  have b4 := alw_up h4
  have b5 := alw_up h5
  have b6 := alw_up h6
  have b7 := alw_up h7
  have b8 := alw_up h8
  have b9 := alw_up h9
  have b10 := alw_up h10
  have b11 := alw_up h11
  have b13 := alw_up h13
  have hone : ∀ q, 0 ≤ one q ∧ one q ≤ 1 := by intro q; cases q <;> decide
  have o1 := hone (anyB (shp s.typ) 4)
  have o2 := hone (anyB (shp s.typ) 24)
  have hty : 0 ≤ s.typ ∧ s.typ ≤ 15 := by
    rcases Decidable.em (s.typ < 0 ∨ 16 ≤ s.typ) with q | q
    · unfold shp at ht; rw [if_pos q] at ht; simp at ht
    · omega
  have hcl := clOk_of s.upp (by omega) s.clm s.low s.low (Int.le_refl _) h12
  exact ⟨hty, ⟨by omega, b0.2⟩, ⟨by omega, by omega⟩, b2.2, b3.2, b2.1, b3.1, ⟨by omega, by omega⟩, ⟨by omega, by omega⟩, ⟨by omega, by omega⟩, ⟨by omega, by omega⟩, by omega, by omega, by omega, by omega, hcl, by omega⟩

theorem form_any (h : Int) (hh : h = 1 ∨ h = 3 ∨ h = 7 ∨ h = 9 ∨ h = 17 ∨ h = 33) (s : Sg) (ah at' ad ac : Option Addr) (ch ct cd cc : Nat) (hx tx : List Xr) (w : World) (hs : SIn w s (.slice ah hx.length ch) (.slice at' tx.length ct) (.slice ad s.data.length cd) (.slice ac s.clm.length cc) hx tx) (hw : Wr h s hx tx) :
    Calls Tryd.prog 42 #[.agg (svC s (.slice ah hx.length ch) (.slice at' tx.length ct) (.slice ad s.data.length cd) (.slice ac s.clm.length cc)), .int .u8 h] w (FormP (layB h s) w) := by
  rcases hh with rfl | rfl | rfl | rfl | rfl | rfl
  · exact form_1 s ah at' ad ac ch ct cd cc hx tx w hs hw
  · exact form_3 s ah at' ad ac ch ct cd cc hx tx w hs hw
  · exact form_7 s ah at' ad ac ch ct cd cc hx tx w hs hw
  · exact form_9 s ah at' ad ac ch ct cd cc hx tx w hs hw
  · exact form_17 s ah at' ad ac ch ct cd cc hx tx w hs hw
  · exact form_33 s ah at' ad ac ch ct cd cc hx tx w hs hw

def PrintP (s : Sg) (hx tx : List Xr) (w : World) (e : Ending) (w' : World) : Prop :=
  ∃ a c, e = .returned (.tuple #[.slice a (prt s hx tx).2.length c, .int .i64 (prt s hx tx).1]) ∧ w'.ownsRow w.heap.size 5 1 (.slice a (prt s hx tx).2.length c) (prt s hx tx).2.length ((prt s hx tx).2.map (Value.int .u8)) ∧ Below w.heap.size w w'

set_option maxRecDepth 100000 in
set_option maxHeartbeats 4000000 in
theorem print_any (s : Sg) (hv tv dv cv : Value) (hx tx : List Xr) (w : World) (hs : SIn w s hv tv dv cv hx tx) (hT : Tab w) :
    Calls Tryd.prog 34 #[.agg (svC s hv tv dv cv)] w (PrintP s hx tx w) := by
  obtain ⟨ah, ch, rfl, _⟩ := hs.head.shape
  obtain ⟨at', ct, rfl, _⟩ := hs.tail.shape
  obtain ⟨ad, cd, rfl, _⟩ := hs.data.shape
  obtain ⟨ac, cc, rfl, _⟩ := hs.clm.shape
  have hbel : Below w.heap.size w (w.alloc (svO s (.slice ah hx.length ch) (.slice at' tx.length ct) (.slice ad s.data.length cd) (.slice ac s.clm.length cc))) := (Below.refl _ _).alloc (Nat.le_refl _) _
  have HT : Hid (Tab (w.alloc (svO s (.slice ah hx.length ch) (.slice at' tx.length ct) (.slice ad s.data.length cd) (.slice ac s.clm.length cc)))) := hT.below hbel (World.block_lt_of_cell? w ⟨0, 0, none⟩ (hT 0 (by omega)))
  have HS : Hid (SIn (w.alloc (svO s (.slice ah hx.length ch) (.slice at' tx.length ct) (.slice ad s.data.length cd) (.slice ac s.clm.length cc))) s (.slice ah hx.length ch) (.slice at' tx.length ct) (.slice ad s.data.length cd) (.slice ac s.clm.length cc) hx tx) := hs.below hbel
  have HB0 : Hid (Below w.heap.size w (w.alloc (svO s (.slice ah hx.length ch) (.slice at' tx.length ct) (.slice ad s.data.length cd) (.slice ac s.clm.length cc)))) := hbel
  clear hs hT hbel
  go_enter Tryd.func34, Tryd.ntmps34
  go_wp2_with fail
  refine (shapeOf_any s.typ _ HT.out).mono ?_
  rintro e w' ⟨rfl, rfl⟩
  go_wp2_with fail
  refine (any_any _ _ _).mono ?_
  rintro e w' ⟨rfl, rfl⟩
  rw [anyB_odd]
  by_cases hk : shp s.typ % 2 = 1
  · rw [decide_eq_true hk]
    have hcl : shp s.typ = 1 ∨ shp s.typ = 3 ∨ shp s.typ = 7 ∨ shp s.typ = 9 ∨ shp s.typ = 17 ∨ shp s.typ = 33 := by
      rcases shp_cases s.typ with h | h | h | h | h | h | h
      · omega
      · exact .inl h
      · exact .inr (.inl h)
      · exact .inr (.inr (.inl h))
      · exact .inr (.inr (.inr (.inl h)))
      · exact .inr (.inr (.inr (.inr (.inl h))))
      · exact .inr (.inr (.inr (.inr (.inr h))))
    have HK : Hid (shp s.typ % 2 = 1) := hk
    have HCL : Hid (shp s.typ = 1 ∨ shp s.typ = 3 ∨ shp s.typ = 7 ∨ shp s.typ = 9 ∨ shp s.typ = 17 ∨ shp s.typ = 33) := hcl
    clear hk hcl
    go_wp2_with fail
    refine (fields_any (shp s.typ) s _ _ _ _ hx tx _ HS.out).mono ?_
    rintro e w2 ⟨rfl, y, rfl⟩
    have hbe := ext_below (w.alloc (svO s (.slice ah hx.length ch) (.slice at' tx.length ct) (.slice ad s.data.length cd) (.slice ac s.clm.length cc))) y
    have HS2 : Hid (SIn (ext (w.alloc (svO s (.slice ah hx.length ch) (.slice at' tx.length ct) (.slice ad s.data.length cd) (.slice ac s.clm.length cc))) y) s (.slice ah hx.length ch) (.slice at' tx.length ct) (.slice ad s.data.length cd) (.slice ac s.clm.length cc) hx tx) := HS.out.below hbe
    have HB2 : Hid (Below w.heap.size w (ext (w.alloc (svO s (.slice ah hx.length ch) (.slice at' tx.length ct) (.slice ad s.data.length cd) (.slice ac s.clm.length cc))) y)) := HB0.out.trans (hbe.mono HB0.out.size)
    have hcx := fun j => (ext_cell (w.alloc (svO s (.slice ah hx.length ch) (.slice at' tx.length ct) (.slice ad s.data.length cd) (.slice ac s.clm.length cc))) y ⟨w.heap.size, j, none⟩ (by simp)).trans (cell_of_row _ w.heap.size j _ _ _ (heap_alloc_new' w (svO s (.slice ah hx.length ch) (.slice at' tx.length ct) (.slice ad s.data.length cd) (.slice ac s.clm.length cc))))
    have q0 := hcx 0
    have q1 := hcx 1
    have q2 := hcx 2
    have q3 := hcx 3
    have q4 := hcx 4
    have q5 := hcx 5
    have q6 := hcx 6
    have q7 := hcx 7
    have q8 := hcx 8
    have q9 := hcx 9
    have q10 := hcx 10
    have q11 := hcx 11
    have q12 := hcx 12
    have q13 := hcx 13
    simp only [List.getElem?_toArray, List.getElem?_cons_succ, List.getElem?_cons_zero] at q0 q1 q2 q3 q4 q5 q6 q7 q8 q9 q10 q11 q12 q13
    clear hbe hcx HS HT HB0
    generalize ext (w.alloc (svO s (.slice ah hx.length ch) (.slice at' tx.length ct) (.slice ad s.data.length cd) (.slice ac s.clm.length cc))) y = w2 at *
    cases hmay : may (shp s.typ) s hx tx
    · have HP : Hid (prt s hx tx = (23, [])) := by unfold Hid prt; rw [if_neg (by have := HK.out; omega), if_pos hmay]
      clear hmay
      go_wp2
      go_ret2
      have hp := HP.out
      exact ⟨none, 0, by rw [hp]; rfl, by rw [hp]; exact World.ownsRow_nil _ _ _ _, HB2.out⟩
    · have HWr : Hid (Wr (shp s.typ) s hx tx) := wr_of HK.out hmay
      have HM : Hid (may (shp s.typ) s hx tx = true) := hmay
      clear hmay
      go_wp2_with fail
      refine (form_any (shp s.typ) HCL.out s ah at' ad ac ch ct cd cc hx tx w2 HS2.out HWr.out).mono ?_
      rintro e w3 ⟨v, rfl, hown, hb3⟩
      obtain ⟨a, c, rfl⟩ := own_shape hown
      have HO3 : Hid (w3.ownsRow w.heap.size 5 1 (.slice a (layB (shp s.typ) s).length c) (layB (shp s.typ) s).length ((layB (shp s.typ) s).map (Value.int .u8))) := own_base hown HB2.out.size
      have HB3 : Hid (Below w.heap.size w w3) := HB2.out.trans (hb3.mono HB2.out.size)
      clear hown hb3
      by_cases hbig : 8192 < (layB (shp s.typ) s).length
      · have HP : Hid (prt s hx tx = (3, [])) := by unfold Hid prt; rw [if_neg (by have := HK.out; omega), if_neg (by rw [HM.out]; simp), if_pos hbig]
        have hbig' : (8192 : Int) < ((layB (shp s.typ) s).length : Int) := by omega
        go_wp2
        go_ret2
        have hp := HP.out
        exact ⟨none, 0, by rw [hp]; rfl, by rw [hp]; exact World.ownsRow_nil _ _ _ _, HB3.out⟩
      · have HP : Hid (prt s hx tx = (0, layB (shp s.typ) s)) := by unfold Hid prt; rw [if_neg (by have := HK.out; omega), if_neg (by rw [HM.out]; simp), if_neg hbig]
        have hbig' : ¬ (8192 : Int) < ((layB (shp s.typ) s).length : Int) := by omega
        go_wp2
        go_ret2
        have hp := HP.out
        exact ⟨a, c, by rw [hp]; rfl, by rw [hp]; exact HO3.out, HB3.out⟩
  · rw [decide_eq_false hk]
    have HP : Hid (prt s hx tx = (21, [])) := by unfold Hid prt; rw [if_pos hk]
    clear hk
    go_wp2
    go_ret2
    have hp := HP.out
    exact ⟨none, 0, by rw [hp]; rfl, by rw [hp]; exact World.ownsRow_nil _ _ _ _, HB0.out⟩

end Go.Proofs.YtcfodcioeefbeaaDoor
