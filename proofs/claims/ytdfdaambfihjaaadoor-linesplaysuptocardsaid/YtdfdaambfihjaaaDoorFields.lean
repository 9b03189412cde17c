import Derived.Test.YtdfdaambfihjaaaDoorFldA
import Derived.Test.YtdfdaambfihjaaaDoorFldD
import Derived.Test.YtdfdaambfihjaaaDoorForm
import Derived.Test.YtdfdaambfihjaaaDoorNums
import Derived.Test.YtdfdaambfihjaaaDoorRead
import Derived.Test.YtdfdaambfihjaaaDoorMath
import Derived.Test.YtdfdaambfihjaaaDoorBody
import Derived.Test.YtdfdaambfihjaaaDoorRpO
import Derived.Lib.SliceRun
import Derived.Deep.RegionWith
import Derived.Deep.RegionHeld3
import Derived.Laws.EntriesVeiled
import Derived.Deep.LoopGhost
namespace Go.Proofs.YtdfdaambfihjaaaDoor
open Go.RowKit

theorem fields_any (h : Int) (s : Sg) (hv tv dv cv : Value) (hx tx : List Xr) (w : World) (hs : SIn w s hv tv dv cv hx tx) :
    Calls Tryd.prog 67 #[.agg (svC s hv tv dv cv), .int .u8 h] w fun e w' => e = .returned (.bool (may h s hx tx)) ∧ ∃ y, w' = ext w y := by
  obtain ⟨ah, ch, rfl, _⟩ := hs.head.shape
  obtain ⟨at', ct, rfl, _⟩ := hs.tail.shape
  obtain ⟨ad, cd, rfl, _⟩ := hs.data.shape
  obtain ⟨ac, cc, rfl, _⟩ := hs.clm.shape
  unfold may
  cases hb0 : btw s.org 1 4611686018427387903
  · have q := fields_0 h s ah at' ad ac ch ct cd cc hx tx w hs hb0
    simpa only [Bool.false_and, Bool.true_and] using q
  rw [Bool.true_and]
  cases hb1 : btw s.num 1 4611686018427387902
  · have q := fields_1 h s ah at' ad ac ch ct cd cc hx tx w hs hb0 hb1
    simpa only [Bool.false_and, Bool.true_and] using q
  rw [Bool.true_and]
  cases hb2 : xsOk hx
  · have q := fields_2 h s ah at' ad ac ch ct cd cc hx tx w hs hb0 hb1 hb2
    simpa only [Bool.false_and, Bool.true_and] using q
  rw [Bool.true_and]
  cases hb3 : xsOk tx
  · have q := fields_3 h s ah at' ad ac ch ct cd cc hx tx w hs hb0 hb1 hb2 hb3
    simpa only [Bool.false_and, Bool.true_and] using q
  rw [Bool.true_and]
  cases hb4 : alw h s.srv 2 0 4611686018427387903
  · have q := fields_4 h s ah at' ad ac ch ct cd cc hx tx w hs hb0 hb1 hb2 hb3 hb4
    simpa only [Bool.false_and, Bool.true_and] using q
  rw [Bool.true_and]
  cases hb5 : alw h (s.data.length : Int) 2 1 65536
  · have q := fields_5 h s ah at' ad ac ch ct cd cc hx tx w hs hb0 hb1 hb2 hb3 hb4 hb5
    simpa only [Bool.false_and, Bool.true_and] using q
  rw [Bool.true_and]
  cases hb6 : alw h s.off 2 0 (65536 - (s.data.length : Int))
  · have q := fields_6 h s ah at' ad ac ch ct cd cc hx tx w hs hb0 hb1 hb2 hb3 hb4 hb5 hb6
    simpa only [Bool.false_and, Bool.true_and] using q
  rw [Bool.true_and]
  cases hb7 : alw h s.chk 12 (one (anyB h 4)) 4611686018427387903
  · have q := fields_7 h s ah at' ad ac ch ct cd cc hx tx w hs hb0 hb1 hb2 hb3 hb4 hb5 hb6 hb7
    simpa only [Bool.false_and, Bool.true_and] using q
  rw [Bool.true_and]
  cases hb8 : alw h s.rep 28 (one (anyB h 24)) 4611686018427387903
  · have q := fields_8 h s ah at' ad ac ch ct cd cc hx tx w hs hb0 hb1 hb2 hb3 hb4 hb5 hb6 hb7 hb8
    simpa only [Bool.false_and, Bool.true_and] using q
  rw [Bool.true_and]
  cases hb9 : alw h s.upp 8 1 65536
  · have q := fields_9 h s ah at' ad ac ch ct cd cc hx tx w hs hb0 hb1 hb2 hb3 hb4 hb5 hb6 hb7 hb8 hb9
    simpa only [Bool.false_and, Bool.true_and] using q
  rw [Bool.true_and]
  cases hb10 : alw h s.low 8 0 (s.upp - 1)
  · have q := fields_10 h s ah at' ad ac ch ct cd cc hx tx w hs hb0 hb1 hb2 hb3 hb4 hb5 hb6 hb7 hb8 hb9 hb10
    simpa only [Bool.false_and, Bool.true_and] using q
  rw [Bool.true_and]
  cases hb11 : alw h (s.clm.length : Int) 8 1 1000
  · have q := fields_11 h s ah at' ad ac ch ct cd cc hx tx w hs hb0 hb1 hb2 hb3 hb4 hb5 hb6 hb7 hb8 hb9 hb10 hb11
    simpa only [Bool.false_and, Bool.true_and] using q
  rw [Bool.true_and]
  cases hb12 : clOk s.upp s.low s.clm
  · have q := fields_12 h s ah at' ad ac ch ct cd cc hx tx w hs hb0 hb1 hb2 hb3 hb4 hb5 hb6 hb7 hb8 hb9 hb10 hb11 hb12
    simpa only [Bool.false_and, Bool.true_and] using q
  rw [Bool.true_and]
  cases hb13 : alw h s.rsn 32 0 5
  · have q := fields_13 h s ah at' ad ac ch ct cd cc hx tx w hs hb0 hb1 hb2 hb3 hb4 hb5 hb6 hb7 hb8 hb9 hb10 hb11 hb12 hb13
    simpa only [Bool.false_and, Bool.true_and] using q
  exact fields_14 h s ah at' ad ac ch ct cd cc hx tx w hs hb0 hb1 hb2 hb3 hb4 hb5 hb6 hb7 hb8 hb9 hb10 hb11 hb12 hb13

end Go.Proofs.YtdfdaambfihjaaaDoor

namespace Go.Proofs.YtdfdaambfihjaaaDoor
open Go.RowKit

/-- What Print answers: the error, and the bytes where there is none. -/
def prt (s : Sg) (hx tx : List Xr) : Int × List Int :=
  if shp s.typ % 2 ≠ 1 then (21, []) else if may (shp s.typ) s hx tx = false then (23, []) else if 8192 < (layB (shp s.typ) s).length then (3, []) else (0, layB (shp s.typ) s)

theorem btw_of {n lo hi : Int} (h : btw n lo hi = true) : lo ≤ n ∧ n ≤ hi := by simpa [btw] using h
theorem xsOk_of {xs : List Xr} (h : xsOk xs = true) : xs.length ≤ 15 ∧ XsIn xs := by
  unfold xsOk at h
  rw [Bool.and_eq_true, List.all_eq_true] at h
  refine ⟨by simpa using h.1, fun x hx => ?_⟩
  have h1 := h.2 x hx
  unfold xOk at h1
  rw [Bool.and_eq_true] at h1
  have h2 := btw_of h1.1
  exact ⟨h2.1, h2.2, by simpa using h1.2⟩
theorem clOk_of (upp : Int) (hu : upp ≤ 65536) : ∀ (cl : List (Int × Int)) (least low : Int), low ≤ least → clOk upp least cl = true → ClIn low cl
  | [], _, _, _, _ => fun _ h => by cases h
  | p :: r, least, low, hl, h => by
    simp only [clOk, Bool.and_eq_true, decide_eq_true_eq] at h
    obtain ⟨a, b, c, d⟩ := h
    have ih := clOk_of upp hu r (p.2 + 1) low (by omega) d
    intro q hq
    rcases List.mem_cons.mp hq with rfl | hq
    · exact ⟨by omega, by omega, by omega⟩
    · exact ih q hq

/-- Fields that may be can be written. -/
theorem wr_of {s : Sg} {hx tx : List Xr} (ht : shp s.typ % 2 = 1) (h : may (shp s.typ) s hx tx = true) : Wr (shp s.typ) s hx tx := by
  unfold may at h
  simp only [Bool.and_eq_true] at h
  obtain ⟨h0, h1, h2, h3, h4, h5, h6, h7, h8, h9, h10, h11, h12, h13⟩ := h
  have b0 := btw_of h0
  have b1 := btw_of h1
  have b2 := xsOk_of h2
  have b3 := xsOk_of h3
  have b4 := alw_up h4
  have b5 := alw_up h5
  have b6 := alw_up h6
  have b7 := alw_up h7
  have b8 := alw_up h8
  have b9 := alw_up h9
  have b10 := alw_up h10
  have b11 := alw_up h11
  have b13 := alw_up h13
  have hone : ∀ q, 0 ≤ one q ∧ one q ≤ 1 := by intro q; cases q <;> decide
  have o1 := hone (anyB (shp s.typ) 4)
  have o2 := hone (anyB (shp s.typ) 24)
  have hty : 0 ≤ s.typ ∧ s.typ ≤ 15 := by
    rcases Decidable.em (s.typ < 0 ∨ 16 ≤ s.typ) with q | q
    · unfold shp at ht; rw [if_pos q] at ht; simp at ht
    · omega
  have hcl := clOk_of s.upp (by omega) s.clm s.low s.low (Int.le_refl _) h12
  exact ⟨hty, ⟨by omega, b0.2⟩, ⟨by omega, by omega⟩, b2.2, b3.2, b2.1, b3.1, ⟨by omega, by omega⟩, ⟨by omega, by omega⟩, ⟨by omega, by omega⟩, ⟨by omega, by omega⟩, by omega, by omega, by omega, by omega, hcl, by omega⟩

theorem form_any (h : Int) (hh : h = 1 ∨ h = 3 ∨ h = 7 ∨ h = 9 ∨ h = 17 ∨ h = 33) (s : Sg) (ah at' ad ac : Option Addr) (ch ct cd cc : Nat) (hx tx : List Xr) (w : World) (hs : SIn w s (.slice ah hx.length ch) (.slice at' tx.length ct) (.slice ad s.data.length cd) (.slice ac s.clm.length cc) hx tx) (hw : Wr h s hx tx) :
    Calls Tryd.prog 68 #[.agg (svC s (.slice ah hx.length ch) (.slice at' tx.length ct) (.slice ad s.data.length cd) (.slice ac s.clm.length cc)), .int .u8 h] w (FormP (layB h s) w) := by
  rcases hh with rfl | rfl | rfl | rfl | rfl | rfl
  · exact form_1 s ah at' ad ac ch ct cd cc hx tx w hs hw
  · exact form_3 s ah at' ad ac ch ct cd cc hx tx w hs hw
  · exact form_7 s ah at' ad ac ch ct cd cc hx tx w hs hw
  · exact form_9 s ah at' ad ac ch ct cd cc hx tx w hs hw
  · exact form_17 s ah at' ad ac ch ct cd cc hx tx w hs hw
  · exact form_33 s ah at' ad ac ch ct cd cc hx tx w hs hw

def PrintP (s : Sg) (hx tx : List Xr) (w : World) (e : Ending) (w' : World) : Prop :=
  ∃ a c, e = .returned (.tuple #[.slice a (prt s hx tx).2.length c, .int .i64 (prt s hx tx).1]) ∧ w'.ownsRow w.heap.size 5 1 (.slice a (prt s hx tx).2.length c) (prt s hx tx).2.length ((prt s hx tx).2.map (Value.int .u8)) ∧ Below w.heap.size w w'

set_option maxRecDepth 100000 in
set_option maxHeartbeats 4000000 in
theorem print_any (s : Sg) (hv tv dv cv : Value) (hx tx : List Xr) (w : World) (hs : SIn w s hv tv dv cv hx tx) (hT : Tab w) :
    Calls Tryd.prog 58 #[.agg (svC s hv tv dv cv)] w (PrintP s hx tx w) := by
  obtain ⟨ah, ch, rfl, _⟩ := hs.head.shape
  obtain ⟨at', ct, rfl, _⟩ := hs.tail.shape
  obtain ⟨ad, cd, rfl, _⟩ := hs.data.shape
  obtain ⟨ac, cc, rfl, _⟩ := hs.clm.shape
  have hbel : Below w.heap.size w (w.alloc (svO s (.slice ah hx.length ch) (.slice at' tx.length ct) (.slice ad s.data.length cd) (.slice ac s.clm.length cc))) := (Below.refl _ _).alloc (Nat.le_refl _) _
  have HT : Hid (Tab (w.alloc (svO s (.slice ah hx.length ch) (.slice at' tx.length ct) (.slice ad s.data.length cd) (.slice ac s.clm.length cc)))) := hT.below hbel (World.block_lt_of_cell? w ⟨0, 0, none⟩ (hT 0 (by omega)))
  have HS : Hid (SIn (w.alloc (svO s (.slice ah hx.length ch) (.slice at' tx.length ct) (.slice ad s.data.length cd) (.slice ac s.clm.length cc))) s (.slice ah hx.length ch) (.slice at' tx.length ct) (.slice ad s.data.length cd) (.slice ac s.clm.length cc) hx tx) := hs.below hbel
  have HB0 : Hid (Below w.heap.size w (w.alloc (svO s (.slice ah hx.length ch) (.slice at' tx.length ct) (.slice ad s.data.length cd) (.slice ac s.clm.length cc)))) := hbel
  clear hs hT hbel
  go_enter Tryd.func58, Tryd.ntmps58
  go_wp2_with fail
  refine (shapeOf_any s.typ _ HT.out).mono ?_
  rintro e w' ⟨rfl, rfl⟩
  go_wp2_with fail
  refine (any_any _ _ _).mono ?_
  rintro e w' ⟨rfl, rfl⟩
  rw [anyB_odd]
  by_cases hk : shp s.typ % 2 = 1
  · rw [decide_eq_true hk]
    have hcl : shp s.typ = 1 ∨ shp s.typ = 3 ∨ shp s.typ = 7 ∨ shp s.typ = 9 ∨ shp s.typ = 17 ∨ shp s.typ = 33 := by
      rcases shp_cases s.typ with h | h | h | h | h | h | h
      · omega
      · exact .inl h
      · exact .inr (.inl h)
      · exact .inr (.inr (.inl h))
      · exact .inr (.inr (.inr (.inl h)))
      · exact .inr (.inr (.inr (.inr (.inl h))))
      · exact .inr (.inr (.inr (.inr (.inr h))))
    have HK : Hid (shp s.typ % 2 = 1) := hk
    have HCL : Hid (shp s.typ = 1 ∨ shp s.typ = 3 ∨ shp s.typ = 7 ∨ shp s.typ = 9 ∨ shp s.typ = 17 ∨ shp s.typ = 33) := hcl
    clear hk hcl
    go_wp2_with fail
    refine (fields_any (shp s.typ) s _ _ _ _ hx tx _ HS.out).mono ?_
    rintro e w2 ⟨rfl, y, rfl⟩
    have hbe := ext_below (w.alloc (svO s (.slice ah hx.length ch) (.slice at' tx.length ct) (.slice ad s.data.length cd) (.slice ac s.clm.length cc))) y
    have HS2 : Hid (SIn (ext (w.alloc (svO s (.slice ah hx.length ch) (.slice at' tx.length ct) (.slice ad s.data.length cd) (.slice ac s.clm.length cc))) y) s (.slice ah hx.length ch) (.slice at' tx.length ct) (.slice ad s.data.length cd) (.slice ac s.clm.length cc) hx tx) := HS.out.below hbe
    have HB2 : Hid (Below w.heap.size w (ext (w.alloc (svO s (.slice ah hx.length ch) (.slice at' tx.length ct) (.slice ad s.data.length cd) (.slice ac s.clm.length cc))) y)) := HB0.out.trans (hbe.mono HB0.out.size)
    have hcx := fun j => (ext_cell (w.alloc (svO s (.slice ah hx.length ch) (.slice at' tx.length ct) (.slice ad s.data.length cd) (.slice ac s.clm.length cc))) y ⟨w.heap.size, j, none⟩ (by simp)).trans (cell_of_row _ w.heap.size j _ _ _ (heap_alloc_new' w (svO s (.slice ah hx.length ch) (.slice at' tx.length ct) (.slice ad s.data.length cd) (.slice ac s.clm.length cc))))
    have q0 := hcx 0
    have q1 := hcx 1
    have q2 := hcx 2
    have q3 := hcx 3
    have q4 := hcx 4
    have q5 := hcx 5
    have q6 := hcx 6
    have q7 := hcx 7
    have q8 := hcx 8
    have q9 := hcx 9
    have q10 := hcx 10
    have q11 := hcx 11
    have q12 := hcx 12
    have q13 := hcx 13
    simp only [List.getElem?_toArray, List.getElem?_cons_succ, List.getElem?_cons_zero] at q0 q1 q2 q3 q4 q5 q6 q7 q8 q9 q10 q11 q12 q13
    clear hbe hcx HS HT HB0
    generalize ext (w.alloc (svO s (.slice ah hx.length ch) (.slice at' tx.length ct) (.slice ad s.data.length cd) (.slice ac s.clm.length cc))) y = w2 at *
    cases hmay : may (shp s.typ) s hx tx
    · have HP : Hid (prt s hx tx = (23, [])) := by unfold Hid prt; rw [if_neg (by have := HK.out; omega), if_pos hmay]
      clear hmay
      go_wp2
      go_ret2
      have hp := HP.out
      exact ⟨none, 0, by rw [hp]; rfl, by rw [hp]; exact World.ownsRow_nil _ _ _ _, HB2.out⟩
    · have HWr : Hid (Wr (shp s.typ) s hx tx) := wr_of HK.out hmay
      have HM : Hid (may (shp s.typ) s hx tx = true) := hmay
      clear hmay
      go_wp2_with fail
      refine (form_any (shp s.typ) HCL.out s ah at' ad ac ch ct cd cc hx tx w2 HS2.out HWr.out).mono ?_
      rintro e w3 ⟨v, rfl, hown, hb3⟩
      obtain ⟨a, c, rfl⟩ := own_shape hown
      have HO3 : Hid (w3.ownsRow w.heap.size 5 1 (.slice a (layB (shp s.typ) s).length c) (layB (shp s.typ) s).length ((layB (shp s.typ) s).map (Value.int .u8))) := own_base hown HB2.out.size
      have HB3 : Hid (Below w.heap.size w w3) := HB2.out.trans (hb3.mono HB2.out.size)
      clear hown hb3
      by_cases hbig : 8192 < (layB (shp s.typ) s).length
      · have HP : Hid (prt s hx tx = (3, [])) := by unfold Hid prt; rw [if_neg (by have := HK.out; omega), if_neg (by rw [HM.out]; simp), if_pos hbig]
        have hbig' : (8192 : Int) < ((layB (shp s.typ) s).length : Int) := by omega
        go_wp2
        go_ret2
        have hp := HP.out
        exact ⟨none, 0, by rw [hp]; rfl, by rw [hp]; exact World.ownsRow_nil _ _ _ _, HB3.out⟩
      · have HP : Hid (prt s hx tx = (0, layB (shp s.typ) s)) := by unfold Hid prt; rw [if_neg (by have := HK.out; omega), if_neg (by rw [HM.out]; simp), if_neg hbig]
        have hbig' : ¬ (8192 : Int) < ((layB (shp s.typ) s).length : Int) := by omega
        go_wp2
        go_ret2
        have hp := HP.out
        exact ⟨a, c, by rw [hp]; rfl, by rw [hp]; exact HO3.out, HB3.out⟩
  · rw [decide_eq_false hk]
    have HP : Hid (prt s hx tx = (21, [])) := by unfold Hid prt; rw [if_pos hk]
    clear hk
    go_wp2
    go_ret2
    have hp := HP.out
    exact ⟨none, 0, by rw [hp]; rfl, by rw [hp]; exact World.ownsRow_nil _ _ _ _, HB0.out⟩

end Go.Proofs.YtdfdaambfihjaaaDoor

namespace Go.Proofs.YtdfdaambfihjaaaDoor.R
open Go.RowKit

theorem own_shape {w : World} {base n : Nat} {e : TypeId} {v : Value} {xs : List Value} (h : w.ownsRow base e 1 v n xs) : ∃ a cap, v = .slice a n cap := by
  obtain ⟨_, ⟨rfl, rfl⟩ | ⟨g, cap, cur, rfl, _⟩⟩ := h
  · exact ⟨none, 0, rfl⟩
  · exact ⟨_, cap, rfl⟩

theorem own_lies {w : World} {base n cap : Nat} {e : TypeId} {a : Option Addr} {k : IntKind} {xs : List Int} (h : w.ownsRow base e 1 (.slice a n cap) n (xs.map (Value.int k))) : Lies k w a xs ∧ xs.length = n := by
  have hl : xs.length = n := by have := h.1; simpa using this
  refine ⟨?_, hl⟩
  obtain ⟨_, ⟨_, h0⟩ | ⟨g, cap', cur, hv, hb, hg, hn, hm, hs, ht⟩⟩ := id h
  · exact .inl (List.eq_nil_of_length_eq_zero (by omega))
  · simp only [Value.slice.injEq] at hv
    obtain ⟨rfl, _, rfl⟩ := hv
    refine .inr ⟨g, 0, rfl, fun i hi => ?_⟩
    rw [Nat.zero_add, h.cellAt i (by omega), List.getElem?_map, List.getD_eq_getElem?_getD, List.getElem?_eq_getElem hi]
    rfl

def lenV : Value → Nat | .slice _ n _ => n | _ => 0

end Go.Proofs.YtdfdaambfihjaaaDoor.R

namespace Go.Proofs.YtdfdaambfihjaaaDoor.R
open Go.RowKit

theorem take_snoc (l : List Int) (k : Nat) (h : k < l.length) : l.take (k + 1) = l.take k ++ [l.getD k 0] := by
  rw [List.take_succ_eq_append_getElem h, List.getD_eq_getElem?_getD, List.getElem?_eq_getElem h]; rfl

end Go.Proofs.YtdfdaambfihjaaaDoor.R

namespace Go.Proofs.YtdfdaambfihjaaaDoor.R
open Go.RowKit

/-- The digits of n from the place k down, without marks. -/
def pd (n : Int) : Nat → List Int
  | 0 => [n % 128]
  | k + 1 => (n / 128 ^ (k + 1) % 128) :: pd n k

theorem pd_length (n : Int) (k : Nat) : (pd n k).length = k + 1 := by
  induction k with
  | zero => rfl
  | succ k ih => simp [pd, ih]

theorem pd_bytes (n : Int) : ∀ k, ∀ z ∈ pd n k, 0 ≤ z ∧ z ≤ 127
  | 0, z, hz => by simp [pd] at hz; omega
  | k + 1, z, hz => by
    rw [pd, List.mem_cons] at hz
    rcases hz with rfl | hz
    · omega
    · exact pd_bytes n k z hz

theorem pd_tl (n : Int) : ∀ (k i : Nat), i < k → (tl n k).getD i 0 = (pd n k).getD i 0 + 128
  | 0, i, h => by omega
  | k + 1, 0, h => by simp [tl, pd]
  | k + 1, i + 1, h => by
    have := pd_tl n k i (by omega)
    simpa [tl, pd] using this

theorem pd_drop (n : Int) : ∀ k : Nat, (pd n k).drop k = (tl n k).drop k
  | 0 => rfl
  | k + 1 => by simpa [tl, pd] using pd_drop n k

theorem div_next (n : Int) (j : Nat) : n / 128 ^ (j + 1) / 128 = n / 128 ^ (j + 1 + 1) := by
  rw [Int.pow_succ 128 (j + 1), ← Int.ediv_ediv_of_nonneg (Int.pow_nonneg (by omega))]

theorem div_le (n : Int) (j : Nat) (h0 : 0 ≤ n) (h1 : n ≤ 18446744073709551615) : 0 ≤ n / 128 ^ (j + 1) ∧ n / 128 ^ (j + 1) ≤ 18446744073709551615 :=
  ⟨Int.ediv_nonneg h0 (Int.pow_nonneg (by omega)), Int.le_trans (Int.ediv_le_self _ h0) h1⟩

theorem sz_of_div (n : Int) (j : Nat) (h0 : 0 ≤ n) (h1 : n ≤ 18446744073709551615) (hz : n / 128 ^ (j + 1) = 0) (hp : j = 0 ∨ 0 < n / 128 ^ j) : sz n = j + 1 := by
  have hpp : (0 : Int) < 128 ^ (j + 1) := Int.pow_pos (by omega)
  have hpj : (0 : Int) < 128 ^ j := Int.pow_pos (by omega)
  refine sz_eq n j h0 h1 ?_ ?_
  · have := Int.lt_ediv_add_one_mul_self n hpp
    rw [hz] at this; omega
  · rcases hp with hp | hp
    · left; exact hp
    · right
      have h3 : 1 ≤ n / 128 ^ j := by omega
      rw [Int.le_ediv_iff_mul_le hpj] at h3
      omega

theorem ten (n : Int) (j : Nat) (h0 : 0 ≤ n) (h1 : n ≤ 18446744073709551615) (hp : j = 0 ∨ 0 < n / 128 ^ j) : j ≤ 9 := by
  rcases hp with hp | hp
  · omega
  · by_cases hj : j ≤ 9
    · exact hj
    · exfalso
      have hpj : (0 : Int) < 128 ^ j := Int.pow_pos (by omega)
      have h3 : 1 ≤ n / 128 ^ j := by omega
      rw [Int.le_ediv_iff_mul_le hpj] at h3
      have hm : (128 : Int) ^ 10 ≤ 128 ^ j := by
        have := Nat.pow_le_pow_right (n := 128) (by omega) (show 10 ≤ j by omega)
        exact_mod_cast this
      have : (128 : Int) ^ 10 = 1180591620717411303424 := by decide
      omega

set_option maxHeartbeats 1000000 in
theorem digits_any (n : Int) (w : World) (h0 : 0 ≤ n) (h1 : n ≤ 18446744073709551615) :
    Calls Tryd.prog 96 #[.int .u64 n] w fun e w' => ∃ g cap, e = .returned (.slice (some ⟨g, 0, none⟩) (sz n) cap) ∧
      w'.ownsRow w.heap.size 5 1 (.slice (some ⟨g, 0, none⟩) (sz n) cap) (sz n) ((pd n (sz n - 1)).map (Value.int .u8)) ∧ Below w.heap.size w w' := by
  obtain ⟨i0, hi, hz0, hz1, hz2⟩ := info_parts Tryd.info_u8
  go_enter Tryd.func96, Tryd.ntmps96
  go_wp2
  go_loopw [0, 3] (fun q v wr => ∃ (j : Nat), q = .int .u64 (n / 128 ^ (j + 1)) ∧ (j = 0 ∨ 0 < n / 128 ^ j) ∧ wr.ownsRow w.heap.size 5 1 v (j + 1) ((pd n j).map (Value.int .u8)) ∧ Below w.heap.size w wr) (fun q _ _ => (intOf q).toNat)
  case atStart =>
    refine ⟨0, by simp, .inl rfl, ?_, (Below.refl _ _).alloc (Nat.le_refl _) _⟩
    have := World.ownsRow_lit (base := w.heap.size) (e := 5) (size := 1) w #[Value.int .u8 (n % 128)] 1 (Nat.le_refl _) (by unfold maxLen; omega) rfl
    simpa [pd] using this
  case round =>
    obtain ⟨j, rfl, hp, hown, hbel⟩ := hrel
    have hj9 := ten n j h0 h1 hp
    have hd := div_le n j h0 h1
    have HP : Hid (j = 0 ∨ 0 < n / 128 ^ j) := hp
    have HN : Hid (n / 128 ^ (j + 1) / 128 = n / 128 ^ (j + 1 + 1)) := div_next n j
    have hs := hbel.size
    clear hp
    obtain ⟨hd0, hd1⟩ := hd
    by_cases hpos : 0 < n / 128 ^ (j + 1)
    · have HPD : Hid (pd n (j + 1) = (n / 128 ^ (j + 1) % 128) :: pd n j) := rfl
      have HPos : Hid (0 < n / 128 ^ (j + 1)) := hpos
      obtain ⟨x, hx⟩ : ∃ x, n / 128 ^ (j + 1) = x := ⟨_, rfl⟩
      rw [hx] at hd0 hd1 HN hpos HPD
      rw [hx]
      have HX : Hid (n / 128 ^ (j + 1) = x) := hx
      clear hx
      obtain ⟨av, cv, hv⟩ := own_shape hown
      subst hv
      have HLi := own_lies hown
      have hnn : av = none → j + 1 = 0 ∧ cv = 0 := by
        intro e
        obtain ⟨_, ⟨_, h⟩ | ⟨_, _, _, h, _⟩⟩ := hown
        · omega
        · simp [e] at h
      go_wp2_with (at_builtin; refine append_any _ rfl (.tmp 15) (.tmp 16) 34 rfl w.heap.size 5 i0 (.int .u8 0) 1 Tryd.underlying34 hi hz0 hz1 hz2 rfl _ 1 [.int .u8 (x % 128)] rfl (World.ownsRow_lit (base := w.heap.size) wr #[.int .u8 (x % 128)] 1 hs (by unfold maxLen; omega) rfl) .u8 _ _ _ (pd n j) rfl hnn (pd_length n j) (HLi.1.below ((Below.refl _ _).alloc (Nat.le_refl _) _)) (by unfold maxLen; omega) (by omega) (by simp; omega) ?_; intro v1 w1 hown1 hg1)
      have HO : Hid (w1.ownsRow w.heap.size 5 1 v1 (j + 1 + 1) ((pd n (j + 1)).map (Value.int .u8))) := by
        unfold Hid
        rw [HPD.out, show j + 1 + 1 = 1 + (j + 1) from by omega]
        simpa using hown1
      have HB : Hid (Below w.heap.size w w1) := (hbel.alloc hs _).grown hg1 (by simp; omega) (fun b hb => by have e : wr.heap.size = b := Option.some.inj hb; omega)
      clear hown hown1 hg1 hbel HLi hnn
      go_wp2
      go_roundw
      case rel => exact ⟨j + 1, by rw [← HN.out], .inr HPos.out, HO.out, HB.out⟩
      case measure => simp [intOf]; omega
    · have hzero : n / 128 ^ (j + 1) = 0 := by omega
      have HS : Hid (sz n = j + 1) := sz_of_div n j h0 h1 hzero HP.out
      rw [hzero]
      have HO : Hid (wr.ownsRow w.heap.size 5 1 u3 (j + 1) ((pd n j).map (Value.int .u8))) := hown
      have HB : Hid (Below w.heap.size w wr) := hbel
      clear hown hbel hzero hpos HN
      obtain ⟨g, cap, hv⟩ : ∃ g cap, u3 = .slice (some ⟨g, 0, none⟩) (j + 1) cap := by
        obtain ⟨_, ⟨_, h⟩ | ⟨g, cap, _, h, _⟩⟩ := HO.out
        · omega
        · exact ⟨g, cap, h⟩
      subst hv
      go_wp2
      go_ret
      refine ⟨g, cap, by rw [HS.out]; rfl, ?_, HB.out⟩
      rw [HS.out]; exact HO.out

theorem owned_low {w : World} {base n cap g : Nat} {xs : List Value} {e : TypeId} (h : w.ownsRow base e 1 (.slice (some ⟨g, 0, none⟩) n cap) n xs) : base ≤ g := (h.lt g rfl).1

theorem mark_at (n : Int) (k i : Nat) (h : i < k) : ((tl n k).take i ++ (pd n k).drop i).getD i 0 = (pd n k).getD i 0 := by
  have hl : ((tl n k).take i).length = i := by rw [List.length_take, tl_length]; omega
  rw [List.getD_eq_getElem?_getD, List.getElem?_append_right (by omega), hl, Nat.sub_self]
  rw [drop_cons (pd n k) i (by rw [pd_length]; omega)]
  simp

theorem mark_set (n : Int) (k i : Nat) (h : i < k) : ((tl n k).take i ++ (pd n k).drop i).set i ((pd n k).getD i 0 + 128) = (tl n k).take (i + 1) ++ (pd n k).drop (i + 1) := by
  have hl : ((tl n k).take i).length = i := by rw [List.length_take, tl_length]; omega
  rw [List.set_append_right _ _ (by omega), hl, Nat.sub_self, drop_cons (pd n k) i (by rw [pd_length]; omega), List.set_cons_zero, take_snoc (tl n k) i (by rw [tl_length]; omega), pd_tl n k i h]
  simp

theorem mark_end (n : Int) (k : Nat) : (tl n k).take k ++ (pd n k).drop k = tl n k := by
  rw [pd_drop, List.take_append_drop]

set_option maxHeartbeats 1000000 in
theorem refbytes_any (n : Int) (w : World) (h0 : 0 ≤ n) (h1 : n ≤ 18446744073709551615) :
    Calls Tryd.prog 94 #[.int .u64 n] w fun e w' => ∃ g cap, e = .returned (.slice (some ⟨g, 0, none⟩) (sz n) cap) ∧
      w'.ownsRow w.heap.size 5 1 (.slice (some ⟨g, 0, none⟩) (sz n) cap) (sz n) ((enc n).map (Value.int .u8)) ∧ Below w.heap.size w w' := by
  obtain ⟨s1, s2, _, _⟩ := sz_bounds n h0 h1
  obtain ⟨k, hk⟩ : ∃ k, sz n = k + 1 := ⟨sz n - 1, by omega⟩
  have HE : Hid (enc n = tl n k) := by unfold Hid enc; rw [hk]; rfl
  go_enter Tryd.func94, Tryd.ntmps94
  go_wp2_with fail
  refine (digits_any n w h0 h1).mono ?_
  rintro e w1 ⟨g, cap, rfl, hown, hb⟩
  rw [hk] at hown s2 ⊢
  have HK : Hid (sz n = k + 1) := hk
  clear hk s1
  simp only [Nat.add_sub_cancel] at hown
  go_wp2
  go_loopw [4] (fun i wr => ∃ j : Nat, j ≤ k ∧ i = .int .i64 j ∧ wr.ownsRow w.heap.size 5 1 (.slice (some ⟨g, 0, none⟩) (k + 1) cap) (k + 1) (((tl n k).take j ++ (pd n k).drop j).map (Value.int .u8)) ∧ Below w.heap.size w wr) (fun i _ => k - (intOf i).toNat)
  case atStart => exact ⟨0, Nat.zero_le _, rfl, by simpa using hown, hb⟩
  case round =>
    obtain ⟨j, hj, rfl, ho, hbel⟩ := hrel
    clear hown hb
    by_cases hlt : j < k
    · have hce := ho.cellAt j (by omega)
      have hfr := ho.frozenAt j
      have hlen : j < ((tl n k).take j ++ (pd n k).drop j).length := by rw [List.length_append, List.length_take, List.length_drop, tl_length, pd_length]; omega
      rw [List.getElem?_map, List.getElem?_eq_getElem hlen] at hce
      have hgd : ((tl n k).take j ++ (pd n k).drop j)[j] = (pd n k).getD j 0 := by
        rw [← mark_at n k j hlt, List.getD_eq_getElem?_getD, List.getElem?_eq_getElem hlen]; rfl
      rw [hgd] at hce
      simp only [Option.map_some] at hce
      have hst := (ho.stored j (.int .u8 ((pd n k).getD j 0 + 128)))
      rw [← List.map_set, mark_set n k j hlt] at hst
      have hpb : 0 ≤ (pd n k).getD j 0 ∧ (pd n k).getD j 0 ≤ 127 := by
        have hl : j < (pd n k).length := by rw [pd_length]; omega
        rw [List.getD_eq_getElem?_getD, List.getElem?_eq_getElem hl]; exact pd_bytes n k _ (List.getElem_mem hl)
      have hgw := (owned_low ho)
      clear hgd hlen
      generalize (pd n k).getD j 0 = x at hce hst hpb
      obtain ⟨hx0, hx1⟩ := hpb
      have HS : Hid ((wr.setCell ⟨g, j, none⟩ (.int .u8 (x + 128))).ownsRow w.heap.size 5 1 (.slice (some ⟨g, 0, none⟩) (k + 1) cap) (k + 1) (((tl n k).take (j + 1) ++ (pd n k).drop (j + 1)).map (Value.int .u8))) := hst.1
      have HB : Hid (Below w.heap.size w (wr.setCell ⟨g, j, none⟩ (.int .u8 (x + 128)))) := hbel.setCell (p := ⟨g, j, none⟩) hgw _
      clear hst ho hbel
      have hi1 : (j : Int) < (k : Int) := by omega
      go_wp2
      go_roundw
      case rel => exact ⟨j + 1, by omega, by go_num, HS.out, HB.out⟩
      case measure => simp [intOf]; omega
    · have hjk : j = k := by omega
      subst hjk
      have HO : Hid (wr.ownsRow w.heap.size 5 1 (.slice (some ⟨g, 0, none⟩) (j + 1) cap) (j + 1) ((tl n j).map (Value.int .u8))) := by rw [mark_end] at ho; exact ho
      have HB : Hid (Below w.heap.size w wr) := hbel
      clear ho hbel
      go_wp2
      go_ret
      refine ⟨g, cap, by rw [HK.out]; rfl, ?_, HB.out⟩
      rw [HE.out, HK.out]; exact HO.out

end Go.Proofs.YtdfdaambfihjaaaDoor.R

namespace Go.Proofs.YtdfdaambfihjaaaDoor
open Go.RowKit
set_option linter.unusedVariables false
set_option linter.unusedSimpArgs false

theorem al_new (w : World) (o : Obj) : (w.alloc o).heap[w.heap.size]? = some o := heap_alloc_new' w o
theorem add_n5 (g off j : Nat) : (⟨g, off, none⟩ : Addr).add j = ⟨g, off + j, none⟩ := by unfold Addr.add; split <;> simp_all
theorem own_low5 {w : World} {base base' size n : Nat} {e : TypeId} {v : Value} {xs : List Value} (h : w.ownsRow base e size v n xs) (hb : base' ≤ base) : w.ownsRow base' e size v n xs := by
  obtain ⟨hl, h | ⟨g, cap, cur, rfl, hb', r⟩⟩ := h
  · exact ⟨hl, .inl h⟩
  · exact ⟨hl, .inr ⟨g, cap, cur, rfl, Nat.le_trans hb hb', r⟩⟩
theorem own_sl5 {w : World} {base size n : Nat} {e : TypeId} {v : Value} {xs : List Value} (h : w.ownsRow base e size v n xs) : ∃ a c, v = .slice a n c := by
  obtain ⟨_, ⟨rfl, rfl⟩ | ⟨g, cap, cur, rfl, _⟩⟩ := h
  · exact ⟨none, 0, rfl⟩
  · exact ⟨_, cap, rfl⟩
theorem sz62r {n : Int} (h0 : 0 ≤ n) (h1 : n ≤ 4611686018427387903) : 1 ≤ sz n ∧ sz n ≤ 9 := by
  have h := sz_bounds n h0 (by omega)
  have m := sz_mono n 4611686018427387903 h0 h1 (by omega)
  have : sz 4611686018427387903 = 9 := by decide +kernel
  omega
set_option maxHeartbeats 2000000 in
theorem rqScope_any (lo up : Int) (w : World) : Calls Tryd.prog 88 #[.int .i64 lo, .int .i64 up] w fun e w' => e = .returned (.bool (decide (0 ≤ lo ∧ lo < up ∧ up ≤ 65536))) ∧ w = w' := by
  obtain ⟨B, hB⟩ : ∃ b, decide (0 ≤ lo ∧ lo < up ∧ up ≤ 65536) = b := ⟨_, rfl⟩
  have HB : Hid (decide (0 ≤ lo ∧ lo < up ∧ up ≤ 65536) = B) := hB
  rw [hB]
  clear hB
  have hcs : (¬ 0 ≤ lo) ∨ (0 ≤ lo ∧ ¬ lo < up) ∨ (0 ≤ lo ∧ lo < up ∧ ¬ up ≤ 65536) ∨ (0 ≤ lo ∧ lo < up ∧ up ≤ 65536) := by omega
  rcases hcs with h1 | ⟨h1, h2⟩ | ⟨h1, h2, h3⟩ | ⟨h1, h2, h3⟩
  · have HV : Hid (B = false) := HB.out.symm.trans (decide_eq_false (by omega))
    clear HB
    go_enter Tryd.func88, Tryd.ntmps88
    go_wp2
    go_ret
    exact ⟨congrArg (fun b => Ending.returned (Value.bool b)) HV.out.symm, rfl⟩
  · have HV : Hid (B = false) := HB.out.symm.trans (decide_eq_false (by omega))
    clear HB
    go_enter Tryd.func88, Tryd.ntmps88
    go_wp2
    go_ret
    exact ⟨congrArg (fun b => Ending.returned (Value.bool b)) HV.out.symm, rfl⟩
  · have HV : Hid (B = false) := HB.out.symm.trans (decide_eq_false (by omega))
    clear HB
    go_enter Tryd.func88, Tryd.ntmps88
    go_wp2
    go_ret
    exact ⟨congrArg (fun b => Ending.returned (Value.bool b)) HV.out.symm, rfl⟩
  · have HV : Hid (B = true) := HB.out.symm.trans (decide_eq_true (by omega))
    clear HB
    go_enter Tryd.func88, Tryd.ntmps88
    go_wp2
    go_ret
    exact ⟨congrArg (fun b => Ending.returned (Value.bool b)) HV.out.symm, rfl⟩
set_option maxHeartbeats 4000000 in
theorem rqSession_any (o n : Int) (w : World) : Calls Tryd.prog 83 #[.agg #[.int .i64 o, .int .i64 n]] w fun e w' => e = .returned (.bool (decide ((1 ≤ o ∧ o ≤ 4611686018427387903) ∧ (1 ≤ n ∧ n ≤ 4611686018427387902)))) ∧ Below w.heap.size w w' := by
  have HB0 : Hid (Below w.heap.size w (w.alloc (.cells #[.int .i64 o, .int .i64 n] 32))) := (Below.refl _ _).alloc (Nat.le_refl _) _
  obtain ⟨B, hB⟩ : ∃ b, decide ((1 ≤ o ∧ o ≤ 4611686018427387903) ∧ (1 ≤ n ∧ n ≤ 4611686018427387902)) = b := ⟨_, rfl⟩
  have HB : Hid (decide ((1 ≤ o ∧ o ≤ 4611686018427387903) ∧ (1 ≤ n ∧ n ≤ 4611686018427387902)) = B) := hB
  rw [hB]
  clear hB
  have hcs : (¬ 1 ≤ o) ∨ (1 ≤ o ∧ ¬ o ≤ 4611686018427387903) ∨ (1 ≤ o ∧ o ≤ 4611686018427387903 ∧ ¬ 1 ≤ n) ∨ (1 ≤ o ∧ o ≤ 4611686018427387903 ∧ 1 ≤ n ∧ ¬ n ≤ 4611686018427387902) ∨ (1 ≤ o ∧ o ≤ 4611686018427387903 ∧ 1 ≤ n ∧ n ≤ 4611686018427387902) := by omega
  rcases hcs with h1 | ⟨h1, h2⟩ | ⟨h1, h2, h3⟩ | ⟨h1, h2, h3, h4⟩ | ⟨h1, h2, h3, h4⟩
  · have HV : Hid (B = false) := HB.out.symm.trans (decide_eq_false (by omega))
    clear HB
    go_enter Tryd.func83, Tryd.ntmps83
    go_wp2
    go_ret
    exact ⟨congrArg (fun b => Ending.returned (Value.bool b)) HV.out.symm, HB0.out⟩
  · have HV : Hid (B = false) := HB.out.symm.trans (decide_eq_false (by omega))
    clear HB
    go_enter Tryd.func83, Tryd.ntmps83
    go_wp2
    go_ret
    exact ⟨congrArg (fun b => Ending.returned (Value.bool b)) HV.out.symm, HB0.out⟩
  · have HV : Hid (B = false) := HB.out.symm.trans (decide_eq_false (by omega))
    clear HB
    go_enter Tryd.func83, Tryd.ntmps83
    go_wp2
    go_ret
    exact ⟨congrArg (fun b => Ending.returned (Value.bool b)) HV.out.symm, HB0.out⟩
  · have HV : Hid (B = false) := HB.out.symm.trans (decide_eq_false (by omega))
    clear HB
    go_enter Tryd.func83, Tryd.ntmps83
    go_wp2
    go_ret
    exact ⟨congrArg (fun b => Ending.returned (Value.bool b)) HV.out.symm, HB0.out⟩
  · have HV : Hid (B = true) := HB.out.symm.trans (decide_eq_true (by omega))
    clear HB
    go_enter Tryd.func83, Tryd.ntmps83
    go_wp2
    go_ret
    exact ⟨congrArg (fun b => Ending.returned (Value.bool b)) HV.out.symm, HB0.out⟩
theorem grown_two {w w1 w2 : World} {row : Option Nat} (h : Below w.heap.size w w1) (hg : w1.grownBy w2 row) : w.grownBy w2 row := ⟨hg.os.trans h.os, hg.tape.trans h.tape, hg.output.trans h.output, Nat.le_trans h.size hg.size, fun k hk hn => (hg.block k (Nat.lt_of_lt_of_le hk h.size) hn).trans (h.block k hk)⟩
set_option maxHeartbeats 4000000 in
/-- A number behind bytes. -/
theorem rqNum_any (v : Value) (m : Nat) (xs : List Value) (base : Nat) (n : Int) (w : World) (h0 : 0 ≤ n) (h1 : n ≤ 4611686018427387903) (hown : w.ownsRow base 5 1 v m xs) (hbase : base ≤ w.heap.size) (hm : m ≤ 10000000) :
    Calls Tryd.prog 90 #[v, .int .i64 n] w (XPost v base m xs (enc n) w) := by
  obtain ⟨i0, hi, hz0, hz1, hz2⟩ := info_parts Tryd.info_u8
  obtain ⟨a, c, rfl⟩ := own_sl5 hown
  have hB := R.refbytes_any n w h0 (by omega)
  have HO : Hid (w.ownsRow base 5 1 (.slice a m c) m xs) := hown
  have hwu : IntKind.u64.wrap n = n := by unfold IntKind.wrap; simp [IntKind.signed, IntKind.bits]; omega
  have hsz := sz62r h0 h1
  have hel : (enc n).length = sz n := enc_length n h0 (by omega)
  have HEL : Hid ((enc n).length = sz n) := hel
  clear hown hel
  go_enter Tryd.func90, Tryd.ntmps90
  go_wp2_with fail
  refine hB.mono ?_
  rintro e w1 ⟨g, cap, rfl, hown1, hb1⟩
  have HO1 : Hid (w1.ownsRow base 5 1 (.slice a m c) m xs) := C.own_blk2 HO.out (fun g hg => hb1.block g (World.ownsRow.lt HO.out g hg).2)
  have HL1 : Hid (∀ j u, ((enc n).map (Value.int .u8))[j]? = some u → w1.cell? ((⟨g, 0, none⟩ : Addr).add j) = some u) := fun j u hj => by
    have hjl := (List.getElem?_eq_some_iff.mp hj).1
    rw [List.length_map, HEL.out] at hjl
    rw [add_n5, Nat.zero_add, hown1.cellAt _ (by omega)]
    exact hj
  have HB1 : Hid (Below w.heap.size w w1) := hb1
  have hzb := hb1.size
  clear hB hown1 hb1 HO
  go_wp2_with (at_builtin; refine wpList_append_own_at _ rfl _ _ 34 rfl base 5 i0 (.int .u8 0) 1 1 Tryd.underlying34 hi hz0 hz1 hz2 rfl (by decide) _ _ _ rfl HO1.out ⟨g, 0, none⟩ (sz n) cap ((enc n).map (Value.int .u8)) rfl (by rw [List.length_map, HEL.out]; omega) HL1.out ?c2 (by unfold maxLen; omega) (by omega) (by omega) ?_)
  case c2 => intro u hu; obtain ⟨z, _, rfl⟩ := List.mem_map.mp hu; rfl
  intro v6 w6 o6 g6 _ t6
  have HF : Hid (XPost (.slice a m c) base m xs (enc n) w (.returned v6) w6) := ⟨v6, rfl, by rw [HEL.out]; exact o6, ⟨grown_two HB1.out g6, fun j hj => by
    rcases t6 with q | q
    · left; exact q.symm.trans hj
    · right; rw [q] at hj; cases hj; exact hzb⟩⟩
  obtain ⟨a6, c6, rfl⟩ := own_sl5 o6
  clear o6 g6 t6
  go_wp2
  go_ret
  exact HF.out

theorem clOk_at : ∀ {l : List (Int × Int)} {up lo : Int}, clOk up lo l = true → ∀ (i : Nat) (p : Int × Int), l[i]? = some p → lo ≤ p.1 ∧ p.1 < p.2 ∧ p.2 ≤ up ∧ ∀ (q : Int × Int), l[i - 1]? = some q → 0 < i → q.2 < p.1
  | [], up, lo, h, i, p, hp => by simp at hp
  | x :: r, up, lo, h, 0, p, hp => by
    simp only [clOk, Bool.and_eq_true, decide_eq_true_eq] at h
    simp at hp
    subst hp
    exact ⟨h.1, h.2.1, h.2.2.1, fun q _ h0 => by omega⟩
  | x :: r, up, lo, h, i + 1, p, hp => by
    simp only [clOk, Bool.and_eq_true, decide_eq_true_eq] at h
    obtain ⟨h1, h2, h3, h4⟩ := clOk_at h.2.2.2 i p (by simpa using hp)
    refine ⟨by omega, h2, h3, fun q hq _ => ?_⟩
    cases i with
    | zero => simp at hq; subst hq; omega
    | succ j => exact h4 q (by simpa using hq) (by omega)

/-- Bytes that grow: the row, and what came in stays. -/
structure Ly (w wr : World) (v : Value) (m : Nat) (bs : List Int) : Prop where
  len : bs.length = m
  own : wr.ownsRow w.heap.size 5 1 v m (bs.map (Value.int .u8))
  bel : Below w.heap.size w wr
theorem enc9 {n : Int} (h0 : 0 ≤ n) (h1 : n ≤ 4611686018427387903) : (enc n).length ≤ 9 := by rw [enc_length n h0 (by omega)]; exact (sz62r h0 h1).2
theorem Ly.num {w wr w' : World} {v : Value} {m : Nat} {bs : List Int} {n : Int} {e : Ending} (h : Ly w wr v m bs) (h0 : 0 ≤ n) (h1 : n ≤ 4611686018427387903) (hx : XPost v w.heap.size m (bs.map (Value.int .u8)) (enc n) wr e w') : ∃ a m' c, e = .returned (.slice a m' c) ∧ m' ≤ m + 9 ∧ Ly w w' (.slice a m' c) m' (bs ++ enc n) := by
  obtain ⟨v', rfl, ho, hg⟩ := hx
  have hk : ∀ g, g < w.heap.size → w'.heap[g]? = wr.heap[g]? := fun g hgl => hg.grown.block g (Nat.lt_of_lt_of_le hgl h.bel.size) (fun e => by have := (h.own.lt g e.symm).1; omega)
  obtain ⟨a, c, rfl⟩ := own_sl5 ho
  have := enc9 h0 h1
  exact ⟨a, _, c, rfl, by omega, by rw [List.length_append, h.len], by rw [List.map_append]; exact ho, ⟨hg.grown.os.trans h.bel.os, hg.grown.tape.trans h.bel.tape, hg.grown.output.trans h.bel.output, Nat.le_trans h.bel.size hg.grown.size, fun g hgl => (hk g hgl).trans (h.bel.block g hgl)⟩⟩
theorem Ly.same {w wr w' : World} {v : Value} {m : Nat} {bs : List Int} (h : Ly w wr v m bs) (hb : Below wr.heap.size wr w') : Ly w w' v m bs := ⟨h.len, C.own_blk2 h.own (fun g hg => hb.block g (h.own.lt g hg).2), h.bel.trans (hb.mono h.bel.size)⟩
theorem Ly.calls {w wr : World} {v : Value} {m : Nat} {bs : List Int} (h : Ly w wr v m bs) (n : Int) (h0 : 0 ≤ n) (h1 : n ≤ 4611686018427387903) (hm : m ≤ 10000000) : Calls Tryd.prog 90 #[v, .int .i64 n] wr fun e w' => ∃ a m' c, e = .returned (.slice a m' c) ∧ m' ≤ m + 9 ∧ Ly w w' (.slice a m' c) m' (bs ++ enc n) :=
  (rqNum_any v m _ _ n wr h0 h1 h.own h.bel.size hm).mono fun _ _ hx => h.num h0 h1 hx
theorem clmB_step (lo : Int) (l : List (Int × Int)) (j : Nat) (p : Int × Int) (h : l[j]? = some p) : clmB lo (l.take (j + 1)) = clmB lo (l.take j) ++ enc (p.1 - lo) ++ enc (p.2 - p.1) := by
  unfold clmB
  rw [List.take_add_one, h, List.flatMap_append]
  simp [jn]

theorem Ly.byte {w wr w' : World} {v v' : Value} {m : Nat} {bs : List Int} {b : Int} {o : Obj} (h : Ly w wr v m bs) (ho : w'.ownsRow w.heap.size 5 1 v' (m + 1) (bs.map (Value.int .u8) ++ [.int .u8 b])) (hg : (wr.alloc o).grownBy w' v.ownBlock) : ∃ a m' c, v' = .slice a m' c ∧ m' ≤ m + 1 ∧ Ly w w' (.slice a m' c) m' (bs ++ [b]) := by
  have hk : ∀ g, g < w.heap.size → w'.heap[g]? = wr.heap[g]? := fun g hgl => (hg.block g (by have := h.bel.size; simp; omega) (fun e => by have := (h.own.lt g e.symm).1; omega)).trans (((Below.refl wr.heap.size wr).alloc (Nat.le_refl _) o).block g (by have := h.bel.size; omega))
  obtain ⟨a, c, rfl⟩ := own_sl5 ho
  exact ⟨a, _, c, rfl, Nat.le_refl _, by rw [List.length_append, h.len]; rfl, by rw [List.map_append]; exact ho, ⟨hg.os.trans h.bel.os, hg.tape.trans h.bel.tape, hg.output.trans h.bel.output, Nat.le_trans h.bel.size (Nat.le_trans (by simp) hg.size), fun g hgl => (hk g hgl).trans (h.bel.block g hgl)⟩⟩
end Go.Proofs.YtdfdaambfihjaaaDoor
