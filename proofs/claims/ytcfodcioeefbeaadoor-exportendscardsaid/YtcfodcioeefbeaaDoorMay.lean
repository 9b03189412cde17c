import Derived.Test.YtcfodcioeefbeaaDoorPut
import Derived.Test.YtcfodcioeefbeaaDoorBody
import Derived.Test.YtcfodcioeefbeaaDoorLex29
namespace Go.Proofs.YtcfodcioeefbeaaDoor
open Go.RowKit

/-- Bytes that lie somewhere, as a value. -/
structure BIn (w : World) (v : Value) (zs : List Int) : Prop where
  shape : ∃ a c, v = .slice a zs.length c ∧ Lies .u8 w a zs ∧ (a = none → zs.length = 0 ∧ c = 0) ∧ zs.length ≤ c ∧ c ≤ 9223372036854775807
  bytes : Bytey zs
  small : zs.length ≤ 1048576

/-- Extensions that lie somewhere. -/
structure XIn (w : World) (v : Value) (xs : List Xr) : Prop where
  shape : ∃ a c, v = .slice a xs.length c ∧ (xs = [] ∨ ∃ g off, a = some ⟨g, off, none⟩ ∧ ∀ (i : Nat) (x : Xr), xs[i]? = some x → w.cell? ⟨g, off + i * 2, none⟩ = some (.int .i64 x.tag) ∧ w.cell? ⟨g, off + i * 2 + 1, none⟩ = some x.val)
  data : ∀ x ∈ xs, BIn w x.val x.data
  small : xs.length ≤ 1048576

/-- Spans that lie somewhere. -/
structure CIn (w : World) (v : Value) (cl : List (Int × Int)) : Prop where
  shape : ∃ a c, v = .slice a cl.length c ∧ (cl = [] ∨ ∃ g off, a = some ⟨g, off, none⟩ ∧ ∀ (i : Nat) (p : Int × Int), cl[i]? = some p → w.cell? ⟨g, off + i * 2, none⟩ = some (.int .i64 p.1) ∧ w.cell? ⟨g, off + i * 2 + 1, none⟩ = some (.int .i64 p.2))
  small : cl.length ≤ 1048576

theorem BIn.below {w w' : World} {v : Value} {zs : List Int} (h : BIn w v zs) (hb : Below w.heap.size w w') : BIn w' v zs := by
  obtain ⟨a, c, h1, h2, h3⟩ := h.shape
  exact ⟨⟨a, c, h1, h2.below hb, h3⟩, h.bytes, h.small⟩
theorem cell_below {w w' : World} {g o : Nat} {u : Value} (h : w.cell? ⟨g, o, none⟩ = some u) (hb : Below w.heap.size w w') : w'.cell? ⟨g, o, none⟩ = some u :=
  (hb.cell (p := ⟨g, o, none⟩) (World.block_lt_of_cell? w ⟨g, o, none⟩ h)).trans h
theorem XIn.below {w w' : World} {v : Value} {xs : List Xr} (h : XIn w v xs) (hb : Below w.heap.size w w') : XIn w' v xs := by
  obtain ⟨a, c, h1, h2⟩ := h.shape
  refine ⟨⟨a, c, h1, h2.imp id fun ⟨g, off, e, hc⟩ => ⟨g, off, e, fun i x hx => ⟨cell_below (hc i x hx).1 hb, cell_below (hc i x hx).2 hb⟩⟩⟩, fun x hx => (h.data x hx).below hb, h.small⟩
theorem CIn.below {w w' : World} {v : Value} {cl : List (Int × Int)} (h : CIn w v cl) (hb : Below w.heap.size w w') : CIn w' v cl := by
  obtain ⟨a, c, h1, h2⟩ := h.shape
  exact ⟨⟨a, c, h1, h2.imp id fun ⟨g, off, e, hc⟩ => ⟨g, off, e, fun i x hx => ⟨cell_below (hc i x hx).1 hb, cell_below (hc i x hx).2 hb⟩⟩⟩, h.small⟩

theorem ext_snoc (w : World) (y : Xt) (o : Obj) : (ext w y).alloc o = ext w ⟨y.os ++ [o], y.n⟩ := by
  unfold ext; rw [allocs_snoc]; rfl

/-- One extension may be. -/
def xOk (x : Xr) : Bool := btw x.tag 0 255 && decide (x.data.length ≤ 200)
def xsOk (xs : List Xr) : Bool := decide (xs.length ≤ 15) && xs.all xOk

def XMayPost (xs : List Xr) (w : World) (e : Ending) (w' : World) : Prop := e = .returned (.bool (xsOk xs)) ∧ ∃ y, w' = ext w y

theorem all_take_succ {α : Type} (p : α → Bool) (xs : List α) (k : Nat) (x : α) (h : xs[k]? = some x) (ht : (xs.take k).all p = true) (hx : p x = true) : (xs.take (k + 1)).all p = true := by
  obtain ⟨hk, rfl⟩ := List.getElem?_eq_some_iff.mp h
  rw [List.take_succ_eq_append_getElem hk, List.all_append, ht]; simpa using hx

set_option maxHeartbeats 2000000 in
theorem extsMayBe_any (v : Value) (xs : List Xr) (w : World) (h : XIn w v xs) : Calls Tryd.prog 45 #[v] w (XMayPost xs w) := by
  obtain ⟨a, c, rfl, hsh⟩ := h.shape
  have HD : Hid (∀ x ∈ xs, BIn w x.val x.data) := h.data
  have hsm := h.small
  clear h
  by_cases h15 : 15 < xs.length
  · have hX : Hid (xsOk xs = false) := by unfold Hid xsOk; rw [decide_eq_false (by omega)]; rfl
    have h15' : (15 : Int) < (xs.length : Int) := by omega
    go_enter Tryd.func45, Tryd.ntmps45
    go_wp2
    go_ret
    exact ⟨by rw [hX.out]; rfl, ⟨[], 0⟩, rfl⟩
  · have h15' : ¬ (15 : Int) < (xs.length : Int) := by omega
    have HS : Hid (xs = [] ∨ ∃ g off, a = some ⟨g, off, none⟩ ∧ ∀ (i : Nat) (x : Xr), xs[i]? = some x → w.cell? ⟨g, off + i * 2, none⟩ = some (.int .i64 x.tag) ∧ w.cell? ⟨g, off + i * 2 + 1, none⟩ = some x.val) := hsh
    clear hsh
    go_enter Tryd.func45, Tryd.ntmps45
    go_wp2_with fail
    go_loopw [10] (fun i wr => ∃ (k : Nat) (y : Xt), k ≤ xs.length ∧ i = .int .i64 k ∧ wr = ext w y ∧ (xs.take k).all xOk = true) (fun i _ => xs.length - (intOf i).toNat)
    case atStart => exact ⟨0, ⟨[], 0⟩, by omega, rfl, rfl, by simp⟩
    case round =>
      obtain ⟨k, y, hk, rfl, rfl, hall⟩ := hrel
      have HA : Hid ((xs.take k).all xOk = true) := hall
      clear hall
      by_cases hlt : k < xs.length
      · have hlt' : (k : Int) < (xs.length : Int) := by omega
        have hx := List.getElem?_eq_getElem hlt
        generalize xs[k] = x at hx
        have HX : Hid (xs[k]? = some x) := hx
        have hmem : x ∈ xs := List.mem_of_getElem? hx
        obtain ⟨g, off, rfl, hcell⟩ : ∃ g off, a = some ⟨g, off, none⟩ ∧ ∀ (i : Nat) (x : Xr), xs[i]? = some x → w.cell? ⟨g, off + i * 2, none⟩ = some (.int .i64 x.tag) ∧ w.cell? ⟨g, off + i * 2 + 1, none⟩ = some x.val := by
          rcases HS.out with h | h
          · rw [h] at hlt; simp at hlt
          · exact h
        obtain ⟨q1, q2⟩ := hcell k x hx
        have r1 := cell_below q1 (ext_below w y)
        have r2 := cell_below q2 (ext_below w y)
        obtain ⟨ad, cd, hv, _⟩ := (HD.out x hmem).shape
        rw [hv] at r2
        clear hcell q1 q2 hx hmem
        go_wp2_with fail
        refine (between_any _ _ _ _).mono ?_
        rintro e w' ⟨rfl, rfl⟩
        have hbad : ∀ q : xOk x = false, Hid (xsOk xs = false) := fun q => by
          have hm : x ∈ xs := List.mem_of_getElem? HX.out
          have : xs.all xOk = false := by
            rw [List.all_eq_false]; exact ⟨x, hm, by rw [q]; simp⟩
          unfold Hid xsOk; rw [this, Bool.and_false]
        have hsn := ext_snoc w y (.cells #[.int .i64 x.tag, .slice ad x.data.length cd] 110)
        have HSN : Hid ((ext w y).alloc (.cells #[.int .i64 x.tag, .slice ad x.data.length cd] 110) = ext w ⟨y.os ++ [.cells #[.int .i64 x.tag, .slice ad x.data.length cd] 110], y.n⟩) := hsn
        clear hsn
        cases hbt : btw x.tag 0 255
        · have hX := hbad (by unfold xOk; rw [hbt]; rfl)
          clear hbad hbt
          go_wp2
          go_ret
          exact ⟨by rw [hX.out]; rfl, _, HSN.out⟩
        · by_cases h200 : 200 < x.data.length
          · have hX := hbad (by unfold xOk; rw [hbt, decide_eq_false (by omega)]; rfl)
            have h200' : (200 : Int) < (x.data.length : Int) := by omega
            clear hbad hbt
            go_wp2
            go_ret
            exact ⟨by rw [hX.out]; rfl, _, HSN.out⟩
          · have hok : xOk x = true := by unfold xOk; rw [hbt, decide_eq_true (by omega)]; rfl
            have HA2 : Hid ((xs.take (k + 1)).all xOk = true) := all_take_succ xOk xs k x HX.out HA.out hok
            have h200' : ¬ (200 : Int) < (x.data.length : Int) := by omega
            clear hbad hbt hok
            go_wp2
            go_roundw
            case rel => exact ⟨k + 1, _, by omega, by go_num, HSN.out, HA2.out⟩
            case measure => simp [intOf]; omega
      · have hX : Hid (xsOk xs = true) := by
          have h1 := HA.out
          rw [List.take_of_length_le (by omega)] at h1
          unfold Hid xsOk; rw [decide_eq_true (by omega), h1]; rfl
        go_wp2
        go_ret
        exact ⟨by rw [hX.out]; rfl, y, rfl⟩

/-- The claims may be, the first one not below least. -/
def clOk (upp : Int) : Int → List (Int × Int) → Bool
  | _, [] => true
  | least, p :: r => decide (least ≤ p.1) && (decide (p.1 < p.2) && (decide (p.2 ≤ upp) && clOk upp (p.2 + 1) r))

/-- A segment's cells in a block. -/
abbrev svC (s : Sg) (hv tv dv cv : Value) : Array Value := #[.int .i64 s.typ, .int .i64 s.org, .int .i64 s.num, hv, tv, .int .i64 s.srv, .int .i64 s.off, dv, .int .i64 s.chk, .int .i64 s.rep, .int .i64 s.upp, .int .i64 s.low, cv, .int .i64 s.rsn]
abbrev svO (s : Sg) (hv tv dv cv : Value) : Obj := .cells (svC s hv tv dv cv) 45

def CMayPost (b : Bool) (w : World) (e : Ending) (w' : World) : Prop := e = .returned (.bool b) ∧ ∃ y, w' = ext w y

theorem drop_get {α : Type} (l : List α) (k : Nat) (x : α) (h : l[k]? = some x) : l.drop k = x :: l.drop (k + 1) := by
  obtain ⟨hk, rfl⟩ := List.getElem?_eq_some_iff.mp h
  exact List.drop_eq_getElem_cons hk

set_option maxHeartbeats 4000000 in
theorem claimsMayBe_any (s : Sg) (hv tv dv cv : Value) (w : World) (h : CIn w cv s.clm) (hu : s.upp ≤ 1000000) (hl : 0 ≤ s.low) : Calls Tryd.prog 49 #[.agg (svC s hv tv dv cv)] w (CMayPost (clOk s.upp s.low s.clm) w) := by
  obtain ⟨a, c, rfl, hsh⟩ := h.shape
  have hsm := h.small
  have HS : Hid (s.clm = [] ∨ ∃ g off, a = some ⟨g, off, none⟩ ∧ ∀ (i : Nat) (p : Int × Int), s.clm[i]? = some p → w.cell? ⟨g, off + i * 2, none⟩ = some (.int .i64 p.1) ∧ w.cell? ⟨g, off + i * 2 + 1, none⟩ = some (.int .i64 p.2)) := hsh
  clear hsh h
  have hw1 : Below w.heap.size w (w.alloc (svO s hv tv dv (.slice a s.clm.length c))) := (Below.refl _ _).alloc (Nat.le_refl _) _
  have HR : Hid (∀ y, (ext (w.alloc (svO s hv tv dv (.slice a s.clm.length c))) y).cell? ⟨w.heap.size, 10, none⟩ = some (.int .i64 s.upp)) := fun y => by
    rw [ext_cell _ y _ (by simp)]; exact cell_of_row _ w.heap.size 10 _ _ _ (heap_alloc_new' _ _)
  have HW1 : Hid (Below w.heap.size w (w.alloc (svO s hv tv dv (.slice a s.clm.length c)))) := hw1
  clear hw1
  go_enter Tryd.func49, Tryd.ntmps49
  go_wp2_with fail
  go_loopw [3, 11] (fun q i wr => ∃ (k : Nat) (y : Xt) (least : Int), k ≤ s.clm.length ∧ i = .int .i64 k ∧ q = .int .i64 least ∧ 0 ≤ least ∧ wr = ext (w.alloc (svO s hv tv dv (.slice a s.clm.length c))) y ∧ clOk s.upp least (s.clm.drop k) = clOk s.upp s.low s.clm) (fun _ i _ => s.clm.length - (intOf i).toNat)
  case atStart => exact ⟨0, ⟨[], 0⟩, s.low, by omega, rfl, rfl, hl, rfl, rfl⟩
  case round =>
    obtain ⟨k, y, least, hk, rfl, rfl, hq0, rfl, hrest⟩ := hrel
    have HC : Hid (clOk s.upp least (s.clm.drop k) = clOk s.upp s.low s.clm) := hrest
    clear hrest
    have hfin : ∀ z : Xt, ∃ y', ext (w.alloc (svO s hv tv dv (.slice a s.clm.length c))) z = ext w y' := fun z => ⟨⟨svO s hv tv dv (.slice a s.clm.length c) :: z.os, z.n⟩, rfl⟩
    have HFI : Hid (∀ z : Xt, ∃ y', ext (w.alloc (svO s hv tv dv (.slice a s.clm.length c))) z = ext w y') := hfin
    clear hfin
    by_cases hlt : k < s.clm.length
    · have hlt' : (k : Int) < (s.clm.length : Int) := by omega
      have hx := List.getElem?_eq_getElem hlt
      generalize s.clm[k] = p at hx
      obtain ⟨g, off, rfl, hcell⟩ : ∃ g off, a = some ⟨g, off, none⟩ ∧ ∀ (i : Nat) (p : Int × Int), s.clm[i]? = some p → w.cell? ⟨g, off + i * 2, none⟩ = some (.int .i64 p.1) ∧ w.cell? ⟨g, off + i * 2 + 1, none⟩ = some (.int .i64 p.2) := by
        rcases HS.out with h | h
        · rw [h] at hlt; simp at hlt
        · exact h
      obtain ⟨q1, q2⟩ := hcell k p hx
      have hbe := HW1.out.trans ((ext_below _ y).mono HW1.out.size)
      have r1 := cell_below q1 hbe
      have r2 := cell_below q2 hbe
      have r3 := HR.out y
      have hd := drop_get _ _ _ hx
      rw [hd] at HC
      have HC2 : Hid ((decide (least ≤ p.1) && (decide (p.1 < p.2) && (decide (p.2 ≤ s.upp) && clOk s.upp (p.2 + 1) (s.clm.drop (k + 1))))) = clOk s.upp s.low s.clm) := HC.out
      have hsn := ext_snoc (w.alloc (svO s hv tv dv (.slice (some ⟨g, off, none⟩) s.clm.length c))) y (.cells #[.int .i64 p.1, .int .i64 p.2] 113)
      have HSN : Hid ((ext (w.alloc (svO s hv tv dv (.slice (some ⟨g, off, none⟩) s.clm.length c))) y).alloc (.cells #[.int .i64 p.1, .int .i64 p.2] 113) = ext (w.alloc (svO s hv tv dv (.slice (some ⟨g, off, none⟩) s.clm.length c))) ⟨y.os ++ [.cells #[.int .i64 p.1, .int .i64 p.2] 113], y.n⟩) := hsn
      have r4 : ((ext (w.alloc (svO s hv tv dv (.slice (some ⟨g, off, none⟩) s.clm.length c))) y).alloc (.cells #[.int .i64 p.1, .int .i64 p.2] 113)).cell? ⟨w.heap.size, 10, none⟩ = some (.int .i64 s.upp) := by rw [hsn]; exact HR.out _
      clear hcell q1 q2 hx hd HC hsn hbe
      obtain ⟨p1, p2⟩ := p
      simp only at r1 r2 r4 HC2 HSN
      by_cases e1 : p1 < least
      · have HV : Hid (clOk s.upp s.low s.clm = false) := by
          have h := HC2.out; rw [decide_eq_false (by omega)] at h; exact h.symm
        generalize clOk s.upp s.low s.clm = V at *
        go_wp2
        go_ret
        obtain ⟨y', hy'⟩ := HFI.out _
        exact ⟨by rw [HV.out]; rfl, y', HSN.out.trans hy'⟩
      · have e1' : ¬ p1 < least := e1
        have f1 : decide (p1 < least) = false := decide_eq_false e1
        by_cases e2 : p2 ≤ p1
        · have HV : Hid (clOk s.upp s.low s.clm = false) := by
            have h := HC2.out; rw [decide_eq_true (show least ≤ p1 by omega), Bool.true_and, decide_eq_false (show ¬ p1 < p2 by omega), Bool.false_and] at h; exact h.symm
          generalize clOk s.upp s.low s.clm = V at *
          go_wp2
          go_ret
          obtain ⟨y', hy'⟩ := HFI.out _
          exact ⟨by rw [HV.out]; rfl, y', HSN.out.trans hy'⟩
        · have f2 : decide (p2 ≤ p1) = false := decide_eq_false e2
          by_cases e3 : s.upp < p2
          · have HV : Hid (clOk s.upp s.low s.clm = false) := by
              have h := HC2.out; rw [decide_eq_true (show least ≤ p1 by omega), Bool.true_and, decide_eq_true (show p1 < p2 by omega), Bool.true_and, decide_eq_false (show ¬ p2 ≤ s.upp by omega), Bool.false_and] at h; exact h.symm
            generalize clOk s.upp s.low s.clm = V at *
            go_wp2
            go_ret
            obtain ⟨y', hy'⟩ := HFI.out _
            exact ⟨by rw [HV.out]; rfl, y', HSN.out.trans hy'⟩
          · have f3 : decide (s.upp < p2) = false := decide_eq_false e3
            have HC3 : Hid (clOk s.upp (p2 + 1) (s.clm.drop (k + 1)) = clOk s.upp s.low s.clm) := by
              have h := HC2.out
              rw [decide_eq_true (show least ≤ p1 by omega), Bool.true_and, decide_eq_true (show p1 < p2 by omega), Bool.true_and, decide_eq_true (show p2 ≤ s.upp by omega), Bool.true_and] at h; exact h
            have hp2 : p2 ≤ 1000000 := by omega
            have hp3 : 0 ≤ p2 := by omega
            clear HC2
            go_wp2
            go_roundw
            case rel => exact ⟨k + 1, _, p2 + 1, by omega, by go_num, rfl, by omega, HSN.out, HC3.out⟩
            case measure => simp [intOf]; omega
    · have HV : Hid (clOk s.upp s.low s.clm = true) := by
        have h := HC.out; rw [List.drop_eq_nil_of_le (by omega)] at h; exact h.symm
      generalize clOk s.upp s.low s.clm = V at *
      clear HC
      go_wp2
      go_ret
      obtain ⟨y', hy'⟩ := HFI.out _
      exact ⟨by rw [HV.out]; rfl, y', hy'⟩

end Go.Proofs.YtcfodcioeefbeaaDoor

namespace Go.Proofs.YtcfodcioeefbeaaDoor
open Go.RowKit

/-- A segment that lies somewhere. -/
structure SIn (w : World) (s : Sg) (hv tv dv cv : Value) (hx tx : List Xr) : Prop where
  head : XIn w hv hx
  headEq : s.head = hx.map Xr.ex
  tail : XIn w tv tx
  tailEq : s.tail = tx.map Xr.ex
  data : BIn w dv s.data
  clm : CIn w cv s.clm
theorem SIn.below {w w' : World} {s : Sg} {hv tv dv cv : Value} {hx tx : List Xr} (h : SIn w s hv tv dv cv hx tx) (hb : Below w.heap.size w w') : SIn w' s hv tv dv cv hx tx :=
  ⟨h.head.below hb, h.headEq, h.tail.below hb, h.tailEq, h.data.below hb, h.clm.below hb⟩

/-- The fields of a segment of these parts may be. -/
def may (h : Int) (s : Sg) (hx tx : List Xr) : Bool := (btw s.org 1 4611686018427387903 && (btw s.num 1 4611686018427387902 && (xsOk hx && (xsOk tx && (alw h s.srv 2 0 4611686018427387903 && (alw h (s.data.length : Int) 2 1 65536 && (alw h s.off 2 0 (65536 - (s.data.length : Int)) && (alw h s.chk 12 (one (anyB h 4)) 4611686018427387903 && (alw h s.rep 28 (one (anyB h 24)) 4611686018427387903 && (alw h s.upp 8 1 65536 && (alw h s.low 8 0 (s.upp - 1) && (alw h (s.clm.length : Int) 8 1 1000 && (clOk s.upp s.low s.clm && alw h s.rsn 32 0 5)))))))))))))

theorem between_v (n lo hi : Int) (w : World) (q : Bool) (h : btw n lo hi = q) : Calls Tryd.prog 44 #[.int .i64 n, .int .i64 lo, .int .i64 hi] w fun e w' => e = .returned (.bool q) ∧ w = w' := by
  have := between_any n lo hi w; rw [h] at this; exact this
theorem allow_v (p n s lo hi : Int) (w : World) (q : Bool) (h : alw p n s lo hi = q) : Calls Tryd.prog 46 #[.int .u8 p, .int .i64 n, .int .u8 s, .int .i64 lo, .int .i64 hi] w fun e w' => e = .returned (.bool q) ∧ w = w' := by
  have := allow_any p n s lo hi w; rw [h] at this; exact this
theorem exts_v (v : Value) (xs : List Xr) (w : World) (h : XIn w v xs) (q : Bool) (hq : xsOk xs = q) : Calls Tryd.prog 45 #[v] w fun e w' => e = .returned (.bool q) ∧ ∃ y, w' = ext w y := by
  have := extsMayBe_any v xs w h; unfold XMayPost at this; rw [hq] at this; exact this
theorem claims_v (s : Sg) (hv tv dv cv : Value) (w : World) (h : CIn w cv s.clm) (hu : s.upp ≤ 1000000) (hl : 0 ≤ s.low) (q : Bool) (hq : clOk s.upp s.low s.clm = q) : Calls Tryd.prog 49 #[.agg (svC s hv tv dv cv)] w fun e w' => e = .returned (.bool q) ∧ ∃ y, w' = ext w y := by
  have := claimsMayBe_any s hv tv dv cv w h hu hl; unfold CMayPost at this; rw [hq] at this; exact this
theorem alw_up {h n s lo hi : Int} (e : alw h n s lo hi = true) : n = 0 ∨ lo ≤ n ∧ n ≤ hi := by
  unfold alw at e
  split at e
  · right; simpa [btw] using e
  · left; simpa using e

end Go.Proofs.YtcfodcioeefbeaaDoor
