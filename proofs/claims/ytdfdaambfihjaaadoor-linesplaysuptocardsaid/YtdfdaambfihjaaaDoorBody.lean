import Derived.Test.YtdfdaambfihjaaaDoorOwns
import Derived.Deep.MidRow
import Derived.Laws.Tables
import Derived.BigRegion
import Derived.Test.YtdfdaambfihjaaaDoorLex29
import Derived.Laws.OwnMore
import Derived.WalkSmall
import Derived.Maps.AppendAt
import Derived.Laws.AppendOwnNone
import Derived.Deep.RegionLaw
import Derived.OrdersHeld
import Derived.OrdersIn
import Derived.TacticsIn
import Derived.RangeFuncCalls
import Derived.RangeFuncNested
namespace Go.Proofs.YtdfdaambfihjaaaDoor
open Go.RowKit

/-- The reader's cells behind its cursor: its parts, and the segment that it has got. -/
def gl (h t o n : Int) (hd tv : Value) (sv oo : Int) (dv : Value) (ck rp up lo : Int) (cv : Value) (rs : Int) : List Value :=
  [.int .u8 h, .int .i64 t, .int .i64 o, .int .i64 n, hd, tv, .int .i64 sv, .int .i64 oo, dv, .int .i64 ck, .int .i64 rp, .int .i64 up, .int .i64 lo, cv, .int .i64 rs]

theorem any3_4 : anyB 3 4 = false := by decide
theorem any7_4 : anyB 7 4 = true := by decide
end Go.Proofs.YtdfdaambfihjaaaDoor

namespace Go.Proofs.YtdfdaambfihjaaaDoor
open Go.RowKit

def spc (p : Int × Int) : List Value := [.int .i64 p.1, .int .i64 p.2]
theorem Tryd.info_span : (Tryd.prog.info? 91).map (fun i => (i.zero, i.size, i.bytes)) = some (some (.agg #[.int .i64 0, .int .i64 0]), 2, 16) := by kernel_rfl

end Go.Proofs.YtdfdaambfihjaaaDoor

namespace Go.Proofs.YtdfdaambfihjaaaDoor
open Go.RowKit


end Go.Proofs.YtdfdaambfihjaaaDoor

namespace Go.Proofs.YtdfdaambfihjaaaDoor
open Go.RowKit


/-- A segment that lies in memory of its own: its lists' blocks, Head's ahead of B1, those of Data and Claims from there up to B2, Tail's behind. -/
structure SOwn (w : World) (base : Nat) (s : Sg) (hv tv dv cv : Value) (hx tx : List Xr) (B1 B2 : Nat) : Prop where
  le1 : base ≤ B1
  le2 : B1 ≤ B2
  head : XOwn w base hv hx
  headLt : ∀ k, (hv.ownBlock = some k ∨ ∃ x ∈ hx, x.val.ownBlock = some k) → k < B1
  headEq : s.head = hx.map Xr.ex
  data : w.ownsRow B1 5 1 dv s.data.length (s.data.map (Value.int .u8))
  dataLt : ∀ k, dv.ownBlock = some k → k < B2
  dataB : Bytey s.data
  dataS : s.data.length ≤ 70000
  clm : w.ownsRow B1 91 2 cv s.clm.length (s.clm.flatMap spc)
  clmLt : ∀ k, cv.ownBlock = some k → k < B2
  clmS : s.clm.length ≤ 1000
  only : dv.ownBlock = none ∨ cv.ownBlock = none
  tail : XOwn w B2 tv tx
  tailEq : s.tail = tx.map Xr.ex
  few : hx.length ≤ 15 ∧ tx.length ≤ 15

theorem XOwn.lt {w : World} {base : Nat} {v : Value} {xs : List Xr} (h : XOwn w base v xs) : ∀ k, (v.ownBlock = some k ∨ ∃ x ∈ xs, x.val.ownBlock = some k) → base ≤ k ∧ k < w.heap.size := by
  rintro k (hk | ⟨x, hx, hk⟩)
  · exact h.row.lt k hk
  · exact (h.data x hx).row.lt k hk

/-- What came to the place behind Head: the segment's other fields, in memory from B1 on. -/
structure Mid (w : World) (B1 : Nat) (s : Sg) (dv cv : Value) : Prop where
  data : w.ownsRow B1 5 1 dv s.data.length (s.data.map (Value.int .u8))
  dataB : Bytey s.data
  dataS : s.data.length ≤ 70000
  clm : w.ownsRow B1 91 2 cv s.clm.length (s.clm.flatMap spc)
  clmS : s.clm.length ≤ 1000
  only : dv.ownBlock = none ∨ cv.ownBlock = none

end Go.Proofs.YtdfdaambfihjaaaDoor

namespace Go.Proofs.YtdfdaambfihjaaaDoor
open Go.RowKit

/-- A segment as a value. -/
def sv (s : Sg) (hv tv dv cv : Value) : Value := .agg #[.int .i64 s.typ, .int .i64 s.org, .int .i64 s.num, hv, tv, .int .i64 s.srv, .int .i64 s.off, dv, .int .i64 s.chk, .int .i64 s.rep, .int .i64 s.upp, .int .i64 s.low, cv, .int .i64 s.rsn]

def ParsePost (zs : List Int) (w : World) (e : Ending) (w' : World) : Prop :=
  ∃ (hv tv dv cv : Value) (hx tx : List Xr) (B1 B2 : Nat), e = .returned (.tuple #[sv (prs zs).2 hv tv dv cv, .int .i64 (prs zs).1]) ∧ SOwn w' w.heap.size (prs zs).2 hv tv dv cv hx tx B1 B2 ∧ Below w.heap.size w w'

/-- The answer's variable, and the reader, as they begin. -/
abbrev zO : Obj := .cells #[.int .i64 0, .int .i64 0, .int .i64 0, .slice none 0 0, .slice none 0 0, .int .i64 0, .int .i64 0, .slice none 0 0, .int .i64 0, .int .i64 0, .int .i64 0, .int .i64 0, .slice none 0 0, .int .i64 0] 37
/-- The zero segment stored over the zero segment. -/
def chz (W : World) (g : Nat) : World := ((((((((((((((W.setCell ⟨g, 0, none⟩ (.int .i64 0)).setCell ⟨g, 1, none⟩ (.int .i64 0)).setCell ⟨g, 2, none⟩ (.int .i64 0)).setCell ⟨g, 3, none⟩ (.slice none 0 0)).setCell ⟨g, 4, none⟩ (.slice none 0 0)).setCell ⟨g, 5, none⟩ (.int .i64 0)).setCell ⟨g, 6, none⟩ (.int .i64 0)).setCell ⟨g, 7, none⟩ (.slice none 0 0)).setCell ⟨g, 8, none⟩ (.int .i64 0)).setCell ⟨g, 9, none⟩ (.int .i64 0)).setCell ⟨g, 10, none⟩ (.int .i64 0)).setCell ⟨g, 11, none⟩ (.int .i64 0)).setCell ⟨g, 12, none⟩ (.slice none 0 0)).setCell ⟨g, 13, none⟩ (.int .i64 0))
end Go.Proofs.YtdfdaambfihjaaaDoor

namespace Go.Proofs.YtdfdaambfihjaaaDoor
open Go.RowKit

/-- The document's example. -/
def smp : Sg := ⟨3, 1, 5, [], [], 7, 0, [9, 9], 1, 0, 0, 0, [], 0⟩
/-- It, with its bytes in block g. -/
abbrev smpV (g : Nat) : Value := .agg #[.int .i64 3, .int .i64 1, .int .i64 5, .slice none 0 0, .slice none 0 0, .int .i64 7, .int .i64 0, .slice (some ⟨g, 0, none⟩) 2 2, .int .i64 1, .int .i64 0, .int .i64 0, .int .i64 0, .slice none 0 0, .int .i64 0]
abbrev smpO (g : Nat) : Obj := .cells #[.int .i64 3, .int .i64 1, .int .i64 5, .slice none 0 0, .slice none 0 0, .int .i64 7, .int .i64 0, .slice (some ⟨g, 0, none⟩) 2 2, .int .i64 1, .int .i64 0, .int .i64 0, .int .i64 0, .slice none 0 0, .int .i64 0] 37

end Go.Proofs.YtdfdaambfihjaaaDoor

namespace Go.Proofs.YtdfdaambfihjaaaDoor
open Go.RowKit

def wantB : List Int := [3, 1, 5, 0, 7, 0, 2, 1, 0, 9, 9]

def FormPost (w : World) (e : Ending) (w' : World) : Prop := ∃ g c, e = .returned (.slice (some ⟨g, 0, none⟩) 11 c) ∧ w'.ownsRow w.heap.size 5 1 (.slice (some ⟨g, 0, none⟩) 11 c) 11 (wantB.map (Value.int .u8)) ∧ Below w.heap.size w w'

/-- Print of the example: its bytes, in new memory. -/
def PrintPost (w : World) (e : Ending) (w' : World) : Prop := ∃ g c, e = .returned (.tuple #[.slice (some ⟨g, 0, none⟩) 11 c, .int .i64 0]) ∧ w'.ownsRow w.heap.size 5 1 (.slice (some ⟨g, 0, none⟩) 11 c) 11 (wantB.map (Value.int .u8)) ∧ Below w.heap.size w w'

end Go.Proofs.YtdfdaambfihjaaaDoor

namespace Go.Proofs.YtdfdaambfihjaaaDoor
open Go.RowKit

theorem conv_any (W : World) (a : Option Addr) (n cap : Nat) (xs : List Int) (hl : xs.length = n) (hc : Lies .u8 W a xs) :
    (convert 34 9 (.slice a n cap)).run Tryd.prog W = .ok (.string (strOfNums xs)) W := by
  rcases hc with rfl | ⟨b, off, rfl, h⟩
  · obtain rfl : n = 0 := by simpa using hl.symm
    cases a with
    | none => exact run_convert_bytes_nil (P := Tryd.prog) W 34 5 Tryd.underlying34 Tryd.underlying5 0 cap 9 Tryd.underlying9
    | some x =>
      have hl0 := run_loadCells_list (P := Tryd.prog) W x ([].map (Value.int .u8)) (fun j v hj => by simp at hj)
      rw [run_convert_bytes_string W 34 9 5 _ 0 cap Tryd.underlying34 Tryd.underlying5 Tryd.underlying9, run_bytesToString W x 0 cap [] hl0]
      rfl
  · exact run_convert_bytes_arg (P := Tryd.prog) W 34 5 Tryd.underlying34 Tryd.underlying5 b off n cap xs hl (fun i hi => h i (by omega)) 9 Tryd.underlying9

abbrev smpWO (a1 a2 a3 : Option Addr) (c1 c2 c3 g cd : Nat) : Obj := .cells #[.int .i64 3, .int .i64 1, .int .i64 5, .slice a1 0 c1, .slice a2 0 c2, .int .i64 7, .int .i64 0, .slice (some ⟨g, 0, none⟩) 2 cd, .int .i64 1, .int .i64 0, .int .i64 0, .int .i64 0, .slice a3 0 c3, .int .i64 0] 37
abbrev smpW (a1 a2 a3 : Option Addr) (c1 c2 c3 g cd : Nat) : Value := .agg #[.int .i64 3, .int .i64 1, .int .i64 5, .slice a1 0 c1, .slice a2 0 c2, .int .i64 7, .int .i64 0, .slice (some ⟨g, 0, none⟩) 2 cd, .int .i64 1, .int .i64 0, .int .i64 0, .int .i64 0, .slice a3 0 c3, .int .i64 0]

def wantO : Obj := .cells #[.int .u8 3, .int .u8 1, .int .u8 5, .int .u8 0, .int .u8 7, .int .u8 0, .int .u8 2, .int .u8 1, .int .u8 0, .int .u8 9, .int .u8 9] 5

end Go.Proofs.YtdfdaambfihjaaaDoor

namespace Go.Proofs.YtdfdaambfihjaaaDoor
open Go.RowKit

/-- Bytes that lie somewhere, as a value. -/
structure BIn (w : World) (v : Value) (zs : List Int) : Prop where
  shape : ∃ a c, v = .slice a zs.length c ∧ Lies .u8 w a zs ∧ (a = none → zs.length = 0 ∧ c = 0) ∧ zs.length ≤ c ∧ c ≤ 9223372036854775807
  bytes : Bytey zs
  small : zs.length ≤ 1048576

/-- Extensions that lie somewhere. -/
structure XIn (w : World) (v : Value) (xs : List Xr) : Prop where
  shape : ∃ a c, v = .slice a xs.length c ∧ (xs = [] ∨ ∃ g off, a = some ⟨g, off, none⟩ ∧ ∀ (i : Nat) (x : Xr), xs[i]? = some x → w.cell? ⟨g, off + i * 2, none⟩ = some (.int .i64 x.tag) ∧ w.cell? ⟨g, off + i * 2 + 1, none⟩ = some x.val)
  data : ∀ x ∈ xs, BIn w x.val x.data
  small : xs.length ≤ 1048576

/-- Spans that lie somewhere. -/
structure CIn (w : World) (v : Value) (cl : List (Int × Int)) : Prop where
  shape : ∃ a c, v = .slice a cl.length c ∧ (cl = [] ∨ ∃ g off, a = some ⟨g, off, none⟩ ∧ ∀ (i : Nat) (p : Int × Int), cl[i]? = some p → w.cell? ⟨g, off + i * 2, none⟩ = some (.int .i64 p.1) ∧ w.cell? ⟨g, off + i * 2 + 1, none⟩ = some (.int .i64 p.2))
  small : cl.length ≤ 1048576

theorem BIn.below {w w' : World} {v : Value} {zs : List Int} (h : BIn w v zs) (hb : Below w.heap.size w w') : BIn w' v zs := by
  obtain ⟨a, c, h1, h2, h3⟩ := h.shape
  exact ⟨⟨a, c, h1, h2.below hb, h3⟩, h.bytes, h.small⟩
theorem cell_below {w w' : World} {g o : Nat} {u : Value} (h : w.cell? ⟨g, o, none⟩ = some u) (hb : Below w.heap.size w w') : w'.cell? ⟨g, o, none⟩ = some u :=
  (hb.cell (p := ⟨g, o, none⟩) (World.block_lt_of_cell? w ⟨g, o, none⟩ h)).trans h
theorem XIn.below {w w' : World} {v : Value} {xs : List Xr} (h : XIn w v xs) (hb : Below w.heap.size w w') : XIn w' v xs := by
  obtain ⟨a, c, h1, h2⟩ := h.shape
  refine ⟨⟨a, c, h1, h2.imp id fun ⟨g, off, e, hc⟩ => ⟨g, off, e, fun i x hx => ⟨cell_below (hc i x hx).1 hb, cell_below (hc i x hx).2 hb⟩⟩⟩, fun x hx => (h.data x hx).below hb, h.small⟩
theorem CIn.below {w w' : World} {v : Value} {cl : List (Int × Int)} (h : CIn w v cl) (hb : Below w.heap.size w w') : CIn w' v cl := by
  obtain ⟨a, c, h1, h2⟩ := h.shape
  exact ⟨⟨a, c, h1, h2.imp id fun ⟨g, off, e, hc⟩ => ⟨g, off, e, fun i x hx => ⟨cell_below (hc i x hx).1 hb, cell_below (hc i x hx).2 hb⟩⟩⟩, h.small⟩

theorem ext_snoc (w : World) (y : Xt) (o : Obj) : (ext w y).alloc o = ext w ⟨y.os ++ [o], y.n⟩ := by
  unfold ext; rw [allocs_snoc]; rfl

/-- One extension may be. -/
def xOk (x : Xr) : Bool := btw x.tag 0 255 && decide (x.data.length ≤ 200)
def xsOk (xs : List Xr) : Bool := decide (xs.length ≤ 15) && xs.all xOk

def XMayPost (xs : List Xr) (w : World) (e : Ending) (w' : World) : Prop := e = .returned (.bool (xsOk xs)) ∧ ∃ y, w' = ext w y

theorem all_take_succ {α : Type} (p : α → Bool) (xs : List α) (k : Nat) (x : α) (h : xs[k]? = some x) (ht : (xs.take k).all p = true) (hx : p x = true) : (xs.take (k + 1)).all p = true := by
  obtain ⟨hk, rfl⟩ := List.getElem?_eq_some_iff.mp h
  rw [List.take_succ_eq_append_getElem hk, List.all_append, ht]; simpa using hx

set_option maxHeartbeats 2000000 in
theorem extsMayBe_any (v : Value) (xs : List Xr) (w : World) (h : XIn w v xs) : Calls Tryd.prog 74 #[v] w (XMayPost xs w) := by
  obtain ⟨a, c, rfl, hsh⟩ := h.shape
  have HD : Hid (∀ x ∈ xs, BIn w x.val x.data) := h.data
  have hsm := h.small
  clear h
  by_cases h15 : 15 < xs.length
  · have hX : Hid (xsOk xs = false) := by unfold Hid xsOk; rw [decide_eq_false (by omega)]; rfl
    have h15' : (15 : Int) < (xs.length : Int) := by omega
    go_enter Tryd.func74, Tryd.ntmps74
    go_wp2
    go_ret
    exact ⟨by rw [hX.out]; rfl, ⟨[], 0⟩, rfl⟩
  · have h15' : ¬ (15 : Int) < (xs.length : Int) := by omega
    have HS : Hid (xs = [] ∨ ∃ g off, a = some ⟨g, off, none⟩ ∧ ∀ (i : Nat) (x : Xr), xs[i]? = some x → w.cell? ⟨g, off + i * 2, none⟩ = some (.int .i64 x.tag) ∧ w.cell? ⟨g, off + i * 2 + 1, none⟩ = some x.val) := hsh
    clear hsh
    go_enter Tryd.func74, Tryd.ntmps74
    go_wp2_with fail
    go_loopw [10] (fun i wr => ∃ (k : Nat) (y : Xt), k ≤ xs.length ∧ i = .int .i64 k ∧ wr = ext w y ∧ (xs.take k).all xOk = true) (fun i _ => xs.length - (intOf i).toNat)
    case atStart => exact ⟨0, ⟨[], 0⟩, by omega, rfl, rfl, by simp⟩
    case round =>
      obtain ⟨k, y, hk, rfl, rfl, hall⟩ := hrel
      have HA : Hid ((xs.take k).all xOk = true) := hall
      clear hall
      by_cases hlt : k < xs.length
      · have hlt' : (k : Int) < (xs.length : Int) := by omega
        have hx := List.getElem?_eq_getElem hlt
        generalize xs[k] = x at hx
        have HX : Hid (xs[k]? = some x) := hx
        have hmem : x ∈ xs := List.mem_of_getElem? hx
        obtain ⟨g, off, rfl, hcell⟩ : ∃ g off, a = some ⟨g, off, none⟩ ∧ ∀ (i : Nat) (x : Xr), xs[i]? = some x → w.cell? ⟨g, off + i * 2, none⟩ = some (.int .i64 x.tag) ∧ w.cell? ⟨g, off + i * 2 + 1, none⟩ = some x.val := by
          rcases HS.out with h | h
          · rw [h] at hlt; simp at hlt
          · exact h
        obtain ⟨q1, q2⟩ := hcell k x hx
        have r1 := cell_below q1 (ext_below w y)
        have r2 := cell_below q2 (ext_below w y)
        obtain ⟨ad, cd, hv, _⟩ := (HD.out x hmem).shape
        rw [hv] at r2
        clear hcell q1 q2 hx hmem
        go_wp2_with fail
        refine (between_any _ _ _ _).mono ?_
        rintro e w' ⟨rfl, rfl⟩
        have hbad : ∀ q : xOk x = false, Hid (xsOk xs = false) := fun q => by
          have hm : x ∈ xs := List.mem_of_getElem? HX.out
          have : xs.all xOk = false := by
            rw [List.all_eq_false]; exact ⟨x, hm, by rw [q]; simp⟩
          unfold Hid xsOk; rw [this, Bool.and_false]
        have hsn := ext_snoc w y (.cells #[.int .i64 x.tag, .slice ad x.data.length cd] 93)
        have HSN : Hid ((ext w y).alloc (.cells #[.int .i64 x.tag, .slice ad x.data.length cd] 93) = ext w ⟨y.os ++ [.cells #[.int .i64 x.tag, .slice ad x.data.length cd] 93], y.n⟩) := hsn
        clear hsn
        cases hbt : btw x.tag 0 255
        · have hX := hbad (by unfold xOk; rw [hbt]; rfl)
          clear hbad hbt
          go_wp2
          go_ret
          exact ⟨by rw [hX.out]; rfl, _, HSN.out⟩
        · by_cases h200 : 200 < x.data.length
          · have hX := hbad (by unfold xOk; rw [hbt, decide_eq_false (by omega)]; rfl)
            have h200' : (200 : Int) < (x.data.length : Int) := by omega
            clear hbad hbt
            go_wp2
            go_ret
            exact ⟨by rw [hX.out]; rfl, _, HSN.out⟩
          · have hok : xOk x = true := by unfold xOk; rw [hbt, decide_eq_true (by omega)]; rfl
            have HA2 : Hid ((xs.take (k + 1)).all xOk = true) := all_take_succ xOk xs k x HX.out HA.out hok
            have h200' : ¬ (200 : Int) < (x.data.length : Int) := by omega
            clear hbad hbt hok
            go_wp2
            go_roundw
            case rel => exact ⟨k + 1, _, by omega, by go_num, HSN.out, HA2.out⟩
            case measure => simp [intOf]; omega
      · have hX : Hid (xsOk xs = true) := by
          have h1 := HA.out
          rw [List.take_of_length_le (by omega)] at h1
          unfold Hid xsOk; rw [decide_eq_true (by omega), h1]; rfl
        go_wp2
        go_ret
        exact ⟨by rw [hX.out]; rfl, y, rfl⟩

/-- The claims may be, the first one not below least. -/
def clOk (upp : Int) : Int → List (Int × Int) → Bool
  | _, [] => true
  | least, p :: r => decide (least ≤ p.1) && (decide (p.1 < p.2) && (decide (p.2 ≤ upp) && clOk upp (p.2 + 1) r))

/-- A segment's cells in a block. -/
abbrev svC (s : Sg) (hv tv dv cv : Value) : Array Value := #[.int .i64 s.typ, .int .i64 s.org, .int .i64 s.num, hv, tv, .int .i64 s.srv, .int .i64 s.off, dv, .int .i64 s.chk, .int .i64 s.rep, .int .i64 s.upp, .int .i64 s.low, cv, .int .i64 s.rsn]
abbrev svO (s : Sg) (hv tv dv cv : Value) : Obj := .cells (svC s hv tv dv cv) 37

def CMayPost (b : Bool) (w : World) (e : Ending) (w' : World) : Prop := e = .returned (.bool b) ∧ ∃ y, w' = ext w y

theorem drop_get {α : Type} (l : List α) (k : Nat) (x : α) (h : l[k]? = some x) : l.drop k = x :: l.drop (k + 1) := by
  obtain ⟨hk, rfl⟩ := List.getElem?_eq_some_iff.mp h
  exact List.drop_eq_getElem_cons hk

set_option maxHeartbeats 4000000 in
theorem claimsMayBe_any (s : Sg) (hv tv dv cv : Value) (w : World) (h : CIn w cv s.clm) (hu : s.upp ≤ 1000000) (hl : 0 ≤ s.low) : Calls Tryd.prog 78 #[.agg (svC s hv tv dv cv)] w (CMayPost (clOk s.upp s.low s.clm) w) := by
  obtain ⟨a, c, rfl, hsh⟩ := h.shape
  have hsm := h.small
  have HS : Hid (s.clm = [] ∨ ∃ g off, a = some ⟨g, off, none⟩ ∧ ∀ (i : Nat) (p : Int × Int), s.clm[i]? = some p → w.cell? ⟨g, off + i * 2, none⟩ = some (.int .i64 p.1) ∧ w.cell? ⟨g, off + i * 2 + 1, none⟩ = some (.int .i64 p.2)) := hsh
  clear hsh h
  have hw1 : Below w.heap.size w (w.alloc (svO s hv tv dv (.slice a s.clm.length c))) := (Below.refl _ _).alloc (Nat.le_refl _) _
  have HR : Hid (∀ y, (ext (w.alloc (svO s hv tv dv (.slice a s.clm.length c))) y).cell? ⟨w.heap.size, 10, none⟩ = some (.int .i64 s.upp)) := fun y => by
    rw [ext_cell _ y _ (by simp)]; exact cell_of_row _ w.heap.size 10 _ _ _ (heap_alloc_new' _ _)
  have HW1 : Hid (Below w.heap.size w (w.alloc (svO s hv tv dv (.slice a s.clm.length c)))) := hw1
  clear hw1
  go_enter Tryd.func78, Tryd.ntmps78
  go_wp2_with fail
  go_loopw [3, 11] (fun q i wr => ∃ (k : Nat) (y : Xt) (least : Int), k ≤ s.clm.length ∧ i = .int .i64 k ∧ q = .int .i64 least ∧ 0 ≤ least ∧ wr = ext (w.alloc (svO s hv tv dv (.slice a s.clm.length c))) y ∧ clOk s.upp least (s.clm.drop k) = clOk s.upp s.low s.clm) (fun _ i _ => s.clm.length - (intOf i).toNat)
  case atStart => exact ⟨0, ⟨[], 0⟩, s.low, by omega, rfl, rfl, hl, rfl, rfl⟩
  case round =>
    obtain ⟨k, y, least, hk, rfl, rfl, hq0, rfl, hrest⟩ := hrel
    have HC : Hid (clOk s.upp least (s.clm.drop k) = clOk s.upp s.low s.clm) := hrest
    clear hrest
    have hfin : ∀ z : Xt, ∃ y', ext (w.alloc (svO s hv tv dv (.slice a s.clm.length c))) z = ext w y' := fun z => ⟨⟨svO s hv tv dv (.slice a s.clm.length c) :: z.os, z.n⟩, rfl⟩
    have HFI : Hid (∀ z : Xt, ∃ y', ext (w.alloc (svO s hv tv dv (.slice a s.clm.length c))) z = ext w y') := hfin
    clear hfin
    by_cases hlt : k < s.clm.length
    · have hlt' : (k : Int) < (s.clm.length : Int) := by omega
      have hx := List.getElem?_eq_getElem hlt
      generalize s.clm[k] = p at hx
      obtain ⟨g, off, rfl, hcell⟩ : ∃ g off, a = some ⟨g, off, none⟩ ∧ ∀ (i : Nat) (p : Int × Int), s.clm[i]? = some p → w.cell? ⟨g, off + i * 2, none⟩ = some (.int .i64 p.1) ∧ w.cell? ⟨g, off + i * 2 + 1, none⟩ = some (.int .i64 p.2) := by
        rcases HS.out with h | h
        · rw [h] at hlt; simp at hlt
        · exact h
      obtain ⟨q1, q2⟩ := hcell k p hx
      have hbe := HW1.out.trans ((ext_below _ y).mono HW1.out.size)
      have r1 := cell_below q1 hbe
      have r2 := cell_below q2 hbe
      have r3 := HR.out y
      have hd := drop_get _ _ _ hx
      rw [hd] at HC
      have HC2 : Hid ((decide (least ≤ p.1) && (decide (p.1 < p.2) && (decide (p.2 ≤ s.upp) && clOk s.upp (p.2 + 1) (s.clm.drop (k + 1))))) = clOk s.upp s.low s.clm) := HC.out
      have hsn := ext_snoc (w.alloc (svO s hv tv dv (.slice (some ⟨g, off, none⟩) s.clm.length c))) y (.cells #[.int .i64 p.1, .int .i64 p.2] 91)
      have HSN : Hid ((ext (w.alloc (svO s hv tv dv (.slice (some ⟨g, off, none⟩) s.clm.length c))) y).alloc (.cells #[.int .i64 p.1, .int .i64 p.2] 91) = ext (w.alloc (svO s hv tv dv (.slice (some ⟨g, off, none⟩) s.clm.length c))) ⟨y.os ++ [.cells #[.int .i64 p.1, .int .i64 p.2] 91], y.n⟩) := hsn
      have r4 : ((ext (w.alloc (svO s hv tv dv (.slice (some ⟨g, off, none⟩) s.clm.length c))) y).alloc (.cells #[.int .i64 p.1, .int .i64 p.2] 91)).cell? ⟨w.heap.size, 10, none⟩ = some (.int .i64 s.upp) := by rw [hsn]; exact HR.out _
      clear hcell q1 q2 hx hd HC hsn hbe
      obtain ⟨p1, p2⟩ := p
      simp only at r1 r2 r4 HC2 HSN
      by_cases e1 : p1 < least
      · have HV : Hid (clOk s.upp s.low s.clm = false) := by
          have h := HC2.out; rw [decide_eq_false (by omega)] at h; exact h.symm
        generalize clOk s.upp s.low s.clm = V at *
        go_wp2
        go_ret
        obtain ⟨y', hy'⟩ := HFI.out _
        exact ⟨by rw [HV.out]; rfl, y', HSN.out.trans hy'⟩
      · have e1' : ¬ p1 < least := e1
        have f1 : decide (p1 < least) = false := decide_eq_false e1
        by_cases e2 : p2 ≤ p1
        · have HV : Hid (clOk s.upp s.low s.clm = false) := by
            have h := HC2.out; rw [decide_eq_true (show least ≤ p1 by omega), Bool.true_and, decide_eq_false (show ¬ p1 < p2 by omega), Bool.false_and] at h; exact h.symm
          generalize clOk s.upp s.low s.clm = V at *
          go_wp2
          go_ret
          obtain ⟨y', hy'⟩ := HFI.out _
          exact ⟨by rw [HV.out]; rfl, y', HSN.out.trans hy'⟩
        · have f2 : decide (p2 ≤ p1) = false := decide_eq_false e2
          by_cases e3 : s.upp < p2
          · have HV : Hid (clOk s.upp s.low s.clm = false) := by
              have h := HC2.out; rw [decide_eq_true (show least ≤ p1 by omega), Bool.true_and, decide_eq_true (show p1 < p2 by omega), Bool.true_and, decide_eq_false (show ¬ p2 ≤ s.upp by omega), Bool.false_and] at h; exact h.symm
            generalize clOk s.upp s.low s.clm = V at *
            go_wp2
            go_ret
            obtain ⟨y', hy'⟩ := HFI.out _
            exact ⟨by rw [HV.out]; rfl, y', HSN.out.trans hy'⟩
          · have f3 : decide (s.upp < p2) = false := decide_eq_false e3
            have HC3 : Hid (clOk s.upp (p2 + 1) (s.clm.drop (k + 1)) = clOk s.upp s.low s.clm) := by
              have h := HC2.out
              rw [decide_eq_true (show least ≤ p1 by omega), Bool.true_and, decide_eq_true (show p1 < p2 by omega), Bool.true_and, decide_eq_true (show p2 ≤ s.upp by omega), Bool.true_and] at h; exact h
            have hp2 : p2 ≤ 1000000 := by omega
            have hp3 : 0 ≤ p2 := by omega
            clear HC2
            go_wp2
            go_roundw
            case rel => exact ⟨k + 1, _, p2 + 1, by omega, by go_num, rfl, by omega, HSN.out, HC3.out⟩
            case measure => simp [intOf]; omega
    · have HV : Hid (clOk s.upp s.low s.clm = true) := by
        have h := HC.out; rw [List.drop_eq_nil_of_le (by omega)] at h; exact h.symm
      generalize clOk s.upp s.low s.clm = V at *
      clear HC
      go_wp2
      go_ret
      obtain ⟨y', hy'⟩ := HFI.out _
      exact ⟨by rw [HV.out]; rfl, y', hy'⟩

end Go.Proofs.YtdfdaambfihjaaaDoor

namespace Go.Proofs.YtdfdaambfihjaaaDoor
open Go.RowKit

/-- A segment that lies somewhere. -/
structure SIn (w : World) (s : Sg) (hv tv dv cv : Value) (hx tx : List Xr) : Prop where
  head : XIn w hv hx
  headEq : s.head = hx.map Xr.ex
  tail : XIn w tv tx
  tailEq : s.tail = tx.map Xr.ex
  data : BIn w dv s.data
  clm : CIn w cv s.clm
theorem SIn.below {w w' : World} {s : Sg} {hv tv dv cv : Value} {hx tx : List Xr} (h : SIn w s hv tv dv cv hx tx) (hb : Below w.heap.size w w') : SIn w' s hv tv dv cv hx tx :=
  ⟨h.head.below hb, h.headEq, h.tail.below hb, h.tailEq, h.data.below hb, h.clm.below hb⟩

/-- The fields of a segment of these parts may be. -/
def may (h : Int) (s : Sg) (hx tx : List Xr) : Bool := (btw s.org 1 4611686018427387903 && (btw s.num 1 4611686018427387902 && (xsOk hx && (xsOk tx && (alw h s.srv 2 0 4611686018427387903 && (alw h (s.data.length : Int) 2 1 65536 && (alw h s.off 2 0 (65536 - (s.data.length : Int)) && (alw h s.chk 12 (one (anyB h 4)) 4611686018427387903 && (alw h s.rep 28 (one (anyB h 24)) 4611686018427387903 && (alw h s.upp 8 1 65536 && (alw h s.low 8 0 (s.upp - 1) && (alw h (s.clm.length : Int) 8 1 1000 && (clOk s.upp s.low s.clm && alw h s.rsn 32 0 5)))))))))))))

theorem between_v (n lo hi : Int) (w : World) (q : Bool) (h : btw n lo hi = q) : Calls Tryd.prog 73 #[.int .i64 n, .int .i64 lo, .int .i64 hi] w fun e w' => e = .returned (.bool q) ∧ w = w' := by
  have := between_any n lo hi w; rw [h] at this; exact this
theorem allow_v (p n s lo hi : Int) (w : World) (q : Bool) (h : alw p n s lo hi = q) : Calls Tryd.prog 75 #[.int .u8 p, .int .i64 n, .int .u8 s, .int .i64 lo, .int .i64 hi] w fun e w' => e = .returned (.bool q) ∧ w = w' := by
  have := allow_any p n s lo hi w; rw [h] at this; exact this
theorem exts_v (v : Value) (xs : List Xr) (w : World) (h : XIn w v xs) (q : Bool) (hq : xsOk xs = q) : Calls Tryd.prog 74 #[v] w fun e w' => e = .returned (.bool q) ∧ ∃ y, w' = ext w y := by
  have := extsMayBe_any v xs w h; unfold XMayPost at this; rw [hq] at this; exact this
theorem claims_v (s : Sg) (hv tv dv cv : Value) (w : World) (h : CIn w cv s.clm) (hu : s.upp ≤ 1000000) (hl : 0 ≤ s.low) (q : Bool) (hq : clOk s.upp s.low s.clm = q) : Calls Tryd.prog 78 #[.agg (svC s hv tv dv cv)] w fun e w' => e = .returned (.bool q) ∧ ∃ y, w' = ext w y := by
  have := claimsMayBe_any s hv tv dv cv w h hu hl; unfold CMayPost at this; rw [hq] at this; exact this
theorem alw_up {h n s lo hi : Int} (e : alw h n s lo hi = true) : n = 0 ∨ lo ≤ n ∧ n ≤ hi := by
  unfold alw at e
  split at e
  · right; simpa [btw] using e
  · left; simpa using e

end Go.Proofs.YtdfdaambfihjaaaDoor

namespace Go.Proofs.YtdfdaambfihjaaaDoor
open Go.RowKit

theorem Lies.drewN {k : IntKind} {w : World} {a : Option Addr} {zs : List Int} (h : Lies k w a zs) (nd : Nat) : Lies k (w.drewN nd) a zs := by
  rcases h with h | ⟨b, off, ha, h⟩
  · exact .inl h
  · exact .inr ⟨b, off, ha, fun i hi => h i hi⟩
theorem below_drewN' {B : Nat} {w wr : World} (h : Below B w wr) (n : Nat) : Below B w (wr.drewN n) := ⟨h.os, h.tape, h.output, h.size, h.block⟩

/-- What a comparison answers: true where the two say the same. -/
def SmPost (p : Prop) (w : World) (e : Ending) (w' : World) : Prop := ∃ q : Bool, e = .returned (.bool q) ∧ (p → q = true) ∧ Below w.heap.size w w'

theorem drop_step {α : Type} {l m : List α} (k : Nat) {p q : α} (hp : l[k]? = some p) (hq : m[k]? = some q) : (l.drop k = m.drop k) ↔ (p = q ∧ l.drop (k + 1) = m.drop (k + 1)) := by
  rw [drop_get l k p hp, drop_get m k q hq]; simp
theorem get_one {α : Type} (l : List α) (k : Nat) (h : k < l.length) : ∃ x, l[k]? = some x := ⟨l[k], List.getElem?_eq_getElem h⟩

theorem CIn.at {w : World} {a : Option Addr} {c n : Nat} {cl : List (Int × Int)} (h : CIn w (.slice a n c) cl) {k : Nat} {p : Int × Int} (hk : cl[k]? = some p) : ∃ g off, a = some ⟨g, off, none⟩ ∧ w.cell? ⟨g, off + k * 2, none⟩ = some (.int .i64 p.1) ∧ w.cell? ⟨g, off + k * 2 + 1, none⟩ = some (.int .i64 p.2) := by
  obtain ⟨a', c', hv, hs⟩ := h.shape
  simp only [Value.slice.injEq] at hv
  obtain ⟨rfl, rfl, rfl⟩ := hv
  rcases hs with rfl | ⟨g, off, ha, h⟩
  · simp at hk
  · exact ⟨g, off, ha, h k p hk⟩
theorem XIn.at {w : World} {a : Option Addr} {c n : Nat} {xs : List Xr} (h : XIn w (.slice a n c) xs) {k : Nat} {x : Xr} (hk : xs[k]? = some x) : ∃ g off, a = some ⟨g, off, none⟩ ∧ w.cell? ⟨g, off + k * 2, none⟩ = some (.int .i64 x.tag) ∧ w.cell? ⟨g, off + k * 2 + 1, none⟩ = some x.val := by
  obtain ⟨a', c', hv, hs⟩ := h.shape
  simp only [Value.slice.injEq] at hv
  obtain ⟨rfl, rfl, rfl⟩ := hv
  rcases hs with rfl | ⟨g, off, ha, h⟩
  · simp at hk
  · exact ⟨g, off, ha, h k x hk⟩

set_option maxHeartbeats 1000000 in
theorem sameSpans_gen (va vb : Value) (l m : List (Int × Int)) (w : World) (h : CIn w va l) (h' : CIn w vb m) :
    Calls Tryd.prog 54 #[va, vb] w (SmPost (l = m) w) := by
  obtain ⟨a, c, rfl, _⟩ := h.shape
  obtain ⟨b, d, rfl, _⟩ := h'.shape
  have hsm := h.small
  have HS : Hid (CIn w (.slice a l.length c) l) := h
  have HS' : Hid (CIn w (.slice b m.length d) m) := h'
  clear h h'
  go_enter Tryd.func54, Tryd.ntmps54
  by_cases hl : l.length = m.length
  · have HL : Hid (l.length = m.length) := hl
    have hl' : (l.length : Int) = (m.length : Int) := by omega
    rw [← hl] at hl' ⊢
    clear hl
    go_wp2_with fail
    go_loopw [5] (fun i wr => ∃ (k : Nat), k ≤ l.length ∧ i = .int .i64 k ∧ Below w.heap.size w wr ∧ ((l = m) → l.drop k = m.drop k)) (fun i _ => l.length - (intOf i).toNat)
    case atStart => exact ⟨0, by omega, rfl, Below.refl _ _, fun h => by rw [h]⟩
    case round =>
      obtain ⟨k, hk, rfl, hbe, hrt⟩ := hrel
      have HBe : Hid (Below w.heap.size w wr) := hbe
      have HR : Hid ((l = m) → l.drop k = m.drop k) := hrt
      clear hbe hrt
      by_cases hlt : k < l.length
      · have hlt' : (k : Int) < (l.length : Int) := by omega
        obtain ⟨p, hp⟩ := get_one l k hlt
        obtain ⟨q, hq⟩ := get_one m k (by have := HL.out; omega)
        obtain ⟨g, off, rfl, q1, q2⟩ := (HS.out.below HBe.out).at hp
        obtain ⟨g', off', rfl, r1, r2⟩ := (HS'.out.below HBe.out).at hq
        have HQ : Hid ((l = m) → p = q ∧ l.drop (k + 1) = m.drop (k + 1)) := fun h => (drop_step k hp hq).mp (HR.out h)
        clear HR hp hq
        obtain ⟨p1, p2⟩ := p
        obtain ⟨u1, u2⟩ := q
        simp only at q1 q2 r1 r2
        by_cases e : p1 = u1 ∧ p2 = u2
        · obtain ⟨rfl, rfl⟩ := e
          have HR3 : Hid ((l = m) → l.drop (k + 1) = m.drop (k + 1)) := fun h => (HQ.out h).2
          clear HQ
          go_wp2_with fail
          go_quiet (fail)
          go_wp2
          go_roundw
          case rel => exact ⟨k + 1, by omega, by go_num, below_drewN' HBe.out _, HR3.out⟩
          case measure => simp [intOf]; omega
        · have HV : Hid (¬ l = m) := fun h => by have := (HQ.out h).1; simp only [Prod.mk.injEq] at this; exact e this
          clear HQ
          by_cases e1 : p1 = u1
          · subst e1
            have e2 : ¬ p2 = u2 := fun h => e ⟨rfl, h⟩
            go_wp2_with fail
            go_quiet (fail)
            go_wp2
            go_ret
            exact ⟨_, rfl, fun h => absurd h HV.out, below_drewN' HBe.out _⟩
          · go_wp2_with fail
            go_quiet (fail)
            go_wp2
            go_ret
            exact ⟨_, rfl, fun h => absurd h HV.out, below_drewN' HBe.out _⟩
      · have hkn : k = l.length := by omega
        clear HR
        subst hkn
        go_wp2
        go_ret
        exact ⟨true, rfl, fun _ => rfl, HBe.out⟩
  · have hl' : ¬ (l.length : Int) = (m.length : Int) := by omega
    have HV : Hid (¬ l = m) := fun h => hl (by rw [h])
    go_wp2
    go_ret
    exact ⟨_, rfl, fun h => absurd h HV.out, Below.refl _ _⟩

set_option maxHeartbeats 2000000 in
theorem sameExts_gen (va vb : Value) (l m : List Xr) (w : World) (h : XIn w va l) (h' : XIn w vb m) :
    Calls Tryd.prog 53 #[va, vb] w (SmPost (l.map Xr.ex = m.map Xr.ex) w) := by
  obtain ⟨a, c, rfl, _⟩ := h.shape
  obtain ⟨b, d, rfl, _⟩ := h'.shape
  have hsm := h.small
  have HS : Hid (XIn w (.slice a l.length c) l) := h
  have HS' : Hid (XIn w (.slice b m.length d) m) := h'
  clear h h'
  go_enter Tryd.func53, Tryd.ntmps53
  by_cases hl : l.length = m.length
  · have HL : Hid (l.length = m.length) := hl
    have hl' : (l.length : Int) = (m.length : Int) := by omega
    rw [← hl] at hl' ⊢
    clear hl
    go_wp2_with fail
    go_loopw [5] (fun i wr => ∃ (k : Nat), k ≤ l.length ∧ i = .int .i64 k ∧ Below w.heap.size w wr) (fun i _ => l.length - (intOf i).toNat)
    case atStart => exact ⟨0, by omega, rfl, Below.refl _ _⟩
    case round =>
      obtain ⟨k, hk, rfl, hbe⟩ := hrel
      have HBe : Hid (Below w.heap.size w wr) := hbe
      clear hbe
      by_cases hlt : k < l.length
      · have hlt' : (k : Int) < (l.length : Int) := by omega
        obtain ⟨x, hp⟩ := get_one l k hlt
        obtain ⟨y, hq⟩ := get_one m k (by have := HL.out; omega)
        have hA := HS.out.below HBe.out
        have hB := HS'.out.below HBe.out
        obtain ⟨g, off, rfl, q1, q2⟩ := hA.at hp
        obtain ⟨g', off', rfl, r1, r2⟩ := hB.at hq
        have HQ : Hid ((l.map Xr.ex = m.map Xr.ex) → x.tag = y.tag ∧ x.data = y.data) := fun h => by
          have := congrArg (fun z => z[k]?) h
          simp only [List.getElem?_map, hp, hq, Option.map_some, Option.some.injEq, Xr.ex, Ex.mk.injEq] at this
          exact this
        obtain ⟨xa, xc, hxv, hxl, _⟩ := (hA.data x (List.mem_of_getElem? hp)).shape
        obtain ⟨ya, yc, hyv, hyl, _⟩ := (hB.data y (List.mem_of_getElem? hq)).shape
        rw [hxv] at q2
        rw [hyv] at r2
        have k1 : ∀ nd, (convert 34 9 (.slice xa x.data.length xc)).run Tryd.prog (wr.drewN nd) = .ok (.string (strOfNums x.data)) (wr.drewN nd) := fun nd => conv_any _ _ _ _ _ rfl (hxl.drewN nd)
        have k2 : ∀ nd, (convert 34 9 (.slice ya y.data.length yc)).run Tryd.prog (wr.drewN nd) = .ok (.string (strOfNums y.data)) (wr.drewN nd) := fun nd => conv_any _ _ _ _ _ rfl (hyl.drewN nd)
        have HD : Hid (x.data = y.data → strOfNums x.data = strOfNums y.data) := fun h => by rw [h]
        clear hp hq hA hB hxl hyl hxv hyv
        generalize strOfNums x.data = S1 at *
        generalize strOfNums y.data = S2 at *
        generalize x.tag = t1 at *
        generalize y.tag = t2 at *
        by_cases e1 : t1 = t2
        · subst e1
          have e0 : (t1 != t1) = false := by simp
          by_cases e2 : S1.toList = S2.toList
          · have e3 : (S1.toList == S2.toList) = true := by simp [e2]
            go_wp2_with fail
            go_quiet (fail)
            go_wp2
            go_roundw
            case rel => exact ⟨k + 1, by omega, by go_num, below_drewN' HBe.out _⟩
            case measure => simp [intOf]; omega
          · have HV : Hid (¬ l.map Xr.ex = m.map Xr.ex) := fun h => e2 (by rw [HD.out (HQ.out h).2])
            have e3 : (S1.toList == S2.toList) = false := by simp [e2]
            clear HQ HD
            go_wp2_with fail
            go_quiet (fail)
            go_wp2
            go_ret
            exact ⟨_, rfl, fun h => absurd h HV.out, below_drewN' HBe.out _⟩
        · have HV : Hid (¬ l.map Xr.ex = m.map Xr.ex) := fun h => e1 (HQ.out h).1
          have e3 : (t1 != t2) = true := by simp [e1]
          have e4 : (t1 == t2) = false := by simp [e1]
          clear HQ HD
          go_wp2_with fail
          go_quiet (fail)
          go_wp2
          go_ret
          exact ⟨_, rfl, fun h => absurd h HV.out, below_drewN' HBe.out _⟩
      · have hkn : k = l.length := by omega
        subst hkn
        go_wp2
        go_ret
        exact ⟨true, rfl, fun _ => rfl, HBe.out⟩
  · have hl' : ¬ (l.length : Int) = (m.length : Int) := by omega
    have HV : Hid (¬ l.map Xr.ex = m.map Xr.ex) := fun h => hl (by have := congrArg List.length h; simpa using this)
    go_wp2
    go_ret
    exact ⟨_, rfl, fun h => absurd h HV.out, Below.refl _ _⟩

end Go.Proofs.YtdfdaambfihjaaaDoor

namespace Go.Proofs.YtdfdaambfihjaaaDoor

/-- An append of what lies at an address, as one step of a region that draws. -/
theorem step_append_at {P : Program} {ops : Array Oper} {o : Oper} {a : Act} {w : World} {K : Act → World → Prop} {Q : Exit → Act → World → Prop} {E : Prop}
    (hg : o.guard = none) (s x : Operand) (t : TypeId) (hop : o.op = Op.call { callee := Callee.builtin Builtin.append, args := #[s, x], argTypes := #[t, t] })
    (base : Nat) (e : TypeId) (i : TypeInfo) (z : Value) (size bytes : Nat) (ht : P.underlying t = some (.slice e)) (hi : P.info? e = some i) (hz : i.zero = some z)
    (hsize : i.size = size) (hby : i.bytes = bytes) (hzs : z.cells.size = size) (hsz : 0 < size)
    (v : Value) (n : Nat) (xs : List Value) (hs : a.eval s = v) (hown : w.ownsRow base e size v n xs)
    (ad : Addr) (m c : Nat) (news : List Value) (hx : a.eval x = .slice (some ad) m c) (hl : news.length = m * size) (hnews : ∀ j u, news[j]? = some u → w.cell? (ad.add j) = some u) (h1 : ∀ u ∈ news, u.oneCell' = true)
    (h63 : n + m ≤ maxLen) (hbytes : (n + m) * bytes ≤ 140737488355328) (hbase : base ≤ w.heap.size)
    (hK : ∀ v' w', w'.ownsRow base e size v' (n + m) (xs ++ news) → w.grownBy w' v.ownBlock → (v'.ownBlock = v.ownBlock ∨ v'.ownBlock = some w.heap.size) → K (a.put o.dst v') w') :
    if Region.wanted o (yielded ops a.tmps) = true then Oper.wp P o a w K Q else E := by
  have hw : Region.wanted o (yielded ops a.tmps) = true := by simp [Region.wanted, hg]
  rw [if_pos hw]
  obtain ⟨v', w', hrun, r2, r3, _, r5⟩ := run_append_own_at (P := P) w base t o.type e i z size bytes ht hi hz hsize hby hzs hsz v n xs hown ad m c news hl hnews h1 h63 hbytes hbase
  unfold Oper.wp
  simp [execOp, hop, resolve, invoke, builtin, hs, hx, hrun, Result.andThen]
  exact hK v' w' r2 r3 r5

end Go.Proofs.YtdfdaambfihjaaaDoor

namespace Go.Proofs.YtdfdaambfihjaaaDoor

/-- No operation defers. -/
def noDefer (ops : Array Oper) : Bool := ops.all fun o => match o.op with | .defer _ => false | _ => true
end Go.Proofs.YtdfdaambfihjaaaDoor
