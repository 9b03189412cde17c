import Derived.Test.YtkkmoplijicmpaeDoorCur
import Derived.Deep.MidRow
import Derived.Laws.Tables
import Derived.BigRegion
import Derived.Test.YtkkmoplijicmpaeDoorLex29
import Derived.Laws.OwnMore
import Derived.Test.YtkkmoplijicmpaeDoorMay
import Derived.WalkSmall
import Derived.Test.YtkkmoplijicmpaeDoorGat
import Derived.Laws.CopyOwn
namespace Go.Proofs.YtkkmoplijicmpaeDoor
open Go.RowKit


end Go.Proofs.YtkkmoplijicmpaeDoor

namespace Go.Proofs.YtkkmoplijicmpaeDoor
open Go.RowKit


/-- A segment that lies in memory of its own: its lists' blocks, Head's ahead of B1, those of Data and Claims from there up to B2, Tail's behind. -/
structure SOwn (w : World) (base : Nat) (s : Sg) (hv tv dv cv : Value) (hx tx : List Xr) (B1 B2 : Nat) : Prop where
  le1 : base ≤ B1
  le2 : B1 ≤ B2
  head : XOwn w base hv hx
  headLt : ∀ k, (hv.ownBlock = some k ∨ ∃ x ∈ hx, x.val.ownBlock = some k) → k < B1
  headEq : s.head = hx.map Xr.ex
  data : w.ownsRow B1 5 1 dv s.data.length (s.data.map (Value.int .u8))
  dataLt : ∀ k, dv.ownBlock = some k → k < B2
  dataB : Bytey s.data
  dataS : s.data.length ≤ 70000
  clm : w.ownsRow B1 36 2 cv s.clm.length (s.clm.flatMap spc)
  clmLt : ∀ k, cv.ownBlock = some k → k < B2
  clmS : s.clm.length ≤ 1000
  only : dv.ownBlock = none ∨ cv.ownBlock = none
  tail : XOwn w B2 tv tx
  tailEq : s.tail = tx.map Xr.ex
  few : hx.length ≤ 15 ∧ tx.length ≤ 15

theorem XOwn.lt {w : World} {base : Nat} {v : Value} {xs : List Xr} (h : XOwn w base v xs) : ∀ k, (v.ownBlock = some k ∨ ∃ x ∈ xs, x.val.ownBlock = some k) → base ≤ k ∧ k < w.heap.size := by
  rintro k (hk | ⟨x, hx, hk⟩)
  · exact h.row.lt k hk
  · exact (h.data x hx).row.lt k hk

/-- What came to the place behind Head: the segment's other fields, in memory from B1 on. -/
structure Mid (w : World) (B1 : Nat) (s : Sg) (dv cv : Value) : Prop where
  data : w.ownsRow B1 5 1 dv s.data.length (s.data.map (Value.int .u8))
  dataB : Bytey s.data
  dataS : s.data.length ≤ 70000
  clm : w.ownsRow B1 36 2 cv s.clm.length (s.clm.flatMap spc)
  clmS : s.clm.length ≤ 1000
  only : dv.ownBlock = none ∨ cv.ownBlock = none

theorem XOwn.put {w : World} {b i : Nat} {u : Value} {base : Nat} {v : Value} {xs : List Xr} (h : XOwn w base v xs) (hb : b < base) : XOwn (w.setCell ⟨b, i, none⟩ u) base v xs := h.keep (grown_set _ _ _ _) (by simp; omega)

end Go.Proofs.YtkkmoplijicmpaeDoor

namespace Go.Proofs.YtkkmoplijicmpaeDoor
open Go.RowKit

/-- A segment as a value. -/
def sv (s : Sg) (hv tv dv cv : Value) : Value := .agg #[.int .i64 s.typ, .int .i64 s.org, .int .i64 s.num, hv, tv, .int .i64 s.srv, .int .i64 s.off, dv, .int .i64 s.chk, .int .i64 s.rep, .int .i64 s.upp, .int .i64 s.low, cv, .int .i64 s.rsn]

def ParsePost (zs : List Int) (w : World) (e : Ending) (w' : World) : Prop :=
  ∃ (hv tv dv cv : Value) (hx tx : List Xr) (B1 B2 : Nat), e = .returned (.tuple #[sv (prs zs).2 hv tv dv cv, .int .i64 (prs zs).1]) ∧ SOwn w' w.heap.size (prs zs).2 hv tv dv cv hx tx B1 B2 ∧ Below w.heap.size w w'

/-- The answer's variable, and the reader, as they begin. -/
abbrev zO : Obj := .cells #[.int .i64 0, .int .i64 0, .int .i64 0, .slice none 0 0, .slice none 0 0, .int .i64 0, .int .i64 0, .slice none 0 0, .int .i64 0, .int .i64 0, .int .i64 0, .int .i64 0, .slice none 0 0, .int .i64 0] 81
theorem below_drewN (B : Nat) (w : World) (n : Nat) : Below B w (w.drewN n) := ⟨rfl, rfl, rfl, Nat.le_refl _, fun _ _ => rfl⟩

theorem SOwn.keep {w w' : World} {base base' : Nat} {s : Sg} {hv tv dv cv : Value} {hx tx : List Xr} {B1 B2 : Nat} {row : Option Nat} (h : SOwn w base s hv tv dv cv hx tx B1 B2) (hg : w.grownBy w' row) (hr : ∀ k, row = some k → k < base) (hb : base' ≤ base) : SOwn w' base' s hv tv dv cv hx tx B1 B2 := by
  have l1 := h.le1
  have l2 := h.le2
  have hh := h.head.keep hg hr
  have ht := h.tail.keep hg (fun k hk => by have := hr k hk; omega)
  refine ⟨by omega, l2, ⟨own_base hh.row hb, fun x hx => ⟨own_base (hh.data x hx).row hb, (hh.data x hx).bytes, (hh.data x hx).small, (hh.data x hx).tag⟩, hh.apart, hh.nodup⟩, h.headLt, h.headEq, own_keep h.data hg (fun k hk e => ?_), h.dataLt, h.dataB, h.dataS, own_keep h.clm hg (fun k hk e => ?_), h.clmLt, h.clmS, h.only, ht, h.tailEq, h.few⟩
  · have := (h.data.lt k hk).1; have := hr k e; omega
  · have := (h.clm.lt k hk).1; have := hr k e; omega
/-- The zero segment stored over the zero segment. -/
def chz (W : World) (g : Nat) : World := ((((((((((((((W.setCell ⟨g, 0, none⟩ (.int .i64 0)).setCell ⟨g, 1, none⟩ (.int .i64 0)).setCell ⟨g, 2, none⟩ (.int .i64 0)).setCell ⟨g, 3, none⟩ (.slice none 0 0)).setCell ⟨g, 4, none⟩ (.slice none 0 0)).setCell ⟨g, 5, none⟩ (.int .i64 0)).setCell ⟨g, 6, none⟩ (.int .i64 0)).setCell ⟨g, 7, none⟩ (.slice none 0 0)).setCell ⟨g, 8, none⟩ (.int .i64 0)).setCell ⟨g, 9, none⟩ (.int .i64 0)).setCell ⟨g, 10, none⟩ (.int .i64 0)).setCell ⟨g, 11, none⟩ (.int .i64 0)).setCell ⟨g, 12, none⟩ (.slice none 0 0)).setCell ⟨g, 13, none⟩ (.int .i64 0))
end Go.Proofs.YtkkmoplijicmpaeDoor

namespace Go.Proofs.YtkkmoplijicmpaeDoor
open Go.RowKit

/-- The document's example. -/
def smp : Sg := ⟨3, 1, 5, [], [], 7, 0, [9, 9], 1, 0, 0, 0, [], 0⟩
/-- It, with its bytes in block g. -/
abbrev smpV (g : Nat) : Value := .agg #[.int .i64 3, .int .i64 1, .int .i64 5, .slice none 0 0, .slice none 0 0, .int .i64 7, .int .i64 0, .slice (some ⟨g, 0, none⟩) 2 2, .int .i64 1, .int .i64 0, .int .i64 0, .int .i64 0, .slice none 0 0, .int .i64 0]
abbrev smpO (g : Nat) : Obj := .cells #[.int .i64 3, .int .i64 1, .int .i64 5, .slice none 0 0, .slice none 0 0, .int .i64 7, .int .i64 0, .slice (some ⟨g, 0, none⟩) 2 2, .int .i64 1, .int .i64 0, .int .i64 0, .int .i64 0, .slice none 0 0, .int .i64 0] 81

end Go.Proofs.YtkkmoplijicmpaeDoor

namespace Go.Proofs.YtkkmoplijicmpaeDoor
open Go.RowKit

theorem Grew.blk {w w' : World} {v v' : Value} {g : Nat} {k : IntKind} {t : TypeId} {xs : List Int} (h : Grew w w' v v') (hb : Blk k w g t xs) (hne : v.ownBlock ≠ some g) : Blk k w' g t xs ∧ v'.ownBlock ≠ some g :=
  ⟨hb.of_eq (h.grown.block g hb.lt (fun e => hne e.symm)), fun e => by
    rcases h.stays g e with e' | e'
    · exact hne e'
    · have := hb.lt; omega⟩

def wantB : List Int := [3, 1, 5, 0, 7, 0, 2, 1, 0, 9, 9]

def FormPost (w : World) (e : Ending) (w' : World) : Prop := ∃ g c, e = .returned (.slice (some ⟨g, 0, none⟩) 11 c) ∧ w'.ownsRow w.heap.size 5 1 (.slice (some ⟨g, 0, none⟩) 11 c) 11 (wantB.map (Value.int .u8)) ∧ Below w.heap.size w w'

/-- Print of the example: its bytes, in new memory. -/
def PrintPost (w : World) (e : Ending) (w' : World) : Prop := ∃ g c, e = .returned (.tuple #[.slice (some ⟨g, 0, none⟩) 11 c, .int .i64 0]) ∧ w'.ownsRow w.heap.size 5 1 (.slice (some ⟨g, 0, none⟩) 11 c) 11 (wantB.map (Value.int .u8)) ∧ Below w.heap.size w w'

end Go.Proofs.YtkkmoplijicmpaeDoor

namespace Go.Proofs.YtkkmoplijicmpaeDoor
open Go.RowKit

theorem conv_any (W : World) (a : Option Addr) (n cap : Nat) (xs : List Int) (hl : xs.length = n) (hc : Lies .u8 W a xs) :
    (convert 34 9 (.slice a n cap)).run Tryd.prog W = .ok (.string (strOfNums xs)) W := by
  rcases hc with rfl | ⟨b, off, rfl, h⟩
  · obtain rfl : n = 0 := by simpa using hl.symm
    cases a with
    | none => exact run_convert_bytes_nil (P := Tryd.prog) W 34 5 Tryd.underlying34 Tryd.underlying5 0 cap 9 Tryd.underlying9
    | some x =>
      have hl0 := run_loadCells_list (P := Tryd.prog) W x ([].map (Value.int .u8)) (fun j v hj => by simp at hj)
      rw [run_convert_bytes_string W 34 9 5 _ 0 cap Tryd.underlying34 Tryd.underlying5 Tryd.underlying9, run_bytesToString W x 0 cap [] hl0]
      rfl
  · exact run_convert_bytes_arg (P := Tryd.prog) W 34 5 Tryd.underlying34 Tryd.underlying5 b off n cap xs hl (fun i hi => h i (by omega)) 9 Tryd.underlying9

abbrev smpWO (a1 a2 a3 : Option Addr) (c1 c2 c3 g cd : Nat) : Obj := .cells #[.int .i64 3, .int .i64 1, .int .i64 5, .slice a1 0 c1, .slice a2 0 c2, .int .i64 7, .int .i64 0, .slice (some ⟨g, 0, none⟩) 2 cd, .int .i64 1, .int .i64 0, .int .i64 0, .int .i64 0, .slice a3 0 c3, .int .i64 0] 81
abbrev smpW (a1 a2 a3 : Option Addr) (c1 c2 c3 g cd : Nat) : Value := .agg #[.int .i64 3, .int .i64 1, .int .i64 5, .slice a1 0 c1, .slice a2 0 c2, .int .i64 7, .int .i64 0, .slice (some ⟨g, 0, none⟩) 2 cd, .int .i64 1, .int .i64 0, .int .i64 0, .int .i64 0, .slice a3 0 c3, .int .i64 0]

def wantO : Obj := .cells #[.int .u8 3, .int .u8 1, .int .u8 5, .int .u8 0, .int .u8 7, .int .u8 0, .int .u8 2, .int .u8 1, .int .u8 0, .int .u8 9, .int .u8 9] 5

end Go.Proofs.YtkkmoplijicmpaeDoor

namespace Go.Proofs.YtkkmoplijicmpaeDoor
open Go.RowKit

theorem Lies.drewN {k : IntKind} {w : World} {a : Option Addr} {zs : List Int} (h : Lies k w a zs) (nd : Nat) : Lies k (w.drewN nd) a zs := by
  rcases h with h | ⟨b, off, ha, h⟩
  · exact .inl h
  · exact .inr ⟨b, off, ha, fun i hi => h i hi⟩
theorem below_drewN' {B : Nat} {w wr : World} (h : Below B w wr) (n : Nat) : Below B w (wr.drewN n) := ⟨h.os, h.tape, h.output, h.size, h.block⟩

/-- What a comparison answers: true where the two say the same. -/
def SmPost (p : Prop) (w : World) (e : Ending) (w' : World) : Prop := ∃ q : Bool, e = .returned (.bool q) ∧ (p → q = true) ∧ Below w.heap.size w w'

theorem drop_step {α : Type} {l m : List α} (k : Nat) {p q : α} (hp : l[k]? = some p) (hq : m[k]? = some q) : (l.drop k = m.drop k) ↔ (p = q ∧ l.drop (k + 1) = m.drop (k + 1)) := by
  rw [drop_get l k p hp, drop_get m k q hq]; simp
theorem get_one {α : Type} (l : List α) (k : Nat) (h : k < l.length) : ∃ x, l[k]? = some x := ⟨l[k], List.getElem?_eq_getElem h⟩

theorem CIn.at {w : World} {a : Option Addr} {c n : Nat} {cl : List (Int × Int)} (h : CIn w (.slice a n c) cl) {k : Nat} {p : Int × Int} (hk : cl[k]? = some p) : ∃ g off, a = some ⟨g, off, none⟩ ∧ w.cell? ⟨g, off + k * 2, none⟩ = some (.int .i64 p.1) ∧ w.cell? ⟨g, off + k * 2 + 1, none⟩ = some (.int .i64 p.2) := by
  obtain ⟨a', c', hv, hs⟩ := h.shape
  simp only [Value.slice.injEq] at hv
  obtain ⟨rfl, rfl, rfl⟩ := hv
  rcases hs with rfl | ⟨g, off, ha, h⟩
  · simp at hk
  · exact ⟨g, off, ha, h k p hk⟩
theorem XIn.at {w : World} {a : Option Addr} {c n : Nat} {xs : List Xr} (h : XIn w (.slice a n c) xs) {k : Nat} {x : Xr} (hk : xs[k]? = some x) : ∃ g off, a = some ⟨g, off, none⟩ ∧ w.cell? ⟨g, off + k * 2, none⟩ = some (.int .i64 x.tag) ∧ w.cell? ⟨g, off + k * 2 + 1, none⟩ = some x.val := by
  obtain ⟨a', c', hv, hs⟩ := h.shape
  simp only [Value.slice.injEq] at hv
  obtain ⟨rfl, rfl, rfl⟩ := hv
  rcases hs with rfl | ⟨g, off, ha, h⟩
  · simp at hk
  · exact ⟨g, off, ha, h k x hk⟩

set_option maxHeartbeats 1000000 in
theorem sameSpans_gen (va vb : Value) (l m : List (Int × Int)) (w : World) (h : CIn w va l) (h' : CIn w vb m) :
    Calls Tryd.prog 33 #[va, vb] w (SmPost (l = m) w) := by
  obtain ⟨a, c, rfl, _⟩ := h.shape
  obtain ⟨b, d, rfl, _⟩ := h'.shape
  have hsm := h.small
  have HS : Hid (CIn w (.slice a l.length c) l) := h
  have HS' : Hid (CIn w (.slice b m.length d) m) := h'
  clear h h'
  go_enter Tryd.func33, Tryd.ntmps33
  by_cases hl : l.length = m.length
  · have HL : Hid (l.length = m.length) := hl
    have hl' : (l.length : Int) = (m.length : Int) := by omega
    rw [← hl] at hl' ⊢
    clear hl
    go_wp2_with fail
    go_loopw [5] (fun i wr => ∃ (k : Nat), k ≤ l.length ∧ i = .int .i64 k ∧ Below w.heap.size w wr ∧ ((l = m) → l.drop k = m.drop k)) (fun i _ => l.length - (intOf i).toNat)
    case atStart => exact ⟨0, by omega, rfl, Below.refl _ _, fun h => by rw [h]⟩
    case round =>
      obtain ⟨k, hk, rfl, hbe, hrt⟩ := hrel
      have HBe : Hid (Below w.heap.size w wr) := hbe
      have HR : Hid ((l = m) → l.drop k = m.drop k) := hrt
      clear hbe hrt
      by_cases hlt : k < l.length
      · have hlt' : (k : Int) < (l.length : Int) := by omega
        obtain ⟨p, hp⟩ := get_one l k hlt
        obtain ⟨q, hq⟩ := get_one m k (by have := HL.out; omega)
        obtain ⟨g, off, rfl, q1, q2⟩ := (HS.out.below HBe.out).at hp
        obtain ⟨g', off', rfl, r1, r2⟩ := (HS'.out.below HBe.out).at hq
        have HQ : Hid ((l = m) → p = q ∧ l.drop (k + 1) = m.drop (k + 1)) := fun h => (drop_step k hp hq).mp (HR.out h)
        clear HR hp hq
        obtain ⟨p1, p2⟩ := p
        obtain ⟨u1, u2⟩ := q
        simp only at q1 q2 r1 r2
        by_cases e : p1 = u1 ∧ p2 = u2
        · obtain ⟨rfl, rfl⟩ := e
          have HR3 : Hid ((l = m) → l.drop (k + 1) = m.drop (k + 1)) := fun h => (HQ.out h).2
          clear HQ
          go_wp2_with fail
          go_quiet (fail)
          go_wp2
          go_roundw
          case rel => exact ⟨k + 1, by omega, by go_num, below_drewN' HBe.out _, HR3.out⟩
          case measure => simp [intOf]; omega
        · have HV : Hid (¬ l = m) := fun h => by have := (HQ.out h).1; simp only [Prod.mk.injEq] at this; exact e this
          clear HQ
          by_cases e1 : p1 = u1
          · subst e1
            have e2 : ¬ p2 = u2 := fun h => e ⟨rfl, h⟩
            go_wp2_with fail
            go_quiet (fail)
            go_wp2
            go_ret
            exact ⟨_, rfl, fun h => absurd h HV.out, below_drewN' HBe.out _⟩
          · go_wp2_with fail
            go_quiet (fail)
            go_wp2
            go_ret
            exact ⟨_, rfl, fun h => absurd h HV.out, below_drewN' HBe.out _⟩
      · have hkn : k = l.length := by omega
        clear HR
        subst hkn
        go_wp2
        go_ret
        exact ⟨true, rfl, fun _ => rfl, HBe.out⟩
  · have hl' : ¬ (l.length : Int) = (m.length : Int) := by omega
    have HV : Hid (¬ l = m) := fun h => hl (by rw [h])
    go_wp2
    go_ret
    exact ⟨_, rfl, fun h => absurd h HV.out, Below.refl _ _⟩

set_option maxHeartbeats 2000000 in
theorem sameExts_gen (va vb : Value) (l m : List Xr) (w : World) (h : XIn w va l) (h' : XIn w vb m) :
    Calls Tryd.prog 93 #[va, vb] w (SmPost (l.map Xr.ex = m.map Xr.ex) w) := by
  obtain ⟨a, c, rfl, _⟩ := h.shape
  obtain ⟨b, d, rfl, _⟩ := h'.shape
  have hsm := h.small
  have HS : Hid (XIn w (.slice a l.length c) l) := h
  have HS' : Hid (XIn w (.slice b m.length d) m) := h'
  clear h h'
  go_enter Tryd.func93, Tryd.ntmps93
  by_cases hl : l.length = m.length
  · have HL : Hid (l.length = m.length) := hl
    have hl' : (l.length : Int) = (m.length : Int) := by omega
    rw [← hl] at hl' ⊢
    clear hl
    go_wp2_with fail
    go_loopw [5] (fun i wr => ∃ (k : Nat), k ≤ l.length ∧ i = .int .i64 k ∧ Below w.heap.size w wr) (fun i _ => l.length - (intOf i).toNat)
    case atStart => exact ⟨0, by omega, rfl, Below.refl _ _⟩
    case round =>
      obtain ⟨k, hk, rfl, hbe⟩ := hrel
      have HBe : Hid (Below w.heap.size w wr) := hbe
      clear hbe
      by_cases hlt : k < l.length
      · have hlt' : (k : Int) < (l.length : Int) := by omega
        obtain ⟨x, hp⟩ := get_one l k hlt
        obtain ⟨y, hq⟩ := get_one m k (by have := HL.out; omega)
        have hA := HS.out.below HBe.out
        have hB := HS'.out.below HBe.out
        obtain ⟨g, off, rfl, q1, q2⟩ := hA.at hp
        obtain ⟨g', off', rfl, r1, r2⟩ := hB.at hq
        have HQ : Hid ((l.map Xr.ex = m.map Xr.ex) → x.tag = y.tag ∧ x.data = y.data) := fun h => by
          have := congrArg (fun z => z[k]?) h
          simp only [List.getElem?_map, hp, hq, Option.map_some, Option.some.injEq, Xr.ex, Ex.mk.injEq] at this
          exact this
        obtain ⟨xa, xc, hxv, hxl, _⟩ := (hA.data x (List.mem_of_getElem? hp)).shape
        obtain ⟨ya, yc, hyv, hyl, _⟩ := (hB.data y (List.mem_of_getElem? hq)).shape
        rw [hxv] at q2
        rw [hyv] at r2
        have k1 : ∀ nd, (convert 34 9 (.slice xa x.data.length xc)).run Tryd.prog (wr.drewN nd) = .ok (.string (strOfNums x.data)) (wr.drewN nd) := fun nd => conv_any _ _ _ _ _ rfl (hxl.drewN nd)
        have k2 : ∀ nd, (convert 34 9 (.slice ya y.data.length yc)).run Tryd.prog (wr.drewN nd) = .ok (.string (strOfNums y.data)) (wr.drewN nd) := fun nd => conv_any _ _ _ _ _ rfl (hyl.drewN nd)
        have HD : Hid (x.data = y.data → strOfNums x.data = strOfNums y.data) := fun h => by rw [h]
        clear hp hq hA hB hxl hyl hxv hyv
        generalize strOfNums x.data = S1 at *
        generalize strOfNums y.data = S2 at *
        generalize x.tag = t1 at *
        generalize y.tag = t2 at *
        by_cases e1 : t1 = t2
        · subst e1
          have e0 : (t1 != t1) = false := by simp
          by_cases e2 : S1.toList = S2.toList
          · have e3 : (S1.toList == S2.toList) = true := by simp [e2]
            go_wp2_with fail
            go_quiet (fail)
            go_wp2
            go_roundw
            case rel => exact ⟨k + 1, by omega, by go_num, below_drewN' HBe.out _⟩
            case measure => simp [intOf]; omega
          · have HV : Hid (¬ l.map Xr.ex = m.map Xr.ex) := fun h => e2 (by rw [HD.out (HQ.out h).2])
            have e3 : (S1.toList == S2.toList) = false := by simp [e2]
            clear HQ HD
            go_wp2_with fail
            go_quiet (fail)
            go_wp2
            go_ret
            exact ⟨_, rfl, fun h => absurd h HV.out, below_drewN' HBe.out _⟩
        · have HV : Hid (¬ l.map Xr.ex = m.map Xr.ex) := fun h => e1 (HQ.out h).1
          have e3 : (t1 != t2) = true := by simp [e1]
          have e4 : (t1 == t2) = false := by simp [e1]
          clear HQ HD
          go_wp2_with fail
          go_quiet (fail)
          go_wp2
          go_ret
          exact ⟨_, rfl, fun h => absurd h HV.out, below_drewN' HBe.out _⟩
      · have hkn : k = l.length := by omega
        subst hkn
        go_wp2
        go_ret
        exact ⟨true, rfl, fun _ => rfl, HBe.out⟩
  · have hl' : ¬ (l.length : Int) = (m.length : Int) := by omega
    have HV : Hid (¬ l.map Xr.ex = m.map Xr.ex) := fun h => hl (by have := congrArg List.length h; simpa using this)
    go_wp2
    go_ret
    exact ⟨_, rfl, fun h => absurd h HV.out, Below.refl _ _⟩

end Go.Proofs.YtkkmoplijicmpaeDoor

namespace Go.Proofs.YtkkmoplijicmpaeDoor.C
open Go.RowKit

/-- One span is written over another. -/
theorem spc_put : ∀ (L : List Sp) (k : Nat) (a b : Int), ((L.flatMap spc).set (k * 2) (.int .i64 a)).set (k * 2 + 1) (.int .i64 b) = (L.set k (a, b)).flatMap spc
  | [], k, a, b => by simp
  | s :: r, 0, a, b => by simp [spc]
  | s :: r, k + 1, a, b => by
    have := spc_put r k a b
    rw [List.flatMap_cons, List.set_cons_succ, List.flatMap_cons, ← this]
    rw [List.set_append_right _ _ (by simp [spc]; omega), List.set_append_right _ _ (by simp [spc]; omega)]
    congr 1
    simp only [spc, List.length_cons, List.length_nil]
    rw [show (k + 1) * 2 - (0 + 1 + 1) = k * 2 from by omega, show (k + 1) * 2 + 1 - (0 + 1 + 1) = k * 2 + 1 from by omega]

theorem SOwn.put {W : World} {base g cap n k : Nat} {L : List Sp} (h : SOwn W base (.slice (some ⟨g, 0, none⟩) n cap) L) (a b : Int) : SOwn ((W.setCell ⟨g, k * 2, none⟩ (.int .i64 a)).setCell ⟨g, k * 2 + 1, none⟩ (.int .i64 b)) base (.slice (some ⟨g, 0, none⟩) n cap) (L.set k (a, b)) := by
  have hn : n = L.length := by
    obtain ⟨a', c', hv⟩ := h.shape
    simp only [Value.slice.injEq] at hv; exact hv.2.1
  subst hn
  have h1 := (World.ownsRow.stored h (k * 2) (.int .i64 a)).1
  have h2 := (World.ownsRow.stored h1 (k * 2 + 1) (.int .i64 b)).1
  rw [spc_put] at h2
  unfold SOwn
  rw [List.length_set]
  exact h2
theorem SOwn.lenEq {W : World} {base n cap : Nat} {a : Option Addr} {L : List Sp} (h : SOwn W base (.slice a n cap) L) : L.length = n := by
  obtain ⟨a', c', hv⟩ := h.shape
  simp only [Value.slice.injEq] at hv; exact hv.2.1.symm
/-- Its cells, where it has a place k. -/
theorem SOwn.cells {W : World} {base g cap n k : Nat} {L : List Sp} {p : Sp} (h : SOwn W base (.slice (some ⟨g, 0, none⟩) n cap) L) (hk : L[k]? = some p) : W.cell? ⟨g, k * 2, none⟩ = some (.int .i64 p.1) ∧ W.cell? ⟨g, k * 2 + 1, none⟩ = some (.int .i64 p.2) ∧ W.frozen? ⟨g, k * 2, none⟩ = false ∧ W.frozen? ⟨g, k * 2 + 1, none⟩ = false := by
  have hn := h.lenEq
  subst hn
  have hkl : k < L.length := (List.getElem?_eq_some_iff.mp hk).1
  obtain ⟨q1, q2⟩ := spc_get L k p hk
  exact ⟨(World.ownsRow.cellAt h _ (by omega)).trans q1, (World.ownsRow.cellAt h _ (by omega)).trans q2, World.ownsRow.frozenAt h _, World.ownsRow.frozenAt h _⟩

theorem made_spans (n : Nat) : (madeCells (Value.cells (.agg #[.int .i64 0, .int .i64 0])) (n * 2)).toList = (List.replicate n ((0 : Int), (0 : Int))).flatMap spc := by
  apply List.ext_getElem?
  intro j
  by_cases hj : j < n * 2
  · have hr : (List.replicate n ((0 : Int), (0 : Int)))[j / 2]? = some (0, 0) := by rw [List.getElem?_replicate, if_pos (by omega)]
    obtain ⟨q1, q2⟩ := spc_get _ _ _ hr
    have e0 : (madeCells (Value.cells (.agg #[.int .i64 0, .int .i64 0])) (n * 2)).toList[j]? = some (.int .i64 0) := by
      simp only [madeCells, Value.cells]
      rcases Nat.mod_two_eq_zero_or_one j with h | h <;> simp [hj, h]
    rw [e0]
    rcases Nat.mod_two_eq_zero_or_one j with h | h
    · rw [show j / 2 * 2 = j from by omega] at q1; exact q1.symm
    · rw [show j / 2 * 2 + 1 = j from by omega] at q2; exact q2.symm
  · rw [List.getElem?_eq_none (by simp [madeCells]; omega), List.getElem?_eq_none (by rw [spc_len]; simp; omega)]

def mkd (l : List Sp) : List Sp := l ++ [(-77, -77), (-77, -77)]
/-- Another set of as many spans. -/
def spd (n : Nat) : List Sp := (List.range n).map fun (i : Nat) => ((4 * (i : Int) + 1, 4 * (i : Int) + 3) : Sp)
end Go.Proofs.YtkkmoplijicmpaeDoor.C

namespace Go.Proofs.YtkkmoplijicmpaeDoor.C
open Go.RowKit

/-- copy of elements of two cells. -/
theorem run_copy_two {P : Program} (w : World) (dT sT ty elem : TypeId) (g dLen dCap : Nat) (a : Addr) (sLen sCap n : Nat) (cur : Array Value) (t : TypeId) (cs : List Value)
    (hu : P.underlying dT = some (.slice elem)) (hs : (P.info? elem).map (·.size) = some 2)
    (hg : w.heap[g]? = some (.cells cur t (0, 0))) (hn : n = Nat.min sLen dLen) (hc : cs.length = n * 2)
    (hsrc : ∀ j v, cs[j]? = some v → w.cell? (a.add j) = some v) (hfit : cs.length ≤ cur.size) (h1 : ∀ v ∈ cs, v.oneCell' = true) :
    (Builtin.copy_ #[dT, sT] ty #[.slice (some ⟨g, 0, none⟩) dLen dCap, .slice (some a) sLen sCap]).run P w =
      .ok (goInt n) (w.setRow g (cs ++ cur.toList.drop cs.length).toArray) := by
  have hl := run_loadCells_list (P := P) w a cs hsrc
  have hst := run_storeCells_at P g 0 t cs 0 cur w hg (by simpa using hfit) h1
  cases hq : P.info? elem with
  | none => simp [hq] at hs
  | some i =>
    have hi : i.size = 2 := by simpa [hq] using hs
    simp [Builtin.copy_, run_underlying hu, Builtin.lenOf, Builtin.firstCells, sizeOf, typeInfo, hq, hi, ← hn, ← hc, hl, hst]
theorem run_copy_zero {P : Program} (w : World) (dT sT ty elem : TypeId) (d : Addr) (dLen dCap : Nat) (s : Option Addr) (sCap : Nat)
    (hu : P.underlying dT = some (.slice elem)) (hs : (P.info? elem).map (·.size) = some 2) :
    (Builtin.copy_ #[dT, sT] ty #[.slice (some d) dLen dCap, .slice s 0 sCap]).run P w = .ok (goInt 0) w := by
  have hl := fun a : Addr => run_loadCells_list (P := P) w a [] (fun j v h => by simp at h)
  cases hq : P.info? elem with
  | none => simp [hq] at hs
  | some i =>
    cases s with
    | none => simp [Builtin.copy_, run_underlying hu, Builtin.lenOf, Builtin.firstCells, sizeOf, typeInfo, hq, storeCells]
    | some a =>
      have := hl a
      simp only [List.length_nil] at this
      simp [Builtin.copy_, run_underlying hu, Builtin.lenOf, Builtin.firstCells, sizeOf, typeInfo, hq, this, storeCells]

theorem spa_cells {W : World} {a : Addr} {l : List Sp} (h : Spa W (some a) l) (hne : l ≠ []) : ∀ j v, (l.flatMap spc)[j]? = some v → W.cell? (a.add j) = some v := by
  rcases h with h | ⟨g, off, ha, hc⟩
  · exact absurd h hne
  · simp only [Option.some.injEq] at ha
    subst ha
    intro j v hj
    have hjl : j < (l.flatMap spc).length := (List.getElem?_eq_some_iff.mp hj).1
    rw [spc_len] at hjl
    obtain ⟨p, hp⟩ := get_some l (j / 2) (by omega)
    obtain ⟨q1, q2⟩ := spc_get l _ p hp
    obtain ⟨r1, r2⟩ := hc _ p hp
    have e : (⟨g, off, none⟩ : Addr).add j = ⟨g, off + j, none⟩ := by unfold Addr.add; split <;> simp_all
    rw [e]
    rcases Nat.mod_two_eq_zero_or_one j with h0 | h0
    · rw [show j / 2 * 2 = j by omega] at q1 r1
      rw [hj] at q1
      rw [r1, ← q1]
    · rw [show j / 2 * 2 + 1 = j by omega] at q2
      rw [show off + j / 2 * 2 + 1 = off + j by omega] at r2
      rw [hj] at q2
      rw [r2, ← q2]
theorem spc_one (l : List Sp) : ∀ u ∈ l.flatMap spc, u.oneCell' = true := by
  intro u hu
  obtain ⟨x, _, hx⟩ := List.mem_flatMap.mp hu
  simp only [spc, List.mem_cons, List.not_mem_nil, or_false] at hx
  rcases hx with rfl | rfl <;> rfl

/-- copy(dst, src) of spans: src's lie at dst's head. -/
theorem wpList_copy_spa {P : Program} {w : World} {ops : Array Oper} {rest : List Oper} {o : Oper} {act : Act} {Q : Exit → Act → World → Prop} (hgd : o.guard = none) (d s : Operand) (dT sT : TypeId)
    (ho : o.op = .call { callee := .builtin .copy, args := #[d, s], argTypes := #[dT, sT] }) (hu : P.underlying dT = some (.slice 36)) (hsz : (P.info? 36).map (·.size) = some 2)
    (g N cap base : Nat) (L0 l : List Sp) (a : Option Addr) (c : Nat) (hd : act.eval d = .slice (some ⟨g, 0, none⟩) N cap) (hs : act.eval s = .slice a l.length c)
    (hown : SOwn w base (.slice (some ⟨g, 0, none⟩) N cap) L0) (hspa : Spa w a l) (hl : l.length ≤ N)
    (h : ∀ w', SOwn w' base (.slice (some ⟨g, 0, none⟩) N cap) (l ++ L0.drop l.length) → w.grownBy w' (some g) → wpList P ops Q rest (act.put o.dst (goInt l.length)) w') :
    wpList P ops Q (o :: rest) act w := by
  have hN := hown.lenEq
  refine wpList_plain hgd fun K hK => ?_
  by_cases hne : l = []
  · subst hne
    have hrun := run_copy_zero (P := P) w dT sT o.type _ ⟨g, 0, none⟩ N cap a c hu hsz
    unfold Oper.wp
    simp [execOp, ho, resolve, invoke, builtin, hd, hs, hrun, Result.andThen]
    exact hK _ _ (h w (by simpa using hown) (World.grownBy.refl _ _))
  · have ha : ∃ ad, a = some ad := by
      rcases hspa with h0 | ⟨g', off', h0, _⟩
      · exact absurd h0 hne
      · exact ⟨_, h0⟩
    obtain ⟨ad, rfl⟩ := ha
    obtain ⟨hx, ⟨hv, _⟩ | ⟨g0, cap0, cur, hv, hb0, hg0, hn0, hm0, hc0, ht0⟩⟩ := id hown
    · cases hv
    simp only [Value.slice.injEq, Option.some.injEq, Addr.mk.injEq, and_true] at hv
    obtain ⟨rfl, hN', rfl⟩ := hv
    rw [hN] at hn0 ht0
    have hln : (l.flatMap spc).length = l.length * 2 := spc_len l
    have hrun := run_copy_two (P := P) w dT sT o.type 36 g N cap ad l.length c l.length cur 36 (l.flatMap spc) hu hsz hg0 (by simp [Nat.min_def]; omega) hln (spa_cells hspa hne) (by rw [hln]; omega) (spc_one l)
    generalize hX : l.flatMap spc = X at hrun hln
    unfold Oper.wp
    simp [execOp, ho, resolve, invoke, builtin, hd, hs, hrun, Result.andThen]
    refine hK _ _ (h _ ?_ ?_)
    · refine ⟨by rw [spc_len], .inr ⟨g, cap, _, ?_, hb0, setRow_heap w g _ _ _ _ hg0, ?_, hm0, ?_, ?_⟩⟩
      · congr 1; simp; omega
      · simp; omega
      · simp only [List.size_toArray, List.length_append, List.length_drop, Array.length_toList]
        omega
      · have e1 : (l ++ L0.drop l.length).length = N := by simp; omega
        rw [e1, List.flatMap_append, hX]
        have e2 : (L0.drop l.length).flatMap spc = (L0.flatMap spc).drop (l.length * 2) := by
          have : L0.flatMap spc = (L0.take l.length).flatMap spc ++ (L0.drop l.length).flatMap spc := by rw [← List.flatMap_append, List.take_append_drop]
          rw [this, List.drop_left' (by rw [spc_len]; simp; omega)]
        rw [e2, ← ht0, ← hln]
        rw [List.take_append, List.take_of_length_le (by rw [hln]; omega), List.drop_take]
    · refine ⟨rfl, rfl, rfl, by simp [World.setRow], fun j hj hne' => ?_⟩
      simp only [World.setRow]
      rw [Array.getElem?_modify, if_neg (fun e => hne' (by rw [e]))]

end Go.Proofs.YtkkmoplijicmpaeDoor.C
