import Derived.Test.YtcfodcioeefbeaaDoorOwns
import Derived.Test.YtcfodcioeefbeaaDoorRead
import Derived.Test.YtcfodcioeefbeaaDoorSegMath
import Derived.Deep.QuietTactic
import Derived.BigQuiet
import Derived.Maps.AppendAt
import Derived.Deep.RegionWith
import Derived.Deep.CutRange
namespace Go.Proofs.YtcfodcioeefbeaaDoor
open Go.RowKit

/-- The bytes that are read lie there, in another block than the reader's. -/
structure Src (w : World) (b : Nat) (a : Option Addr) (len cap : Nat) (zs : List Int) : Prop where
  bytes : Bytey zs
  length : zs.length = len
  small : len ≤ 8192
  room : len ≤ cap
  most : cap ≤ 9223372036854775807
  lies : Lies .u8 w a zs
  nil : a = none → len = 0 ∧ cap = 0
  apart : zs ≠ [] → ∀ x, a = some x → x.block < b

theorem lies_grown {k : IntKind} {w w' : World} {a : Option Addr} {zs : List Int} {row : Option Nat} (h : Lies k w a zs) (hg : w.grownBy w' row) (hr : zs ≠ [] → ∀ x, a = some x → some x.block ≠ row) : Lies k w' a zs := by
  by_cases hz : zs = []
  · exact .inl hz
  · rcases h with rfl | ⟨g, off, rfl, h⟩
    · exact .inl rfl
    · exact .inr ⟨g, off, rfl, fun i hi => hg.cell (h i hi) (hr hz ⟨g, off, none⟩ rfl)⟩

theorem Src.grown {w w' : World} {b len cap : Nat} {a : Option Addr} {zs : List Int} (h : Src w b a len cap zs) (hg : w.grownBy w' (some b)) : Src w' b a len cap zs :=
  ⟨h.bytes, h.length, h.small, h.room, h.most, lies_grown h.lies hg (fun hz x hx e => by have := h.apart hz x hx; simp at e; omega), h.nil, h.apart⟩

theorem grown_drewN (w : World) (n : Nat) (row : Option Nat) : w.grownBy (w.drewN n) row := ⟨rfl, rfl, rfl, Nat.le_refl _, fun _ _ _ => rfl⟩

/-- What is left to read. -/
def left (zs : List Int) (st : St) : List Int := if st.1 = 0 then zs.drop st.2 else []

theorem add_block (x : Addr) (p : Nat) : (x.add p).block = x.block := by unfold Addr.add; split <;> rfl
theorem lies_add {k : IntKind} {w : World} {x : Addr} {zs : List Int} (h : Lies k w (some x) zs) (p : Nat) : Lies k w (some (x.add p)) (zs.drop p) := by
  rcases h with rfl | ⟨g, off, hx, h⟩
  · exact .inl (by simp)
  · simp only [Option.some.injEq] at hx
    subst hx
    rw [show (⟨g, off, none⟩ : Addr).add p = ⟨g, off + p, none⟩ from by unfold Addr.add; split <;> simp_all]
    exact lies_drop h p

/-- What 'rest' answers. -/
def RestPost (zs : List Int) (st : St) (b : Nat) (w : World) (e : Ending) (w' : World) : Prop :=
  ∃ a' c n, e = .returned (.slice a' (left zs st).length c) ∧ w' = w.drewN n ∧ Lies .u8 w a' (left zs st) ∧ (a' = none → (left zs st).length = 0 ∧ c = 0) ∧ (left zs st).length ≤ c ∧ c ≤ 9223372036854775807 ∧ (left zs st ≠ [] → ∀ x, a' = some x → x.block < b)

theorem rd_nil : rd [] = (0, 0, 10) := rfl

theorem getD_drop (zs : List Int) (p : Nat) : (zs.drop p).getD 0 0 = zs.getD p 0 := by simp [List.getD_eq_getElem?_getD]

def btw (n lo hi : Int) : Bool := decide (lo ≤ n ∧ n ≤ hi)
set_option maxHeartbeats 400000 in
theorem between_any (n lo hi : Int) (w : World) :
    Calls Tryd.prog 44 #[.int .i64 n, .int .i64 lo, .int .i64 hi] w fun e w' => e = .returned (.bool (btw n lo hi)) ∧ w = w' := by
  have HB : Hid (btw n lo hi = decide (lo ≤ n ∧ n ≤ hi)) := rfl
  generalize btw n lo hi = q at *
  by_cases h1 : lo ≤ n
  · by_cases h2 : n ≤ hi
    · go_enter Tryd.func44, Tryd.ntmps44
      go_wp2
      go_ret
      refine ⟨?_, rfl⟩
      rw [HB.out]; simp [h1, h2]
    · go_enter Tryd.func44, Tryd.ntmps44
      go_wp2
      go_ret
      refine ⟨?_, rfl⟩
      rw [HB.out]; simp [h1, h2]
  · go_enter Tryd.func44, Tryd.ntmps44
    go_wp2
    go_ret
    refine ⟨?_, rfl⟩
    rw [HB.out]; simp; omega

theorem lies_drewN {k : IntKind} {w : World} {a : Option Addr} {zs : List Int} (h : Lies k w a zs) (n : Nat) : Lies k (w.drewN n) a zs := h

/-- What stands at the place is read: the four ways. -/
theorem numb_left {zs : List Int} {st : St} {lo hi : Int} (hf : st.1 = 0) (t : Int × Int × Int) (ht : rd (left zs st) = t) : numb lo hi (zs.drop st.2) = if t.2.2 = 10 then .bad 20 else if t.2.2 ≠ 0 ∨ 4611686018427387903 < t.1 then .bad 22
  else if lo ≤ t.1 ∧ t.1 ≤ hi then .ok t.1 ((zs.drop st.2).drop t.2.1.toNat) else .bad 23 := by
  have : left zs st = zs.drop st.2 := by unfold left; rw [if_pos hf]
  rw [this] at ht
  subst ht; rfl

end Go.Proofs.YtcfodcioeefbeaaDoor

namespace Go.Proofs.YtcfodcioeefbeaaDoor
open Go.RowKit

theorem lies_keep {k : IntKind} {w w' : World} {a : Option Addr} {zs : List Int} {B : Nat} (h : Lies k w a zs) (hb : Below B w w') (hr : zs ≠ [] → ∀ x, a = some x → x.block < B) : Lies k w' a zs := by
  by_cases hz : zs = []
  · exact .inl hz
  · rcases h with rfl | ⟨g, off, rfl, h⟩
    · exact .inl rfl
    · exact .inr ⟨g, off, rfl, fun i hi => (hb.cell (p := ⟨g, off + i, none⟩) (hr hz ⟨g, off, none⟩ rfl)).trans (h i hi)⟩
theorem heap_alloc_new' (w : World) (o : Obj) : (w.alloc o).heap[w.heap.size]? = some o := by
  have : (w.alloc o).heap = w.heap.push o := rfl
  rw [this]; simp

def ClonePost (zs : List Int) (w : World) (e : Ending) (w' : World) : Prop :=
  ∃ a c, e = .returned (.slice a zs.length c) ∧ w'.ownsRow w.heap.size 5 1 (.slice a zs.length c) zs.length (zs.map (Value.int .u8)) ∧ Below w.heap.size w w'

theorem below_grown {w w' : World} {b : Nat} (h : Below w.heap.size w w') : w.grownBy w' (some b) := ⟨h.os, h.tape, h.output, h.size, fun k hk _ => h.block k hk⟩

theorem take_lies {k : IntKind} {w : World} {a : Option Addr} {zs : List Int} (h : Lies k w a zs) (m : Nat) : Lies k w a (zs.take m) := by
  rcases h with rfl | ⟨g, off, rfl, h⟩
  · exact .inl (by simp)
  · refine .inr ⟨g, off, rfl, fun i hi => ?_⟩
    have hi' : i < m ∧ i < zs.length := by simp at hi; omega
    rw [h i hi'.2]
    simp [List.getD_eq_getElem?_getD, hi'.1]

end Go.Proofs.YtcfodcioeefbeaaDoor

namespace Go.Proofs.YtcfodcioeefbeaaDoor
open Go.RowKit

theorem own_keep {w w' : World} {base size n : Nat} {e : TypeId} {v : Value} {xs : List Value} {row : Option Nat} (h : w.ownsRow base e size v n xs) (hg : w.grownBy w' row) (hr : ∀ k, v.ownBlock = some k → row ≠ some k) : w'.ownsRow base e size v n xs := by
  have hlt := h.lt
  obtain ⟨hl, h | ⟨g, cap, cur, rfl, hb, hh, r⟩⟩ := h
  · exact ⟨hl, .inl h⟩
  · refine ⟨hl, .inr ⟨g, cap, cur, rfl, hb, ?_, r⟩⟩
    rw [hg.block g (hlt g rfl).2 (fun e => hr g rfl e.symm)]; exact hh

theorem own_base {w : World} {base base' size n : Nat} {e : TypeId} {v : Value} {xs : List Value} (h : w.ownsRow base e size v n xs) (hb : base' ≤ base) : w.ownsRow base' e size v n xs :=
  ⟨h.1, h.2.imp id fun ⟨g, cap, cur, h1, h2, h3⟩ => ⟨g, cap, cur, h1, Nat.le_trans hb h2, h3⟩⟩

/-- An extension as it lies: its tag, where its bytes are, with what room, and these. -/
structure Xr where
  tag : Int
  adr : Option Addr
  cap : Nat
  data : List Int

def Xr.val (x : Xr) : Value := .slice x.adr x.data.length x.cap
def Xr.cells (x : Xr) : List Value := [.int .i64 x.tag, x.val]
def Xr.ex (x : Xr) : Ex := ⟨x.tag, x.data⟩

structure Xr.Own (x : Xr) (w : World) (base : Nat) : Prop where
  row : w.ownsRow base 5 1 x.val x.data.length (x.data.map (Value.int .u8))
  bytes : Bytey x.data
  small : x.data.length ≤ 70000
  tag : 0 ≤ x.tag ∧ x.tag ≤ 255

/-- A list of extensions in memory of its own. -/
structure XOwn (w : World) (base : Nat) (v : Value) (xs : List Xr) : Prop where
  row : w.ownsRow base 110 2 v xs.length (xs.flatMap Xr.cells)
  data : ∀ x ∈ xs, x.Own w base
  apart : ∀ x ∈ xs, ∀ k, x.val.ownBlock = some k → v.ownBlock ≠ some k
  nodup : (xs.filterMap fun x => x.val.ownBlock).Nodup

theorem XOwn.nil (w : World) (base : Nat) : XOwn w base (.slice none 0 0) [] :=
  ⟨World.ownsRow_nil _ _ _ _, (fun _ h => by cases h), (fun _ h => by cases h), List.nodup_nil⟩

theorem XOwn.keep {w w' : World} {base : Nat} {v : Value} {xs : List Xr} {row : Option Nat} (h : XOwn w base v xs) (hg : w.grownBy w' row) (hr : ∀ k, row = some k → k < base) : XOwn w' base v xs :=
  ⟨own_keep h.row hg (fun k hk e => by have := hr k e; have := (h.row.lt k hk).1; omega),
   fun x hx => ⟨own_keep (h.data x hx).row hg (fun k hk e => by have := hr k e; have := ((h.data x hx).row.lt k hk).1; omega), (h.data x hx).bytes, (h.data x hx).small, (h.data x hx).tag⟩, h.apart, h.nodup⟩

/-- One more extension behind the others. -/
theorem XOwn.snoc {w w' : World} {base : Nat} {v v' : Value} {xs : List Xr} {x : Xr} (h : XOwn w base v xs) (hx : x.Own w base) (hne : ∀ k, x.val.ownBlock = some k → v.ownBlock ≠ some k) (hnew : ∀ y ∈ xs, ∀ k, x.val.ownBlock = some k → y.val.ownBlock ≠ some k)
    (hrow : w'.ownsRow base 110 2 v' (xs ++ [x]).length ((xs ++ [x]).flatMap Xr.cells)) (hg : w.grownBy w' v.ownBlock) (hat : v'.ownBlock = v.ownBlock ∨ v'.ownBlock = some w.heap.size) : XOwn w' base v' (xs ++ [x]) := by
  have hall : ∀ y ∈ xs ++ [x], y.Own w base ∧ ∀ k, y.val.ownBlock = some k → v.ownBlock ≠ some k := by
    intro y hy
    rcases List.mem_append.mp hy with hy | hy
    · exact ⟨h.data y hy, h.apart y hy⟩
    · simp at hy; subst hy; exact ⟨hx, hne⟩
  refine ⟨hrow, fun y hy => ?_, fun y hy k hk => ?_, ?_⟩
  · obtain ⟨h1, h2⟩ := hall y hy
    exact ⟨own_keep h1.row hg (fun k hk e => h2 k hk e), h1.bytes, h1.small, h1.tag⟩
  · obtain ⟨h1, h2⟩ := hall y hy
    rcases hat with e | e
    · rw [e]; exact h2 k hk
    · rw [e]; intro e'; simp at e'; have := (h1.row.lt k hk).2; omega
  · rw [List.filterMap_append]
    rw [List.nodup_append]
    refine ⟨h.nodup, ?_, ?_⟩
    · simp only [List.filterMap_cons, List.filterMap_nil]; split <;> simp
    · intro a ha c hc hac
      subst hac
      simp only [List.filterMap_cons, List.filterMap_nil] at hc
      split at hc
      · cases hc
      · rename_i k hk
        simp at hc; subst hc
        obtain ⟨y, hy, hy2⟩ := List.mem_filterMap.mp ha
        exact hnew y hy _ hk hy2

/-- The extension that is being read, in a block of its own. -/
def XB (w : World) (g : Nat) (t : Int) (v : Value) : Prop := w.heap[g]? = some (.cells #[.int .i64 t, v] 110 (0, 0))
theorem XB.c0 {w : World} {g : Nat} {t : Int} {v : Value} (h : XB w g t v) : w.cell? ⟨g, 0, none⟩ = some (.int .i64 t) := by unfold XB at h; simp [World.cell?, h]
theorem XB.c1 {w : World} {g : Nat} {t : Int} {v : Value} (h : XB w g t v) : w.cell? ⟨g, 1, none⟩ = some v := by unfold XB at h; simp [World.cell?, h]
theorem XB.fz {w : World} {g : Nat} {t : Int} {v : Value} (h : XB w g t v) (i : Nat) : w.frozen? ⟨g, i, none⟩ = false := by unfold XB at h; simp [World.frozen?, h]
theorem XB.set0 {w : World} {g : Nat} {t : Int} {v : Value} (h : XB w g t v) (t' : Int) : XB (w.setCell ⟨g, 0, none⟩ (.int .i64 t')) g t' v := by
  unfold XB at h ⊢
  simp only [World.setCell, Array.getElem?_modify, h, if_true, Option.map_some]
  simp
theorem XB.set1 {w : World} {g : Nat} {t : Int} {v : Value} (h : XB w g t v) (v' : Value) : XB (w.setCell ⟨g, 1, none⟩ v') g t v' := by
  unfold XB at h ⊢
  simp only [World.setCell, Array.getElem?_modify, h, if_true, Option.map_some]
  simp
theorem XB.lt {w : World} {g : Nat} {t : Int} {v : Value} (h : XB w g t v) : g < w.heap.size := by
  rcases Nat.lt_or_ge g w.heap.size with hg | hg
  · exact hg
  · unfold XB at h; rw [Array.getElem?_eq_none hg] at h; cases h
theorem XB.grown {w w' : World} {g : Nat} {t : Int} {v : Value} {row : Option Nat} (h : XB w g t v) (hg : w.grownBy w' row) (hne : row ≠ some g) : XB w' g t v := (hg.block g h.lt (fun e => hne e.symm)).trans h

theorem grown_undrew {w w' : World} {row : Option Nat} (h : w.drew.grownBy w' row) : w.grownBy w' row := ⟨h.os, h.tape, h.output, h.size, h.block⟩

theorem grown_step {w W W' : World} {row row' : Option Nat} (h : w.grownBy W row) (hg : W.grownBy W' row') (hr : ∀ k, row' = some k → w.heap.size ≤ k) : w.grownBy W' row :=
  ⟨hg.os.trans h.os, hg.tape.trans h.tape, hg.output.trans h.output, Nat.le_trans h.size hg.size, fun k hk hne => (hg.block k (Nat.lt_of_lt_of_le hk h.size) (fun e => by have := hr k e.symm; omega)).trans (h.block k hk hne)⟩
theorem grown_alloc (w : World) (o : Obj) (row : Option Nat) : w.grownBy (w.alloc o) row :=
  ⟨rfl, rfl, rfl, by simp, fun k hk _ => Below.heap_alloc w o k hk⟩
theorem cell_two_new (w : World) (x y : Value) (t : TypeId) : ∀ j u, [x, y][j]? = some u → (w.alloc (.cells #[x, y] t)).cell? ((⟨w.heap.size, 0, none⟩ : Addr).add j) = some u := by
  intro j u hj
  match j, hj with
  | 0, hj => simp at hj; subst hj; simp [Addr.add]
  | 1, hj => simp at hj; subst hj; simp [Addr.add]

theorem Tryd.info_ext : (Tryd.prog.info? 110).map (fun i => (i.zero, i.size, i.bytes)) = some (some (.agg #[.int .i64 0, .slice none 0 0]), 2, 32) := by kernel_rfl

theorem extsp_step (zs : List Int) (n k : Nat) (hk : k < n) (acc : List Ex) {st st1 st2 st3 st0 : St} {t m : Int} {d : List Int} (h : ∀ (β : Type) (K : List Ex → Pr β), fin ((extsp n []).bind K) zs st0 = fin ((extsp (n - k) acc).bind K) zs st)
    (h1 : Step zs oct st t st1) (h2 : Step zs (numb 0 200) st1 m st2) (h3 : Step zs (rowp m) st2 d st3) : ∀ (β : Type) (K : List Ex → Pr β), fin ((extsp n []).bind K) zs st0 = fin ((extsp (n - (k + 1)) (acc ++ [⟨t, d⟩])).bind K) zs st3 := by
  intro β K
  rw [h, show n - k = (n - (k + 1)) + 1 from by omega, extsp, Pr.bind_assoc, h1, Pr.bind_assoc, h2, Pr.bind_assoc, h3]

end Go.Proofs.YtcfodcioeefbeaaDoor

namespace Go.Proofs.YtcfodcioeefbeaaDoor
open Go.RowKit

def tabl : List Int := [3, 7, 7, 7, 3, 0, 0, 3, 9, 17, 0, 0, 33, 1, 33, 1]
/-- The table of the types lies in its variable. -/
def Tab (w : World) : Prop := ∀ i : Nat, i < 16 → w.cell? ⟨0, i, none⟩ = some (.int .u8 (tabl.getD i 0))

theorem Tab.grown {w w' : World} {row : Option Nat} (h : Tab w) (hg : w.grownBy w' row) (hr : row ≠ some 0) : Tab w' := fun i hi => hg.cell (h i hi) (fun e => hr e.symm)
theorem Tab.below {w w' : World} {B : Nat} (h : Tab w) (hb : Below B w w') (hB : 0 < B) : Tab w' := fun i hi => (hb.cell (p := ⟨0, i, none⟩) hB).trans (h i hi)

theorem shp_cases (t : Int) : shp t = 0 ∨ shp t = 1 ∨ shp t = 3 ∨ shp t = 7 ∨ shp t = 9 ∨ shp t = 17 ∨ shp t = 33 := by
  unfold shp
  split
  · simp
  · rename_i h
    have : t.toNat < 16 := by omega
    generalize t.toNat = k at this
    have h : k = 0 ∨ k = 1 ∨ k = 2 ∨ k = 3 ∨ k = 4 ∨ k = 5 ∨ k = 6 ∨ k = 7 ∨ k = 8 ∨ k = 9 ∨ k = 10 ∨ k = 11 ∨ k = 12 ∨ k = 13 ∨ k = 14 ∨ k = 15 := by omega
    rcases h with rfl | rfl | rfl | rfl | rfl | rfl | rfl | rfl | rfl | rfl | rfl | rfl | rfl | rfl | rfl | rfl <;> simp

set_option maxHeartbeats 400000 in
theorem shapeOf_any (t : Int) (w : World) (h : Tab w) :
    Calls Tryd.prog 39 #[.int .i64 t] w fun e w' => e = .returned (.int .u8 (shp t)) ∧ w = w' := by
  by_cases h0 : t < 0
  · have hs : Hid (shp t = 0) := by unfold Hid shp; rw [if_pos (by omega)]
    generalize shp t = q at *
    go_enter Tryd.func39, Tryd.ntmps39
    go_wp2
    go_ret
    exact ⟨by rw [hs.out]; rfl, rfl⟩
  · by_cases h1 : 16 ≤ t
    · have hs : Hid (shp t = 0) := by unfold Hid shp; rw [if_pos (by omega)]
      generalize shp t = q at *
      have h0' : decide (t < 0) = false := by simpa using h0
      go_enter Tryd.func39, Tryd.ntmps39
      go_wp2
      go_ret
      exact ⟨by rw [hs.out]; rfl, rfl⟩
    · have hs : Hid (shp t = tabl.getD t.toNat 0) := by unfold Hid shp; rw [if_neg (by omega)]; rfl
      generalize shp t = q at *
      have hc := h t.toNat (by omega)
      obtain ⟨k, rfl⟩ : ∃ k : Nat, t = k := ⟨t.toNat, by omega⟩
      rw [Int.toNat_natCast] at hc hs
      generalize tabl.getD k 0 = z at *
      have h2 : (k : Int) < 16 := by omega
      have h3 : 0 ≤ (k : Int) := by omega
      clear h h0 h1
      go_enter Tryd.func39, Tryd.ntmps39
      go_wp2
      go_ret
      exact ⟨by rw [hs.out]; rfl, rfl⟩

def anyB (p s : Int) : Bool := bits .and .u8 p s != 0
set_option maxHeartbeats 400000 in
theorem any_any (p s : Int) (w : World) :
    Calls Tryd.prog 40 #[.int .u8 p, .int .u8 s] w fun e w' => e = .returned (.bool (anyB p s)) ∧ w = w' := by
  go_enter Tryd.func40, Tryd.ntmps40
  go_wp2
  go_ret
  exact ⟨rfl, rfl⟩

def one (q : Bool) : Int := if q then 1 else 0
set_option maxHeartbeats 400000 in
theorem oneIf_any (q : Bool) (w : World) :
    Calls Tryd.prog 54 #[.bool q] w fun e w' => e = .returned (.int .i64 (one q)) ∧ w = w' := by
  cases q
  · go_enter Tryd.func54, Tryd.ntmps54
    go_wp2
    go_ret
    exact ⟨rfl, rfl⟩
  · go_enter Tryd.func54, Tryd.ntmps54
    go_wp2
    go_ret
    exact ⟨rfl, rfl⟩
set_option maxHeartbeats 400000 in
theorem leastCheck_any (p : Int) (w : World) :
    Calls Tryd.prog 47 #[.int .u8 p] w fun e w' => e = .returned (.int .i64 (one (anyB p 4))) ∧ w = w' := by
  go_enter Tryd.func47, Tryd.ntmps47
  go_wp2_with (first | (go_at_call 40; refine (any_any _ _ _).mono ?_; rintro e w' ⟨rfl, rfl⟩) | (go_at_call 54; refine (oneIf_any _ _).mono ?_; rintro e w' ⟨rfl, rfl⟩))
  go_ret
  exact ⟨rfl, rfl⟩
set_option maxHeartbeats 400000 in
theorem leastReport_any (p : Int) (w : World) :
    Calls Tryd.prog 48 #[.int .u8 p] w fun e w' => e = .returned (.int .i64 (one (anyB p 24))) ∧ w = w' := by
  go_enter Tryd.func48, Tryd.ntmps48
  go_wp2_with (first | (go_at_call 40; refine (any_any _ _ _).mono ?_; rintro e w' ⟨rfl, rfl⟩) | (go_at_call 54; refine (oneIf_any _ _).mono ?_; rintro e w' ⟨rfl, rfl⟩))
  go_ret
  exact ⟨rfl, rfl⟩

theorem step_fail {α : Type} {zs : List Int} {p : Pr α} {st : St} (v : α) (x : Int) (hx : x ≠ 0) (hp : st.1 = 0 → p (zs.drop st.2) = .bad x) : Step zs p st v (if st.1 = 0 then x else st.1, st.2) := by
  by_cases hf : st.1 = 0
  · rw [if_pos hf]; exact Step.fault _ _ _ hf hx (hp hf)
  · rw [if_neg hf]; exact Step.bad _ hf

theorem anyB_odd (t : Int) : anyB (shp t) 1 = decide (shp t % 2 = 1) := by
  rcases shp_cases t with h | h | h | h | h | h | h <;> rw [h] <;> decide

end Go.Proofs.YtcfodcioeefbeaaDoor
