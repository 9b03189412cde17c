import Derived.Test.YtdfdaambfihjaaaDoorNums
import Derived.Test.YtdfdaambfihjaaaDoorRead
import Derived.Test.YtdfdaambfihjaaaDoorMath
import Derived.Deep.QuietTactic
import Derived.BigQuiet
import Derived.Maps.AppendAt
import Derived.Deep.RegionWith
import Derived.Deep.CutRange
namespace Go.Proofs.YtdfdaambfihjaaaDoor
open Go.RowKit

theorem own_shape {w : World} {base n sz : Nat} {e : TypeId} {v : Value} {xs : List Value} (h : w.ownsRow base e sz v n xs) : ∃ a cap, v = .slice a n cap := by
  obtain ⟨_, ⟨rfl, rfl⟩ | ⟨g, cap, cur, rfl, _⟩⟩ := h
  · exact ⟨none, 0, rfl⟩
  · exact ⟨_, cap, rfl⟩

theorem own_lies {w : World} {base n cap : Nat} {e : TypeId} {a : Option Addr} {k : IntKind} {xs : List Int} (h : w.ownsRow base e 1 (.slice a n cap) n (xs.map (Value.int k))) : Lies k w a xs ∧ xs.length = n := by
  have hl : xs.length = n := by have := h.1; simpa using this
  refine ⟨?_, hl⟩
  obtain ⟨_, ⟨_, h0⟩ | ⟨g, cap', cur, hv, hb, hg, hn, hm, hs, ht⟩⟩ := id h
  · exact .inl (List.eq_nil_of_length_eq_zero (by omega))
  · simp only [Value.slice.injEq] at hv
    obtain ⟨rfl, _, rfl⟩ := hv
    refine .inr ⟨g, 0, rfl, fun i hi => ?_⟩
    rw [Nat.zero_add, h.cellAt i (by omega), List.getElem?_map, List.getD_eq_getElem?_getD, List.getElem?_eq_getElem hi]
    rfl

end Go.Proofs.YtdfdaambfihjaaaDoor

namespace Go.Proofs.YtdfdaambfihjaaaDoor

/-- What a reading comes to: an error, or a value and what is left. -/
inductive Res (α : Type) where
  | bad (e : Int)
  | ok (v : α) (rest : List Int)

def Pr (α : Type) := List Int → Res α

def Pr.ret {α : Type} (v : α) : Pr α := fun zs => .ok v zs
def Pr.fail {α : Type} (e : Int) : Pr α := fun _ => .bad e
def Pr.bind {α β : Type} (p : Pr α) (f : α → Pr β) : Pr β := fun zs => match p zs with
  | .bad e => .bad e
  | .ok v r => f v r

/-- A reading that takes a piece, tells at once what is wrong, and is short of every shorter beginning. -/
structure Good {α : Type} (p : Pr α) : Prop where
  ok : ∀ zs v r, p zs = .ok v r → ∃ c, zs = c ++ r ∧ (∀ x, p (c ++ x) = .ok v x) ∧ ∀ k, k < c.length → p (c.take k) = .bad 20
  bad : ∀ zs e, p zs = .bad e → e ≠ 20 → ∀ x, p (zs ++ x) = .bad e

def oct : Pr Int := fun zs => match zs with
  | [] => .bad 20
  | c :: r => .ok c r
def numb (lo hi : Int) : Pr Int := fun zs =>
  if (rd zs).2.2 = 10 then .bad 20 else if (rd zs).2.2 ≠ 0 ∨ 4611686018427387903 < (rd zs).1 then .bad 22
  else if lo ≤ (rd zs).1 ∧ (rd zs).1 ≤ hi then .ok (rd zs).1 (zs.drop (rd zs).2.1.toNat) else .bad 23
def rowp (n : Int) : Pr (List Int) := fun zs => if (zs.length : Int) < n then .bad 20 else .ok (zs.take n.toNat) (zs.drop n.toNat)

structure Ex where
  tag : Int
  data : List Int

structure Sg where
  typ : Int
  org : Int
  num : Int
  head : List Ex
  tail : List Ex
  srv : Int
  off : Int
  data : List Int
  chk : Int
  rep : Int
  upp : Int
  low : Int
  clm : List (Int × Int)
  rsn : Int

/-- The table of the types. -/
def shp (t : Int) : Int := if t < 0 ∨ 16 ≤ t then 0 else [3, 7, 7, 7, 3, 0, 0, 3, 9, 17, 0, 0, 33, 1, 33, 1].getD t.toNat 0

def kindp : Pr Int := oct.bind fun t => if shp t % 2 = 1 then Pr.ret t else Pr.fail 21
def extsp : Nat → List Ex → Pr (List Ex)
  | 0, acc => Pr.ret acc
  | n + 1, acc => oct.bind fun t => (numb 0 200).bind fun k => (rowp k).bind fun d => extsp n (acc ++ [⟨t, d⟩])
def claimsp (lower upper : Int) : Nat → Int → List (Int × Int) → Pr (List (Int × Int))
  | 0, _, acc => Pr.ret acc
  | n + 1, least, acc => (numb least (upper - lower - 1)).bind fun f => (numb 1 (upper - (lower + f))).bind fun k => claimsp lower upper n (lower + f + k - lower + 1) (acc ++ [(lower + f, lower + f + k)])
def mn : Int := 4611686018427387903
def blockp (h : Int) (s : Sg) : Pr Sg :=
  (numb 0 mn).bind fun sv => (numb 0 mn).bind fun o => (numb 1 (65536 - o)).bind fun n =>
    if h = 7 then (numb 1 mn).bind fun c => (numb 0 mn).bind fun r => (rowp n).bind fun d => Pr.ret { s with srv := sv, off := o, chk := c, rep := r, data := d }
    else (rowp n).bind fun d => Pr.ret { s with srv := sv, off := o, data := d }
def reportp (s : Sg) : Pr Sg :=
  (numb 1 mn).bind fun r => (numb 0 mn).bind fun c => (numb 1 65536).bind fun u => (numb 0 (u - 1)).bind fun l => (numb 1 1000).bind fun n =>
    (claimsp l u n.toNat 0 []).bind fun cl => Pr.ret { s with rep := r, chk := c, upp := u, low := l, clm := cl }
def reasonp (s : Sg) : Pr Sg := oct.bind fun r => if r ≤ 5 then Pr.ret { s with rsn := r } else Pr.fail 23
def contp (h : Int) (s : Sg) : Pr Sg :=
  if h = 3 ∨ h = 7 then blockp h s else if h = 9 then reportp s else if h = 17 then (numb 1 mn).bind fun r => Pr.ret { s with rep := r } else if h = 33 then reasonp s else Pr.ret s
def sg0 : Sg := ⟨0, 0, 0, [], [], 0, 0, [], 0, 0, 0, 0, [], 0⟩
def segp : Pr Sg := kindp.bind fun t => (numb 1 mn).bind fun o => (numb 1 (mn - 1)).bind fun n => oct.bind fun c =>
  (extsp (c / 16).toNat []).bind fun hd => (contp (shp t) { sg0 with typ := t, org := o, num := n, head := hd }).bind fun s => (extsp (c % 16).toNat []).bind fun tl => Pr.ret { s with tail := tl }

/-- What Parse answers: the error, and the segment where there is none. -/
def prs (zs : List Int) : Int × Sg := if 8192 < zs.length then (2, sg0) else match segp zs with
  | .bad e => (e, sg0)
  | .ok s [] => (0, s)
  | .ok _ (_ :: _) => (24, sg0)

/-- The state of a cursor: what was wrong first, and the place. -/
abbrev St := Int × Nat
/-- What is left to come of a reading. -/
def fin {α : Type} (p : Pr α) (zs : List Int) (st : St) : Res α := if st.1 ≠ 0 then .bad st.1 else p (zs.drop st.2)
/-- From st to st', with the value v, just p was read. -/
def Step {α : Type} (zs : List Int) (p : Pr α) (st : St) (v : α) (st' : St) : Prop := ∀ (β : Type) (K : α → Pr β), fin (p.bind K) zs st = fin (K v) zs st'

end Go.Proofs.YtdfdaambfihjaaaDoor

namespace Go.Proofs.YtdfdaambfihjaaaDoor
open Go.RowKit

/-- The bytes that are read lie there, in another block than the reader's. -/
structure Src (w : World) (b : Nat) (a : Option Addr) (len cap : Nat) (zs : List Int) : Prop where
  bytes : Bytey zs
  length : zs.length = len
  small : len ≤ 8192
  room : len ≤ cap
  most : cap ≤ 9223372036854775807
  lies : Lies .u8 w a zs
  nil : a = none → len = 0 ∧ cap = 0
  apart : zs ≠ [] → ∀ x, a = some x → x.block < b

/-- What is left to read. -/
def left (zs : List Int) (st : St) : List Int := if st.1 = 0 then zs.drop st.2 else []

/-- What 'rest' answers. -/
def RestPost (zs : List Int) (st : St) (b : Nat) (w : World) (e : Ending) (w' : World) : Prop :=
  ∃ a' c n, e = .returned (.slice a' (left zs st).length c) ∧ w' = w.drewN n ∧ Lies .u8 w a' (left zs st) ∧ (a' = none → (left zs st).length = 0 ∧ c = 0) ∧ (left zs st).length ≤ c ∧ c ≤ 9223372036854775807 ∧ (left zs st ≠ [] → ∀ x, a' = some x → x.block < b)

def btw (n lo hi : Int) : Bool := decide (lo ≤ n ∧ n ≤ hi)
set_option maxHeartbeats 400000 in
theorem between_any (n lo hi : Int) (w : World) :
    Calls Tryd.prog 73 #[.int .i64 n, .int .i64 lo, .int .i64 hi] w fun e w' => e = .returned (.bool (btw n lo hi)) ∧ w = w' := by
  have HB : Hid (btw n lo hi = decide (lo ≤ n ∧ n ≤ hi)) := rfl
  generalize btw n lo hi = q at *
  by_cases h1 : lo ≤ n
  · by_cases h2 : n ≤ hi
    · go_enter Tryd.func73, Tryd.ntmps73
      go_wp2
      go_ret
      refine ⟨?_, rfl⟩
      rw [HB.out]; simp [h1, h2]
    · go_enter Tryd.func73, Tryd.ntmps73
      go_wp2
      go_ret
      refine ⟨?_, rfl⟩
      rw [HB.out]; simp [h1, h2]
  · go_enter Tryd.func73, Tryd.ntmps73
    go_wp2
    go_ret
    refine ⟨?_, rfl⟩
    rw [HB.out]; simp; omega

end Go.Proofs.YtdfdaambfihjaaaDoor

namespace Go.Proofs.YtdfdaambfihjaaaDoor
open Go.RowKit

theorem heap_alloc_new' (w : World) (o : Obj) : (w.alloc o).heap[w.heap.size]? = some o := by
  have : (w.alloc o).heap = w.heap.push o := rfl
  rw [this]; simp

def ClonePost (zs : List Int) (w : World) (e : Ending) (w' : World) : Prop :=
  ∃ a c, e = .returned (.slice a zs.length c) ∧ w'.ownsRow w.heap.size 5 1 (.slice a zs.length c) zs.length (zs.map (Value.int .u8)) ∧ Below w.heap.size w w'

end Go.Proofs.YtdfdaambfihjaaaDoor

namespace Go.Proofs.YtdfdaambfihjaaaDoor
open Go.RowKit

theorem own_keep {w w' : World} {base size n : Nat} {e : TypeId} {v : Value} {xs : List Value} {row : Option Nat} (h : w.ownsRow base e size v n xs) (hg : w.grownBy w' row) (hr : ∀ k, v.ownBlock = some k → row ≠ some k) : w'.ownsRow base e size v n xs := by
  have hlt := h.lt
  obtain ⟨hl, h | ⟨g, cap, cur, rfl, hb, hh, r⟩⟩ := h
  · exact ⟨hl, .inl h⟩
  · refine ⟨hl, .inr ⟨g, cap, cur, rfl, hb, ?_, r⟩⟩
    rw [hg.block g (hlt g rfl).2 (fun e => hr g rfl e.symm)]; exact hh

theorem own_base {w : World} {base base' size n : Nat} {e : TypeId} {v : Value} {xs : List Value} (h : w.ownsRow base e size v n xs) (hb : base' ≤ base) : w.ownsRow base' e size v n xs :=
  ⟨h.1, h.2.imp id fun ⟨g, cap, cur, h1, h2, h3⟩ => ⟨g, cap, cur, h1, Nat.le_trans hb h2, h3⟩⟩

/-- An extension as it lies: its tag, where its bytes are, with what room, and these. -/
structure Xr where
  tag : Int
  adr : Option Addr
  cap : Nat
  data : List Int

def Xr.val (x : Xr) : Value := .slice x.adr x.data.length x.cap
def Xr.cells (x : Xr) : List Value := [.int .i64 x.tag, x.val]
def Xr.ex (x : Xr) : Ex := ⟨x.tag, x.data⟩

structure Xr.Own (x : Xr) (w : World) (base : Nat) : Prop where
  row : w.ownsRow base 5 1 x.val x.data.length (x.data.map (Value.int .u8))
  bytes : Bytey x.data
  small : x.data.length ≤ 70000
  tag : 0 ≤ x.tag ∧ x.tag ≤ 255

/-- A list of extensions in memory of its own. -/
structure XOwn (w : World) (base : Nat) (v : Value) (xs : List Xr) : Prop where
  row : w.ownsRow base 93 2 v xs.length (xs.flatMap Xr.cells)
  data : ∀ x ∈ xs, x.Own w base
  apart : ∀ x ∈ xs, ∀ k, x.val.ownBlock = some k → v.ownBlock ≠ some k
  nodup : (xs.filterMap fun x => x.val.ownBlock).Nodup

theorem XOwn.nil (w : World) (base : Nat) : XOwn w base (.slice none 0 0) [] :=
  ⟨World.ownsRow_nil _ _ _ _, (fun _ h => by cases h), (fun _ h => by cases h), List.nodup_nil⟩

theorem XOwn.keep {w w' : World} {base : Nat} {v : Value} {xs : List Xr} {row : Option Nat} (h : XOwn w base v xs) (hg : w.grownBy w' row) (hr : ∀ k, row = some k → k < base) : XOwn w' base v xs :=
  ⟨own_keep h.row hg (fun k hk e => by have := hr k e; have := (h.row.lt k hk).1; omega),
   fun x hx => ⟨own_keep (h.data x hx).row hg (fun k hk e => by have := hr k e; have := ((h.data x hx).row.lt k hk).1; omega), (h.data x hx).bytes, (h.data x hx).small, (h.data x hx).tag⟩, h.apart, h.nodup⟩

/-- One more extension behind the others. -/
theorem XOwn.snoc {w w' : World} {base : Nat} {v v' : Value} {xs : List Xr} {x : Xr} (h : XOwn w base v xs) (hx : x.Own w base) (hne : ∀ k, x.val.ownBlock = some k → v.ownBlock ≠ some k) (hnew : ∀ y ∈ xs, ∀ k, x.val.ownBlock = some k → y.val.ownBlock ≠ some k)
    (hrow : w'.ownsRow base 93 2 v' (xs ++ [x]).length ((xs ++ [x]).flatMap Xr.cells)) (hg : w.grownBy w' v.ownBlock) (hat : v'.ownBlock = v.ownBlock ∨ v'.ownBlock = some w.heap.size) : XOwn w' base v' (xs ++ [x]) := by
  have hall : ∀ y ∈ xs ++ [x], y.Own w base ∧ ∀ k, y.val.ownBlock = some k → v.ownBlock ≠ some k := by
    intro y hy
    rcases List.mem_append.mp hy with hy | hy
    · exact ⟨h.data y hy, h.apart y hy⟩
    · simp at hy; subst hy; exact ⟨hx, hne⟩
  refine ⟨hrow, fun y hy => ?_, fun y hy k hk => ?_, ?_⟩
  · obtain ⟨h1, h2⟩ := hall y hy
    exact ⟨own_keep h1.row hg (fun k hk e => h2 k hk e), h1.bytes, h1.small, h1.tag⟩
  · obtain ⟨h1, h2⟩ := hall y hy
    rcases hat with e | e
    · rw [e]; exact h2 k hk
    · rw [e]; intro e'; simp at e'; have := (h1.row.lt k hk).2; omega
  · rw [List.filterMap_append]
    rw [List.nodup_append]
    refine ⟨h.nodup, ?_, ?_⟩
    · simp only [List.filterMap_cons, List.filterMap_nil]; split <;> simp
    · intro a ha c hc hac
      subst hac
      simp only [List.filterMap_cons, List.filterMap_nil] at hc
      split at hc
      · cases hc
      · rename_i k hk
        simp at hc; subst hc
        obtain ⟨y, hy, hy2⟩ := List.mem_filterMap.mp ha
        exact hnew y hy _ hk hy2

/-- The extension that is being read, in a block of its own. -/
def XB (w : World) (g : Nat) (t : Int) (v : Value) : Prop := w.heap[g]? = some (.cells #[.int .i64 t, v] 93 (0, 0))
theorem grown_alloc (w : World) (o : Obj) (row : Option Nat) : w.grownBy (w.alloc o) row :=
  ⟨rfl, rfl, rfl, by simp, fun k hk _ => Below.heap_alloc w o k hk⟩
theorem cell_two_new (w : World) (x y : Value) (t : TypeId) : ∀ j u, [x, y][j]? = some u → (w.alloc (.cells #[x, y] t)).cell? ((⟨w.heap.size, 0, none⟩ : Addr).add j) = some u := by
  intro j u hj
  match j, hj with
  | 0, hj => simp at hj; subst hj; simp [Addr.add]
  | 1, hj => simp at hj; subst hj; simp [Addr.add]

theorem Tryd.info_ext : (Tryd.prog.info? 93).map (fun i => (i.zero, i.size, i.bytes)) = some (some (.agg #[.int .i64 0, .slice none 0 0]), 2, 32) := by kernel_rfl

end Go.Proofs.YtdfdaambfihjaaaDoor

namespace Go.Proofs.YtdfdaambfihjaaaDoor
open Go.RowKit

def tabl : List Int := [3, 7, 7, 7, 3, 0, 0, 3, 9, 17, 0, 0, 33, 1, 33, 1]
/-- The table of the types lies in its variable. -/
def Tab (w : World) : Prop := ∀ i : Nat, i < 16 → w.cell? ⟨0, i, none⟩ = some (.int .u8 (tabl.getD i 0))

theorem Tab.below {w w' : World} {B : Nat} (h : Tab w) (hb : Below B w w') (hB : 0 < B) : Tab w' := fun i hi => (hb.cell (p := ⟨0, i, none⟩) hB).trans (h i hi)

theorem shp_cases (t : Int) : shp t = 0 ∨ shp t = 1 ∨ shp t = 3 ∨ shp t = 7 ∨ shp t = 9 ∨ shp t = 17 ∨ shp t = 33 := by
  unfold shp
  split
  · simp
  · rename_i h
    have : t.toNat < 16 := by omega
    generalize t.toNat = k at this
    have h : k = 0 ∨ k = 1 ∨ k = 2 ∨ k = 3 ∨ k = 4 ∨ k = 5 ∨ k = 6 ∨ k = 7 ∨ k = 8 ∨ k = 9 ∨ k = 10 ∨ k = 11 ∨ k = 12 ∨ k = 13 ∨ k = 14 ∨ k = 15 := by omega
    rcases h with rfl | rfl | rfl | rfl | rfl | rfl | rfl | rfl | rfl | rfl | rfl | rfl | rfl | rfl | rfl | rfl <;> simp

set_option maxHeartbeats 400000 in
theorem shapeOf_any (t : Int) (w : World) (h : Tab w) :
    Calls Tryd.prog 65 #[.int .i64 t] w fun e w' => e = .returned (.int .u8 (shp t)) ∧ w = w' := by
  by_cases h0 : t < 0
  · have hs : Hid (shp t = 0) := by unfold Hid shp; rw [if_pos (by omega)]
    generalize shp t = q at *
    go_enter Tryd.func65, Tryd.ntmps65
    go_wp2
    go_ret
    exact ⟨by rw [hs.out]; rfl, rfl⟩
  · by_cases h1 : 16 ≤ t
    · have hs : Hid (shp t = 0) := by unfold Hid shp; rw [if_pos (by omega)]
      generalize shp t = q at *
      have h0' : decide (t < 0) = false := by simpa using h0
      go_enter Tryd.func65, Tryd.ntmps65
      go_wp2
      go_ret
      exact ⟨by rw [hs.out]; rfl, rfl⟩
    · have hs : Hid (shp t = tabl.getD t.toNat 0) := by unfold Hid shp; rw [if_neg (by omega)]; rfl
      generalize shp t = q at *
      have hc := h t.toNat (by omega)
      obtain ⟨k, rfl⟩ : ∃ k : Nat, t = k := ⟨t.toNat, by omega⟩
      rw [Int.toNat_natCast] at hc hs
      generalize tabl.getD k 0 = z at *
      have h2 : (k : Int) < 16 := by omega
      have h3 : 0 ≤ (k : Int) := by omega
      clear h h0 h1
      go_enter Tryd.func65, Tryd.ntmps65
      go_wp2
      go_ret
      exact ⟨by rw [hs.out]; rfl, rfl⟩

def anyB (p s : Int) : Bool := bits .and .u8 p s != 0
set_option maxHeartbeats 400000 in
theorem any_any (p s : Int) (w : World) :
    Calls Tryd.prog 66 #[.int .u8 p, .int .u8 s] w fun e w' => e = .returned (.bool (anyB p s)) ∧ w = w' := by
  go_enter Tryd.func66, Tryd.ntmps66
  go_wp2
  go_ret
  exact ⟨rfl, rfl⟩

def one (q : Bool) : Int := if q then 1 else 0
set_option maxHeartbeats 400000 in
theorem oneIf_any (q : Bool) (w : World) :
    Calls Tryd.prog 92 #[.bool q] w fun e w' => e = .returned (.int .i64 (one q)) ∧ w = w' := by
  cases q
  · go_enter Tryd.func92, Tryd.ntmps92
    go_wp2
    go_ret
    exact ⟨rfl, rfl⟩
  · go_enter Tryd.func92, Tryd.ntmps92
    go_wp2
    go_ret
    exact ⟨rfl, rfl⟩
set_option maxHeartbeats 400000 in
theorem leastCheck_any (p : Int) (w : World) :
    Calls Tryd.prog 76 #[.int .u8 p] w fun e w' => e = .returned (.int .i64 (one (anyB p 4))) ∧ w = w' := by
  go_enter Tryd.func76, Tryd.ntmps76
  go_wp2_with (first | (go_at_call 66; refine (any_any _ _ _).mono ?_; rintro e w' ⟨rfl, rfl⟩) | (go_at_call 92; refine (oneIf_any _ _).mono ?_; rintro e w' ⟨rfl, rfl⟩))
  go_ret
  exact ⟨rfl, rfl⟩
set_option maxHeartbeats 400000 in
theorem leastReport_any (p : Int) (w : World) :
    Calls Tryd.prog 77 #[.int .u8 p] w fun e w' => e = .returned (.int .i64 (one (anyB p 24))) ∧ w = w' := by
  go_enter Tryd.func77, Tryd.ntmps77
  go_wp2_with (first | (go_at_call 66; refine (any_any _ _ _).mono ?_; rintro e w' ⟨rfl, rfl⟩) | (go_at_call 92; refine (oneIf_any _ _).mono ?_; rintro e w' ⟨rfl, rfl⟩))
  go_ret
  exact ⟨rfl, rfl⟩

theorem anyB_odd (t : Int) : anyB (shp t) 1 = decide (shp t % 2 = 1) := by
  rcases shp_cases t with h | h | h | h | h | h | h <;> rw [h] <;> decide

end Go.Proofs.YtdfdaambfihjaaaDoor

namespace Go.Proofs.YtdfdaambfihjaaaDoor
open Go.RowKit

/-- A field that belongs to some parts may be n. -/
def alw (p n s lo hi : Int) : Bool := if anyB p s then btw n lo hi else n == 0
set_option maxHeartbeats 400000 in
theorem allow_any (p n s lo hi : Int) (w : World) :
    Calls Tryd.prog 75 #[.int .u8 p, .int .i64 n, .int .u8 s, .int .i64 lo, .int .i64 hi] w fun e w' => e = .returned (.bool (alw p n s lo hi)) ∧ w = w' := by
  have HW : Hid (alw p n s lo hi = if anyB p s then btw n lo hi else n == 0) := rfl
  generalize alw p n s lo hi = q at *
  cases hA : anyB p s
  · rw [hA] at HW
    go_enter Tryd.func75, Tryd.ntmps75
    go_wp2_with fail
    refine (any_any _ _ _).mono ?_
    rintro e w' ⟨rfl, rfl⟩
    rw [hA]
    go_wp2
    go_ret
    exact ⟨by rw [HW.out]; rfl, rfl⟩
  · rw [hA] at HW
    go_enter Tryd.func75, Tryd.ntmps75
    go_wp2_with fail
    refine (any_any _ _ _).mono ?_
    rintro e w' ⟨rfl, rfl⟩
    rw [hA]
    go_wp2_with fail
    refine (between_any _ _ _ _).mono ?_
    rintro e w' ⟨rfl, rfl⟩
    go_wp2
    go_ret
    exact ⟨by rw [HW.out]; rfl, rfl⟩
/-- Numbers that may be written. -/
def Smalls (l : List Int) : Prop := ∀ n ∈ l, 0 ≤ n ∧ n ≤ 4611686018427387903

theorem smalls_at {l : List Int} (h : Smalls l) (k : Nat) (hk : k < l.length) : 0 ≤ l.getD k 0 ∧ l.getD k 0 ≤ 4611686018427387903 := by
  rw [List.getD_eq_getElem?_getD, List.getElem?_eq_getElem hk]; exact h _ (List.getElem_mem hk)
theorem take_snoc (l : List Int) (k : Nat) (h : k < l.length) : l.take (k + 1) = l.take k ++ [l.getD k 0] := by
  rw [List.take_succ_eq_append_getElem h, List.getD_eq_getElem?_getD, List.getElem?_eq_getElem h]; rfl
theorem jn_len (l : List Int) (h : Smalls l) : (jn l).length ≤ 10 * l.length := jn_length l (fun n hn => by have := h n hn; omega)
theorem smalls_take {l : List Int} (h : Smalls l) (k : Nat) : Smalls (l.take k) := fun n hn => h n (List.mem_of_mem_take hn)

/-- A row of bytes is no row of numbers. -/
theorem own_ne {w : World} {base m g : Nat} {v : Value} {xs : List Value} {ns : List Int} (h : w.ownsRow base 5 1 v m xs) (hb : Blk .i64 w g 3 ns) : v.ownBlock ≠ some g := by
  intro e
  obtain ⟨_, ⟨rfl, _⟩ | ⟨g', cap, cur, rfl, _, hg, _⟩⟩ := h
  · cases e
  · simp [Value.ownBlock] at e
    subst e
    unfold Blk at hb
    rw [hg] at hb
    simp at hb

theorem own_below {w w' : World} {base size n : Nat} {e : TypeId} {v : Value} {xs : List Value} (h : w.ownsRow base e size v n xs) (hb : Below w.heap.size w w') : w'.ownsRow base e size v n xs :=
  own_keep h (row := none) ⟨hb.os, hb.tape, hb.output, hb.size, fun k hk _ => hb.block k hk⟩ (fun k _ e => by cases e)

/-- An append to a row of bytes that is owned: the row's block, or a new one. -/
theorem append_at {P : Program} (w : World) {ops : Array Oper} {rest : List Oper} {o : Oper} {a : Act} {Q : Exit → Act → World → Prop} (hgd : o.guard = none) (s x : Operand) (t : TypeId)
    (ho : o.op = .call { callee := .builtin .append, args := #[s, x], argTypes := #[t, t] })
    (base : Nat) (e : TypeId) (i : TypeInfo) (z : Value) (bytes : Nat) (ht : P.underlying t = some (.slice e)) (hi : P.info? e = some i) (hz : i.zero = some z)
    (hsize : i.size = 1) (hby : i.bytes = bytes) (hzs : z.cells.size = 1)
    (v : Value) (n : Nat) (xs : List Value) (hs : a.eval s = v) (hown : w.ownsRow base e 1 v n xs)
    (k : IntKind) (ao : Option Addr) (m c : Nat) (zs : List Int) (hx : a.eval x = .slice ao m c) (hnil : ao = none → m = 0 ∧ c = 0) (hl : zs.length = m) (hz' : Lies k w ao zs)
    (h63 : n + m ≤ maxLen) (hbytes : (n + m) * bytes ≤ 140737488355328) (hbase : base ≤ w.heap.size)
    (h : ∀ v' w', w'.ownsRow base e 1 v' (n + m) (xs ++ zs.map (Value.int k)) → w.grownBy w' v.ownBlock → (∀ j, v'.ownBlock = some j → v.ownBlock = some j ∨ w.heap.size ≤ j) → wpList P ops Q rest (a.put o.dst v') w') : wpList P ops Q (o :: rest) a w := by
  cases ao with
  | none =>
    obtain ⟨rfl, rfl⟩ := hnil rfl
    obtain rfl : zs = [] := List.eq_nil_of_length_eq_zero hl
    refine wpList_append_own_none hgd s x t ho base e i 1 ht hi v n xs hs hown hx ?_
    exact h v w (by simpa using hown) (World.grownBy.refl _ _) (fun j hj => .inl hj)
  | some ad =>
    refine wpList_append_own_at w hgd s x t ho base e i z 1 bytes ht hi hz hsize hby hzs (by decide) v n xs hs hown ad m c (zs.map (Value.int k)) hx (by simpa using hl) ?_ (by intro u hu; simp at hu; obtain ⟨y, _, rfl⟩ := hu; rfl) h63 hbytes hbase (fun v' w' h1 h2 _ h4 => h v' w' h1 h2 (fun j hj => ?_))
    · intro j u hj
      have hjl : j < zs.length := by
        rcases Nat.lt_or_ge j zs.length with q | q
        · exact q
        · rw [List.getElem?_eq_none (by simpa using q)] at hj; cases hj
      rcases hz' with rfl | ⟨b, off, hb, hc⟩
      · simp at hjl
      · simp only [Option.some.injEq] at hb
        subst hb
        rw [List.getElem?_map, List.getElem?_eq_getElem hjl] at hj
        simp only [Option.map_some, Option.some.injEq] at hj
        rw [show (⟨b, off, none⟩ : Addr).add j = ⟨b, off + j, none⟩ from by unfold Addr.add; split <;> simp_all, hc j hjl, ← hj]
        simp [List.getD_eq_getElem?_getD, List.getElem?_eq_getElem hjl]
    · rcases h4 with h4 | h4
      · left; rw [← h4]; exact hj
      · right; rw [h4] at hj; simp at hj; omega

/-- v became v', in place or in new memory; else nothing that was turned. -/
structure Grew (w w' : World) (v v' : Value) : Prop where
  grown : w.grownBy w' v.ownBlock
  stays : ∀ j, v'.ownBlock = some j → v.ownBlock = some j ∨ w.heap.size ≤ j

theorem Grew.refl (w : World) (v : Value) : Grew w w v v := ⟨World.grownBy.refl _ _, fun _ h => .inl h⟩
theorem Grew.trans {w w1 w2 : World} {v v1 v2 : Value} (h : Grew w w1 v v1) (k : Grew w1 w2 v1 v2) : Grew w w2 v v2 := by
  refine ⟨⟨k.grown.os.trans h.grown.os, k.grown.tape.trans h.grown.tape, k.grown.output.trans h.grown.output, Nat.le_trans h.grown.size k.grown.size, fun j hj hne => ?_⟩, fun j hj => ?_⟩
  · rw [k.grown.block j (Nat.lt_of_lt_of_le hj h.grown.size) ?_]
    · exact h.grown.block j hj hne
    · intro e
      rcases h.stays j e.symm with e' | e'
      · exact hne e'.symm
      · omega
  · rcases k.stays j hj with e | e
    · exact h.stays j e
    · right; have := h.grown.size; omega
theorem Grew.below {w w' : World} {v : Value} (h : Below w.heap.size w w') : Grew w w' v v := ⟨⟨h.os, h.tape, h.output, h.size, fun k hk _ => h.block k hk⟩, fun _ h => .inl h⟩
theorem Grew.base {w w' : World} {v v' : Value} {base size n : Nat} {e : TypeId} {xs : List Value} (h : Grew w w' v v') (ho : w.ownsRow base e size v n xs) (hb : base ≤ w.heap.size) : Below base w w' :=
  (Below.refl _ _).grown h.grown hb (fun k hk => (ho.lt k hk).1)

/-- A row of bytes is no block of another type. -/
theorem own_apart {w : World} {base m g : Nat} {v : Value} {xs : List Value} {cs : Array Value} {t : TypeId} {fr : Nat × Nat} (h : w.ownsRow base 5 1 v m xs) (hb : w.heap[g]? = some (.cells cs t fr)) (ht : t ≠ 5) : v.ownBlock ≠ some g := by
  intro e
  obtain ⟨_, ⟨rfl, _⟩ | ⟨g', cap, cur, rfl, _, hg, _⟩⟩ := h
  · cases e
  · simp [Value.ownBlock] at e
    subst e
    rw [hg] at hb
    simp at hb
    exact ht hb.2.1.symm
theorem Grew.keeps {w w' : World} {base m g : Nat} {v v' : Value} {xs : List Value} {cs : Array Value} {t : TypeId} {fr : Nat × Nat} (hw : Grew w w' v v') (h : w.ownsRow base 5 1 v m xs) (hb : w.heap[g]? = some (.cells cs t fr)) (ht : t ≠ 5) : w'.heap[g]? = some (.cells cs t fr) := by
  rw [hw.grown.block g ?_ (fun e => own_apart h hb ht e.symm)]
  · exact hb
  · rcases Nat.lt_or_ge g w.heap.size with q | q
    · exact q
    · rw [Array.getElem?_eq_none q] at hb; cases hb

def PutPost (v0 : Value) (base m : Nat) (xs : List Value) (ns : List Int) (w : World) (e : Ending) (w' : World) : Prop :=
  ∃ v, e = .returned v ∧ w'.ownsRow base 5 1 v (m + (jn ns).length) (xs ++ (jn ns).map (Value.int .u8)) ∧ Grew w w' v0 v

set_option maxHeartbeats 2000000 in
theorem putNumbers_any (v : Value) (m : Nat) (xs : List Value) (base : Nat) (g : Nat) (ns : List Int) (w : World) (hn : Smalls ns) (hl : ns.length ≤ 10) (hown : w.ownsRow base 5 1 v m xs) (hbase : base ≤ w.heap.size) (hm : m ≤ 100000000) (hb : Blk .i64 w g 3 ns) :
    Calls Tryd.prog 79 #[v, .slice (some ⟨g, 0, none⟩) ns.length ns.length] w (PutPost v base m xs ns w) := by
  obtain ⟨i0, hi, hz0, hz1, hz2⟩ := info_parts Tryd.info_u8
  have HN : Hid (Smalls ns) := hn
  have HO0 : Hid (w.ownsRow base 5 1 v m xs) := hown
  have HB0 : Hid (Blk .i64 w g 3 ns) := hb
  clear hn hown hb
  go_enter Tryd.func79, Tryd.ntmps79
  go_wp2_with fail
  go_loopw [0, 9] (fun v' i wr => ∃ k : Nat, k ≤ ns.length ∧ i = .int .i64 k ∧ wr.ownsRow base 5 1 v' (m + (jn (ns.take k)).length) (xs ++ (jn (ns.take k)).map (Value.int .u8)) ∧ Grew w wr v v' ∧ Blk .i64 wr g 3 ns) (fun _ i _ => ns.length - (intOf i).toNat)
  case atStart => exact ⟨0, Nat.zero_le _, rfl, by simpa [jn] using HO0.out, Grew.refl _ _, HB0.out⟩
  case round =>
    obtain ⟨k, hk, rfl, hown', hbel, hblk⟩ := hrel
    have HO : Hid (wr.ownsRow base 5 1 _ (m + (jn (ns.take k)).length) (xs ++ (jn (ns.take k)).map (Value.int .u8))) := hown'
    have HBl : Hid (Grew w wr v _) := hbel
    have HB : Hid (Blk .i64 wr g 3 ns) := hblk
    have hsz := hbel.grown.size
    clear hown' hbel
    by_cases hlt : k < ns.length
    · have hlt' : (k : Int) < (ns.length : Int) := by omega
      have hc := hblk.cell k hlt
      have hnn := smalls_at HN.out k hlt
      have hjl := jn_len (ns.take k) (smalls_take HN.out k)
      have htl : (ns.take k).length ≤ 10 := by simp; omega
      have hs := sz_bounds (ns.getD k 0) hnn.1 (by omega)
      have HE : Hid ((enc (ns.getD k 0)).length = sz (ns.getD k 0)) := enc_length _ hnn.1 (by omega)
      have HJ : Hid (jn (ns.take (k + 1)) = jn (ns.take k) ++ enc (ns.getD k 0)) := by unfold Hid; rw [take_snoc ns k hlt, jn_snoc]
      have hs1 : sz (ns.getD k 0) ≤ 10 := hs.2.1
      clear hblk hs
      generalize ns.getD k 0 = z at *
      obtain ⟨hz0', hz1'⟩ := hnn
      have hw64 : z % 18446744073709551616 = z := by omega
      go_wp2_with fail
      refine (bytes_any z _ hz0' (by omega)).mono ?_
      rintro e w1 ⟨g1, cap1, rfl, hown1, hb1⟩
      have HL1 := own_lies hown1
      have HLI : Hid (Lies .u8 w1 (some ⟨g1, 0, none⟩) (enc z)) := HL1.1
      have HO1 : Hid (w1.ownsRow base 5 1 _ (m + (jn (ns.take k)).length) (xs ++ (jn (ns.take k)).map (Value.int .u8))) := own_below HO.out hb1
      have HB1 : Hid (Blk .i64 w1 g 3 ns) := HB.out.below hb1 HB.out.lt
      have HBl1 : Hid (Grew w w1 v _) := HBl.out.trans (Grew.below hb1)
      have hsz1 : base ≤ w1.heap.size := by have := hb1.size; omega
      have hE := HE.out
      clear HO HB HBl hown1 hb1 HL1 hc
      go_wp2_with (at_builtin; refine append_at _ rfl _ _ 34 rfl base 5 i0 (.int .u8 0) 1 Tryd.underlying34 hi hz0 hz1 hz2 rfl _ _ _ rfl HO1.out .u8 (some ⟨g1, 0, none⟩) (sz z) cap1 (enc z) rfl (fun h => by cases h) HE.out HLI.out (by unfold maxLen; omega) (by omega) hsz1 ?_)
      intro v' w2 hown2 hgrow2 hst2
      have HB2 : Hid (Blk .i64 w2 g 3 ns) := HB1.out.of_eq (hgrow2.block g HB1.out.lt (fun e => own_ne HO1.out HB1.out e.symm))
      have HBl2 : Hid (Grew w w2 v v') := HBl1.out.trans ⟨hgrow2, hst2⟩
      have HO2 : Hid (w2.ownsRow base 5 1 v' (m + (jn (ns.take (k + 1))).length) (xs ++ (jn (ns.take (k + 1))).map (Value.int .u8))) := by
        unfold Hid
        rw [HJ.out, List.length_append, HE.out, List.map_append, ← List.append_assoc, ← Nat.add_assoc]
        simpa only [List.append_assoc] using hown2
      clear hown2 hgrow2 hst2 HO1 HB1 HBl1 HLI
      go_wp2
      go_roundw
      case rel => exact ⟨k + 1, by omega, by go_num, HO2.out, HBl2.out, HB2.out⟩
      case measure => simp [intOf]; omega
    · have hkn : k = ns.length := by omega
      subst hkn
      clear hlt
      go_wp2
      go_ret
      refine ⟨_, rfl, ?_, HBl.out⟩
      have := HO.out
      rw [List.take_of_length_le (Nat.le_refl _)] at this; exact this

end Go.Proofs.YtdfdaambfihjaaaDoor

namespace Go.Proofs.YtdfdaambfihjaaaDoor
open Go.RowKit

/-- A world with new blocks behind it. -/
def allocs (w : World) (os : List Obj) : World := os.foldl World.alloc w
theorem allocs_snoc (w : World) (os : List Obj) (o : Obj) : allocs w (os ++ [o]) = (allocs w os).alloc o := by simp [allocs]
theorem allocs_below (w : World) (os : List Obj) : Below w.heap.size w (allocs w os) := by
  induction os generalizing w with
  | nil => exact Below.refl _ _
  | cons o os ih =>
    have h := ih (w.alloc o)
    exact ((Below.refl _ w).alloc (Nat.le_refl _) o).trans (h.mono (by simp))
theorem allocs_append (w : World) (os os' : List Obj) : allocs (allocs w os) os' = allocs w (os ++ os') := by simp [allocs, List.foldl_append]
theorem allocs_drewN (w : World) (os : List Obj) (n : Nat) : allocs (w.drewN n) os = (allocs w os).drewN n := by
  induction os generalizing w with
  | nil => rfl
  | cons o os ih => exact ih (w.alloc o)
structure Xt where
  os : List Obj
  n : Nat
  deriving Inhabited
/-- A world with new blocks behind it, and after some draws: the class of worlds of a region that only reads, draws and makes new blocks. -/
def ext (w : World) (x : Xt) : World := (allocs w x.os).drewN x.n
theorem ext_ext (w : World) (x y : Xt) : ext (ext w x) y = ext w ⟨x.os ++ y.os, x.n + y.n⟩ := by
  simp only [ext]; rw [allocs_drewN, allocs_append, World.drewN_drewN]
theorem ext_below (w : World) (x : Xt) : Below w.heap.size w (ext w x) := ⟨(allocs_below w x.os).os, (allocs_below w x.os).tape, (allocs_below w x.os).output, (allocs_below w x.os).size, (allocs_below w x.os).block⟩
theorem ext_cell (w : World) (x : Xt) (a : Addr) (h : a.block < w.heap.size) : (ext w x).cell? a = w.cell? a := (ext_below w x).cell h

theorem wp_region_ext {P : Program} {id : Nat} {Q : Exit → Act → World → Prop} {a : Act} {w : World} {l : List Oper} (hm : P.follows .mixedOrders = true) (hB : Region.lexB .any l.toArray = true)
    (h : wpQuiet P l.toArray (fun w' => ∃ x, w' = ext w x) (fun a' => ∀ w', (∃ x, w' = ext w x) → Q .normal a' w') l a) : (Code.region id l.toArray true).wp P Q a w :=
  wp_region_quiet (C := fun w' => ∃ x, w' = ext w x) hm hB ⟨⟨[], 1⟩, rfl⟩ (by simpa using h)

/-- A callee's contract in such a region: it leaves the world alone. -/
theorem ext_same {P : Program} {f : FuncId} {args : Array Value} {w : World} {x : Xt} {v : Value}
    (h : Calls P f args (ext w x) fun e w' => e = .returned v ∧ ext w x = w') : Calls P f args (ext w x) fun e w'' => e = .returned v ∧ ∃ y, w'' = ext w y :=
  h.mono fun _ _ ⟨he, hm⟩ => ⟨he, x, hm.symm⟩
/-- .. it makes new blocks. -/
theorem ext_more {P : Program} {f : FuncId} {args : Array Value} {w : World} {x : Xt} {v : Value}
    (h : Calls P f args (ext w x) fun e w' => e = .returned v ∧ ∃ y, w' = ext (ext w x) y) : Calls P f args (ext w x) fun e w'' => e = .returned v ∧ ∃ y, w'' = ext w y :=
  h.mono fun _ _ ⟨he, y, hm⟩ => ⟨he, _, hm.trans (ext_ext w x y)⟩

end Go.Proofs.YtdfdaambfihjaaaDoor
