import Derived.Test.YtllhbhogfffedaaGreatDoorRcScn
import Derived.WalkSmall
import Derived.Deep.RegionWith
import Derived.Test.YtllhbhogfffedaaGreatDoorRcBkM
import Derived.Deep.QuietTactic
import Derived.BigQuiet
import Derived.Maps.AppendAt
import Derived.Laws.AppendOwnNone
import Derived.Laws.OwnMore
import Derived.Deep.RegionLaw
import Derived.OrdersHeld
import Derived.OrdersIn
import Derived.TacticsIn
import Derived.RangeFuncCalls
import Derived.RangeFuncNested
import Derived.Test.YtllhbhogfffedaaGreatDoorRcFrM
namespace Go.Proofs.YtllhbhogfffedaaGreatDoor.C
open Go.RowKit Go.Shelf
set_option linter.unusedVariables false
set_option linter.unusedSimpArgs false

theorem Spa.drewN7 {w : World} {a : Option Addr} {l : List Sp} (h : Spa w a l) (n : Nat) : Spa (w.drewN n) a l := h
def Lp57 (Z : World) (N : Nat) (v : Value) (w : World) : Prop := ∃ p nd : Nat, v = .int .i64 p ∧ p ≤ N ∧ w = Z.drewN nd
theorem lp57 {Z : World} {N p nd : Nat} {v : Value} (hv : v = .int .i64 p) (h : p ≤ N) : Lp57 Z N v (Z.drewN nd) := ⟨p, nd, hv, h, rfl⟩

set_option maxHeartbeats 4000000 in
set_option maxRecDepth 100000 in
/-- SAME SPANS of layer 7, of two lists that say the same. -/
theorem sameSpans7_eq (a b : Option Addr) (c d n : Nat) (l : List Sp) (w : World) (hn : l.length = n) (hm : n ≤ 4611686018427387903) (h : Spa w a l) (h' : Spa w b l) :
    Calls Tryz.prog 89 #[.slice a n c, .slice b n d] w fun e w' => e = .returned (.bool true) ∧ ∃ nd, w' = w.drewN nd := by
  have HN : Hid (l.length = n) := hn
  have HS : Hid (Spa w a l) := h
  have HS' : Hid (Spa w b l) := h'
  clear hn h h'
  go_enter Tryz.func89, Tryz.ntmps89
  obtain ⟨Z, hZ⟩ : ∃ Z, w = Z := ⟨_, rfl⟩
  rw [hZ] at HS HS' ⊢
  clear hZ
  go_wp2_with fail
  go_loopw [5] (fun v wr => Lp57 Z n v wr) (fun v _ => n - (intOf v).toNat)
  case atStart => exact lp57 (nd := 0) (p := 0) rfl (by omega)
  case round =>
    obtain ⟨k, nd, rfl, hk, hwr⟩ := hrel
    have HW : Hid (wr = Z.drewN nd) := hwr
    have HA : Hid (Spa wr a l) := by show Spa _ _ _; rw [hwr]; exact HS.out.drewN7 _
    have HA' : Hid (Spa wr b l) := by show Spa _ _ _; rw [hwr]; exact HS'.out.drewN7 _
    clear hwr
    by_cases hlt : k = n
    · subst hlt
      have hz : ¬ (k : Int) < (k : Int) := by omega
      go_wp2
      go_ret
      exact ⟨rfl, _, HW.out⟩
    · have hlt' : (k : Int) < (n : Int) := by omega
      have hwk : IntKind.i64.wrap ((k : Int) + 1) = (k : Int) + 1 := by rw [IntKind.wrap_i64]; omega
      obtain ⟨⟨p1, p2⟩, hp⟩ : ∃ p, l[k]? = some p := ⟨_, List.getElem?_eq_getElem (by rw [HN.out]; omega)⟩
      obtain ⟨g, off, rfl, q1, q2⟩ := HA.out.at hp
      obtain ⟨g', off', rfl, r1, r2⟩ := HA'.out.at hp
      simp only at q1 q2 r1 r2
      clear hp
      go_wp2_with fail
      go_quiet (fail)
      go_wp2
      exact ⟨by rw [HW.out, World.drewN_drewN]; exact lp57 (p := k + 1) (by simp) (by omega), by simp [intOf]; omega⟩

end Go.Proofs.YtllhbhogfffedaaGreatDoor.C

namespace Go.Proofs.YtllhbhogfffedaaGreatDoor
open Go.RowKit
set_option linter.unusedVariables false
set_option linter.unusedSimpArgs false

theorem conv7 (W : World) (a : Option Addr) (n cap : Nat) (xs : List Int) (hl : xs.length = n) (hc : Lies .u8 W a xs) :
    (convert 35 9 (.slice a n cap)).run Tryz.prog W = .ok (.string (strOfNums xs)) W := by
  rcases hc with rfl | ⟨b, off, rfl, h⟩
  · obtain rfl : n = 0 := by simpa using hl.symm
    cases a with
    | none => exact run_convert_bytes_nil (P := Tryz.prog) W 35 5 Tryz.underlying35 Tryz.underlying5 0 cap 9 Tryz.underlying9
    | some x =>
      have hl0 := run_loadCells_list (P := Tryz.prog) W x ([].map (Value.int .u8)) (fun j v hj => by simp at hj)
      rw [run_convert_bytes_string W 35 9 5 _ 0 cap Tryz.underlying35 Tryz.underlying5 Tryz.underlying9, run_bytesToString W x 0 cap [] hl0]
      rfl
  · exact run_convert_bytes_arg (P := Tryz.prog) W 35 5 Tryz.underlying35 Tryz.underlying5 b off n cap xs hl (fun i hi => h i (by omega)) 9 Tryz.underlying9

set_option maxRecDepth 100000 in
set_option maxHeartbeats 4000000 in
/-- Two records that say the same: sameRecord says so. -/
theorem sameRec7_eq (r : Rc) (sa da sb db : Option Addr) (ns nd sc dc tc ec : Nat) (w : World) (ha : RIn w r sa da ns nd sc dc) (hb : RIn w r sb db ns nd tc ec) (hns : ns ≤ 4611686018427387903) :
    Calls Tryz.prog 55 #[.agg (rcC r (.slice sa ns sc) (.slice da nd dc)), .agg (rcC r (.slice sb ns tc) (.slice db nd ec))] w fun e w' => e = .returned (.bool true) ∧ Below w.heap.size w w' := by
  have HB : Hid (Below w.heap.size w ((w.alloc (rcO r (.slice sa ns sc) (.slice da nd dc))).alloc (rcO r (.slice sb ns tc) (.slice db nd ec)))) := ((Below.refl _ _).alloc (Nat.le_refl _) _).alloc (by simp) _
  have HX : Hid (((w.alloc (rcO r (.slice sa ns sc) (.slice da nd dc))).alloc (rcO r (.slice sb ns tc) (.slice db nd ec))).heap[w.heap.size]? = some (rcO r (.slice sa ns sc) (.slice da nd dc))) := (((Below.refl _ _).alloc (Nat.le_refl _) _).block _ (by simp)).trans (heap_new6 w _)
  have HY : Hid (((w.alloc (rcO r (.slice sa ns sc) (.slice da nd dc))).alloc (rcO r (.slice sb ns tc) (.slice db nd ec))).heap[w.heap.size + 1]? = some (rcO r (.slice sb ns tc) (.slice db nd ec))) := by
    unfold Hid
    have := heap_new6 (w.alloc (rcO r (.slice sa ns sc) (.slice da nd dc))) (rcO r (.slice sb ns tc) (.slice db nd ec))
    simpa using this
  have HRA : Hid (RIn w r sa da ns nd sc dc) := ha
  have HRB : Hid (RIn w r sb db ns nd tc ec) := hb
  clear ha hb
  go_enter Tryz.func55, Tryz.ntmps55
  go_wp2_with fail
  generalize (w.alloc (rcO r (.slice sa ns sc) (.slice da nd dc))).alloc (rcO r (.slice sb ns tc) (.slice db nd ec)) = w1 at *
  have HSS := C.sameSpans7_eq sa sb sc tc ns r.spans w1 HRA.out.spn (by omega) (HRA.out.spin w1 HB.out) (HRB.out.spin w1 HB.out)
  have hx := rc_cells HX.out
  have hy := rc_cells HY.out
  obtain ⟨c0, c1, c2, c3, c4, c5, c6, c7, c8, c9, c10⟩ := hx
  obtain ⟨d0, d1, d2, d3, d4, d5, d6, d7, d8, d9, d10⟩ := hy
  refine HSS.mono ?_
  rintro e w2 ⟨rfl, nd2, hw2⟩
  have HB2 : Hid (Below w.heap.size w w2) := by rw [hw2]; exact ⟨HB.out.os, HB.out.tape, HB.out.output, HB.out.size, HB.out.block⟩
  have HX2 : Hid (w2.heap[w.heap.size]? = some (rcO r (.slice sa ns sc) (.slice da nd dc))) := by rw [hw2]; exact HX.out
  have HY2 : Hid (w2.heap[w.heap.size + 1]? = some (rcO r (.slice sb ns tc) (.slice db nd ec))) := by rw [hw2]; exact HY.out
  clear hw2 c0 c1 c2 c3 c4 c5 c6 c7 c8 c9 c10 d0 d1 d2 d3 d4 d5 d6 d7 d8 d9 d10
  obtain ⟨c0, c1, c2, c3, c4, c5, c6, c7, c8, c9, c10⟩ := rc_cells HX2.out
  obtain ⟨d0, d1, d2, d3, d4, d5, d6, d7, d8, d9, d10⟩ := rc_cells HY2.out
  have k1 := conv7 w2 da nd dc r.data HRA.out.dat (HRA.out.lie.below HB2.out)
  have k2 := conv7 w2 db nd ec r.data HRB.out.dat (HRB.out.lie.below HB2.out)
  generalize strOfNums r.data = S at *
  try simp only [List.append_eq, List.cons_append, List.nil_append]
  go_wp2
  go_ret
  exact ⟨rfl, HB2.out⟩

set_option maxRecDepth 100000 in
set_option maxHeartbeats 4000000 in
/-- Two lists that say the same: same says so. -/
theorem same7_eq (l : List Rc) (a b : Option Addr) (n ca cb : Nat) (w : World) (hn : l.length = n) (hm : n ≤ 140737488355328) (ha : RLin w a l) (hb : RLin w b l) (hsp : ∀ r ∈ l, r.spans.length ≤ 4611686018427387903) :
    Calls Tryz.prog 24 #[.slice a n ca, .slice b n cb] w fun e w' => e = .returned (.bool true) ∧ Below w.heap.size w w' := by
  have HA : Hid (RLin w a l) := ha
  have HB : Hid (RLin w b l) := hb
  have HN : Hid (l.length = n) := hn
  have HSP : Hid (∀ r ∈ l, r.spans.length ≤ 4611686018427387903) := hsp
  clear ha hb hn hsp
  go_enter Tryz.func24, Tryz.ntmps24
  go_wp2_with fail
  go_loopw [5] (fun i wr => ∃ k : Nat, k ≤ n ∧ i = .int .i64 k ∧ Below w.heap.size w wr) (fun i _ => n - (intOf i).toNat)
  case atStart => exact ⟨0, Nat.zero_le _, rfl, Below.refl _ _⟩
  case round =>
    obtain ⟨k, hk, rfl, hbw⟩ := hrel
    have HBW : Hid (Below w.heap.size w wr) := hbw
    by_cases hlt : k < n
    · have hkl : k < l.length := by rw [HN.out]; exact hlt
      obtain ⟨r, hr⟩ : ∃ r, l[k]? = some r := ⟨l[k], List.getElem?_eq_getElem hkl⟩
      obtain ⟨g, off, sa, da, sc, dc, rfl, hc, hri⟩ := (HA.out.below hbw).at hr
      obtain ⟨g', off', sb, db, tc, ec, rfl, hc', hri'⟩ := (HB.out.below hbw).at hr
      have c0 := hc 0 _ rfl
      have c1 := hc 1 _ rfl
      have c2 := hc 2 _ rfl
      have c3 := hc 3 _ rfl
      have c4 := hc 4 _ rfl
      have c5 := hc 5 _ rfl
      have c6 := hc 6 _ rfl
      have c7 := hc 7 _ rfl
      have c8 := hc 8 _ rfl
      have c9 := hc 9 _ rfl
      have c10 := hc 10 _ rfl
      have d0 := hc' 0 _ rfl
      have d1 := hc' 1 _ rfl
      have d2 := hc' 2 _ rfl
      have d3 := hc' 3 _ rfl
      have d4 := hc' 4 _ rfl
      have d5 := hc' 5 _ rfl
      have d6 := hc' 6 _ rfl
      have d7 := hc' 7 _ rfl
      have d8 := hc' 8 _ rfl
      have d9 := hc' 9 _ rfl
      have d10 := hc' 10 _ rfl
      simp only [Nat.add_zero] at c0 d0
      have hsr := HSP.out r (List.mem_of_getElem? hr)
      have HS : Hid (∀ W, Below wr.heap.size wr W → Calls Tryz.prog 55 #[.agg (rcC r (.slice sa r.spans.length sc) (.slice da r.data.length dc)), .agg (rcC r (.slice sb r.spans.length tc) (.slice db r.data.length ec))] W fun e w' => e = .returned (.bool true) ∧ Below W.heap.size W w') := fun W hW => sameRec7_eq r sa da sb db _ _ sc dc tc ec W (hri.below hW) (hri'.below hW) hsr
      have HBN : Hid (∀ W W', Below wr.heap.size wr W → Below W.heap.size W W' → Below w.heap.size w W') := fun W W' h1 h2 => (HBW.out.trans (h1.mono HBW.out.size)).trans (h2.mono (by have := HBW.out.size; have := h1.size; omega))
      have hlt' : (k : Int) < (n : Int) := by omega
      clear hc hc' hri hri' hbw hr hsr
      generalize r.spans.length = ns at *
      generalize r.data.length = nd at *
      go_upto_region 6 with fail
      go_region_with (go_at_call 55; refine (HS.out _ (by first | exact Below.refl _ _ | exact ⟨rfl, rfl, rfl, Nat.le_refl _, fun _ _ => rfl⟩)).mono ?_; rintro e w2 ⟨rfl, hb2⟩; have HB2 : Hid (Below w.heap.size w w2) := HBN.out _ _ (by first | exact Below.refl _ _ | exact ⟨rfl, rfl, rfl, Nat.le_refl _, fun _ _ => rfl⟩) hb2; clear hb2)
      all_goals
        clear c0 c1 c2 c3 c4 c5 c6 c7 c8 c9 c10 d0 d1 d2 d3 d4 d5 d6 d7 d8 d9 d10 HS HBN
        go_wp2
        go_roundw
        case rel => exact ⟨k + 1, by omega, by go_num, HB2.out⟩
        case measure => simp [intOf]; omega
    · have hlt' : ¬ (k : Int) < (n : Int) := by omega
      clear hbw
      go_wp2
      go_ret
      exact ⟨rfl, HBW.out⟩
end Go.Proofs.YtllhbhogfffedaaGreatDoor

namespace Go.Proofs.YtllhbhogfffedaaGreatDoor
open Go.RowKit
set_option linter.unusedVariables false
set_option linter.unusedSimpArgs false

/-! ## The reference's number -/
def nG (v : Int) (i : Int) : List Int → Option (Int × List Int)
  | [] => none
  | c :: r => if i = 0 ∧ c = 128 then none else if 36028797018963967 < v then none else if c < 128 then some (128 * v + c, r) else nG (128 * v + (c - 128)) (i + 1) r
/-- The reference's reader: its bytes, how far it is, is it bad? -/
abbrev r2O (sl : Value) (k : Nat) (b : Bool) : Obj := .cells #[sl, .int .i64 k, .bool b] 161
def N2Post (q : Option (Int × List Int)) (sl : Value) (n rb : Nat) (w : World) (e : Ending) (w' : World) : Prop :=
  (match q with
    | some (v, t) => e = .returned (.int .i64 v) ∧ w'.heap[rb]? = some (r2O sl (n - t.length) false)
    | none => e = .returned (.int .i64 0) ∧ ∃ k, k ≤ n ∧ w'.heap[rb]? = some (r2O sl k true)) ∧ w.grownBy w' (some rb)
end Go.Proofs.YtllhbhogfffedaaGreatDoor

namespace Go.Proofs.YtllhbhogfffedaaGreatDoor

/-- An append of what lies at an address, as one step of a region that draws. -/
theorem step_append_at {P : Program} {ops : Array Oper} {o : Oper} {a : Act} {w : World} {K : Act → World → Prop} {Q : Exit → Act → World → Prop} {E : Prop}
    (hg : o.guard = none) (s x : Operand) (t : TypeId) (hop : o.op = Op.call { callee := Callee.builtin Builtin.append, args := #[s, x], argTypes := #[t, t] })
    (base : Nat) (e : TypeId) (i : TypeInfo) (z : Value) (size bytes : Nat) (ht : P.underlying t = some (.slice e)) (hi : P.info? e = some i) (hz : i.zero = some z)
    (hsize : i.size = size) (hby : i.bytes = bytes) (hzs : z.cells.size = size) (hsz : 0 < size)
    (v : Value) (n : Nat) (xs : List Value) (hs : a.eval s = v) (hown : w.ownsRow base e size v n xs)
    (ad : Addr) (m c : Nat) (news : List Value) (hx : a.eval x = .slice (some ad) m c) (hl : news.length = m * size) (hnews : ∀ j u, news[j]? = some u → w.cell? (ad.add j) = some u) (h1 : ∀ u ∈ news, u.oneCell' = true)
    (h63 : n + m ≤ maxLen) (hbytes : (n + m) * bytes ≤ 140737488355328) (hbase : base ≤ w.heap.size)
    (hK : ∀ v' w', w'.ownsRow base e size v' (n + m) (xs ++ news) → w.grownBy w' v.ownBlock → (v'.ownBlock = v.ownBlock ∨ v'.ownBlock = some w.heap.size) → K (a.put o.dst v') w') :
    if Region.wanted o (yielded ops a.tmps) = true then Oper.wp P o a w K Q else E := by
  have hw : Region.wanted o (yielded ops a.tmps) = true := by simp [Region.wanted, hg]
  rw [if_pos hw]
  obtain ⟨v', w', hrun, r2, r3, _, r5⟩ := run_append_own_at (P := P) w base t o.type e i z size bytes ht hi hz hsize hby hzs hsz v n xs hown ad m c news hl hnews h1 h63 hbytes hbase
  unfold Oper.wp
  simp [execOp, hop, resolve, invoke, builtin, hs, hx, hrun, Result.andThen]
  exact hK v' w' r2 r3 r5

end Go.Proofs.YtllhbhogfffedaaGreatDoor

namespace Go.Proofs.YtllhbhogfffedaaGreatDoor

/-- No operation defers. -/
def noDefer (ops : Array Oper) : Bool := ops.all fun o => match o.op with | .defer _ => false | _ => true
end Go.Proofs.YtllhbhogfffedaaGreatDoor

namespace Go.Proofs.YtllhbhogfffedaaGreatDoor
open Go.RowKit
set_option linter.unusedVariables false
set_option linter.unusedSimpArgs false

/-- Bytes with their number ahead. -/
def bytP (zs : List Int) : Option (List Int × List Int) := match numP zs with
  | none => none
  | some (n, t) => if n ≤ t.length then some (t.take n.toNat, t.drop n.toNat) else none
/-- Where the reference's reader is. -/
structure R2 (W : World) (rb g off n c : Nat) (zs : List Int) (q : Option (List Int)) : Prop where
  hp : match q with
    | some t => W.heap[rb]? = some (r2O (.slice (some ⟨g, off, none⟩) n c) (n - t.length) false)
    | none => ∃ k, k ≤ n ∧ W.heap[rb]? = some (r2O (.slice (some ⟨g, off, none⟩) n c) k true)
  cl : ∀ i, i < n → W.cell? ⟨g, off + i, none⟩ = some (.int .u8 (zs.getD i 0))
  le : zs.length = n
  nc : n ≤ c
  mx : n ≤ 131072 ∧ c ≤ 9223372036854775807
  ne : g ≠ rb
  tl : ∀ t, q = some t → t.length ≤ n ∧ zs.drop (n - t.length) = t
/-- A number, wherever the reader is. -/
def num2P (q : Option (List Int)) : Int × Option (List Int) := match q with
  | none => (0, none)
  | some t => match numP t with
    | none => (0, none)
    | some (v, t') => (v, some t')
/-- So many spans, as the reference reads them. -/
def sp2P : Nat → Option (List Int) → List (Int × Int) × Option (List Int)
  | 0, q => ([], q)
  | k + 1, q => match sp2P k q with
    | (l, none) => (l, none)
    | (l, some t) => (l ++ [((num2P (some t)).1, (num2P (some t)).1 + (num2P (num2P (some t)).2).1)], if 4611686018427387903 - (num2P (some t)).1 < (num2P (num2P (some t)).2).1 then none else (num2P (num2P (some t)).2).2)
def sps2P (q : Option (List Int)) : List (Int × Int) × Option (List Int) := sp2P (num2P q).1.toNat (num2P q).2
end Go.Proofs.YtllhbhogfffedaaGreatDoor

namespace Go.Proofs.YtllhbhogfffedaaGreatDoor
open Go.RowKit
set_option linter.unusedVariables false
set_option linter.unusedSimpArgs false

def byt2P (q : Option (List Int)) : List Int × Option (List Int) := match q with
  | none => ([], none)
  | some t => match bytP t with
    | none => ([], none)
    | some (d, t') => (d, some t')
end Go.Proofs.YtllhbhogfffedaaGreatDoor

namespace Go.Proofs.YtllhbhogfffedaaGreatDoor
open Go.RowKit
set_option linter.unusedVariables false

theorem pow_mono {a b : Nat} (h : a ≤ b) : (128 : Int) ^ a ≤ 128 ^ b := by
  have := Nat.pow_le_pow_right (n := 128) (by omega) h
  exact_mod_cast this
theorem div_pow (n : Int) (k : Nat) : n / 128 ^ (k + 1) / 128 = n / 128 ^ (k + 1 + 1) := by
  rw [Int.pow_succ (128 : Int) (k + 1), Int.ediv_ediv_of_nonneg (Int.pow_nonneg (by omega))]
theorem tl_rev (n : Int) (k : Nat) : (tl n (k + 1)).reverse = (tl n k).reverse ++ [n / 128 ^ (k + 1) % 128 + 128] := by
  show ((n / 128 ^ (k + 1) % 128 + 128) :: tl n k).reverse = _
  rw [List.reverse_cons]
/-- The digits from the last one on. -/
def lowV (n : Int) (k : Nat) : List Value := (tl n k).reverse.map (Value.int .u8)
theorem more_digits {n : Int} {k : Nat} (h0 : 0 ≤ n) (h1 : n ≤ 18446744073709551615) (h : 0 < n / 128 ^ (k + 1)) : k + 1 < sz n := by
  have hb := sz_bounds n h0 h1
  rcases Nat.lt_or_ge (k + 1) (sz n) with q | q
  · exact q
  · exfalso
    have h2 : (128 : Int) ^ sz n ≤ 128 ^ (k + 1) := pow_mono q
    have h3 : n < 128 ^ (k + 1) := by omega
    rw [Int.ediv_eq_zero_of_lt h0 h3] at h
    omega
theorem all_digits {n : Int} {k : Nat} (h0 : 0 ≤ n) (h1 : n ≤ 18446744073709551615) (h : ¬ 0 < n / 128 ^ (k + 1)) (hk : k + 1 ≤ sz n) : k + 1 = sz n := by
  have hb := sz_bounds n h0 h1
  rcases Nat.lt_or_ge (k + 1) (sz n) with q | q
  · exfalso
    have h2 := hb.2.2.2 (by omega)
    have h3 : (128 : Int) ^ (k + 1) ≤ 128 ^ (sz n - 1) := pow_mono (by omega)
    have hp : (0 : Int) < 128 ^ (k + 1) := Int.pow_pos (by omega)
    have h4 : 1 ≤ n / 128 ^ (k + 1) := by rw [Int.le_ediv_iff_mul_le hp]; omega
    omega
  · omega

theorem own_pos7 {w : World} {base n sz : Nat} {e : TypeId} {v : Value} {xs : List Value} (h : w.ownsRow base e sz v n xs) (hn : 0 < n) : ∃ g cap, v = .slice (some ⟨g, 0, none⟩) n cap ∧ base ≤ g := by
  obtain ⟨_, ⟨rfl, rfl⟩ | ⟨g, cap, cur, rfl, hb, _⟩⟩ := h
  · omega
  · exact ⟨g, cap, rfl, hb⟩
theorem own_low {w : World} {base n : Nat} {e : TypeId} {v : Value} {xs : List Value} {g : Nat} (h : w.ownsRow base e 1 v n xs) (hg : v.ownBlock = some g) : g < w.heap.size := (h.lt g hg).2

set_option maxRecDepth 100000 in
set_option maxHeartbeats 4000000 in
theorem number2_any (v : Value) (m : Nat) (xs : List Value) (base : Nat) (n : Int) (w : World) (h0 : 0 ≤ n) (h1 : n ≤ 4611686018427387903)
    (hown : w.ownsRow base 5 1 v m xs) (hbase : base ≤ w.heap.size) (hm : m + 10 ≤ 140737488355328) :
    Calls Tryz.prog 87 #[v, .int .i64 n] w fun e w' => ∃ v', e = .returned v' ∧
      w'.ownsRow base 5 1 v' (m + sz n) (xs ++ (enc n).map (Value.int .u8)) ∧ Below base w w' ∧ Keeps8 w w' := by
  obtain ⟨i0, hi, hz0, hz1, hz2⟩ := info_parts Tryz.info_u8
  have hsz := sz_bounds n h0 (by omega)
  have HOW : Hid (w.ownsRow base 5 1 v m xs) := hown
  have hm0 : 0 ≤ n % 128 ∧ n % 128 < 128 := by omega
  have HD1 : Hid (n / 128 = n / 128 ^ (0 + 1)) := by unfold Hid; rfl
  have HNN : Hid (0 ≤ n ∧ n ≤ 18446744073709551615) := ⟨h0, by omega⟩
  clear hown
  go_enter Tryz.func87, Tryz.ntmps87
  go_wp2_with (at_builtin; refine append_any _ rfl _ _ 35 rfl w.heap.size 5 i0 (.int .u8 0) 1 Tryz.underlying35 hi hz0 hz1 hz2 rfl _ 0 [] rfl (World.ownsRow_nil _ _ _ _) .u8 _ _ _ [n % 128] rfl (by intro h; cases h) rfl (Blk.lies (k := .u8) (t := 5) (xs := [n % 128]) (by exact heap_new6 _ _) 1) (by unfold maxLen; omega) (by omega) (by simp) ?_; intro v1 w1 ho1 hg1)
  have HO1 : Hid (w1.ownsRow w.heap.size 5 1 v1 (0 + 1) (lowV n 0)) := ho1
  have HB1 : Hid (Below w.heap.size w w1) := own_grown ((Below.refl _ _).alloc (Nat.le_refl _) _) (show World.grownBy _ w1 (Value.slice none 0 0).ownBlock from hg1) (World.ownsRow_nil _ w.heap.size 5 1) (by simp)
  clear ho1 hg1
  rw [HD1.out]
  go_loopw [1, 5] (fun t lo wr => ∃ k : Nat, k + 1 ≤ sz n ∧ t = .int .i64 (n / 128 ^ (k + 1)) ∧ wr.ownsRow w.heap.size 5 1 lo (k + 1) (lowV n k) ∧ Below w.heap.size w wr) (fun t _ _ => (intOf t).toNat)
  case atStart => exact ⟨0, by omega, rfl, HO1.out, HB1.out⟩
  case round =>
    obtain ⟨k, hk, rfl, ho, hb⟩ := hrel
    have HO : Hid (wr.ownsRow w.heap.size 5 1 u5 (k + 1) (lowV n k)) := ho
    have HB : Hid (Below w.heap.size w wr) := hb
    clear ho hb HO1 HB1 HD1
    have hd0 : 0 ≤ n / 128 ^ (k + 1) := Int.ediv_nonneg h0 (Int.pow_nonneg (by omega))
    have HDV : Hid (n / 128 ^ (k + 1) / 128 = n / 128 ^ (k + 1 + 1)) := div_pow n k
    have HTR : Hid (lowV n (k + 1) = lowV n k ++ [128 + n / 128 ^ (k + 1) % 128].map (Value.int .u8)) := by unfold Hid lowV; rw [tl_rev, List.map_append, Int.add_comm]
    have HMO : Hid (0 < n / 128 ^ (k + 1) → k + 1 < sz n) := more_digits HNN.out.1 HNN.out.2
    have HAL : Hid (¬ 0 < n / 128 ^ (k + 1) → k + 1 = sz n) := fun h => all_digits HNN.out.1 HNN.out.2 h hk
    have hd1 : n / 128 ^ (k + 1) ≤ n := Int.ediv_le_self _ h0
    generalize n / 128 ^ (k + 1) = d at *
    by_cases hp : 0 < d
    · have hk2 := HMO.out hp
      have hdm : 0 ≤ d % 128 ∧ d % 128 < 128 := by omega
      have hsw := HB.out.size
      go_wp2_with (at_builtin; refine append_any _ rfl _ _ 35 rfl w.heap.size 5 i0 (.int .u8 0) 1 Tryz.underlying35 hi hz0 hz1 hz2 rfl _ _ _ rfl (own_below6 HO.out ((Below.refl _ _).alloc (Nat.le_refl _) _)) .u8 _ _ _ [128 + d % 128] rfl (by intro h; cases h) rfl (Blk.lies (k := .u8) (t := 5) (xs := [128 + d % 128]) (by exact heap_new6 _ _) 1) (by unfold maxLen; omega) (by omega) (by simp; omega) ?_; intro v2 w2 ho2 hg2)
      have HO2 : Hid (w2.ownsRow w.heap.size 5 1 v2 (k + 1 + 1) (lowV n (k + 1))) := by
        unfold Hid
        rw [HTR.out]
        exact ho2
      have HB2 : Hid (Below w.heap.size w w2) := own_grown (HB.out.alloc hsw _) hg2 (own_below6 HO.out ((Below.refl _ _).alloc (Nat.le_refl _) _)) (by simp; omega)
      go_roundw
      case rel => exact ⟨k + 1, by omega, by rw [HDV.out], HO2.out, HB2.out⟩
      case measure => simp [intOf]; omega
    · have hks := HAL.out hp
      obtain ⟨gl, cl, rfl, hgl⟩ := own_pos7 HO.out (by omega)
      have HEN : Hid (enc n = tl n k) := by unfold Hid enc; rw [← hks]; rfl
      have hlow : ∀ j, j < k + 1 → wr.cell? ⟨gl, j, none⟩ = some (.int .u8 ((enc n).getD (k - j) 0)) := fun j hj => by
        rw [World.ownsRow.cellAt HO.out j (by omega), HEN.out]
        unfold lowV
        rw [List.getElem?_map, List.getElem?_reverse (by rw [tl_length]; exact hj), tl_length, List.getD_eq_getElem?_getD]
        have hl : k - j < (tl n k).length := by rw [tl_length]; omega
        rw [show k + 1 - 1 - j = k - j by omega, List.getElem?_eq_getElem hl]
        rfl
      have HHB : Hid (∃ cs, wr.heap[gl]? = some (.cells cs 5 (0, 0))) := by
        obtain ⟨_, ⟨h, _⟩ | ⟨g, cap, cur, hv, _, hh, _⟩⟩ := HO.out
        · cases h
        · simp only [Value.slice.injEq, Option.some.injEq, Addr.mk.injEq] at hv
          obtain ⟨⟨rfl, _⟩, _⟩ := hv
          exact ⟨cur, hh⟩
      have hel : (enc n).length = k + 1 := by rw [HEN.out, tl_length]
      have HEL : Hid ((enc n).length = k + 1) := hel
      have HLOW : Hid (∀ j, j < k + 1 → wr.cell? ⟨gl, j, none⟩ = some (.int .u8 ((enc n).getD (k - j) 0))) := hlow
      have HV : Hid (wr.ownsRow base 5 1 v m xs) := own_below6 HOW.out HB.out
      have HVB : Hid (∀ g, v.ownBlock = some g → g < w.heap.size) := fun g hg => own_low HOW.out hg
      have HBB : Hid (Below base w wr) := HB.out.mono hbase
      have hglw : gl < wr.heap.size := by obtain ⟨cs, hc⟩ := HHB.out; exact (Array.getElem?_eq_some_iff.mp hc).1
      have HKW : Hid (Keeps8 w wr) := Keeps8.below HB.out
      have hwk : IntKind.i64.wrap ((k : Int) + 1 - 1) = (k : Int) := by rw [IntKind.wrap_i64]; omega
      have hk9 : k + 1 ≤ 10 := by omega
      have HRES : Hid (sz n = k + 1) := hks.symm
      clear hlow hel HO HTR HDV HMO HAL hks HOW HEN hd0 hd1 hk HNN
      have hsw := HB.out.size
      go_wp2_with fail
      obtain ⟨w4, h4⟩ : ∃ x, x = wr := ⟨_, rfl⟩
      subst h4
      go_loopw [0, 6] (fun b i wx => ∃ j : Nat, j ≤ k + 1 ∧ i = .int .i64 ((j : Int) - 1) ∧ wx.ownsRow base 5 1 b (m + (k + 1 - j)) (xs ++ ((enc n).take (k + 1 - j)).map (Value.int .u8)) ∧ b.ownBlock ≠ some gl ∧ wx.heap[gl]? = w4.heap[gl]? ∧ w4.heap.size ≤ wx.heap.size ∧ Below base w wx ∧ Keeps8 w wx) (fun _ i _ => (intOf i + 1).toNat)
      case atStart =>
        refine ⟨k + 1, Nat.le_refl _, by first | rfl | (congr 1; omega) | go_num, ?_, fun h => ?_, rfl, Nat.le_refl _, HBB.out, HKW.out⟩
        · rw [Nat.sub_self, List.take_zero, List.map_nil, List.append_nil]; exact HV.out
        · have := HVB.out _ h; omega
      case round =>
        obtain ⟨j, hj, rfl, ho, hne, hgb, hsx, hbx, hkx⟩ := hrel
        have HOx : Hid (wr.ownsRow base 5 1 u0 (m + (k + 1 - j)) (xs ++ ((enc n).take (k + 1 - j)).map (Value.int .u8))) := ho
        have HNE : Hid (u0.ownBlock ≠ some gl) := hne
        have HGB : Hid (wr.heap[gl]? = w4.heap[gl]?) := hgb
        have HBX : Hid (Below base w wr) := hbx
        have HKX : Hid (Keeps8 w wr) := hkx
        clear ho hne hgb hbx hkx
        by_cases hj1 : 1 ≤ j
        · have hj1' : 0 ≤ (j : Int) - 1 := by omega
          have hc : wr.cell? ⟨gl, j - 1, none⟩ = some (.int .u8 ((enc n).getD (k + 1 - j) 0)) := by
            have h2 := HLOW.out (j - 1) (by omega)
            rw [show k - (j - 1) = k + 1 - j by omega] at h2
            have h3 : wr.cell? ⟨gl, j - 1, none⟩ = w4.cell? ⟨gl, j - 1, none⟩ := by simp only [World.cell?]; rw [HGB.out]
            rw [h3]; exact h2
          have HTK : Hid ((enc n).take (k + 1 - (j - 1)) = (enc n).take (k + 1 - j) ++ [(enc n).getD (k + 1 - j) 0]) := by
            unfold Hid
            rw [show k + 1 - (j - 1) = (k + 1 - j) + 1 by omega]
            exact take_snoc' _ _ (by rw [HEL.out]; omega)
          generalize (enc n).getD (k + 1 - j) 0 = y at *
          have hnj : ((j : Int) - 1).toNat = j - 1 := by omega
          have hjl : (j : Int) - 1 < (k : Int) + 1 := by omega
          have hcx : wr.cell? ⟨gl, ((j : Int) - 1).toNat, none⟩ = some (.int .u8 y) := by rw [hnj]; exact hc
          have hwj : IntKind.i64.wrap ((j : Int) - 1 - 1) = (j : Int) - 1 - 1 := by rw [IntKind.wrap_i64]; omega
          have hsb := HBX.out.size
          go_wp2_with (at_builtin; refine append_at _ rfl _ _ 35 rfl base 5 i0 (.int .u8 0) 1 Tryz.underlying35 hi hz0 hz1 hz2 rfl _ _ _ rfl (own_below6 HOx.out ((Below.refl _ _).alloc (Nat.le_refl _) _)) .u8 _ _ _ [y] rfl (by intro h; cases h) rfl (Blk.lies (k := .u8) (t := 5) (xs := [y]) (by exact heap_new6 _ _) 1) (by unfold maxLen; omega) (by omega) (by simp; omega) ?_; intro v2 w2 ho2 hg2 hst2)
          have HOA := own_below6 HOx.out ((Below.refl _ _).alloc (Nat.le_refl _) (.cells #[.int .u8 y] 5))
          have HO2 : Hid (w2.ownsRow base 5 1 v2 (m + (k + 1 - (j - 1))) (xs ++ ((enc n).take (k + 1 - (j - 1))).map (Value.int .u8))) := by
            unfold Hid
            rw [HTK.out, List.map_append, ← List.append_assoc]
            exact grow_to ho2 (by omega)
          have HG2 : Hid (w2.heap[gl]? = w4.heap[gl]?) := (hg2.block gl (by simp; omega) (fun h => HNE.out h.symm)).trans ((Below.heap_alloc wr _ gl (by omega)).trans HGB.out)
          have HN2 : Hid (v2.ownBlock ≠ some gl) := fun h => by
            rcases hst2 gl h with q | q
            · exact HNE.out q
            · simp at q; omega
          have HK2 : Hid (Keeps8 w w2) := (HKX.out.trans (Keeps8.below ((Below.refl _ _).alloc (Nat.le_refl _) _))).trans (Keeps8.grown HOA hg2)
          have HB2 : Hid (Below base w w2) := own_grown (HBX.out.alloc (by omega) _) hg2 HOA (by simp; omega)
          have hz2' : w4.heap.size ≤ w2.heap.size := by have := hg2.size; simp at this; omega
          go_roundw
          case rel => exact ⟨j - 1, by omega, congrArg (Value.int IntKind.i64) (by omega), HO2.out, HN2.out, HG2.out, hz2', HB2.out, HK2.out⟩
          case measure => simp [intOf]; omega
        · obtain rfl : j = 0 := by omega
          have HFIN : Hid (wr.ownsRow base 5 1 u0 (m + sz n) (xs ++ (enc n).map (Value.int .u8))) := by
            unfold Hid
            have h := HOx.out
            rw [Nat.sub_zero, ← HEL.out, List.take_length] at h
            rw [HRES.out, ← HEL.out]
            exact h
          clear HOx
          go_wp2
          go_ret
          exact ⟨_, rfl, HFIN.out, HBX.out, HKX.out⟩
end Go.Proofs.YtllhbhogfffedaaGreatDoor
