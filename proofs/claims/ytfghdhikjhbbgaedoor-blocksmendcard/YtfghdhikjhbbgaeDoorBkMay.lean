import Derived.Test.YtfghdhikjhbbgaeDoorBkRf1
import Derived.Test.YtfghdhikjhbbgaeDoorBkMk2
import Derived.BigRegion
import Derived.Deep.RegionHeld3
import Derived.Test.YtfghdhikjhbbgaeDoorBkMk
import Derived.Test.YtfghdhikjhbbgaeDoorBkLay
import Derived.Test.YtfghdhikjhbbgaeDoorBkAgM
namespace Go.Proofs.YtfghdhikjhbbgaeDoor
open Go.RowKit

/-- May a session, a parcel and a base be? -/
def mayB (k : Pk) (b : Int) : Bool := sesB k && (pclB k && (decide (0 ≤ b) && decide (b ≤ 4611686018427322367)))

theorem checks_any (t : Int) (w : World) :
    Calls Tryd.prog 13 #[.int .i64 t] w fun e w' => e = .returned (.bool (cks t)) ∧ w = w' := by
  have HC : Hid (cks t = (t == 1 || t == 2 || t == 3)) := rfl
  generalize cks t = q at *
  go_enter Tryd.func13, Tryd.ntmps13
  by_cases h1 : t = 1
  · subst h1
    go_wp2
    go_ret
    exact ⟨by rw [HC.out]; rfl, rfl⟩
  have e1 : (t == 1) = false := beq_false_of_ne h1
  by_cases h2 : t = 2
  · subst h2
    go_wp2
    go_ret
    exact ⟨by rw [HC.out]; rfl, rfl⟩
  have e2 : (t == 2) = false := beq_false_of_ne h2
  by_cases h3 : t = 3
  · subst h3
    go_wp2
    go_ret
    exact ⟨by rw [HC.out]; rfl, rfl⟩
  have e3 : (t == 3) = false := beq_false_of_ne h3
  go_wp2
  go_ret
  exact ⟨by rw [HC.out, e1, e2, e3]; rfl, rfl⟩

set_option maxHeartbeats 2000000 in
theorem may_any (k : Pk) (b : Int) (w : World) :
    Calls Tryd.prog 15 #[.agg #[.int .i64 k.org, .int .i64 k.num, .int .i64 k.srv, .int .i64 k.size, .int .i64 k.red, .int .i64 k.mtu, .int .i64 k.every, .int .i64 b]] w fun e w' => e = .returned (.bool (mayB k b)) ∧ Below w.heap.size w w' := by
  have HB0 : Hid (Below w.heap.size w (w.alloc (.cells #[.int .i64 k.org, .int .i64 k.num, .int .i64 k.srv, .int .i64 k.size, .int .i64 k.red, .int .i64 k.mtu, .int .i64 k.every, .int .i64 b] 44))) := (Below.refl _ _).alloc (Nat.le_refl _) _
  have HX : Hid ((w.alloc (.cells #[.int .i64 k.org, .int .i64 k.num, .int .i64 k.srv, .int .i64 k.size, .int .i64 k.red, .int .i64 k.mtu, .int .i64 k.every, .int .i64 b] 44)).heap[w.heap.size]? = some (.cells #[.int .i64 k.org, .int .i64 k.num, .int .i64 k.srv, .int .i64 k.size, .int .i64 k.red, .int .i64 k.mtu, .int .i64 k.every, .int .i64 b] 44)) := heap_alloc_new' w _
  have hs := session2_any k
  have hp := parcel2_any k
  unfold mayB
  obtain ⟨q1, h1⟩ : ∃ q, sesB k = q := ⟨_, rfl⟩
  obtain ⟨q2, h2⟩ : ∃ q, pclB k = q := ⟨_, rfl⟩
  rw [h1] at hs ⊢
  rw [h2] at hp ⊢
  clear h1 h2
  go_enter Tryd.func15, Tryd.ntmps15
  go_wp2_with fail
  refine (hs _).mono ?_
  rintro e w1 ⟨rfl, hb1⟩
  have HX1 : Hid (w1.heap[w.heap.size]? = some (.cells #[.int .i64 k.org, .int .i64 k.num, .int .i64 k.srv, .int .i64 k.size, .int .i64 k.red, .int .i64 k.mtu, .int .i64 k.every, .int .i64 b] 44)) := (hb1.block _ (by simp)).trans HX.out
  have HB1 : Hid (Below w.heap.size w w1) := HB0.out.trans (hb1.mono (by simp))
  have c2 := cell_of_row _ w.heap.size 2 _ _ _ HX1.out
  have c3 := cell_of_row _ w.heap.size 3 _ _ _ HX1.out
  have c4 := cell_of_row _ w.heap.size 4 _ _ _ HX1.out
  have c5 := cell_of_row _ w.heap.size 5 _ _ _ HX1.out
  have c6 := cell_of_row _ w.heap.size 6 _ _ _ HX1.out
  simp only [List.getElem?_toArray, List.getElem?_cons_succ, List.getElem?_cons_zero] at c2 c3 c4 c5 c6
  clear hb1 hs HX HB0
  go_wp2_with fail
  refine (hp _).mono ?_
  rintro e w2 ⟨rfl, hb2⟩
  have HX2 : Hid (w2.heap[w.heap.size]? = some (.cells #[.int .i64 k.org, .int .i64 k.num, .int .i64 k.srv, .int .i64 k.size, .int .i64 k.red, .int .i64 k.mtu, .int .i64 k.every, .int .i64 b] 44)) := (hb2.block _ (Array.getElem?_eq_some_iff.mp HX1.out).1).trans HX1.out
  have HB2 : Hid (Below w.heap.size w w2) := HB1.out.trans (hb2.mono HB1.out.size)
  have c7 := cell_of_row _ w.heap.size 7 _ _ _ HX2.out
  simp only [List.getElem?_toArray, List.getElem?_cons_succ, List.getElem?_cons_zero] at c7
  clear hb2 hp HX1 HB1 c2 c3 c4 c5 c6
  cases q1
  · go_wp2
    go_ret
    exact ⟨rfl, HB2.out⟩
  cases q2
  · go_wp2
    go_ret
    exact ⟨rfl, HB2.out⟩
  by_cases h0 : 0 ≤ b
  · by_cases h3 : b ≤ 4611686018427322367
    · go_wp2
      go_ret
      exact ⟨by simp [h0, h3], HB2.out⟩
    · go_wp2
      go_ret
      exact ⟨by simp; omega, HB2.out⟩
  · go_wp2
    go_ret
    exact ⟨by simp; omega, HB2.out⟩

end Go.Proofs.YtfghdhikjhbbgaeDoor

namespace Go.Proofs.YtfghdhikjhbbgaeDoor
open Go.RowKit

theorem own_bds {w : World} {base n c : Nat} {e : TypeId} {a : Option Addr} {xs : List Value} (h : w.ownsRow base e 1 (.slice a n c) n xs) : n ≤ c ∧ c ≤ 9223372036854775807 ∧ (a = none → n = 0 ∧ c = 0) := by
  obtain ⟨_, ⟨q, rfl⟩ | ⟨g, cap, cur, q, _, _, h1, h2, _, _⟩⟩ := h
  · injection q with q1 q2 q3; subst q1; subst q3; exact ⟨Nat.le_refl _, by omega, fun _ => ⟨rfl, rfl⟩⟩
  · injection q with q1 q2 q3; subst q1; subst q3; unfold maxLen at h2; exact ⟨h1, by omega, fun h => by cases h⟩

/-- A piece's segment of bytes of one's own, as Print takes it. -/
theorem sgP_in {k : Pk} {x : Pc} {d : List Int} {w : World} {base c : Nat} {a : Option Addr} (h : w.ownsRow base 5 1 (.slice a d.length c) d.length (d.map (Value.int .u8))) (hb : Bytey d) (hs : d.length ≤ 1048576) :
    SIn w (sgP k x d) (.slice none 0 0) (.slice none 0 0) (.slice a d.length c) (.slice none 0 0) [] [] :=
  ⟨⟨⟨none, 0, rfl, .inl rfl⟩, (by intro x hx; cases hx), (by simp)⟩, rfl, ⟨⟨none, 0, rfl, .inl rfl⟩, (by intro x hx; cases hx), (by simp)⟩, rfl,
   ⟨⟨a, c, rfl, (own_lies h).1, (own_bds h).2.2, (own_bds h).1, (own_bds h).2.1⟩, hb, hs⟩, ⟨⟨none, 0, rfl, .inl rfl⟩, by simp [sgP]⟩⟩

theorem dat_len {zs : List Int} {x : Pc} (h0 : 0 ≤ x.frm) (h1 : x.frm ≤ x.to) (h2 : x.to ≤ zs.length) : ((dat zs x).length : Int) = x.to - x.frm := by
  unfold dat; rw [List.length_take, List.length_drop]; omega
theorem dat_mem {zs : List Int} {x : Pc} (h : Bytey zs) : Bytey (dat zs x) := fun z hz => h z (List.mem_of_mem_drop (List.mem_of_mem_take hz))

set_option maxRecDepth 100000 in
set_option maxHeartbeats 4000000 in
/-- A piece that may be, and that has room, fits. -/
theorem fits_ok {k : Pk} (ok : k.Ok) (x : Pc) (g : Nat) (zs : List Int) (len cap : Nat) (w : World) (hT : Tab w) (hl : zs.length = len) (hlc : len ≤ cap) (hsz : (len : Int) = k.size) (hc : Lies .u8 w (some ⟨g, 0, none⟩) zs) (hz : Bytey zs) (hp : pieceB k x = true) (ht : PTy x.typ) (hn : PNo x) (h1 : x.to ≤ k.size) (hf : frX k x + sz (x.to - x.frm) + (x.to - x.frm) ≤ k.mtu) (hf0 : 0 ≤ frX k x) :
    Calls Tryd.prog 12 #[.agg #[.int .i64 k.org, .int .i64 k.num], .agg (pclC k), .agg (pcC x), .slice (some ⟨g, 0, none⟩) len cap] w fun e w' => e = .returned (.bool true) ∧ Below w.heap.size w w' := by
  have hpp := (pieceB_iff k x).mp hp
  have hx0 : 0 ≤ x.frm := hpp.1
  have hx1 : x.frm < x.to := hpp.2.1
  have hks := ok.size
  have hkm := ok.mtu
  have hdl := dat_len (zs := zs) (x := x) hx0 (by omega) (by omega)
  have hmk : mk k x zs = (sgP k x (dat zs x), 0) := by
    unfold mk
    rw [if_neg (by omega), ok.ses, if_neg (by simp), ok.pcl, if_neg (by simp), hp, if_neg (by simp), if_neg (by omega)]
  have hpr := prt_pc (d := dat zs x) ok ht hn hx0 (by omega) (by omega) (by rw [hdl]; omega)
  have hby : Bytey (dat zs x) := dat_mem hz
  have hw0 : 0 < w.heap.size := World.block_lt_of_cell? w ⟨0, 0, none⟩ (hT 0 (by omega))
  have hmake := fun W (hW : Below w.heap.size w W) => make_any k x (some ⟨g, 0, none⟩) zs len cap W hl hlc (hc.below hW) (fun h => by cases h)
  rw [hmk] at hmake
  have hpos := sz_pos (x.to - x.frm) (by omega) (by omega)
  rw [hdl] at hpr
  generalize hD : dat zs x = D at *
  have HP1 : Hid ((prt (sgP k x D) [] []).1 = 0) := hpr.1
  have HP2 : Hid (0 < ((prt (sgP k x D) [] []).2.length : Int) ∧ ((prt (sgP k x D) [] []).2.length : Int) ≤ k.mtu) := by unfold Hid; rw [hpr.2]; omega
  have HD : Hid (D.length ≤ 1048576) := by unfold Hid; omega
  have HY : Hid (Bytey D) := hby
  have HT : Hid (Tab w) := hT
  have HB0 : Hid (Below w.heap.size w (((w.alloc (.cells #[.int .i64 k.org, .int .i64 k.num] 23)).alloc (.cells (pclC k) 25)).alloc (.cells (pcC x) 38))) := (((Below.refl _ _).alloc (Nat.le_refl _) _).alloc (by simp) _).alloc (by simp; omega) _
  have HC0 : Hid ((((w.alloc (.cells #[.int .i64 k.org, .int .i64 k.num] 23)).alloc (.cells (pclC k) 25)).alloc (.cells (pcC x) 38)).cell? ⟨w.heap.size + 1, 3, none⟩ = some (.int .i64 k.mtu)) := by
    have := cellN (w.alloc (.cells #[.int .i64 k.org, .int .i64 k.num] 23)) (pclC k) 25 3 _ rfl
    rw [World.size_alloc] at this
    exact cellA this _
  have hmk0 := hmake _ HB0.out
  clear hpr hby hT hc hmk hmake hpp hp ht hn hz hdl hD hf hf0 hpos
  go_enter Tryd.func12, Tryd.ntmps12
  go_wp2_with fail
  refine hmk0.mono ?_
  rintro e w1 ⟨ad, cd, rfl, hown, hb1⟩
  have HB1 : Hid (Below w.heap.size w w1) := HB0.out.trans (hb1.mono (by simp; omega))
  have HC1 : Hid (w1.cell? ⟨w.heap.size + 1, 3, none⟩ = some (.int .i64 k.mtu)) := cellB HC0.out hb1 (by simp)
  have HSI : Hid (SIn w1 (sgP k x D) (.slice none 0 0) (.slice none 0 0) (.slice ad D.length cd) (.slice none 0 0) [] []) := sgP_in hown HY.out HD.out
  clear hmk0 hown hb1 HB0 HC0
  go_wp2_with fail
  refine (print_any (sgP k x D) (.slice none 0 0) (.slice none 0 0) (.slice ad D.length cd) (.slice none 0 0) [] [] _ (HSI.out.below ((Below.refl _ _).alloc (Nat.le_refl _) _)) (HT.out.below (HB1.out.alloc (HB1.out.size) _) hw0)).mono ?_
  rintro e w3 ⟨a3, c3, rfl, _, hb3⟩
  have HC3 : Hid (w3.cell? ⟨w.heap.size + 1, 3, none⟩ = some (.int .i64 k.mtu)) := cellB (cellA HC1.out _) hb3 (World.block_lt_of_cell? _ _ (cellA HC1.out _))
  have HB3 : Hid (Below w.heap.size w w3) := (HB1.out.alloc HB1.out.size _).trans (hb3.mono (by have := HB1.out.size; simp; omega))
  obtain ⟨hq1, hq2⟩ := HP2.out
  have hp1 := HP1.out
  have hc3 := HC3.out
  clear HP1 HP2 HSI HC1 HB1 hb3 HC3
  generalize (prt (sgP k x D) [] []).2.length = L at *
  generalize (prt (sgP k x D) [] []).1 = er at *
  subst hp1
  go_wp2
  go_ret
  exact ⟨rfl, HB3.out⟩
end Go.Proofs.YtfghdhikjhbbgaeDoor

namespace Go.Proofs.YtfghdhikjhbbgaeDoor
open Go.RowKit

/-- What a row of bytes wants to be made. -/
def Makes (vx vy : Value) : Prop := ∃ n : Nat, vx = .int .i64 n ∧ vy = .int .i64 n ∧ n ≤ 1048576
def pNat : Value → Nat
  | .int _ n => n.toNat
  | _ => 0
theorem pNat_int (k : IntKind) (n : Nat) : pNat (.int k (n : Int)) = n := rfl
def zrs (n : Nat) : Array Value := ((List.replicate n (0 : Int)).map (Value.int .u8)).toArray
theorem made_zrs (n : Nat) : madeCells (Value.cells (.int .u8 0)) (n * 1) = zrs n := by
  apply Array.toList_inj.mp
  simp [madeCells, Value.cells, Nat.mod_one, List.map_const', zrs]
theorem wp_make_bytes {tp : TypeId} {x y : Operand} {d : Option Tmp} {ps : String} {af : Array Edge} {a : Act} {w : World} {K : Act → World → Prop} {Q : Exit → Act → World → Prop}
    (hs : Makes (a.eval x) (a.eval y)) :
    Oper.wp Tryd.prog { dst := d, op := .makeSlice 34 x y, type := tp, pos := ps, after := af, guard := none } a w K Q = K (a.put d (.slice (some ⟨w.heap.size, 0, none⟩) (pNat (a.eval x)) (pNat (a.eval x)))) (w.alloc (.cells (zrs (pNat (a.eval x))) 5)) := by
  obtain ⟨n, hx, hy, hn⟩ := hs
  obtain ⟨i0, hi, hz0, hz1, hz2⟩ := info_parts Tryd.info_u8
  have hr := run_make (P := Tryd.prog) w 34 5 i0 (.int .u8 0) Tryd.underlying34 hi hz0 .i64 .i64 n n (by omega) (Int.le_refl _) (by rw [hz2]; omega) (by omega)
  rw [hz1, Int.toNat_natCast, made_zrs] at hr
  unfold Oper.wp execOp
  simp only [hx, hy, pNat_int, Sem.run_bind, Sem.run_pure, Result.andThen_ok, hr]
  rfl

/-- What lies there while longer runs. -/
structure LX (k : Pk) (x : Pc) (w V : World) : Prop where
  ses : V.heap[w.heap.size]? = some (.cells #[.int .i64 k.org, .int .i64 k.num] 23)
  pcl : V.heap[w.heap.size + 1]? = some (.cells (pclC k) 25)
  pc : V.heap[w.heap.size + 2]? = some (.cells (pcC x) 38)
  bel : Below w.heap.size w V
theorem LX.size {k : Pk} {x : Pc} {w V : World} (h : LX k x w V) : w.heap.size + 2 < V.heap.size := (Array.getElem?_eq_some_iff.mp h.pc).1
theorem lx_start (k : Pk) (x : Pc) (w : World) : LX k x w (((w.alloc (.cells #[.int .i64 k.org, .int .i64 k.num] 23)).alloc (.cells (pclC k) 25)).alloc (.cells (pcC x) 38)) := by
  have e0 := heap_alloc_new' w (.cells #[.int .i64 k.org, .int .i64 k.num] 23)
  have e1 := heap_alloc_new' (w.alloc (.cells #[.int .i64 k.org, .int .i64 k.num] 23)) (.cells (pclC k) 25)
  have e2 := heap_alloc_new' ((w.alloc (.cells #[.int .i64 k.org, .int .i64 k.num] 23)).alloc (.cells (pclC k) 25)) (.cells (pcC x) 38)
  simp only [World.size_alloc] at e1 e2
  exact ⟨heapA (heapA e0 _) _, heapA e1 _, e2, (((Below.refl _ _).alloc (Nat.le_refl _) _).alloc (by simp) _).alloc (by simp; omega) _⟩

theorem LX.below {k : Pk} {x : Pc} {w V V' : World} (h : LX k x w V) (hb : Below V.heap.size V V') : LX k x w V' := by
  have := h.size
  exact ⟨(hb.block _ (by omega)).trans h.ses, (hb.block _ (by omega)).trans h.pcl, (hb.block _ (by omega)).trans h.pc, h.bel.trans (hb.mono h.bel.size)⟩
theorem LX.drew {k : Pk} {x : Pc} {w V : World} (h : LX k x w V) : LX k x w V.drew := h.below ((Below.refl _ _).drew)
theorem LX.alloc {k : Pk} {x : Pc} {w V : World} (h : LX k x w V) (o : Obj) : LX k x w (V.alloc o) := h.below ((Below.refl _ _).alloc (Nat.le_refl _) _)
theorem LX.all {k : Pk} {x : Pc} {w V : World} (h : LX k x w V) : V.cell? ⟨w.heap.size, 0, none⟩ = some (.int .i64 k.org) ∧ V.cell? ⟨w.heap.size, 1, none⟩ = some (.int .i64 k.num) ∧ V.cell? ⟨w.heap.size + 1, 0, none⟩ = some (.int .i64 k.srv) ∧
    V.cell? ⟨w.heap.size + 1 + 1, 0, none⟩ = some (.int .i64 x.typ) ∧ V.cell? ⟨w.heap.size + 1 + 1, 1, none⟩ = some (.int .i64 x.frm) ∧ V.cell? ⟨w.heap.size + 1 + 1, 2, none⟩ = some (.int .i64 x.to) ∧ V.cell? ⟨w.heap.size + 1 + 1, 3, none⟩ = some (.int .i64 x.chk) ∧ V.cell? ⟨w.heap.size + 1 + 1, 4, none⟩ = some (.int .i64 x.rep) ∧ LX k x w V := by
  obtain ⟨b0, b1, b2, b3, b4, _⟩ := box5 h.pc
  exact ⟨cell_of_row _ _ 0 _ _ _ h.ses, cell_of_row _ _ 1 _ _ _ h.ses, cell_of_row _ _ 0 _ _ _ h.pcl, b0, b1, b2, b3, b4, h⟩

/-- The same, and the segment with its bytes. -/
structure LF (k : Pk) (x : Pc) (w : World) (n gd gs : Nat) (U : World) : Prop where
  lx : LX k x w U
  seg : U.heap[gs]? = some (.cells #[.int .i64 x.typ, .int .i64 k.org, .int .i64 k.num, .slice none 0 0, .slice none 0 0, .int .i64 k.srv, .int .i64 x.frm, .slice (some ⟨gd, 0, none⟩) n n, .int .i64 x.chk, .int .i64 x.rep, .int .i64 0, .int .i64 0, .slice none 0 0, .int .i64 0] 81)
  dat : U.heap[gd]? = some (.cells (zrs n) 5)
theorem LF.sin {k : Pk} {x : Pc} {w U : World} {n gd gs : Nat} (h : LF k x w n gd gs U) (hn : n ≤ 1048576) : SIn U (sgP k x (List.replicate n 0)) (.slice none 0 0) (.slice none 0 0) (.slice (some ⟨gd, 0, none⟩) n n) (.slice none 0 0) [] [] := by
  have ho : U.ownsRow 0 5 1 (.slice (some ⟨gd, 0, none⟩) n n) n ((List.replicate n (0 : Int)).map (Value.int .u8)) :=
    ⟨by simp, .inr ⟨gd, n, zrs n, rfl, Nat.zero_le _, h.dat, Nat.le_refl _, by unfold maxLen; omega, by simp [zrs], by simp [zrs]⟩⟩
  have hl : (List.replicate n (0 : Int)).length = n := by simp
  have := sgP_in (k := k) (x := x) (d := List.replicate n 0) (base := 0) (w := U) (a := some ⟨gd, 0, none⟩) (c := n) (by rw [hl]; exact ho) (by intro z hz; rw [(List.mem_replicate.mp hz).2]; omega) (by rw [hl]; exact hn)
  rwa [hl] at this

attribute [local go_sem ↓] wp_make_bytes
attribute [local go_sem] pNat_int
set_option maxRecDepth 100000 in
set_option maxHeartbeats 8000000 in
/-- Would a byte more be too many? -/
theorem longer_ok {k : Pk} (ok : k.Ok) (x : Pc) (w : World) (hT : Tab w) (hx0 : 0 ≤ x.frm) (hx1 : x.frm < x.to) (h1 : x.to ≤ k.size) (ht : PTy x.typ) (hn : PNo x) (hf : frX k x + sz (x.to - x.frm) + (x.to - x.frm) ≤ k.mtu) (hf0 : 0 ≤ frX k x) :
    Calls Tryd.prog 14 #[.agg #[.int .i64 k.org, .int .i64 k.num], .agg (pclC k), .agg (pcC x)] w fun e w' => e = .returned (.bool (decide (65536 < x.to + 1) || !fitB (frX k x) k.mtu (x.to + 1 - x.frm))) ∧ Below w.heap.size w w' := by
  have hks := ok.size
  have hkm := ok.mtu
  have hpos := sz_pos (x.to - x.frm) (by omega) (by omega)
  have hpos' := sz_pos (x.to + 1 - x.frm) (by omega) (by omega)
  have hw0 : 0 < w.heap.size := World.block_lt_of_cell? w ⟨0, 0, none⟩ (hT 0 (by omega))
  have hwr : IntKind.i64.wrap (x.to + 1) = x.to + 1 := by rw [IntKind.wrap_i64]; omega
  have HT : Hid (Tab w) := hT
  obtain ⟨ty, frm, tt, ck, rp⟩ := x
  simp only at *
  have HS : Hid (LX k ⟨ty, frm, tt + 1, ck, rp⟩ w (((w.alloc (.cells #[.int .i64 k.org, .int .i64 k.num] 23)).alloc (.cells (pclC k) 25)).alloc (.cells #[.int .i64 ty, .int .i64 frm, .int .i64 (tt + 1), .int .i64 ck, .int .i64 rp] 38))) := lx_start k _ w
  by_cases hbig : 65536 < tt + 1
  · clear hf hn ht hpos hpos'
    go_enter Tryd.func14, Tryd.ntmps14
    go_wp2
    go_ret
    exact ⟨by simp [hbig], HS.out.bel⟩
  have hq : (decide (65536 < tt + 1)) = false := decide_eq_false hbig
  obtain ⟨n, hN⟩ := Int.eq_ofNat_of_zero_le (show 0 ≤ tt + 1 - frm by omega)
  have hn2 : 2 ≤ n ∧ n ≤ 4097 := by omega
  have hpr := prt_pc (d := List.replicate n 0) ok ht hn hx0 (by simp; omega) (by simp; omega) (by simp; rw [← hN]; omega)
  rw [hq, Bool.false_or, hN]
  have hwn : IntKind.i64.wrap (n : Int) = n := by rw [IntKind.wrap_i64]; omega
  have hmks : Makes (.int .i64 n) (.int .i64 n) := ⟨n, rfl, rfl, by omega⟩
  clear hf hn ht hpos hpos'
  go_enter Tryd.func14, Tryd.ntmps14
  go_wp2_with fail
  generalize ((w.alloc (.cells #[.int .i64 k.org, .int .i64 k.num] 23)).alloc (.cells (pclC k) 25)).alloc (.cells #[.int .i64 ty, .int .i64 frm, .int .i64 (tt + 1), .int .i64 ck, .int .i64 rp] 38) = V at *
  have hX := HS.out
  go_region_held3 (fun V => V.cell? ⟨w.heap.size, 0, none⟩ = some (.int .i64 k.org) ∧ V.cell? ⟨w.heap.size, 1, none⟩ = some (.int .i64 k.num) ∧ V.cell? ⟨w.heap.size + 1, 0, none⟩ = some (.int .i64 k.srv) ∧ V.cell? ⟨w.heap.size + 1 + 1, 0, none⟩ = some (.int .i64 ty) ∧ V.cell? ⟨w.heap.size + 1 + 1, 1, none⟩ = some (.int .i64 frm) ∧ V.cell? ⟨w.heap.size + 1 + 1, 2, none⟩ = some (.int .i64 (tt + 1)) ∧ V.cell? ⟨w.heap.size + 1 + 1, 3, none⟩ = some (.int .i64 ck) ∧ V.cell? ⟨w.heap.size + 1 + 1, 4, none⟩ = some (.int .i64 rp) ∧ LX k ⟨ty, frm, tt + 1, ck, rp⟩ w V)
    ((refine LX.all (x := ⟨ty, frm, tt + 1, ck, rp⟩) ?_; repeat (first | assumption | refine LX.alloc ?_ _ | refine LX.drew ?_)))
    (fail)
  · have HF : Hid (LF k ⟨ty, frm, tt + 1, ck, rp⟩ w n V.heap.size (V.heap.size + 1) (((V.alloc (.cells (zrs n) 5)).alloc (.cells #[.int .i64 ty, .int .i64 k.org, .int .i64 k.num, .slice none 0 0, .slice none 0 0, .int .i64 k.srv, .int .i64 frm, .slice (some ⟨V.heap.size, 0, none⟩) n n, .int .i64 ck, .int .i64 rp, .int .i64 0, .int .i64 0, .slice none 0 0, .int .i64 0] 81)).drew)) := ⟨(((HS.out.alloc _).alloc _).drew), (by have := heap_alloc_new' (V.alloc (.cells (zrs n) 5)) (.cells #[.int .i64 ty, .int .i64 k.org, .int .i64 k.num, .slice none 0 0, .slice none 0 0, .int .i64 k.srv, .int .i64 frm, .slice (some ⟨V.heap.size, 0, none⟩) n n, .int .i64 ck, .int .i64 rp, .int .i64 0, .int .i64 0, .slice none 0 0, .int .i64 0] 81); rw [World.size_alloc] at this; exact this), heapA (heap_alloc_new' V _) _⟩
    generalize (((V.alloc (.cells (zrs n) 5)).alloc (.cells #[.int .i64 ty, .int .i64 k.org, .int .i64 k.num, .slice none 0 0, .slice none 0 0, .int .i64 k.srv, .int .i64 frm, .slice (some ⟨V.heap.size, 0, none⟩) n n, .int .i64 ck, .int .i64 rp, .int .i64 0, .int .i64 0, .slice none 0 0, .int .i64 0] 81)).drew) = U at *
    obtain ⟨⟨z0, z1, z2, z3, z4, z5, z6⟩, ⟨z7, z8, z9, z10, z11, z12, z13⟩, _⟩ := seg_cells HF.out.seg
    have hB := HF.out.lx.bel
    have HPA : Hid (Calls Tryd.prog 58 #[.agg #[.int .i64 ty, .int .i64 k.org, .int .i64 k.num, .slice none 0 0, .slice none 0 0, .int .i64 k.srv, .int .i64 frm, .slice (some ⟨V.heap.size, 0, none⟩) n n, .int .i64 ck, .int .i64 rp, .int .i64 0, .int .i64 0, .slice none 0 0, .int .i64 0]] U (PrintP (sgP k ⟨ty, frm, tt + 1, ck, rp⟩ (List.replicate n 0)) [] [] U)) := print_any _ _ _ _ _ [] [] U (HF.out.sin (by omega)) (HT.out.below hB hw0)
    clear hX hB
    go_wp2_with fail
    refine HPA.out.mono ?_
    rintro e w3 ⟨a3, c3, rfl, _, hb3⟩
    have HX3 : Hid (LX k ⟨ty, frm, tt + 1, ck, rp⟩ w w3) := HF.out.lx.below hb3
    obtain ⟨_, _, _, m3, _, _⟩ := box5 HX3.out.pcl
    obtain ⟨hp1, hp2⟩ := hpr
    clear z0 z1 z2 z3 z4 z5 z6 z7 z8 z9 z10 z11 z12 z13 HPA hb3 HF
    rw [show sgP k ⟨ty, frm, tt + 1, ck, rp⟩ (List.replicate n 0) = sgP k ⟨ty, frm, tt, ck, rp⟩ (List.replicate n 0) from rfl]
    generalize (prt (sgP k ⟨ty, frm, tt, ck, rp⟩ (List.replicate n 0)) [] []).2.length = L at *
    generalize (prt (sgP k ⟨ty, frm, tt, ck, rp⟩ (List.replicate n 0)) [] []).1 = er at *
    subst hp1
    have HFB : Hid (decide (k.mtu < (L : Int)) = !fitB (frX k ⟨ty, frm, tt, ck, rp⟩) k.mtu n) := by
      unfold Hid fitB
      rw [hp2, List.length_replicate, ← decide_not]
      exact decide_eq_decide.mpr (by omega)
    clear hp2
    go_wp2
    go_ret
    exact ⟨by rw [← HFB.out]; rfl, HX3.out.bel⟩
  · have HF : Hid (LF k ⟨ty, frm, tt + 1, ck, rp⟩ w n (V.heap.size + 1) (V.heap.size) (((V.alloc (.cells #[.int .i64 ty, .int .i64 k.org, .int .i64 k.num, .slice none 0 0, .slice none 0 0, .int .i64 k.srv, .int .i64 frm, .slice (some ⟨(V.heap.size + 1), 0, none⟩) n n, .int .i64 ck, .int .i64 rp, .int .i64 0, .int .i64 0, .slice none 0 0, .int .i64 0] 81)).alloc (.cells (zrs n) 5)).drew)) := ⟨(((HS.out.alloc _).alloc _).drew), heapA (heap_alloc_new' V _) _, (by have := heap_alloc_new' (V.alloc (.cells #[.int .i64 ty, .int .i64 k.org, .int .i64 k.num, .slice none 0 0, .slice none 0 0, .int .i64 k.srv, .int .i64 frm, .slice (some ⟨(V.heap.size + 1), 0, none⟩) n n, .int .i64 ck, .int .i64 rp, .int .i64 0, .int .i64 0, .slice none 0 0, .int .i64 0] 81)) (.cells (zrs n) 5); rw [World.size_alloc] at this; exact this)⟩
    generalize (((V.alloc (.cells #[.int .i64 ty, .int .i64 k.org, .int .i64 k.num, .slice none 0 0, .slice none 0 0, .int .i64 k.srv, .int .i64 frm, .slice (some ⟨(V.heap.size + 1), 0, none⟩) n n, .int .i64 ck, .int .i64 rp, .int .i64 0, .int .i64 0, .slice none 0 0, .int .i64 0] 81)).alloc (.cells (zrs n) 5)).drew) = U at *
    obtain ⟨⟨z0, z1, z2, z3, z4, z5, z6⟩, ⟨z7, z8, z9, z10, z11, z12, z13⟩, _⟩ := seg_cells HF.out.seg
    have hB := HF.out.lx.bel
    have HPA : Hid (Calls Tryd.prog 58 #[.agg #[.int .i64 ty, .int .i64 k.org, .int .i64 k.num, .slice none 0 0, .slice none 0 0, .int .i64 k.srv, .int .i64 frm, .slice (some ⟨(V.heap.size + 1), 0, none⟩) n n, .int .i64 ck, .int .i64 rp, .int .i64 0, .int .i64 0, .slice none 0 0, .int .i64 0]] U (PrintP (sgP k ⟨ty, frm, tt + 1, ck, rp⟩ (List.replicate n 0)) [] [] U)) := print_any _ _ _ _ _ [] [] U (HF.out.sin (by omega)) (HT.out.below hB hw0)
    clear hX hB
    go_wp2_with fail
    refine HPA.out.mono ?_
    rintro e w3 ⟨a3, c3, rfl, _, hb3⟩
    have HX3 : Hid (LX k ⟨ty, frm, tt + 1, ck, rp⟩ w w3) := HF.out.lx.below hb3
    obtain ⟨_, _, _, m3, _, _⟩ := box5 HX3.out.pcl
    obtain ⟨hp1, hp2⟩ := hpr
    clear z0 z1 z2 z3 z4 z5 z6 z7 z8 z9 z10 z11 z12 z13 HPA hb3 HF
    rw [show sgP k ⟨ty, frm, tt + 1, ck, rp⟩ (List.replicate n 0) = sgP k ⟨ty, frm, tt, ck, rp⟩ (List.replicate n 0) from rfl]
    generalize (prt (sgP k ⟨ty, frm, tt, ck, rp⟩ (List.replicate n 0)) [] []).2.length = L at *
    generalize (prt (sgP k ⟨ty, frm, tt, ck, rp⟩ (List.replicate n 0)) [] []).1 = er at *
    subst hp1
    have HFB : Hid (decide (k.mtu < (L : Int)) = !fitB (frX k ⟨ty, frm, tt, ck, rp⟩) k.mtu n) := by
      unfold Hid fitB
      rw [hp2, List.length_replicate, ← decide_not]
      exact decide_eq_decide.mpr (by omega)
    clear hp2
    go_wp2
    go_ret
    exact ⟨by rw [← HFB.out]; rfl, HX3.out.bel⟩
end Go.Proofs.YtfghdhikjhbbgaeDoor

namespace Go.Proofs.YtfghdhikjhbbgaeDoor
open Go.RowKit

/-- What is so of each piece of a cut. -/
structure PF (k : Pk) (y : Pc) : Prop where
  lo : 0 ≤ y.frm
  lt : y.frm < y.to
  hi : y.to ≤ k.size
  pc : pieceB k y = true
  ty : PTy y.typ
  no : PNo y
  f0 : 0 ≤ frX k y
  fit : frX k y + sz (y.to - y.frm) + (y.to - y.frm) ≤ k.mtu
  full : y.to = k.red ∨ y.to = k.size ∨ (y.typ = 0 ∧ y.to = k.red - 1) ∨ fitB (frX k y) k.mtu (y.to + 1 - y.frm) = false

/-- The six kinds of pieces, and what is counted behind each. -/
def Kd (k : Pk) (a nx pl : Int) (y : Pc) (nx' pl' : Int) : Prop :=
  (a < k.red ∧ y.to = k.red ∧ k.red < k.size ∧ y.typ = 2 ∧ y.chk = nx ∧ y.rep = 0 ∧ nx' = nx + 1 ∧ pl' = 0) ∨
  (a < k.red ∧ y.to = k.red ∧ k.red = k.size ∧ y.typ = 3 ∧ y.chk = nx ∧ y.rep = 0 ∧ nx' = nx + 1 ∧ pl' = 0) ∨
  (a < k.red ∧ y.to < k.red ∧ y.typ = 1 ∧ 0 < k.every ∧ pl = k.every - 1 ∧ y.chk = nx ∧ y.rep = 0 ∧ nx' = nx + 1 ∧ pl' = 0) ∨
  (a < k.red ∧ y.to < k.red ∧ y.typ = 0 ∧ y.chk = 0 ∧ y.rep = 0 ∧ (0 < k.every → pl + 1 < k.every) ∧ nx' = nx ∧ pl' = pl + 1) ∨
  (k.red ≤ a ∧ y.to = k.size ∧ y.typ = 7 ∧ y.chk = 0 ∧ y.rep = 0 ∧ nx' = nx ∧ pl' = pl) ∨
  (k.red ≤ a ∧ y.to < k.size ∧ y.typ = 4 ∧ y.chk = 0 ∧ y.rep = 0 ∧ nx' = nx ∧ pl' = pl)

/-- What is left of a cut, from a place on. -/
structure FSt (k : Pk) (base : Int) (rest : List Pc) (a nx pl : Int) : Prop where
  a0 : 0 ≤ a
  a1 : a ≤ k.size
  n0 : 1 ≤ nx
  n1 : nx ≤ base + 1 + a
  p0 : 0 ≤ pl
  p1 : pl ≤ a
  p2 : 0 < k.every → pl < k.every
  rst : (a < k.red ∧ ∃ f, (k.red - a).toNat ≤ f ∧ rest = redG k f a (nx - 1) pl ++ grnG k (k.size - k.red).toNat k.red) ∨ (k.red ≤ a ∧ ∃ f, (k.size - a).toNat ≤ f ∧ rest = grnG k f a)

theorem FSt.start {k : Pk} (ok : k.Ok) {base : Int} (hb : 0 ≤ base) : FSt k base (cutL k base) 0 (base + 1) 0 := by
  have h1 := ok.size
  have h2 := ok.red
  refine ⟨by omega, by omega, by omega, by omega, by omega, by omega, fun h => h, ?_⟩
  by_cases h : 0 < k.red
  · exact .inl ⟨h, k.red.toNat, by omega, by unfold cutL; rw [show base + 1 - 1 = base by omega]⟩
  · refine .inr ⟨by omega, (k.size - k.red).toNat, by omega, ?_⟩
    unfold cutL
    rw [redG_end (by omega), List.nil_append, show k.red = 0 by omega]
theorem FSt.done {k : Pk} {base a nx pl : Int} (h : FSt k base [] a nx pl) : a = k.size := by
  have h1 := h.a1
  rcases h.rst with ⟨q, f, hf, he⟩ | ⟨q, f, hf, he⟩
  · obtain ⟨f, rfl⟩ : ∃ f', f = f' + 1 := ⟨f - 1, by omega⟩
    rw [redG, if_pos q] at he
    split at he <;> simp at he
  · by_cases hh : a < k.size
    · obtain ⟨f, rfl⟩ : ∃ f', f = f' + 1 := ⟨f - 1, by omega⟩
      rw [grnG, if_pos hh] at he
      simp at he
    · omega

theorem room_fit {F mtu n : Int} (hF : 0 ≤ F) (hm0 : 0 ≤ mtu) (hm : mtu ≤ 4096) (hpos : 0 < rmz F mtu) (h0 : 0 ≤ n) (hn : n ≤ rmz F mtu) : F + sz n + n ≤ mtu := by
  have hs := rmz_spec hF hm0 hm
  rcases hs.2.1 with q | q
  · omega
  · have := fit_anti h0 hn (by omega) q
    simpa [fitB] using this
theorem cks_ckT (k : Pk) (t : Int) : cks (ckT k t) = true := by
  unfold ckT endT; split <;> (try split) <;> rfl
theorem pty_ckT (k : Pk) (t : Int) : PTy (ckT k t) := by
  unfold ckT endT PTy; split <;> (try split) <;> simp

theorem pf_c {k : Pk} (ok : k.Ok) {a c : Int} (h0 : 0 ≤ a) (h1 : a < k.red) (hc : 1 ≤ c ∧ c ≤ 4611686018427387903) : PF k (cPc k a k.red c 0) ∧ a + 20 ≤ max (a + 20) (a + ro1 k a c 0) ∧ a + 20 ≤ a + ro1 k a c 0 := by
  have hks := ok.size
  have hkr := ok.red
  have hkm := ok.mtu
  have hfb := fr1_bd ok h0 (show a ≤ 65536 by omega) (show 0 ≤ c ∧ c ≤ _ by omega) (show (0 : Int) ≤ 0 ∧ (0 : Int) ≤ 4611686018427387903 by omega)
  have hro := ro1_low ok h0 (show a ≤ 65536 by omega) (show 0 ≤ c ∧ c ≤ _ by omega) (show (0 : Int) ≤ 0 ∧ (0 : Int) ≤ 4611686018427387903 by omega)
  have hsp := rmz_spec (F := fr1 k a c 0) (mtu := k.mtu) (by omega) (by omega) (by omega)
  have hrr : ro1 k a c 0 = (rmz (fr1 k a c 0) k.mtu : Nat) := rfl
  have hfx : frX k (cPc k a k.red c 0) = fr1 k a c 0 := by unfold frX; rw [show (cPc k a k.red c 0).typ = ckT k (min (a + ro1 k a c 0) k.red) from rfl, cks_ckT]; rfl
  have ht : (cPc k a k.red c 0).to = min (a + ro1 k a c 0) k.red := rfl
  have hfr : (cPc k a k.red c 0).frm = a := rfl
  refine ⟨⟨h0, by rw [ht, hfr]; omega, by rw [ht]; omega, ?_, pty_ckT _ _, .inl ⟨cks_ckT _ _, hc.1, hc.2, by show (0 : Int) ≤ 0; omega, by show (0 : Int) ≤ _; omega⟩, by rw [hfx]; omega, ?_, ?_⟩, by omega, by omega⟩
  · rw [pieceB_iff]
    have has : asB c 0 = true := by unfold asB; rw [btw_t hc.1 hc.2, btw_t (show (0 : Int) ≤ 0 by omega) (by omega)]; rfl
    refine ⟨h0, by rw [ht, hfr]; omega, ?_⟩
    rw [ht, show (cPc k a k.red c 0).typ = ckT k (min (a + ro1 k a c 0) k.red) from rfl, show (cPc k a k.red c 0).chk = c from rfl, show (cPc k a k.red c 0).rep = 0 from rfl]
    by_cases he : min (a + ro1 k a c 0) k.red = k.red
    · refine .inr (.inr (.inl ⟨?_, he, ?_, has⟩))
      · unfold ckT endT; rw [if_pos he]; split <;> simp
      · unfold ckT; rw [if_pos he]
    · refine .inr (.inl ⟨?_, by omega, has⟩)
      unfold ckT; rw [if_neg he]
  · rw [hfx, ht, hfr]
    exact room_fit (by omega) (by omega) (by omega) (by omega) (by omega) (by omega)
  · rw [hfx, ht, hfr]
    by_cases he : min (a + ro1 k a c 0) k.red = k.red
    · exact .inl he
    · refine .inr (.inr (.inr ?_))
      rw [show min (a + ro1 k a c 0) k.red + 1 - a = (rmz (fr1 k a c 0) k.mtu : Nat) + 1 by omega]
      exact hsp.2.2

theorem pf_p {k : Pk} (ok : k.Ok) {a : Int} (h0 : 0 ≤ a) (h1 : a < k.red - 1) : PF k (pPc k a (k.red - 1)) := by
  have hks := ok.size
  have hkr := ok.red
  have hkm := ok.mtu
  have hfb := fr0_bd ok h0 (show a ≤ 65536 by omega)
  have hro := ro0_low ok h0 (show a ≤ 65536 by omega)
  have hsp := rmz_spec (F := fr0 k a) (mtu := k.mtu) (by omega) (by omega) (by omega)
  have hrr : ro0 k a = (rmz (fr0 k a) k.mtu : Nat) := rfl
  have hfx : frX k (pPc k a (k.red - 1)) = fr0 k a := rfl
  have ht : (pPc k a (k.red - 1)).to = min (a + ro0 k a) (k.red - 1) := rfl
  have hfr : (pPc k a (k.red - 1)).frm = a := rfl
  refine ⟨h0, by rw [ht, hfr]; omega, by rw [ht]; omega, ?_, .inl rfl, .inr ⟨rfl, rfl, rfl⟩, by rw [hfx]; omega, ?_, ?_⟩
  · rw [pieceB_iff]
    exact ⟨h0, by rw [ht, hfr]; omega, .inl ⟨rfl, by rw [ht]; omega, rfl⟩⟩
  · rw [hfx, ht, hfr]
    exact room_fit (by omega) (by omega) (by omega) (by omega) (by omega) (by omega)
  · rw [hfx, ht, hfr]
    by_cases he : min (a + ro0 k a) (k.red - 1) = k.red - 1
    · exact .inr (.inr (.inl ⟨rfl, he⟩))
    · refine .inr (.inr (.inr ?_))
      rw [show min (a + ro0 k a) (k.red - 1) + 1 - a = (rmz (fr0 k a) k.mtu : Nat) + 1 by omega]
      exact hsp.2.2

theorem pf_g {k : Pk} (ok : k.Ok) {a : Int} (h0 : k.red ≤ a) (h1 : a < k.size) : PF k (gPc k a) := by
  have hks := ok.size
  have hkr := ok.red
  have hkm := ok.mtu
  have hfb := fr0_bd ok (show 0 ≤ a by omega) (show a ≤ 65536 by omega)
  have hro := ro0_low ok (show 0 ≤ a by omega) (show a ≤ 65536 by omega)
  have hsp := rmz_spec (F := fr0 k a) (mtu := k.mtu) (by omega) (by omega) (by omega)
  have hrr : ro0 k a = (rmz (fr0 k a) k.mtu : Nat) := rfl
  have hty : (gPc k a).typ = if min (a + ro0 k a) k.size = k.size then 7 else 4 := rfl
  have hck : cks (gPc k a).typ = false := by rw [hty]; split <;> rfl
  have hfx : frX k (gPc k a) = fr0 k a := by unfold frX; rw [hck]; rfl
  have ht : (gPc k a).to = min (a + ro0 k a) k.size := rfl
  have hfr : (gPc k a).frm = a := rfl
  refine ⟨by rw [hfr]; omega, by rw [ht, hfr]; omega, by rw [ht]; omega, ?_, ?_, .inr ⟨hck, rfl, rfl⟩, by rw [hfx]; omega, ?_, ?_⟩
  · rw [pieceB_iff]
    refine ⟨by rw [hfr]; omega, by rw [ht, hfr]; omega, ?_⟩
    rw [hty, ht, hfr]
    by_cases he : min (a + ro0 k a) k.size = k.size
    · rw [if_pos he]; exact .inr (.inr (.inr (.inr ⟨rfl, h0, he, rfl⟩)))
    · rw [if_neg he]; exact .inr (.inr (.inr (.inl ⟨rfl, h0, by omega, rfl⟩)))
  · rw [hty]; unfold PTy; split <;> simp
  · rw [hfx, ht, hfr]
    exact room_fit (by omega) (by omega) (by omega) (by omega) (by omega) (by omega)
  · rw [hfx, ht, hfr]
    by_cases he : min (a + ro0 k a) k.size = k.size
    · exact .inr (.inl he)
    · refine .inr (.inr (.inr ?_))
      rw [show min (a + ro0 k a) k.size + 1 - a = (rmz (fr0 k a) k.mtu : Nat) + 1 by omega]
      exact hsp.2.2

theorem FSt.step {k : Pk} (ok : k.Ok) {base a nx pl : Int} (hb : 0 ≤ base ∧ base ≤ 4611686018427322367) {y : Pc} {rest : List Pc} (h : FSt k base (y :: rest) a nx pl) :
    PF k y ∧ y.frm = a ∧ ∃ nx' pl', Kd k a nx pl y nx' pl' ∧ FSt k base rest y.to nx' pl' := by
  have hks := ok.size
  have hkr := ok.red
  have a0 := h.a0
  have a1 := h.a1
  have n0 := h.n0
  have n1 := h.n1
  have p0 := h.p0
  have p1 := h.p1
  have p2 := h.p2
  rcases h.rst with ⟨q, f, hf, he⟩ | ⟨q, f, hf, he⟩
  · obtain ⟨f, rfl⟩ : ∃ f', f = f' + 1 := ⟨f - 1, by omega⟩
    rw [redG, if_pos q] at he
    obtain ⟨hpf, _, hlow⟩ := pf_c ok (c := nx) a0 q (by omega)
    have hrc : redC k a (nx - 1) pl = (decide (min (a + ro1 k a nx 0) k.red = k.red) || decide (pl = k.every - 1)) := by unfold redC; rw [show nx - 1 + 1 = nx by omega]
    have ht : (cPc k a k.red nx 0).to = min (a + ro1 k a nx 0) k.red := rfl
    have hty : (cPc k a k.red nx 0).typ = ckT k (min (a + ro1 k a nx 0) k.red) := rfl
    by_cases hc : redC k a (nx - 1) pl = true
    · rw [if_pos hc, show nx - 1 + 1 = nx by omega, List.cons_append, List.cons.injEq] at he
      obtain ⟨rfl, rfl⟩ := he
      rw [hrc, Bool.or_eq_true, decide_eq_true_eq, decide_eq_true_eq] at hc
      have hl := hpf.lt
      have hfr : (cPc k a k.red nx 0).frm = a := rfl
      refine ⟨hpf, rfl, nx + 1, 0, ?_, ⟨by omega, hpf.hi, by omega, by omega, by omega, by omega, fun h => h, ?_⟩⟩
      · by_cases hr : min (a + ro1 k a nx 0) k.red = k.red
        · by_cases hs : k.red < k.size
          · exact .inl ⟨q, by rw [ht, hr], hs, by rw [hty]; unfold ckT endT; rw [if_pos hr, if_pos hs], rfl, rfl, rfl, rfl⟩
          · exact .inr (.inl ⟨q, by rw [ht, hr], by omega, by rw [hty]; unfold ckT endT; rw [if_pos hr, if_neg hs], rfl, rfl, rfl, rfl⟩)
        · have hp : pl = k.every - 1 := by rcases hc with h | h; exact absurd h hr; exact h
          exact .inr (.inr (.inl ⟨q, by rw [ht]; omega, by rw [hty]; unfold ckT; rw [if_neg hr], by omega, hp, rfl, rfl, rfl, rfl⟩))
      · by_cases hr : (cPc k a k.red nx 0).to < k.red
        · exact .inl ⟨hr, f, by omega, by rw [show nx + 1 - 1 = nx by omega]⟩
        · refine .inr ⟨by omega, (k.size - k.red).toNat, by omega, ?_⟩
          rw [redG_end (by omega), List.nil_append, show (cPc k a k.red nx 0).to = k.red by rw [ht] at hr ⊢; omega]
    · rw [if_neg hc, List.cons_append, List.cons.injEq] at he
      obtain ⟨rfl, rfl⟩ := he
      have hc' : ¬ (min (a + ro1 k a nx 0) k.red = k.red ∨ pl = k.every - 1) := by rw [hrc, Bool.or_eq_true, decide_eq_true_eq, decide_eq_true_eq] at hc; exact hc
      have hpp := pf_p ok a0 (show a < k.red - 1 by omega)
      have hl := hpp.lt
      have hfr : (pPc k a (k.red - 1)).frm = a := rfl
      have ht' : (pPc k a (k.red - 1)).to = min (a + ro0 k a) (k.red - 1) := rfl
      refine ⟨hpp, rfl, nx, pl + 1, .inr (.inr (.inr (.inl ⟨q, by rw [ht']; omega, rfl, rfl, rfl, by omega, rfl, rfl⟩))), ⟨by omega, hpp.hi, n0, by omega, by omega, by omega, by omega, .inl ⟨by rw [ht']; omega, f, by omega, rfl⟩⟩⟩
  · by_cases hh : a < k.size
    · obtain ⟨f, rfl⟩ : ∃ f', f = f' + 1 := ⟨f - 1, by omega⟩
      rw [grnG, if_pos hh, List.cons.injEq] at he
      obtain ⟨rfl, rfl⟩ := he
      have hpg := pf_g ok q hh
      have hl := hpg.lt
      have hfr : (gPc k a).frm = a := rfl
      have hty : (gPc k a).typ = if min (a + ro0 k a) k.size = k.size then 7 else 4 := rfl
      have ht : (gPc k a).to = min (a + ro0 k a) k.size := rfl
      refine ⟨hpg, rfl, nx, pl, ?_, ⟨by omega, hpg.hi, n0, by omega, p0, by omega, p2, .inr ⟨by omega, f, by omega, rfl⟩⟩⟩
      by_cases hr : min (a + ro0 k a) k.size = k.size
      · exact .inr (.inr (.inr (.inr (.inl ⟨q, by rw [ht, hr], by rw [hty, if_pos hr], rfl, rfl, rfl, rfl⟩))))
      · exact .inr (.inr (.inr (.inr (.inr ⟨q, by rw [ht]; omega, by rw [hty, if_neg hr], rfl, rfl, rfl, rfl⟩))))
    · rw [grnG_end (by omega)] at he
      cases he

end Go.Proofs.YtfghdhikjhbbgaeDoor

namespace Go.Proofs.YtfghdhikjhbbgaeDoor
open Go.RowKit

/-- What is so of each piece of what is cut again. -/
structure PM (k : Pk) (y : Pc) : Prop where
  lo : 0 ≤ y.frm
  lt : y.frm < y.to
  hi : y.to ≤ k.size
  pc : pieceB k y = true
  ty : PTy y.typ
  no : PNo y
  f0 : 0 ≤ frX k y
  fit : frX k y + sz (y.to - y.frm) + (y.to - y.frm) ≤ k.mtu

theorem pm_p {k : Pk} (ok : k.Ok) {a e : Int} (h0 : 0 ≤ a) (h1 : a < e) (he : e < k.red) : PM k (pPc k a e) ∧ ((pPc k a e).to = e ∨ fitB (frX k (pPc k a e)) k.mtu ((pPc k a e).to + 1 - a) = false) := by
  have hks := ok.size
  have hkr := ok.red
  have hkm := ok.mtu
  have hfb := fr0_bd ok h0 (show a ≤ 65536 by omega)
  have hro := ro0_low ok h0 (show a ≤ 65536 by omega)
  have hsp := rmz_spec (F := fr0 k a) (mtu := k.mtu) (by omega) (by omega) (by omega)
  have hrr : ro0 k a = (rmz (fr0 k a) k.mtu : Nat) := rfl
  have hfx : frX k (pPc k a e) = fr0 k a := rfl
  have ht : (pPc k a e).to = min (a + ro0 k a) e := rfl
  have hfr : (pPc k a e).frm = a := rfl
  refine ⟨⟨h0, by rw [ht, hfr]; omega, by rw [ht]; omega, ?_, .inl rfl, .inr ⟨rfl, rfl, rfl⟩, by rw [hfx]; omega, ?_⟩, ?_⟩
  · rw [pieceB_iff]
    exact ⟨h0, by rw [ht, hfr]; omega, .inl ⟨rfl, by rw [ht]; omega, rfl⟩⟩
  · rw [hfx, ht, hfr]
    exact room_fit (by omega) (by omega) (by omega) (by omega) (by omega) (by omega)
  · rw [hfx, ht]
    by_cases hm : min (a + ro0 k a) e = e
    · exact .inl hm
    · refine .inr ?_
      rw [show min (a + ro0 k a) e + 1 - a = (rmz (fr0 k a) k.mtu : Nat) + 1 by omega]
      exact hsp.2.2

theorem pm_c {k : Pk} (ok : k.Ok) {a e c r : Int} (h0 : 0 ≤ a) (h1 : a < e) (he : e ≤ k.red) (hc : 1 ≤ c ∧ c ≤ 4611686018427387903) (hr : 0 ≤ r ∧ r ≤ 4611686018427387903) : PM k (cPc k a e c r) := by
  have hks := ok.size
  have hkr := ok.red
  have hkm := ok.mtu
  have hfb := fr1_bd ok h0 (show a ≤ 65536 by omega) (show 0 ≤ c ∧ c ≤ _ by omega) hr
  have hro := ro1_low ok h0 (show a ≤ 65536 by omega) (show 0 ≤ c ∧ c ≤ _ by omega) hr
  have hsp := rmz_spec (F := fr1 k a c r) (mtu := k.mtu) (by omega) (by omega) (by omega)
  have hrr : ro1 k a c r = (rmz (fr1 k a c r) k.mtu : Nat) := rfl
  have hfx : frX k (cPc k a e c r) = fr1 k a c r := by unfold frX; rw [show (cPc k a e c r).typ = ckT k (min (a + ro1 k a c r) e) from rfl, cks_ckT]; rfl
  have ht : (cPc k a e c r).to = min (a + ro1 k a c r) e := rfl
  have hfr : (cPc k a e c r).frm = a := rfl
  refine ⟨h0, by rw [ht, hfr]; omega, by rw [ht]; omega, ?_, pty_ckT _ _, .inl ⟨cks_ckT _ _, hc.1, hc.2, hr.1, hr.2⟩, by rw [hfx]; omega, ?_⟩
  · rw [pieceB_iff]
    have has : asB c r = true := by unfold asB; rw [btw_t hc.1 hc.2, btw_t hr.1 hr.2]; rfl
    refine ⟨h0, by rw [ht, hfr]; omega, ?_⟩
    rw [ht, show (cPc k a e c r).typ = ckT k (min (a + ro1 k a c r) e) from rfl, show (cPc k a e c r).chk = c from rfl, show (cPc k a e c r).rep = r from rfl]
    by_cases hm : min (a + ro1 k a c r) e = k.red
    · refine .inr (.inr (.inl ⟨?_, hm, ?_, has⟩))
      · unfold ckT endT; rw [if_pos hm]; split <;> simp
      · unfold ckT; rw [if_pos hm]
    · refine .inr (.inl ⟨?_, by omega, has⟩)
      unfold ckT; rw [if_neg hm]
  · rw [hfx, ht, hfr]
    exact room_fit (by omega) (by omega) (by omega) (by omega) (by omega) (by omega)

/-- What is left of the pieces, from a place in a gap on. -/
def rstG (k : Pk) (c r : Int) (t0 : Int) (gs : List (Int × Int)) (f : Nat) (a : Int) : List Pc :=
  match gs with
  | [] => itG (akP k t0 c r) t0 f a
  | _ => itG (fun a => pPc k a t0) t0 f a ++ agL k c r gs
/-- Inside a gap, or behind them all. -/
def MSt (k : Pk) (c r : Int) (gs : List (Int × Int)) (rest : List Pc) (g : Nat) (a : Int) : Prop :=
  (∃ f0 t0 gs' f lo, gs.drop g = (f0, t0) :: gs' ∧ C.Rt lo ((f0, t0) :: gs') ∧ (∀ x ∈ (f0, t0) :: gs', x.2 ≤ k.red) ∧ 0 ≤ lo ∧ f0 ≤ a ∧ a < t0 ∧ (t0 - a).toNat ≤ f ∧ rest = rstG k c r t0 gs' f a) ∨
  (g = gs.length ∧ rest = [])

theorem agL_pos {k : Pk} {c r lo : Int} : ∀ {gs : List (Int × Int)}, gs ≠ [] → C.Rt lo gs → agL k c r gs ≠ []
  | [], h, _ => absurd rfl h
  | [g], _, h => by
    show akG k g.1 g.2 c r ≠ []
    unfold akG
    obtain ⟨n, hn⟩ : ∃ n, (g.2 - g.1).toNat = n + 1 := ⟨(g.2 - g.1).toNat - 1, by have := h.2.1; omega⟩
    rw [hn, itG, if_pos h.2.1]; simp
  | g :: g' :: gs, _, h => by
    show plG k g.1 g.2 ++ agL k c r (g' :: gs) ≠ []
    have := plG_pos (k := k) h.2.1
    intro e
    rw [List.append_eq_nil_iff] at e
    rw [e.1] at this
    simp at this

theorem MSt.start {k : Pk} {c r : Int} {gs : List (Int × Int)} (h : Gp gs k.red) : ∃ f0 t0, gs[0]? = some (f0, t0) ∧ MSt k c r gs (agL k c r gs) 0 f0 := by
  have hm := h.mem
  have hrt := h.rt
  have hne := h.ne
  match gs with
  | [] => exact absurd rfl hne
  | [(f0, t0)] => exact ⟨f0, t0, rfl, .inl ⟨f0, t0, [], (t0 - f0).toNat, 0, rfl, hrt, fun x hx => (hm x hx).2.2, by omega, by omega, hrt.2.1, by omega, rfl⟩⟩
  | (f0, t0) :: g' :: gs' => exact ⟨f0, t0, rfl, .inl ⟨f0, t0, g' :: gs', (t0 - f0).toNat, 0, rfl, hrt, fun x hx => (hm x hx).2.2, by omega, by omega, hrt.2.1, by omega, rfl⟩⟩
theorem MSt.done {k : Pk} {c r : Int} {gs : List (Int × Int)} {g : Nat} {a : Int} (h : MSt k c r gs [] g a) : g = gs.length := by
  rcases h with ⟨f0, t0, gs', f, lo, _, hrt, _, _, _, hlt, hf, he⟩ | h
  · exfalso
    obtain ⟨f, rfl⟩ : ∃ f', f = f' + 1 := ⟨f - 1, by omega⟩
    cases gs' with
    | nil => simp [rstG, itG, hlt] at he
    | cons x gs' => simp [rstG, itG, hlt] at he
  · exact h.1

/-- The kinds of pieces, and where each leaves off. -/
def Km (k : Pk) (c r : Int) (gs : List (Int × Int)) (g : Nat) (t0 : Int) (y : Pc) (rest : List Pc) : Prop :=
  (∃ f1 t1, g + 1 < gs.length ∧ gs[g + 1]? = some (f1, t1) ∧ y.typ = 0 ∧ y.to = t0 ∧ rest ≠ [] ∧ MSt k c r gs rest (g + 1) f1) ∨
  (g + 1 < gs.length ∧ y.typ = 0 ∧ y.to < t0 ∧ fitB (frX k y) k.mtu (y.to + 1 - y.frm) = false ∧ rest ≠ [] ∧ MSt k c r gs rest g y.to) ∨
  (g + 1 = gs.length ∧ y.typ = 0 ∧ y.to < t0 ∧ (y.to = t0 - 1 ∨ fitB (frX k y) k.mtu (y.to + 1 - y.frm) = false) ∧ rest ≠ [] ∧ MSt k c r gs rest g y.to) ∨
  (g + 1 = gs.length ∧ y.to = t0 ∧ cks y.typ = true ∧ ((y.to == k.red) == (y.typ == 1)) = false ∧ y.chk = c ∧ y.rep = r ∧ rest = [] ∧ MSt k c r gs rest (g + 1) y.to)

theorem ckT_one (k : Pk) (t : Int) : ((t == k.red) == (ckT k t == 1)) = false := by
  unfold ckT endT
  by_cases h : t = k.red
  · subst h
    rw [if_pos rfl]
    by_cases h2 : k.red < k.size
    · rw [if_pos h2]; simp
    · rw [if_neg h2]; simp
  · rw [if_neg h]
    simp [h]

theorem MSt.step {k : Pk} (ok : k.Ok) {c r : Int} (hc : 1 ≤ c ∧ c ≤ 4611686018427387903) (hr : 0 ≤ r ∧ r ≤ 4611686018427387903) {gs : List (Int × Int)} {y : Pc} {rest : List Pc} {g : Nat} {a : Int} (h : MSt k c r gs (y :: rest) g a) :
    ∃ f0 t0, g < gs.length ∧ gs[g]? = some (f0, t0) ∧ y.frm = a ∧ PM k y ∧ Km k c r gs g t0 y rest := by
  rcases h with ⟨f0, t0, gs', f, lo, hd, hrt, hall, hlo, hfa, hlt, hf, he⟩ | h
  rotate_left
  · cases h.2
  obtain ⟨hr1, hr2, hr3, hr4⟩ := hrt
  simp only at hr1 hr2 hr3 hr4
  have hg : g < gs.length := by
    rcases Nat.lt_or_ge g gs.length with q | q
    · exact q
    · rw [List.drop_eq_nil_of_le q] at hd; cases hd
  have hgg : gs[g]? = some (f0, t0) := by
    rw [List.drop_eq_getElem_cons hg] at hd
    rw [List.getElem?_eq_getElem hg, (List.cons.inj hd).1]
  have hd1 : gs.drop (g + 1) = gs' := by
    rw [List.drop_eq_getElem_cons hg] at hd
    exact (List.cons.inj hd).2
  have hlen : gs.length = g + 1 + gs'.length := by
    have := congrArg List.length hd1
    rw [List.length_drop] at this
    omega
  have ht0 : t0 ≤ k.red := hall (f0, t0) (List.mem_cons_self ..)
  have hkr := ok.red
  have hks := ok.size
  obtain ⟨f, rfl⟩ : ∃ f', f = f' + 1 := ⟨f - 1, by omega⟩
  refine ⟨f0, t0, hg, hgg, ?_⟩
  cases gs' with
  | nil =>
    have hl1 : g + 1 = gs.length := by simp at hlen; omega
    simp only [rstG, itG, if_pos hlt, List.cons.injEq] at he
    obtain ⟨hy, hre⟩ := he
    have hgo := ak_goes ok (frm := f0) (tt := t0) (c := c) (r := r) (by omega) (by omega) (by omega) hr a hfa hlt
    by_cases hq : (cPc k a t0 c r).to < t0
    · have hya : akP k t0 c r a = pPc k a (t0 - 1) := by unfold akP; rw [if_pos hq]
      rw [hya] at hy hre hgo
      have hro := ro1_low ok (at' := a) (c := c) (r := r) (by omega) (by omega) (by omega) hr
      have hat : a < t0 - 1 := by simp only [cPc] at hq; omega
      have hp := pm_p ok (show 0 ≤ a by omega) hat (by omega)
      have hlt2 : (pPc k a (t0 - 1)).to < t0 := by have := (pPc_to ok (at' := a) (e := t0 - 1) (by omega) hat (by omega)).2; omega
      subst hy
      refine ⟨rfl, hp.1, .inr (.inr (.inl ⟨hl1, rfl, hlt2, ?_, ?_, ?_⟩))⟩
      · exact hp.2
      · rw [hre]
        obtain ⟨f, rfl⟩ : ∃ f', f = f' + 1 := ⟨f - 1, by omega⟩
        rw [itG, if_pos hlt2]; simp
      · exact .inl ⟨f0, t0, [], f, lo, hd, ⟨hr1, hr2, hr3, hr4⟩, hall, hlo, by omega, hlt2, by omega, hre⟩
    · have hya : akP k t0 c r a = cPc k a t0 c r := by unfold akP; rw [if_neg hq]
      rw [hya] at hy hre hgo
      have hto : (cPc k a t0 c r).to = t0 := by omega
      have hnil : rest = [] := by rw [hre, itG_end (by omega)]
      subst hy
      refine ⟨rfl, pm_c ok (by omega) hlt ht0 hc hr, .inr (.inr (.inr ⟨hl1, hto, cks_ckT _ _, ckT_one k _, rfl, rfl, hnil, .inr ⟨hl1, hnil⟩⟩))⟩
  | cons g1 gs2 =>
    have hl1 : g + 1 < gs.length := by simp at hlen; omega
    obtain ⟨f1, t1⟩ := g1
    have hne := agL_pos (k := k) (c := c) (r := r) (gs := (f1, t1) :: gs2) (by simp) hr4
    have h12 : t0 + 1 ≤ f1 ∧ f1 < t1 := ⟨hr4.1, hr4.2.1⟩
    have ht1 : t1 ≤ k.red := hall (f1, t1) (by simp)
    simp only [rstG, itG, if_pos hlt, List.cons_append, List.cons.injEq] at he
    obtain ⟨hy, hre⟩ := he
    have hp := pm_p ok (show 0 ≤ a by omega) hlt (by omega)
    have hto := pPc_to ok (at' := a) (e := t0) (by omega) hlt (by omega)
    subst hy
    by_cases hq : (pPc k a t0).to < t0
    · refine ⟨rfl, hp.1, .inr (.inl ⟨hl1, rfl, hq, ?_, ?_, ?_⟩)⟩
      · rcases hp.2 with h | h
        · omega
        · exact h
      · rw [hre]
        intro e
        exact hne (List.append_eq_nil_iff.mp e).2
      · exact .inl ⟨f0, t0, (f1, t1) :: gs2, f, lo, hd, ⟨hr1, hr2, hr3, hr4⟩, hall, hlo, by omega, hq, by omega, hre⟩
    · have hte : (pPc k a t0).to = t0 := by omega
      rw [itG_end (by omega), List.nil_append] at hre
      have hg1 : gs[g + 1]? = some (f1, t1) := by
        have h2 := hd1
        rw [List.drop_eq_getElem_cons hl1] at h2
        rw [List.getElem?_eq_getElem hl1, (List.cons.inj h2).1]
      refine ⟨rfl, hp.1, .inl ⟨f1, t1, hl1, hg1, rfl, hte, by rw [hre]; exact hne, ?_⟩⟩
      refine .inl ⟨f1, t1, gs2, (t1 - f1).toNat, t0 + 1, hd1, hr4, fun x hx => hall x (List.mem_cons_of_mem _ hx), by omega, by omega, h12.2, by omega, ?_⟩
      rw [hre]
      cases gs2 with
      | nil => rfl
      | cons g2 gs3 => rfl
end Go.Proofs.YtfghdhikjhbbgaeDoor
