import Derived.Test.YtcfodcioeefbeaaDoorBkMk
import Derived.Test.YtcfodcioeefbeaaDoorBkLay
import Derived.Deep.RegionHeld3
namespace Go.Proofs.YtcfodcioeefbeaaDoor
open Go.RowKit

abbrev zsO : Obj := .cells #[.int .i64 0, .int .i64 0, .int .i64 0, .slice none 0 0, .slice none 0 0, .int .i64 0, .int .i64 0, .slice none 0 0, .int .i64 0, .int .i64 0, .int .i64 0, .int .i64 0, .slice none 0 0, .int .i64 0] 45
theorem size_sgm : (Tryd.prog.info? 45).map (·.size) = some 14 := by kernel_rfl

/-- The bytes of a piece. -/
def dat (zs : List Int) (x : Pc) : List Int := (zs.drop x.frm.toNat).take (x.to - x.frm).toNat
/-- What Make answers. -/
def mk (k : Pk) (x : Pc) (zs : List Int) : Sg × Int :=
  if 65536 < zs.length then (sg0, 2) else if sesB k = false then (sg0, 1) else if pclB k = false then (sg0, 40) else if pieceB k x = false then (sg0, 40) else if (zs.length : Int) < x.to then (sg0, 1) else (sgP k x (dat zs x), 0)
def MkPost (r : Sg × Int) (w : World) (e : Ending) (w' : World) : Prop :=
  ∃ ad cd, e = .returned (.tuple #[.agg (svC r.1 (.slice none 0 0) (.slice none 0 0) (.slice ad r.1.data.length cd) (.slice none 0 0)), .int .i64 r.2]) ∧ w'.ownsRow w.heap.size 5 1 (.slice ad r.1.data.length cd) r.1.data.length (r.1.data.map (Value.int .u8)) ∧ Below w.heap.size w w'

/-- slices.Clone of bytes that are some. -/
theorem clone_bytes (g off c : Nat) (zs : List Int) (n : Nat) (hn : zs.length = n) (w : World) (h : Lies .u8 w (some ⟨g, off, none⟩) zs) (hm : n ≤ 1048576) :
    Calls Tryd.prog 30 #[.slice (some ⟨g, off, none⟩) n c] w fun e w' => ∃ ad cd, e = .returned (.slice ad n cd) ∧ w'.ownsRow w.heap.size 5 1 (.slice ad n cd) n (zs.map (Value.int .u8)) ∧ Below w.heap.size w w' := by
  obtain ⟨i0, hi, hz0, hz1, hz2⟩ := info_parts Tryd.info_u8
  have q22 : ∀ (w : World) (a : Option Addr) (n c n' c' : Nat), (binOp .eql 26 (.slice a n c) (.slice none n' c')).run Tryd.prog w = .ok (.bool a.isNone) w := fun w a n c n' c' => Lib.run_eql_slice_nil w _ _ a n c n' c' Tryd.underlying26
  have HO : Hid ((w.alloc (.cells #[] 5)).ownsRow w.heap.size 5 1 (.slice (some ⟨w.heap.size, 0, none⟩) 0 0) 0 []) := ⟨rfl, .inr ⟨w.heap.size, 0, #[], rfl, Nat.le_refl _, heap_alloc_new' _ _, Nat.le_refl _, by unfold maxLen; omega, rfl, rfl⟩⟩
  have HB0 : Hid (Below w.heap.size w (w.alloc (.cells #[] 5))) := (Below.refl _ _).alloc (Nat.le_refl _) _
  have HL : Hid (Lies .u8 (w.alloc (.cells #[] 5)) (some ⟨g, off, none⟩) zs) := h.below HB0.out
  have HN : Hid (zs.length = n) := hn
  clear h hn
  go_enter Tryd.func30, Tryd.ntmps30
  go_wp2_with (at_builtin; refine append_any _ rfl _ _ 26 rfl w.heap.size 5 i0 (.int .u8 0) 1 Tryd.underlying26 hi hz0 hz1 hz2 rfl _ _ _ rfl HO.out .u8 (some ⟨g, off, none⟩) n c zs rfl (fun h => by cases h) HN.out HL.out (by unfold maxLen; omega) (by omega) (by simp) ?_)
  intro v' w1 hown1 hgrow
  have HB1 : Hid (Below w.heap.size w w1) := HB0.out.grown hgrow (by simp) (fun k e => by simp [Value.ownBlock] at e; omega)
  have HO1 : Hid (w1.ownsRow w.heap.size 5 1 v' n (zs.map (Value.int .u8))) := by first | exact hown1 | simpa using hown1
  clear hown1 hgrow HO HB0
  obtain ⟨av, cv, hv⟩ := own_shp HO1.out
  subst hv
  go_wp2
  go_ret
  exact ⟨av, cv, rfl, HO1.out, HB1.out⟩

/-- What a whole struct's store wants. -/
def Storable (P : Program) (ty : TypeId) (w : World) (vx vy : Value) : Prop := ∃ (g : Nat) (cells old : Array Value) (t : TypeId), vx = .pointer (some ⟨g, 0, none⟩) ∧ vy = .agg cells ∧ w.heap[g]? = some (.cells old t (0, 0)) ∧ old.size = cells.size ∧ (P.info? ty).map (·.size) = some cells.size ∧ cells.all (·.oneCell') = true
def pBlk : Value → Nat
  | .pointer (some a) => a.block
  | _ => 0
def pAgg : Value → Array Value
  | .agg c => c
  | _ => #[]
theorem pBlk_ptr (a : Addr) : pBlk (.pointer (some a)) = a.block := rfl
theorem pAgg_agg (c : Array Value) : pAgg (.agg c) = c := rfl
/-- A store of a whole struct into a block of its own: one step, wherever it stands. -/
theorem wp_store_whole {P : Program} {ty tp : TypeId} {x y : Operand} {d : Option Tmp} {ps : String} {af : Array Edge} {a : Act} {w : World} {K : Act → World → Prop} {Q : Exit → Act → World → Prop}
    (hs : Storable P ty w (a.eval x) (a.eval y)) :
    Oper.wp P { dst := d, op := .store ty x y, type := tp, pos := ps, after := af, guard := none } a w K Q = K (a.put d undef) (w.setRow (pBlk (a.eval x)) (pAgg (a.eval y))) := by
  obtain ⟨g, cells, old, t, hx, hy, hg, ho, hi, h1⟩ := hs
  have hr := run_storeVar_row (P := P) w g t ty old cells hg hi ho h1
  unfold Oper.wp execOp
  simp only [hx, hy, pBlk_ptr, pAgg_agg, Instr.storeAt, Instr.sureAddr, Sem.run_bind, Sem.run_pure, Result.andThen_ok, hr]
  rfl

/-- What lies there while Make runs. -/
structure MX (k : Pk) (x : Pc) (w V : World) : Prop where
  pcl : V.heap[w.heap.size + 1]? = some (.cells (pclC k) 25)
  pc : V.heap[w.heap.size + 2]? = some (.cells (pcC x) 56)
  seg : V.heap[w.heap.size + 3]? = some zsO
  kn : V.heap[w.heap.size + 4]? = some (.cells (knC k) 71)
  bel : Below w.heap.size w V
theorem MX.size {k : Pk} {x : Pc} {w V : World} (h : MX k x w V) : w.heap.size + 4 < V.heap.size := (Array.getElem?_eq_some_iff.mp h.kn).1
theorem MX.below {k : Pk} {x : Pc} {w V V' : World} (h : MX k x w V) (hb : Below V.heap.size V V') : MX k x w V' := by
  have := h.size
  exact ⟨(hb.block _ (by omega)).trans h.pcl, (hb.block _ (by omega)).trans h.pc, (hb.block _ (by omega)).trans h.seg, (hb.block _ (by omega)).trans h.kn, h.bel.trans (hb.mono h.bel.size)⟩
theorem MX.drew {k : Pk} {x : Pc} {w V : World} (h : MX k x w V) : MX k x w V.drew := h.below ((Below.refl _ _).drew)
/-- The same, but for the segment. -/
structure MY (k : Pk) (x : Pc) (w V : World) : Prop where
  pc : V.heap[w.heap.size + 2]? = some (.cells (pcC x) 56)
  kn : V.heap[w.heap.size + 4]? = some (.cells (knC k) 71)
theorem MX.my {k : Pk} {x : Pc} {w V : World} (h : MX k x w V) : MY k x w V := ⟨h.pc, h.kn⟩
theorem MY.drew {k : Pk} {x : Pc} {w V : World} (h : MY k x w V) : MY k x w V.drew := ⟨h.pc, h.kn⟩
theorem MY.row {k : Pk} {x : Pc} {w V : World} {cs : Array Value} (h : MY k x w V) : MY k x w (V.setRow (w.heap.size + 1 + 1 + 1) cs) := by
  refine ⟨?_, ?_⟩
  · simp only [World.setRow]; rw [Array.getElem?_modify, if_neg (by omega)]; exact h.pc
  · simp only [World.setRow]; rw [Array.getElem?_modify, if_neg (by omega)]; exact h.kn
theorem MY.set {k : Pk} {x : Pc} {w V : World} {j : Nat} {u : Value} (h : MY k x w V) : MY k x w (V.setCell ⟨w.heap.size + 3, j, none⟩ u) :=
  ⟨(Below.heap_setCell _ _ _ _ (by simp)).trans h.pc, (Below.heap_setCell _ _ _ _ (by simp)).trans h.kn⟩
theorem MY.all {k : Pk} {x : Pc} {w V : World} (h : MY k x w V) : V.cell? ⟨w.heap.size + 4, 0, none⟩ = some (.int .i64 k.org) ∧ V.cell? ⟨w.heap.size + 4, 1, none⟩ = some (.int .i64 k.num) ∧ V.cell? ⟨w.heap.size + 4, 2, none⟩ = some (.int .i64 k.srv) ∧ V.cell? ⟨w.heap.size + 4, 3, none⟩ = some (.int .i64 k.size) ∧ V.cell? ⟨w.heap.size + 4, 4, none⟩ = some (.int .i64 k.red) ∧ V.cell? ⟨w.heap.size + 4, 5, none⟩ = some (.int .i64 k.mtu) ∧ V.cell? ⟨w.heap.size + 4, 6, none⟩ = some (.int .i64 k.every) ∧
    V.cell? ⟨w.heap.size + 2, 0, none⟩ = some (.int .i64 x.typ) ∧ V.cell? ⟨w.heap.size + 2, 1, none⟩ = some (.int .i64 x.frm) ∧ V.cell? ⟨w.heap.size + 2, 2, none⟩ = some (.int .i64 x.to) ∧ V.cell? ⟨w.heap.size + 2, 3, none⟩ = some (.int .i64 x.chk) ∧ V.cell? ⟨w.heap.size + 2, 4, none⟩ = some (.int .i64 x.rep) ∧ MY k x w V := by
  obtain ⟨b0, b1, b2, b3, b4, _⟩ := box5 h.pc
  exact ⟨cell_of_row _ _ 0 _ _ _ h.kn, cell_of_row _ _ 1 _ _ _ h.kn, cell_of_row _ _ 2 _ _ _ h.kn, cell_of_row _ _ 3 _ _ _ h.kn, cell_of_row _ _ 4 _ _ _ h.kn, cell_of_row _ _ 5 _ _ _ h.kn, cell_of_row _ _ 6 _ _ _ h.kn, b0, b1, b2, b3, b4, h⟩
abbrev W4 (k : Pk) (x : Pc) (w : World) : World := (((w.alloc (.cells #[.int .i64 k.org, .int .i64 k.num] 23)).alloc (.cells (pclC k) 25)).alloc (.cells (pcC x) 56)).alloc zsO
theorem mx_start (k : Pk) (x : Pc) (w : World) : MX k x w ((W4 k x w).alloc (.cells (knC k) 71)) := by
  have e1 := heap_alloc_new' (w.alloc (.cells #[.int .i64 k.org, .int .i64 k.num] 23)) (.cells (pclC k) 25)
  have e2 := heap_alloc_new' ((w.alloc (.cells #[.int .i64 k.org, .int .i64 k.num] 23)).alloc (.cells (pclC k) 25)) (.cells (pcC x) 56)
  have e3 := heap_alloc_new' (((w.alloc (.cells #[.int .i64 k.org, .int .i64 k.num] 23)).alloc (.cells (pclC k) 25)).alloc (.cells (pcC x) 56)) zsO
  have e4 := heap_alloc_new' (W4 k x w) (.cells (knC k) 71)
  simp only [World.size_alloc] at e1 e2 e3 e4
  exact ⟨heapA (heapA (heapA e1 _) _) _, heapA (heapA e2 _) _, heapA e3 _, e4, (((((Below.refl _ _).alloc (Nat.le_refl _) _).alloc (by simp) _).alloc (by simp; omega) _).alloc (by simp; omega) _).alloc (by simp; omega) _⟩

theorem seg_cells {W : World} {g : Nat} {c0 c1 c2 c3 c4 c5 c6 c7 c8 c9 c10 c11 c12 c13 : Value} (h : W.heap[g]? = some (.cells #[c0, c1, c2, c3, c4, c5, c6, c7, c8, c9, c10, c11, c12, c13] 45)) :
    (W.cell? ⟨g, 0, none⟩ = some c0 ∧ W.cell? ⟨g, 1, none⟩ = some c1 ∧ W.cell? ⟨g, 2, none⟩ = some c2 ∧ W.cell? ⟨g, 3, none⟩ = some c3 ∧ W.cell? ⟨g, 4, none⟩ = some c4 ∧ W.cell? ⟨g, 5, none⟩ = some c5 ∧ W.cell? ⟨g, 6, none⟩ = some c6) ∧ (W.cell? ⟨g, 7, none⟩ = some c7 ∧ W.cell? ⟨g, 8, none⟩ = some c8 ∧ W.cell? ⟨g, 9, none⟩ = some c9 ∧ W.cell? ⟨g, 10, none⟩ = some c10 ∧ W.cell? ⟨g, 11, none⟩ = some c11 ∧ W.cell? ⟨g, 12, none⟩ = some c12 ∧ W.cell? ⟨g, 13, none⟩ = some c13) ∧ ∀ j, W.frozen? ⟨g, j, none⟩ = false :=
  ⟨⟨cell_of_row _ _ 0 _ _ _ h, cell_of_row _ _ 1 _ _ _ h, cell_of_row _ _ 2 _ _ _ h, cell_of_row _ _ 3 _ _ _ h, cell_of_row _ _ 4 _ _ _ h, cell_of_row _ _ 5 _ _ _ h, cell_of_row _ _ 6 _ _ _ h⟩, ⟨cell_of_row _ _ 7 _ _ _ h, cell_of_row _ _ 8 _ _ _ h, cell_of_row _ _ 9 _ _ _ h, cell_of_row _ _ 10 _ _ _ h, cell_of_row _ _ 11 _ _ _ h, cell_of_row _ _ 12 _ _ _ h, cell_of_row _ _ 13 _ _ _ h⟩, fun j => frozen_of_row _ _ j _ _ h⟩

theorem there_of {W : World} {g : Nat} {c : Array Value} {t : TypeId} {n : Nat} (h : W.heap[g]? = some (.cells c t (0, 0))) (hn : n = c.size := by rfl) : W.there g 0 n := fun j hj => by
  subst hn
  refine ⟨?_, frozen_of_row _ _ _ _ _ h⟩
  have hc : W.cell? ⟨g, 0 + j, none⟩ = c[0 + j]? := by simp [World.cell?, h]
  rw [hc, Nat.zero_add, Array.getElem?_eq_getElem hj]; rfl
theorem grown_row (W : World) (g : Nat) (cs : Array Value) : W.grownBy (W.setRow g cs) (some g) := by
  refine ⟨rfl, rfl, rfl, by simp [World.setRow], fun j hj hne => ?_⟩
  simp only [World.setRow]
  rw [Array.getElem?_modify, if_neg (fun e => hne (by rw [e]))]
theorem mk_nil {r : Sg × Int} {w W : World} {er : Int} (h : r = (sg0, er)) (hb : Below w.heap.size w W) : MkPost r w (.returned (.tuple #[.agg #[.int .i64 0, .int .i64 0, .int .i64 0, .slice none 0 0, .slice none 0 0, .int .i64 0, .int .i64 0, .slice none 0 0, .int .i64 0, .int .i64 0, .int .i64 0, .int .i64 0, .slice none 0 0, .int .i64 0], .int .i64 er])) W := by
  subst h
  exact ⟨none, 0, rfl, World.ownsRow_nil _ _ _ _, hb⟩

attribute [local go_sem ↓] wp_store_whole
attribute [local go_sem] pBlk_ptr pAgg_agg
set_option maxRecDepth 100000 in
set_option maxHeartbeats 8000000 in
theorem make_any (k : Pk) (x : Pc) (a : Option Addr) (zs : List Int) (len cap : Nat) (w : World) (hl : zs.length = len) (hlc : len ≤ cap) (hc : Lies .u8 w a zs) (hn : a = none → len = 0 ∧ cap = 0) :
    Calls Tryd.prog 23 #[.agg #[.int .i64 k.org, .int .i64 k.num], .agg (pclC k), .agg (pcC x), .slice a len cap] w (MkPost (mk k x zs) w) := by
  have HS : Hid (MX k x w ((W4 k x w).alloc (.cells (knC k) 71))) := mx_start k x w
  have HW4 : Hid (Below w.heap.size w (W4 k x w)) := ((((Below.refl _ _).alloc (Nat.le_refl _) _).alloc (by simp) _).alloc (by simp; omega) _).alloc (by simp; omega) _
  have HL : Hid (zs.length = len) := hl
  have HC : Hid (∀ V, Below w.heap.size w V → Lies .u8 V a zs) := fun V hV => hc.below hV
  have HM : Hid (mk k x zs = if 65536 < zs.length then (sg0, 2) else if sesB k = false then (sg0, 1) else if pclB k = false then (sg0, 40) else if pieceB k x = false then (sg0, 40) else if (zs.length : Int) < x.to then (sg0, 1) else (sgP k x (dat zs x), 0)) := rfl
  have HPP : Hid (pieceB k x = true → 0 ≤ x.frm ∧ x.frm < x.to) := fun h => by have := (pieceB_iff k x).mp h; exact ⟨this.1, this.2.1⟩
  have hf := fault_any k
  have hip := isPiece_any k x
  generalize mk k x zs = R at *
  rw [HL.out] at HM
  clear hl hc
  go_enter Tryd.func23, Tryd.ntmps23
  by_cases hlong : 65536 < len
  · have hl' : (65536 : Int) < (len : Int) := by omega
    have HR : Hid (R = (sg0, 2)) := by unfold Hid; rw [HM.out, if_pos hlong]
    clear hf hip HS HM
    go_wp2
    refine bodyPost_ret (v := .tuple #[.agg #[.int .i64 0, .int .i64 0, .int .i64 0, .slice none 0 0, .slice none 0 0, .int .i64 0, .int .i64 0, .slice none 0 0, .int .i64 0, .int .i64 0, .int .i64 0, .int .i64 0, .slice none 0 0, .int .i64 0], .int .i64 2]) (by simp [results, Tryd.results23, go_sem]) rfl ?_
    exact mk_nil HR.out HW4.out
  have hl' : ¬ (65536 : Int) < (len : Int) := by omega
  rw [if_neg hlong] at HM
  obtain ⟨q1, h1⟩ : ∃ q, sesB k = q := ⟨_, rfl⟩
  obtain ⟨q2, h2⟩ : ∃ q, pclB k = q := ⟨_, rfl⟩
  obtain ⟨q3, h3⟩ : ∃ q, pieceB k x = q := ⟨_, rfl⟩
  rw [h1, h2] at hf HM
  rw [h3] at HM hip HPP
  clear h1 h2 h3
  go_wp2_with fail
  refine (hf _).mono ?_
  rintro e w2 ⟨rfl, hb2⟩
  have H2 : Hid (MX k x w w2) := HS.out.below hb2
  clear hf hb2 HS
  cases q1 with
  | false =>
    clear hip
    have HR : Hid (R = (sg0, 1)) := by unfold Hid; rw [HM.out, if_pos rfl]
    have HZ2 : Hid (w2.heap[w.heap.size + 3]? = some zsO) := H2.out.seg
    have HZ3 : Hid ((w2.setRow (w.heap.size + 3) #[.int .i64 0, .int .i64 0, .int .i64 0, .slice none 0 0, .slice none 0 0, .int .i64 0, .int .i64 0, .slice none 0 0, .int .i64 0, .int .i64 0, .int .i64 0, .int .i64 0, .slice none 0 0, .int .i64 0]).heap[w.heap.size + 3]? = some zsO) := setRow_heap _ _ _ _ _ _ HZ2.out
    clear HM
    go_wp2_with (refine wpList_store_row rfl 45 _ _ rfl (w.heap.size + 3) _ rfl rfl 45 _ HZ2.out size_sgm rfl (by simp [Value.oneCell']) ?_)
    have hlv := fun j => cell_of_row _ (w.heap.size + 3) j _ _ _ HZ3.out
    refine bodyPost_ret (v := .tuple #[.agg #[.int .i64 0, .int .i64 0, .int .i64 0, .slice none 0 0, .slice none 0 0, .int .i64 0, .int .i64 0, .slice none 0 0, .int .i64 0, .int .i64 0, .int .i64 0, .int .i64 0, .slice none 0 0, .int .i64 0], .int .i64 1]) (by simp [results, Tryd.results23, go_sem, hlv]) rfl ?_
    exact mk_nil HR.out (below_setRow H2.out.bel (by omega) _)
  | true =>
    cases q2 with
    | false =>
      clear hip
      have HR : Hid (R = (sg0, 40)) := by unfold Hid; rw [HM.out, if_neg (by simp), if_pos rfl]
      have HZ2 : Hid (w2.heap[w.heap.size + 3]? = some zsO) := H2.out.seg
      have HZ3 : Hid ((w2.setRow (w.heap.size + 3) #[.int .i64 0, .int .i64 0, .int .i64 0, .slice none 0 0, .slice none 0 0, .int .i64 0, .int .i64 0, .slice none 0 0, .int .i64 0, .int .i64 0, .int .i64 0, .int .i64 0, .slice none 0 0, .int .i64 0]).heap[w.heap.size + 3]? = some zsO) := setRow_heap _ _ _ _ _ _ HZ2.out
      clear HM
      go_wp2_with (refine wpList_store_row rfl 45 _ _ rfl (w.heap.size + 3) _ rfl rfl 45 _ HZ2.out size_sgm rfl (by simp [Value.oneCell']) ?_)
      have hlv := fun j => cell_of_row _ (w.heap.size + 3) j _ _ _ HZ3.out
      refine bodyPost_ret (v := .tuple #[.agg #[.int .i64 0, .int .i64 0, .int .i64 0, .slice none 0 0, .slice none 0 0, .int .i64 0, .int .i64 0, .slice none 0 0, .int .i64 0, .int .i64 0, .int .i64 0, .int .i64 0, .slice none 0 0, .int .i64 0], .int .i64 40]) (by simp [results, Tryd.results23, go_sem, hlv]) rfl ?_
      exact mk_nil HR.out (below_setRow H2.out.bel (by omega) _)
    | true =>
      rw [if_neg (by simp), if_neg (by simp)] at HM
      obtain ⟨b0, b1, b2, b3, b4, _⟩ := box5 H2.out.pcl
      obtain ⟨c0, c1, c2, c3, c4, _⟩ := box5 H2.out.pc
      go_wp2_with fail
      refine (hip _).mono ?_
      rintro e w3 ⟨rfl, hb3⟩
      have H3 : Hid (MX k x w w3) := H2.out.below hb3
      clear hip hb3 H2 b0 b1 b2 b3 b4 c0 c1 c2 c3 c4
      cases q3 with
      | false =>
        have HR : Hid (R = (sg0, 40)) := by unfold Hid; rw [HM.out, if_pos rfl]
        have HZ2 : Hid (w3.heap[w.heap.size + 3]? = some zsO) := H3.out.seg
        have HZ3 : Hid ((w3.setRow (w.heap.size + 3) #[.int .i64 0, .int .i64 0, .int .i64 0, .slice none 0 0, .slice none 0 0, .int .i64 0, .int .i64 0, .slice none 0 0, .int .i64 0, .int .i64 0, .int .i64 0, .int .i64 0, .slice none 0 0, .int .i64 0]).heap[w.heap.size + 3]? = some zsO) := setRow_heap _ _ _ _ _ _ HZ2.out
        clear HM
        go_wp2_with (refine wpList_store_row rfl 45 _ _ rfl (w.heap.size + 3) _ rfl rfl 45 _ HZ2.out size_sgm rfl (by simp [Value.oneCell']) ?_)
        have hlv := fun j => cell_of_row _ (w.heap.size + 3) j _ _ _ HZ3.out
        refine bodyPost_ret (v := .tuple #[.agg #[.int .i64 0, .int .i64 0, .int .i64 0, .slice none 0 0, .slice none 0 0, .int .i64 0, .int .i64 0, .slice none 0 0, .int .i64 0, .int .i64 0, .int .i64 0, .int .i64 0, .slice none 0 0, .int .i64 0], .int .i64 40]) (by simp [results, Tryd.results23, go_sem, hlv]) rfl ?_
        exact mk_nil HR.out (below_setRow H3.out.bel (by omega) _)
      | true =>
        rw [if_neg (by simp)] at HM
        obtain ⟨hf0, hft⟩ := HPP.out rfl
        obtain ⟨_, _, c2, _⟩ := box5 H3.out.pc
        by_cases hsh : (len : Int) < x.to
        · rw [if_pos hsh] at HM
          have HR : Hid (R = (sg0, 1)) := by unfold Hid; rw [HM.out]
          have HZ2 : Hid (w3.heap[w.heap.size + 3]? = some zsO) := H3.out.seg
          have HZ3 : Hid ((w3.setRow (w.heap.size + 3) #[.int .i64 0, .int .i64 0, .int .i64 0, .slice none 0 0, .slice none 0 0, .int .i64 0, .int .i64 0, .slice none 0 0, .int .i64 0, .int .i64 0, .int .i64 0, .int .i64 0, .slice none 0 0, .int .i64 0]).heap[w.heap.size + 3]? = some zsO) := setRow_heap _ _ _ _ _ _ HZ2.out
          clear HM
          go_wp2_with (refine wpList_store_row rfl 45 _ _ rfl (w.heap.size + 3) _ rfl rfl 45 _ HZ2.out size_sgm rfl (by simp [Value.oneCell']) ?_)
          have hlv := fun j => cell_of_row _ (w.heap.size + 3) j _ _ _ HZ3.out
          refine bodyPost_ret (v := .tuple #[.agg #[.int .i64 0, .int .i64 0, .int .i64 0, .slice none 0 0, .slice none 0 0, .int .i64 0, .int .i64 0, .slice none 0 0, .int .i64 0, .int .i64 0, .int .i64 0, .int .i64 0, .slice none 0 0, .int .i64 0], .int .i64 1]) (by simp [results, Tryd.results23, go_sem, hlv]) rfl ?_
          exact mk_nil HR.out (below_setRow H3.out.bel (by omega) _)
        · rw [if_neg hsh] at HM
          obtain ⟨ty, frm, tt, ck, rp⟩ := x
          simp only at hf0 hft hsh c2
          obtain ⟨F, rfl⟩ := Int.eq_ofNat_of_zero_le hf0
          obtain ⟨T, rfl⟩ := Int.eq_ofNat_of_zero_le (show 0 ≤ tt by omega)
          have hFT : F < T := by omega
          have hTl : T ≤ len := by omega
          obtain ⟨G, off, hga, hgc⟩ : ∃ G off, a = some ⟨G, off, none⟩ ∧ ∀ i, i < zs.length → w.cell? ⟨G, off + i, none⟩ = some (.int .u8 (zs.getD i 0)) := by
            rcases HC.out w (Below.refl _ _) with h0 | ⟨b, off, ha, h⟩
            · have := HL.out; rw [h0] at this; simp at this; omega
            · exact ⟨b, off, ha, h⟩
          subst hga
          have HDL : Hid ((dat zs ⟨ty, (F : Int), (T : Int), ck, rp⟩).length = T - F) := by
            unfold Hid dat; simp only [List.length_take, List.length_drop, HL.out]; omega
          have HLi : Hid (∀ V, Below w.heap.size w V → Lies .u8 V (some ⟨G, off + F, none⟩) (dat zs ⟨ty, (F : Int), (T : Int), ck, rp⟩)) := fun V hV => by
            rcases HC.out V hV with h0 | ⟨b, off', ha, h⟩
            · have := HL.out; rw [h0] at this; simp at this; omega
            · simp only [Option.some.injEq, Addr.mk.injEq, and_true] at ha
              obtain ⟨rfl, rfl⟩ := ha
              refine .inr ⟨G, off + F, rfl, fun i hi => ?_⟩
              have hi' : i < T - F := by have := HDL.out; omega
              rw [show off + F + i = off + (F + i) by omega, h (F + i) (by have := HL.out; omega)]
              unfold dat
              simp only [List.getD_eq_getElem?_getD, List.getElem?_take, List.getElem?_drop, Int.toNat_natCast]
              rw [if_pos (by omega)]
          have HCL : ∀ V, MX k ⟨ty, (F : Int), (T : Int), ck, rp⟩ w V → Calls Tryd.prog 30 #[.slice (some ⟨G, off + F, none⟩) (T - F) (cap - F)] V fun e w' => ∃ ad cd, e = .returned (.slice ad (T - F) cd) ∧ Hid (w'.ownsRow (w.heap.size + 5) 5 1 (.slice ad (T - F) cd) (T - F) ((dat zs ⟨ty, (F : Int), (T : Int), ck, rp⟩).map (Value.int .u8))) ∧ MX k ⟨ty, (F : Int), (T : Int), ck, rp⟩ w w' := fun V hV =>
            (clone_bytes G (off + F) (cap - F) _ (T - F) HDL.out V (HLi.out V hV.bel) (by omega)).mono (fun e w' ⟨ad, cd, he, ho, hb⟩ => ⟨ad, cd, he, (by
              have hz := hV.size
              refine ⟨ho.1, ?_⟩
              rcases ho.2 with q | ⟨g, cp, cur, h1, h2, h3⟩
              · exact .inl q
              · exact .inr ⟨g, cp, cur, h1, by omega, h3⟩), hV.below hb⟩)
          have hX := H3.out.my
          have hiF : (0 : Int) ≤ (F : Int) := by omega
          have hiT : (F : Int) ≤ (T : Int) := by omega
          have hiC : (T : Int) ≤ (cap : Int) := by omega
          have hcf : ¬ cap = F := by omega
          go_wp2_with fail
          clear c2
          go_region_held3 (fun V => V.cell? ⟨w.heap.size + 4, 0, none⟩ = some (.int .i64 k.org) ∧ V.cell? ⟨w.heap.size + 4, 1, none⟩ = some (.int .i64 k.num) ∧ V.cell? ⟨w.heap.size + 4, 2, none⟩ = some (.int .i64 k.srv) ∧ V.cell? ⟨w.heap.size + 4, 3, none⟩ = some (.int .i64 k.size) ∧ V.cell? ⟨w.heap.size + 4, 4, none⟩ = some (.int .i64 k.red) ∧ V.cell? ⟨w.heap.size + 4, 5, none⟩ = some (.int .i64 k.mtu) ∧ V.cell? ⟨w.heap.size + 4, 6, none⟩ = some (.int .i64 k.every) ∧ V.cell? ⟨w.heap.size + 2, 0, none⟩ = some (.int .i64 ty) ∧ V.cell? ⟨w.heap.size + 2, 1, none⟩ = some (.int .i64 F) ∧ V.cell? ⟨w.heap.size + 2, 2, none⟩ = some (.int .i64 T) ∧ V.cell? ⟨w.heap.size + 2, 3, none⟩ = some (.int .i64 ck) ∧ V.cell? ⟨w.heap.size + 2, 4, none⟩ = some (.int .i64 rp) ∧ MY k ⟨ty, (F : Int), (T : Int), ck, rp⟩ w V)
            ((refine MY.all (x := ⟨ty, (F : Int), (T : Int), ck, rp⟩) ?_; first | assumption | (refine MY.drew ?_; assumption) | (refine MY.row ?_; assumption)))
            (first
              | (go_at_call 30; refine (HCL _ H3.out.drew).mono ?_; rintro e w4 ⟨ad, cd, rfl, HO4, hY'⟩; have hY := hY'.my; have HY4 : Hid (MX k ⟨ty, (F : Int), (T : Int), ck, rp⟩ w w4) := hY'; clear hY')
              | (go_at_call 29; refine (segm_any k ⟨ty, (F : Int), (T : Int), ck, rp⟩ _ _ _ _).mono ?_; rintro e w5 ⟨rfl, hb5⟩; have HB5 : Hid (Below w4.heap.size w4 w5) := hb5; have HZ5 : Hid (MX k ⟨ty, (F : Int), (T : Int), ck, rp⟩ w w5) := HY4.out.below hb5; have hZ := HZ5.out.my; have hz5 : w5.heap[w.heap.size + 1 + 1 + 1]? = some zsO := HZ5.out.seg; have hst : Storable Tryd.prog 45 w5 (.pointer (some ⟨w.heap.size + 1 + 1 + 1, 0, none⟩)) (.agg #[.int .i64 ty, .int .i64 k.org, .int .i64 k.num, .slice none 0 0, .slice none 0 0, .int .i64 k.srv, .int .i64 F, .slice ad (T - F) cd, .int .i64 ck, .int .i64 rp, .int .i64 0, .int .i64 0, .slice none 0 0, .int .i64 0]) := ⟨_, _, _, _, rfl, rfl, hz5, rfl, size_sgm, (by simp [Value.oneCell'])⟩; clear hb5 hz5))
          have HZ6 : Hid ((w5.setRow (w.heap.size + 1 + 1 + 1) #[.int .i64 ty, .int .i64 k.org, .int .i64 k.num, .slice none 0 0, .slice none 0 0, .int .i64 k.srv, .int .i64 F, .slice ad (T - F) cd, .int .i64 ck, .int .i64 rp, .int .i64 0, .int .i64 0, .slice none 0 0, .int .i64 0]).heap[w.heap.size + 1 + 1 + 1]? = some (.cells #[.int .i64 ty, .int .i64 k.org, .int .i64 k.num, .slice none 0 0, .slice none 0 0, .int .i64 k.srv, .int .i64 F, .slice ad (T - F) cd, .int .i64 ck, .int .i64 rp, .int .i64 0, .int .i64 0, .slice none 0 0, .int .i64 0] 45)) := setRow_heap _ _ _ _ _ _ HZ5.out.seg
          clear hX hY hZ hst
          go_wp2
          have hlv := fun j => cell_of_row _ (w.heap.size + 1 + 1 + 1) j _ _ _ HZ6.out
          refine bodyPost_ret (v := .tuple #[.agg #[.int .i64 ty, .int .i64 k.org, .int .i64 k.num, .slice none 0 0, .slice none 0 0, .int .i64 k.srv, .int .i64 F, .slice ad (T - F) cd, .int .i64 ck, .int .i64 rp, .int .i64 0, .int .i64 0, .slice none 0 0, .int .i64 0], .int .i64 0]) (by simp [results, Tryd.results23, go_sem, hlv]) rfl ?_
          have hR := HM.out
          subst hR
          refine ⟨ad, cd, ?_, ?_, below_setRow HZ5.out.bel (by omega) _⟩
          · show _ = Ending.returned (.tuple #[.agg #[.int .i64 ty, .int .i64 k.org, .int .i64 k.num, .slice none 0 0, .slice none 0 0, .int .i64 k.srv, .int .i64 F, .slice ad (dat zs ⟨ty, (F : Int), (T : Int), ck, rp⟩).length cd, .int .i64 ck, .int .i64 rp, .int .i64 0, .int .i64 0, .slice none 0 0, .int .i64 0], .int .i64 0])
            rw [HDL.out]
          · show World.ownsRow _ _ _ 1 (.slice ad (dat zs ⟨ty, (F : Int), (T : Int), ck, rp⟩).length cd) (dat zs ⟨ty, (F : Int), (T : Int), ck, rp⟩).length _
            rw [HDL.out]
            exact own_base (own_keep (own_below HO4.out HB5.out) (grown_row _ _ _) (fun j hj e => by have := (World.ownsRow.lt HO4.out j hj).1; simp at e; omega)) (by omega)

end Go.Proofs.YtcfodcioeefbeaaDoor
