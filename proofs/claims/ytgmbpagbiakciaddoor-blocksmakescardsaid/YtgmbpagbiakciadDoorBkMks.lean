import Derived.Test.YtgmbpagbiakciadDoorBkMk3
import Derived.Test.YtgmbpagbiakciadDoorBkSs
import Derived.Test.YtgmbpagbiakciadDoorLent4
import Derived.Test.YtgmbpagbiakciadDoorBkHom
namespace Go.Proofs.YtgmbpagbiakciadDoor
open Go.RowKit
set_option linter.unusedVariables false
set_option linter.unusedSimpArgs false

theorem own_same4 {w w' : World} {base size n : Nat} {e : TypeId} {v : Value} {xs : List Value} (h : w.ownsRow base e size v n xs) (hg : ∀ k, v.ownBlock = some k → w'.heap[k]? = w.heap[k]?) : w'.ownsRow base e size v n xs := by
  obtain ⟨hl, h | ⟨g, cap, cur, rfl, hb, hh, r⟩⟩ := h
  · exact ⟨hl, .inl h⟩
  · exact ⟨hl, .inr ⟨g, cap, cur, rfl, hb, (hg g rfl).trans hh, r⟩⟩
/-- A segment that was made: where its bytes lie, and itself. -/
structure SgAt (w : World) (lo hi b : Nat) (s : Sg) (ad : Option Addr) (nd cd : Nat) : Prop where
  len : s.data.length = nd
  dat : w.ownsRow lo 5 1 (.slice ad nd cd) nd (s.data.map (Value.int .u8))
  top : ∀ k, (Value.slice ad nd cd).ownBlock = some k → k < hi
  box : w.heap[b]? = some (svO s (.slice none 0 0) (.slice none 0 0) (.slice ad nd cd) (.slice none 0 0))
theorem SgAt.same {w w' : World} {lo hi b : Nat} {s : Sg} {ad : Option Addr} {nd cd : Nat} (h : SgAt w lo hi b s ad nd cd) (hg : ∀ g, (lo ≤ g ∧ g < hi) ∨ g = b → g < w.heap.size → w'.heap[g]? = w.heap[g]?) : SgAt w' lo hi b s ad nd cd :=
  ⟨h.len, own_same4 h.dat (fun k hk => hg k (.inl ⟨(h.dat.lt k hk).1, h.top k hk⟩) (h.dat.lt k hk).2), h.top, (hg b (.inr rfl) (Array.getElem?_eq_some_iff.mp h.box).1).trans h.box⟩
theorem SgAt.below {w w' : World} {lo hi b : Nat} {s : Sg} {ad : Option Addr} {nd cd : Nat} (h : SgAt w lo hi b s ad nd cd) (hb : Below w.heap.size w w') : SgAt w' lo hi b s ad nd cd := h.same (fun g _ hg => hb.block g hg)
theorem SgAt.lies {w : World} {lo hi b : Nat} {s : Sg} {ad : Option Addr} {nd cd : Nat} (h : SgAt w lo hi b s ad nd cd) : Lies .u8 w ad s.data := by
  obtain ⟨hl, ⟨h1, h2⟩ | ⟨g, cap, cur, h1, hb, hh, hn, hm, hs, ht⟩⟩ := h.dat
  · left
    have := h.len
    exact List.eq_nil_of_length_eq_zero (by omega)
  · simp only [Value.slice.injEq] at h1
    obtain ⟨rfl, _, rfl⟩ := h1
    refine .inr ⟨g, 0, rfl, fun i hi => ?_⟩
    have hl := h.len
    rw [Nat.zero_add, h.dat.cellAt i (by omega), List.getElem?_map, List.getD_eq_getElem?_getD, List.getElem?_eq_getElem hi]
    rfl
theorem sg_made {P : Sg × Int} {nd : Nat} {w w' : World} {ad : Option Addr} {cd : Nat} (hl : P.1.data.length = nd) (h : w'.ownsRow w.heap.size 5 1 (.slice ad nd cd) nd (P.1.data.map (Value.int .u8))) :
    SgAt (w'.alloc (svO P.1 (.slice none 0 0) (.slice none 0 0) (.slice ad nd cd) (.slice none 0 0))) w.heap.size w'.heap.size w'.heap.size P.1 ad nd cd :=
  ⟨hl, h.alloc _, fun k hk => (h.lt k hk).2, heap_alloc_new' _ _⟩
theorem mk_post {P : Sg × Int} {nd : Nat} {w w' : World} {e : Ending} (hl : P.1.data.length = nd) (h : MkPost P w e w') : ∃ ad cd, e = .returned (.tuple #[.agg (svC P.1 (.slice none 0 0) (.slice none 0 0) (.slice ad nd cd) (.slice none 0 0)), .int .i64 P.2]) ∧ w'.ownsRow w.heap.size 5 1 (.slice ad nd cd) nd (P.1.data.map (Value.int .u8)) ∧ Below w.heap.size w w' := by
  subst hl
  exact h
theorem mk_small (k : Pk) (x : Pc) (zs : List Int) : (mk k x zs).1.data.length ≤ 65536 := by
  unfold mk
  split
  · exact Nat.zero_le _
  · split
    · exact Nat.zero_le _
    · split
      · exact Nat.zero_le _
      · split
        · exact Nat.zero_le _
        · split
          · exact Nat.zero_le _
          · show (dat zs x).length ≤ _
            unfold dat
            rw [List.length_take, List.length_drop]
            omega
/-- A row of bytes of the call's own, for owned. -/
theorem row_rw {w : World} {lo n c : Nat} {ad : Option Addr} {xs : List Value} (h : w.ownsRow lo 5 1 (.slice ad n c) n xs) : ∃ r : O.Rw, O.sv r = .slice ad n c ∧ r.n = n ∧ O.Has w 5 .u8 r 0 0 ∧ (∀ g, r.blk = some g → (Value.slice ad n c).ownBlock = some g) := by
  obtain ⟨hl, ⟨h1, h2⟩ | ⟨g, cap, cur, h1, hb, hh, hn, hm, hs, ht⟩⟩ := h
  · simp only [Value.slice.injEq] at h1
    obtain ⟨rfl, rfl, rfl⟩ := h1
    exact ⟨⟨none, 0, 0⟩, rfl, rfl, .inl ⟨rfl, rfl, rfl⟩, fun g hg => by cases hg⟩
  · simp only [Value.slice.injEq] at h1
    obtain ⟨rfl, _, rfl⟩ := h1
    exact ⟨⟨some g, n, c⟩, rfl, rfl, .inr ⟨g, cur, rfl, hh, by simpa using hs, hm, hn, fun j hj => by omega⟩, fun g' hg => by simp at hg; subst hg; rfl⟩
abbrev mdC (k : Pk) (x : Pc) (v : Value) : Array Value := #[.int .i64 k.org, .int .i64 k.num, .int .i64 k.srv, .int .i64 k.size, .int .i64 k.red, .int .i64 k.mtu, .int .i64 k.every, .int .i64 x.typ, .int .i64 x.frm, .int .i64 x.to, .int .i64 x.chk, .int .i64 x.rep, v]
abbrev mdO (k : Pk) (x : Pc) (v : Value) : Obj := .cells (mdC k x v) 49
theorem md_cells {W : World} {g : Nat} {k : Pk} {x : Pc} {v : Value} (h : W.heap[g]? = some (mdO k x v)) :
    W.cell? ⟨g, 0, none⟩ = some (.int .i64 k.org) ∧ W.cell? ⟨g, 1, none⟩ = some (.int .i64 k.num) ∧ W.cell? ⟨g, 2, none⟩ = some (.int .i64 k.srv) ∧ W.cell? ⟨g, 3, none⟩ = some (.int .i64 k.size) ∧ W.cell? ⟨g, 4, none⟩ = some (.int .i64 k.red) ∧ W.cell? ⟨g, 5, none⟩ = some (.int .i64 k.mtu) ∧ W.cell? ⟨g, 6, none⟩ = some (.int .i64 k.every) ∧ W.cell? ⟨g, 7, none⟩ = some (.int .i64 x.typ) ∧ W.cell? ⟨g, 8, none⟩ = some (.int .i64 x.frm) ∧ W.cell? ⟨g, 9, none⟩ = some (.int .i64 x.to) ∧ W.cell? ⟨g, 10, none⟩ = some (.int .i64 x.chk) ∧ W.cell? ⟨g, 11, none⟩ = some (.int .i64 x.rep) ∧ W.cell? ⟨g, 12, none⟩ = some v :=
  ⟨cell_of_row _ _ 0 _ _ _ h, cell_of_row _ _ 1 _ _ _ h, cell_of_row _ _ 2 _ _ _ h, cell_of_row _ _ 3 _ _ _ h, cell_of_row _ _ 4 _ _ _ h, cell_of_row _ _ 5 _ _ _ h, cell_of_row _ _ 6 _ _ _ h, cell_of_row _ _ 7 _ _ _ h, cell_of_row _ _ 8 _ _ _ h, cell_of_row _ _ 9 _ _ _ h, cell_of_row _ _ 10 _ _ _ h, cell_of_row _ _ 11 _ _ _ h, cell_of_row _ _ 12 _ _ _ h⟩
theorem sg_box {W : World} {g : Nat} {s : Sg} {dv : Value} (h : W.heap[g]? = some (svO s (.slice none 0 0) (.slice none 0 0) dv (.slice none 0 0))) :
    W.cell? ⟨g, 0, none⟩ = some (.int .i64 s.typ) ∧ W.cell? ⟨g, 1, none⟩ = some (.int .i64 s.org) ∧ W.cell? ⟨g, 2, none⟩ = some (.int .i64 s.num) ∧ W.cell? ⟨g, 3, none⟩ = some (.slice none 0 0) ∧ W.cell? ⟨g, 4, none⟩ = some (.slice none 0 0) ∧ W.cell? ⟨g, 5, none⟩ = some (.int .i64 s.srv) ∧ W.cell? ⟨g, 6, none⟩ = some (.int .i64 s.off) ∧ W.cell? ⟨g, 7, none⟩ = some dv ∧ W.cell? ⟨g, 8, none⟩ = some (.int .i64 s.chk) ∧ W.cell? ⟨g, 9, none⟩ = some (.int .i64 s.rep) ∧ W.cell? ⟨g, 10, none⟩ = some (.int .i64 s.upp) ∧ W.cell? ⟨g, 11, none⟩ = some (.int .i64 s.low) ∧ W.cell? ⟨g, 12, none⟩ = some (.slice none 0 0) ∧ W.cell? ⟨g, 13, none⟩ = some (.int .i64 s.rsn) :=
  ⟨cell_of_row _ _ 0 _ _ _ h, cell_of_row _ _ 1 _ _ _ h, cell_of_row _ _ 2 _ _ _ h, cell_of_row _ _ 3 _ _ _ h, cell_of_row _ _ 4 _ _ _ h, cell_of_row _ _ 5 _ _ _ h, cell_of_row _ _ 6 _ _ _ h, cell_of_row _ _ 7 _ _ _ h, cell_of_row _ _ 8 _ _ _ h, cell_of_row _ _ 9 _ _ _ h, cell_of_row _ _ 10 _ _ _ h, cell_of_row _ _ 11 _ _ _ h, cell_of_row _ _ 12 _ _ _ h, cell_of_row _ _ 13 _ _ _ h⟩

set_option maxRecDepth 100000 in
set_option maxHeartbeats 8000000 in
theorem makes_walk (k : Pk) (x : Pc) (a : Option Addr) (zs : List Int) (len cap : Nat) (w : World) (hT : Tab w) (hb : Bytey zs) (hl : zs.length = len) (hlc : len ≤ cap) (hm : cap ≤ 140737488351232) (hc : Lies .u8 w a zs) (hn : a = none → len = 0 ∧ cap = 0) :
    Calls Tryd.prog 6 #[.agg (mdC k x (.slice a len cap))] w fun e w' => e = .returned (.bool true) ∧ Below w.heap.size w w' := by
  have HTB : Hid (∀ W, Below w.heap.size w W → Tab W) := fun W hW => hT.below hW (tab_pos hT)
  have HLZ : Hid (∀ W, Below w.heap.size w W → Lies .u8 W a zs) := fun W hW => hc.below hW
  have HBZ : Hid (Bytey zs) := hb
  have HLE : Hid (zs.length = len) := hl
  have HN : Hid (a = none → len = 0 ∧ cap = 0) := hn
  have HB0 : Hid (Below w.heap.size w (w.alloc (mdO k x (.slice a len cap)))) := (Below.refl _ _).alloc (Nat.le_refl _) _
  have HX0 : Hid ((w.alloc (mdO k x (.slice a len cap))).heap[w.heap.size]? = some (mdO k x (.slice a len cap))) := heap_alloc_new' _ _
  have hs0 : (w.alloc (mdO k x (.slice a len cap))).heap.size = w.heap.size + 1 := by simp
  have hmk := mk_small k x zs
  have hmh := mk_small k x (halved zs)
  obtain ⟨P, hP⟩ : ∃ P, mk k x zs = P := ⟨_, rfl⟩
  obtain ⟨Q, hQ⟩ : ∃ Q, mk k x (halved zs) = Q := ⟨_, rfl⟩
  obtain ⟨nd, hnd⟩ : ∃ n, P.1.data.length = n := ⟨_, rfl⟩
  obtain ⟨nq, hnq⟩ : ∃ n, Q.1.data.length = n := ⟨_, rfl⟩
  rw [hP, hnd] at hmk
  rw [hQ, hnq] at hmh
  have HND : Hid (P.1.data.length = nd) := hnd
  have HNQ : Hid (Q.1.data.length = nq) := hnq
  have HMP : Hid (∀ W (g : Nat), Lies .u8 W (some ⟨g, 0, none⟩) zs → Calls Tryd.prog 18 #[.agg #[.int .i64 k.org, .int .i64 k.num], .agg (pclC k), .agg (pcC x), .slice (some ⟨g, 0, none⟩) len (len + 9)] W (MkPost P W)) := fun W g h => by rw [← hP]; exact make_any k x _ zs len (len + 9) W hl (by omega) h (fun e => by cases e)
  have HMQ : Hid (∀ W (g : Nat), Lies .u8 W (some ⟨g, 0, none⟩) (halved zs) → Calls Tryd.prog 18 #[.agg #[.int .i64 k.org, .int .i64 k.num], .agg (pclC k), .agg (pcC x), .slice (some ⟨g, 0, none⟩) len (len + 9)] W (MkPost Q W)) := fun W g h => by rw [← hQ]; exact make_any k x _ (halved zs) len (len + 9) W (by rw [halved_length]; exact hl) (by omega) h (fun e => by cases e)
  have HRP : Hid (∀ W, Below w.heap.size w W → Calls Tryd.prog 20 #[.agg #[.int .i64 k.org, .int .i64 k.num], .agg (pclC k), .agg (pcC x), .slice a len cap] W (MkPost P W)) := fun W hW => by rw [← hP]; exact make2_any k x a zs len cap W hl hlc (hc.below hW) hn
  have HRQ : Hid (∀ W (g : Nat), Lies .u8 W (some ⟨g, 0, none⟩) (halved zs) → Calls Tryd.prog 20 #[.agg #[.int .i64 k.org, .int .i64 k.num], .agg (pclC k), .agg (pcC x), .slice (some ⟨g, 0, none⟩) len (len + 9)] W (MkPost Q W)) := fun W g h => by rw [← hQ]; exact make2_any k x _ (halved zs) len (len + 9) W (by rw [halved_length]; exact hl) (by omega) h (fun e => by cases e)
  clear hT hc hb hl hn hP hQ hnd hnq
  obtain ⟨s, ep⟩ := P
  obtain ⟨t, eq⟩ := Q
  simp only at HND HNQ
  go_enter Tryd.func6, Tryd.ntmps6
  go_upto_region 2 with (go_at_call 9; refine (awake4_any _ (HTB.out _ HB0.out)).mono ?_; rintro e w1 ⟨rfl, hb1⟩)
  have hs1 := hb1.size
  rw [hs0] at hs1
  have HB1 : Hid (Below w.heap.size w w1) := HB0.out.trans (hb1.mono (by rw [hs0]; omega))
  have HX1 : Hid (w1.heap[w.heap.size]? = some (mdO k x (.slice a len cap))) := (hb1.block _ (by rw [hs0]; omega)).trans HX0.out
  clear hb1 HX0 HB0 hs0
  obtain ⟨_, _, _, _, _, _, _, _, _, _, _, _, m12⟩ := md_cells HX1.out
  go_upto_region 3 with (go_at_call 17; refine (lent_any a zs len cap _ HLE.out (by omega) (HLZ.out _ HB1.out)).mono ?_; rintro e w2 ⟨rfl, hk2, hb2⟩)
  have hs2 := hb2.size
  have HB2 : Hid (Below w.heap.size w w2) := HB1.out.trans (hb2.mono HB1.out.size)
  have HX2 : Hid (w2.heap[w.heap.size]? = some (mdO k x (.slice a len cap))) := (hb2.block _ (by omega)).trans HX1.out
  have HK2 : Hid (Blk .u8 w2 w1.heap.size 5 (marked zs)) := hk2
  have hgc : w1.heap.size < w2.heap.size := (Array.getElem?_eq_some_iff.mp hk2).1
  obtain ⟨gc, hgce⟩ : ∃ g, g = w1.heap.size := ⟨_, rfl⟩
  rw [← hgce] at HK2 hgc ⊢
  have hgc0 : w.heap.size + 1 ≤ gc := by omega
  have HLI : Hid (∀ W, W.heap[gc]? = w2.heap[gc]? → Lies .u8 W (some ⟨gc, 0, none⟩) zs) := fun W hW => .inr ⟨gc, 0, rfl, fun i hi => by
    have hk : Blk .u8 W gc 5 (marked zs) := hW.trans HK2.out
    have := hk.cell i (by rw [marked_length]; omega)
    rw [Nat.zero_add, this]
    unfold marked
    rw [List.getD_eq_getElem?_getD, List.getElem?_append_left hi, ← List.getD_eq_getElem?_getD]⟩
  clear hb2 hk2 HX1 m12 hgce HB1 hs1
  have hln9 : (len : Int) ≤ (len : Int) + 9 := by omega
  obtain ⟨m0, m1, m2, m3, m4, m5, m6, m7, m8, m9, m10, m11, m12⟩ := md_cells HX2.out
  go_upto_region 4 with fail
  go_upto_region 5 with (go_at_call 18; refine (HMP.out _ gc (HLI.out _ rfl)).mono ?_; intro e w3 hp3; obtain ⟨ad, cd, rfl, ho3, hb3⟩ := mk_post HND.out hp3; clear hp3)
  have hs3 := hb3.size
  have HA4 : Hid (SgAt (w3.alloc (svO s (.slice none 0 0) (.slice none 0 0) (.slice ad nd cd) (.slice none 0 0))) w2.heap.size w3.heap.size w3.heap.size s ad nd cd) := sg_made (P := (s, ep)) HND.out ho3
  have hb4 : Below w2.heap.size w2 (w3.alloc (svO s (.slice none 0 0) (.slice none 0 0) (.slice ad nd cd) (.slice none 0 0))) := hb3.alloc hs3 _
  have hs4 : (w3.alloc (svO s (.slice none 0 0) (.slice none 0 0) (.slice ad nd cd) (.slice none 0 0))).heap.size = w3.heap.size + 1 := by simp
  clear hb3 ho3 m0 m1 m2 m3 m4 m5 m6 m7 m8 m9 m10 m11 m12
  generalize w3.alloc (svO s (.slice none 0 0) (.slice none 0 0) (.slice ad nd cd) (.slice none 0 0)) = w4 at *
  have HB4 : Hid (Below w.heap.size w w4) := HB2.out.trans (hb4.mono HB2.out.size)
  have HX4 : Hid (w4.heap[w.heap.size]? = some (mdO k x (.slice a len cap))) := (hb4.block _ (by omega)).trans HX2.out
  have HC4 : Hid (w4.heap[gc]? = w2.heap[gc]?) := hb4.block _ hgc
  clear hb4 HX2 HB2
  obtain ⟨m0, m1, m2, m3, m4, m5, m6, m7, m8, m9, m10, m11, m12⟩ := md_cells HX4.out
  go_upto_region 6 with (go_at_call 18; refine (HMP.out _ gc (HLI.out _ HC4.out)).mono ?_; intro e w5 hp5; obtain ⟨bd, ce, rfl, ho5, hb5⟩ := mk_post HND.out hp5; clear hp5)
  have hs5 := hb5.size
  have HE6 : Hid (SgAt (w5.alloc (svO s (.slice none 0 0) (.slice none 0 0) (.slice bd nd ce) (.slice none 0 0))) w4.heap.size w5.heap.size w5.heap.size s bd nd ce) := sg_made (P := (s, ep)) HND.out ho5
  have hb6 : Below w4.heap.size w4 (w5.alloc (svO s (.slice none 0 0) (.slice none 0 0) (.slice bd nd ce) (.slice none 0 0))) := hb5.alloc hs5 _
  have hs6 : (w5.alloc (svO s (.slice none 0 0) (.slice none 0 0) (.slice bd nd ce) (.slice none 0 0))).heap.size = w5.heap.size + 1 := by simp
  clear hb5 ho5 m0 m1 m2 m3 m4 m5 m6 m7 m8 m9 m10 m11 m12
  generalize w5.alloc (svO s (.slice none 0 0) (.slice none 0 0) (.slice bd nd ce) (.slice none 0 0)) = w6 at *
  have HB6 : Hid (Below w.heap.size w w6) := HB4.out.trans (hb6.mono HB4.out.size)
  have HX6 : Hid (w6.heap[w.heap.size]? = some (mdO k x (.slice a len cap))) := (hb6.block _ (by omega)).trans HX4.out
  have HA6 : Hid (SgAt w6 w2.heap.size w3.heap.size w3.heap.size s ad nd cd) := HA4.out.below hb6
  have HK6 : Hid (Blk .u8 w6 gc 5 (marked zs)) := ((hb6.block _ (by omega)).trans HC4.out).trans HK2.out
  clear hb6 HX4 HB4 HA4 HC4 HK2 HLI HMP
  obtain ⟨_, _, _, _, _, _, _, _, _, _, _, _, m12⟩ := md_cells HX6.out
  have HSP : Hid (zs ≠ [] → ∀ b off, a = some ⟨b, off, none⟩ → b ≠ gc) := fun hz b off ha e => by
    rcases HLZ.out w (Below.refl _ _) with h0 | ⟨b', off', ha', hce⟩
    · exact hz h0
    · rw [ha] at ha'
      simp only [Option.some.injEq, Addr.mk.injEq, and_true] at ha'
      obtain ⟨rfl, rfl⟩ := ha'
      have := World.block_lt_of_cell? w ⟨b, off + 0, none⟩ (hce 0 (List.length_pos_iff.mpr hz))
      simp only at this
      omega
  go_upto_region 7 with (go_at_call 19; refine (back_any gc a zs len (len + 9) cap _ HBZ.out HLE.out rfl (by omega) (HLZ.out _ HB6.out) HSP.out HK6.out).mono ?_; rintro e w7 ⟨rfl, hk7, hg7⟩)
  have hs7 := hg7.size
  have HB7 : Hid (Below w.heap.size w w7) := HB6.out.grown hg7 HB6.out.size (by simp; omega)
  have HX7 : Hid (w7.heap[w.heap.size]? = some (mdO k x (.slice a len cap))) := (hg7.block _ (by omega) (by simp; omega)).trans HX6.out
  have HA7 : Hid (SgAt w7 w2.heap.size w3.heap.size w3.heap.size s ad nd cd) := HA6.out.same (fun g h1 h2 => hg7.block g h2 (by simp; omega))
  have HE7 : Hid (SgAt w7 w4.heap.size w5.heap.size w5.heap.size s bd nd ce) := HE6.out.same (fun g h1 h2 => hg7.block g h2 (by simp; omega))
  have HLH : Hid (∀ W, W.heap[gc]? = w7.heap[gc]? → Lies .u8 W (some ⟨gc, 0, none⟩) (halved zs)) := fun W hW => .inr ⟨gc, 0, rfl, fun i hi => by
    have hk : Blk .u8 W gc 5 (halved (marked zs)) := hW.trans hk7
    rw [halved_length] at hi
    have := hk.cell i (by rw [halved_length, marked_length]; omega)
    rw [Nat.zero_add, this]
    unfold halved marked
    simp only [List.getD_eq_getElem?_getD, List.getElem?_map]
    rw [List.getElem?_append_left hi]⟩
  have hgc7 : gc < w7.heap.size := by omega
  clear hg7 hk7 HX6 HB6 HA6 HE6 HK6 HSP m12
  obtain ⟨m0, m1, m2, m3, m4, m5, m6, m7, m8, m9, m10, m11, m12⟩ := md_cells HX7.out
  go_upto_region 8 with (go_at_call 20; refine (HRP.out _ HB7.out).mono ?_; intro e w8 hp8; obtain ⟨wd, cw, rfl, ho8, hb8⟩ := mk_post HND.out hp8; clear hp8)
  have hs8 := hb8.size
  have HW9 : Hid (SgAt (w8.alloc (svO s (.slice none 0 0) (.slice none 0 0) (.slice wd nd cw) (.slice none 0 0))) w7.heap.size w8.heap.size w8.heap.size s wd nd cw) := sg_made (P := (s, ep)) HND.out ho8
  have hb9 : Below w7.heap.size w7 (w8.alloc (svO s (.slice none 0 0) (.slice none 0 0) (.slice wd nd cw) (.slice none 0 0))) := hb8.alloc hs8 _
  have hs9 : (w8.alloc (svO s (.slice none 0 0) (.slice none 0 0) (.slice wd nd cw) (.slice none 0 0))).heap.size = w8.heap.size + 1 := by simp
  clear hb8 ho8 m0 m1 m2 m3 m4 m5 m6 m7 m8 m9 m10 m11 m12
  generalize w8.alloc (svO s (.slice none 0 0) (.slice none 0 0) (.slice wd nd cw) (.slice none 0 0)) = w9 at *
  have HB9 : Hid (Below w.heap.size w w9) := HB7.out.trans (hb9.mono HB7.out.size)
  have HX9 : Hid (w9.heap[w.heap.size]? = some (mdO k x (.slice a len cap))) := (hb9.block _ (by omega)).trans HX7.out
  have HA9 : Hid (SgAt w9 w2.heap.size w3.heap.size w3.heap.size s ad nd cd) := HA7.out.below hb9
  have HE9 : Hid (SgAt w9 w4.heap.size w5.heap.size w5.heap.size s bd nd ce) := HE7.out.below hb9
  have HC9 : Hid (w9.heap[gc]? = w7.heap[gc]?) := hb9.block _ hgc7
  clear hb9 HX7 HB7 HA7 HE7 HRP
  obtain ⟨sa0, sa1, sa2, sa3, sa4, sa5, sa6, sa7, sa8, sa9, sa10, sa11, sa12, sa13⟩ := sg_box HA9.out.box
  obtain ⟨sb0, sb1, sb2, sb3, sb4, sb5, sb6, sb7, sb8, sb9, sb10, sb11, sb12, sb13⟩ := sg_box HW9.out.box
  go_upto_region 9 with (go_at_call 21; refine (sameSeg4_eq s ad wd nd cd cw _ HND.out HA9.out.lies HW9.out.lies).mono ?_; rintro e w10 ⟨rfl, hb10⟩)
  clear sa0 sa1 sa2 sa3 sa4 sa5 sa6 sa7 sa8 sa9 sa10 sa11 sa12 sa13 sb0 sb1 sb2 sb3 sb4 sb5 sb6 sb7 sb8 sb9 sb10 sb11 sb12 sb13
  have HE10 : Hid (SgAt w10 w4.heap.size w5.heap.size w5.heap.size s bd nd ce) := HE9.out.below hb10
  have HW10 : Hid (SgAt w10 w7.heap.size w8.heap.size w8.heap.size s wd nd cw) := HW9.out.below hb10
  have HB910 : Hid (Below w9.heap.size w9 w10) := hb10
  clear hb10
  obtain ⟨sa0, sa1, sa2, sa3, sa4, sa5, sa6, sa7, sa8, sa9, sa10, sa11, sa12, sa13⟩ := sg_box HE10.out.box
  obtain ⟨sb0, sb1, sb2, sb3, sb4, sb5, sb6, sb7, sb8, sb9, sb10, sb11, sb12, sb13⟩ := sg_box HW10.out.box
  go_upto_region 10 with (go_at_call 21; refine (sameSeg4_eq s bd wd nd ce cw _ HND.out HE10.out.lies HW10.out.lies).mono ?_; rintro e w11 ⟨rfl, hb11⟩)
  clear sa0 sa1 sa2 sa3 sa4 sa5 sa6 sa7 sa8 sa9 sa10 sa11 sa12 sa13 sb0 sb1 sb2 sb3 sb4 sb5 sb6 sb7 sb8 sb9 sb10 sb11 sb12 sb13
  have hb911 : Below w9.heap.size w9 w11 := HB910.out.trans (hb11.mono HB910.out.size)
  have hs11 := hb911.size
  have HB11 : Hid (Below w.heap.size w w11) := HB9.out.trans (hb911.mono HB9.out.size)
  have HX11 : Hid (w11.heap[w.heap.size]? = some (mdO k x (.slice a len cap))) := (hb911.block _ (by omega)).trans HX9.out
  have HA11 : Hid (SgAt w11 w2.heap.size w3.heap.size w3.heap.size s ad nd cd) := HA9.out.below hb911
  have HE11 : Hid (SgAt w11 w4.heap.size w5.heap.size w5.heap.size s bd nd ce) := HE9.out.below hb911
  have HC11 : Hid (w11.heap[gc]? = w7.heap[gc]?) := (hb911.block _ (by omega)).trans HC9.out
  clear hb11 hb911 HB910 HE10 HW10 HW9 HA9 HE9 HX9 HB9 HC9
  obtain ⟨m0, m1, m2, m3, m4, m5, m6, m7, m8, m9, m10, m11, m12⟩ := md_cells HX11.out
  go_upto_region 11 with (go_at_call 20; refine (HRQ.out _ gc (HLH.out _ HC11.out)).mono ?_; intro e w12 hp12; obtain ⟨nxd, cn, rfl, ho12, hb12⟩ := mk_post HNQ.out hp12; clear hp12)
  have hs12 := hb12.size
  have HN13 : Hid (SgAt (w12.alloc (svO t (.slice none 0 0) (.slice none 0 0) (.slice nxd nq cn) (.slice none 0 0))) w11.heap.size w12.heap.size w12.heap.size t nxd nq cn) := sg_made (P := (t, eq)) HNQ.out ho12
  have hb13 : Below w11.heap.size w11 (w12.alloc (svO t (.slice none 0 0) (.slice none 0 0) (.slice nxd nq cn) (.slice none 0 0))) := hb12.alloc hs12 _
  have hs13 : (w12.alloc (svO t (.slice none 0 0) (.slice none 0 0) (.slice nxd nq cn) (.slice none 0 0))).heap.size = w12.heap.size + 1 := by simp
  clear hb12 ho12 m0 m1 m2 m3 m4 m5 m6 m7 m8 m9 m10 m11 m12
  generalize w12.alloc (svO t (.slice none 0 0) (.slice none 0 0) (.slice nxd nq cn) (.slice none 0 0)) = w13 at *
  have HB13 : Hid (Below w.heap.size w w13) := HB11.out.trans (hb13.mono HB11.out.size)
  have HX13 : Hid (w13.heap[w.heap.size]? = some (mdO k x (.slice a len cap))) := (hb13.block _ (by omega)).trans HX11.out
  have HA13 : Hid (SgAt w13 w2.heap.size w3.heap.size w3.heap.size s ad nd cd) := HA11.out.below hb13
  have HE13 : Hid (SgAt w13 w4.heap.size w5.heap.size w5.heap.size s bd nd ce) := HE11.out.below hb13
  have HC13 : Hid (w13.heap[gc]? = w7.heap[gc]?) := (hb13.block _ (by omega)).trans HC11.out
  clear hb13 HX11 HB11 HA11 HE11 HC11 HRQ
  obtain ⟨m0, m1, m2, m3, m4, m5, m6, m7, m8, m9, m10, m11, m12⟩ := md_cells HX13.out
  go_upto_region 12 with (go_at_call 18; refine (HMQ.out _ gc (HLH.out _ HC13.out)).mono ?_; intro e w14 hp14; obtain ⟨dd, cdd, rfl, ho14, hb14⟩ := mk_post HNQ.out hp14; clear hp14)
  have hs14 := hb14.size
  have HD15 : Hid (SgAt (w14.alloc (svO t (.slice none 0 0) (.slice none 0 0) (.slice dd nq cdd) (.slice none 0 0))) w13.heap.size w14.heap.size w14.heap.size t dd nq cdd) := sg_made (P := (t, eq)) HNQ.out ho14
  have hb15 : Below w13.heap.size w13 (w14.alloc (svO t (.slice none 0 0) (.slice none 0 0) (.slice dd nq cdd) (.slice none 0 0))) := hb14.alloc hs14 _
  have hs15 : (w14.alloc (svO t (.slice none 0 0) (.slice none 0 0) (.slice dd nq cdd) (.slice none 0 0))).heap.size = w14.heap.size + 1 := by simp
  clear hb14 ho14 m0 m1 m2 m3 m4 m5 m6 m7 m8 m9 m10 m11 m12
  generalize w14.alloc (svO t (.slice none 0 0) (.slice none 0 0) (.slice dd nq cdd) (.slice none 0 0)) = w15 at *
  have HB15 : Hid (Below w.heap.size w w15) := HB13.out.trans (hb15.mono HB13.out.size)
  have HA15 : Hid (SgAt w15 w2.heap.size w3.heap.size w3.heap.size s ad nd cd) := HA13.out.below hb15
  have HE15 : Hid (SgAt w15 w4.heap.size w5.heap.size w5.heap.size s bd nd ce) := HE13.out.below hb15
  have HN15 : Hid (SgAt w15 w11.heap.size w12.heap.size w12.heap.size t nxd nq cn) := HN13.out.below hb15
  clear hb15 HX13 HB13 HA13 HE13 HC13 HN13 HMQ HLH
  obtain ⟨sa0, sa1, sa2, sa3, sa4, sa5, sa6, sa7, sa8, sa9, sa10, sa11, sa12, sa13⟩ := sg_box HD15.out.box
  obtain ⟨sb0, sb1, sb2, sb3, sb4, sb5, sb6, sb7, sb8, sb9, sb10, sb11, sb12, sb13⟩ := sg_box HN15.out.box
  go_upto_region 13 with (go_at_call 21; refine (sameSeg4_eq t dd nxd nq cdd cn _ HNQ.out HD15.out.lies HN15.out.lies).mono ?_; rintro e w16 ⟨rfl, hb16⟩)
  clear sa0 sa1 sa2 sa3 sa4 sa5 sa6 sa7 sa8 sa9 sa10 sa11 sa12 sa13 sb0 sb1 sb2 sb3 sb4 sb5 sb6 sb7 sb8 sb9 sb10 sb11 sb12 sb13
  have hs16 := hb16.size
  have HB16 : Hid (Below w.heap.size w w16) := HB15.out.trans (hb16.mono HB15.out.size)
  have HA16 : Hid (SgAt w16 w2.heap.size w3.heap.size w3.heap.size s ad nd cd) := HA15.out.below hb16
  have HE16 : Hid (SgAt w16 w4.heap.size w5.heap.size w5.heap.size s bd nd ce) := HE15.out.below hb16
  have HD16 : Hid (SgAt w16 w13.heap.size w14.heap.size w14.heap.size t dd nq cdd) := HD15.out.below hb16
  clear hb16 HB15 HA15 HE15 HN15 HD15
  obtain ⟨_, _, _, _, _, _, _, a7, _⟩ := sg_box HA16.out.box
  obtain ⟨_, _, _, _, _, _, _, b7, _⟩ := sg_box HE16.out.box
  obtain ⟨_, _, _, _, _, _, _, d7, _⟩ := sg_box HD16.out.box
  have HOW : Hid (Calls Tryd.prog 22 #[.slice (some ⟨w16.heap.size, 0, none⟩) 3 3] (w16.alloc (.cells #[.slice ad nd cd, .slice bd nd ce, .slice dd nq cdd] 47)) fun e w' => e = .returned (.bool true) ∧ Below w2.heap.size (w16.alloc (.cells #[.slice ad nd cd, .slice bd nd ce, .slice dd nq cdd] 47)) w') := by
    obtain ⟨r0, e0, n0, q0, z0⟩ := row_rw HA16.out.dat
    obtain ⟨r1, e1, n1, q1, z1⟩ := row_rw HE16.out.dat
    obtain ⟨r2, e2, n2, q2, z2⟩ := row_rw HD16.out.dat
    have l0 : ∀ g, r0.blk = some g → w2.heap.size ≤ g ∧ g < w3.heap.size := fun g hg => ⟨(HA16.out.dat.lt g (z0 g hg)).1, HA16.out.top g (z0 g hg)⟩
    have l1 : ∀ g, r1.blk = some g → w4.heap.size ≤ g ∧ g < w5.heap.size := fun g hg => ⟨(HE16.out.dat.lt g (z1 g hg)).1, HE16.out.top g (z1 g hg)⟩
    have l2 : ∀ g, r2.blk = some g → w13.heap.size ≤ g ∧ g < w14.heap.size := fun g hg => ⟨(HD16.out.dat.lt g (z2 g hg)).1, HD16.out.top g (z2 g hg)⟩
    have hwa : ∀ g, g < w16.heap.size → (w16.alloc (.cells #[.slice ad nd cd, .slice bd nd ce, .slice dd nq cdd] 47)).heap[g]? = w16.heap[g]? := fun g hg => ((Below.refl w16.heap.size w16).alloc (Nat.le_refl _) _).block g hg
    have hnew := heap_alloc_new' w16 (.cells #[.slice ad nd cd, .slice bd nd ce, .slice dd nq cdd] 47)
    refine O.owned4_any _ 3 w16.heap.size 3 w2.heap.size (fun i => if i = 0 then r0 else if i = 1 then r1 else r2) ⟨fun i hi => ?_, fun i hi => ?_, fun i j hi hj hij g hg => ?_, fun i hi e => ?_, fun i hi g hg => ?_, by simp; omega, by simp⟩ (by omega) (by omega) (fun i hi => ?_)
    · have : i = 0 ∨ i = 1 ∨ i = 2 := by omega
      rcases this with rfl | rfl | rfl
      · rw [cell_of_row _ _ 0 _ _ _ hnew]; simp [e0]
      · rw [cell_of_row _ _ 1 _ _ _ hnew]; simp [e1]
      · rw [cell_of_row _ _ 2 _ _ _ hnew]; simp [e2]
    · have : i = 0 ∨ i = 1 ∨ i = 2 := by omega
      rcases this with rfl | rfl | rfl
      · exact ⟨0, q0.keep (fun g hg h => hwa g h)⟩
      · exact ⟨0, q1.keep (fun g hg h => hwa g h)⟩
      · exact ⟨0, q2.keep (fun g hg h => hwa g h)⟩
    · have hi3 : i = 0 ∨ i = 1 ∨ i = 2 := by omega
      have hj3 : j = 0 ∨ j = 1 ∨ j = 2 := by omega
      intro hg'
      rcases hi3 with rfl | rfl | rfl <;> rcases hj3 with rfl | rfl | rfl <;> simp at hg hg' hij
      · have := l0 g hg; have := l1 g hg'; omega
      · have := l0 g hg; have := l2 g hg'; omega
      · have := l1 g hg; have := l0 g hg'; omega
      · have := l1 g hg; have := l2 g hg'; omega
      · have := l2 g hg; have := l0 g hg'; omega
      · have := l2 g hg; have := l1 g hg'; omega
    · have : i = 0 ∨ i = 1 ∨ i = 2 := by omega
      rcases this with rfl | rfl | rfl <;> simp at e
      · have := l0 _ e; omega
      · have := l1 _ e; omega
      · have := l2 _ e; omega
    · have : i = 0 ∨ i = 1 ∨ i = 2 := by omega
      rcases this with rfl | rfl | rfl <;> simp at hg
      · have := l0 _ hg; omega
      · have := l1 _ hg; omega
      · have := l2 _ hg; omega
    · have : i = 0 ∨ i = 1 ∨ i = 2 := by omega
      rcases this with rfl | rfl | rfl <;> simp <;> omega
  have hw2 : w.heap.size ≤ w2.heap.size := by omega
  go_wp2_with (go_at_call 22; refine HOW.out.mono ?_; rintro e w17 ⟨rfl, hb17⟩)
  go_ret
  exact ⟨rfl, (HB16.out.alloc HB16.out.size _).trans (hb17.mono hw2)⟩

end Go.Proofs.YtgmbpagbiakciadDoor
