import Derived.Test.YthbkabehjeidjabDoorRx4
import Derived.Test.YthbkabehjeidjabDoorLs2
import Derived.Test.YthbkabehjeidjabDoorOb2
import Derived.Test.YthbkabehjeidjabDoorAwake2
namespace Go.Proofs.YthbkabehjeidjabDoor
open Go.RowKit
set_option linter.unusedVariables false
set_option linter.unusedSimpArgs false

theorem mkL_set2 (l : List (Int × Int)) (k : Nat) (p : Int × Int) (hk : k < l.length) : (C.mkL l).set k p = C.mkL (l.set k p) := by
  unfold C.mkL
  rw [List.set_append_left _ _ hk]
theorem set_self2 {α : Type} {l : List α} {i : Nat} {x : α} (h : l[i]? = some x) : l.set i x = l := by
  apply List.ext_getElem?
  intro j
  rw [List.getElem?_set]
  by_cases e : i = j
  · subst e
    have := (List.getElem?_eq_some_iff.mp h).1
    rw [if_pos rfl, if_pos this, h]
  · simp [e]
theorem put_to2 {W : World} {base g cap n k : Nat} {L : List (Int × Int)} {p : Int × Int} (h : C.SOwn W base (.slice (some ⟨g, 0, none⟩) n cap) L) (hk : L[k]? = some p) (b : Int) : C.SOwn (W.setCell ⟨g, k * 2 + 1, none⟩ (.int .i64 b)) base (.slice (some ⟨g, 0, none⟩) n cap) (L.set k (p.1, b)) := by
  have hn := h.len2
  subst hn
  have h1 := (World.ownsRow.stored h (k * 2 + 1) (.int .i64 b)).1
  obtain ⟨q1, q2⟩ := C.spc_get L k p hk
  have e := C.spc_put2 L k p.1 b
  rw [set_self2 q1] at e
  rw [e] at h1
  unfold C.SOwn
  rw [List.length_set]
  exact h1
/-- Whose each block is, where no two rows share one. -/
theorem own_tags2 (vs : List Value) (hd : ∀ (i j : Nat) v u g, vs[i]? = some v → vs[j]? = some u → v.ownBlock = some g → u.ownBlock = some g → i = j) :
    ∃ own : Nat → Nat, (∀ (j : Nat) v g, vs[j]? = some v → v.ownBlock = some g → own g = 10 + j) ∧ (∀ g, (∀ (j : Nat) v, vs[j]? = some v → v.ownBlock ≠ some g) → own g = 0) := by
  classical
  refine ⟨fun g => if h : ∃ j : Nat, ∃ v, vs[j]? = some v ∧ v.ownBlock = some g then 10 + Classical.choose h else 0, fun j v g hj hg => ?_, fun g hg => ?_⟩
  · have h : ∃ j : Nat, ∃ v, vs[j]? = some v ∧ v.ownBlock = some g := ⟨j, v, hj, hg⟩
    show (if h : ∃ j : Nat, ∃ v, vs[j]? = some v ∧ v.ownBlock = some g then 10 + Classical.choose h else 0) = 10 + j
    rw [dif_pos h]
    obtain ⟨u, hu, hug⟩ := Classical.choose_spec h
    rw [hd _ _ _ _ g hu hj hug hg]
  · show (if h : ∃ j : Nat, ∃ v, vs[j]? = some v ∧ v.ownBlock = some g then 10 + Classical.choose h else 0) = 0
    rw [dif_neg]
    rintro ⟨j, v, hj, hv⟩
    exact hg j v hj hv

def xsE (l : List Ex) : Bool := decide (l.length ≤ 15) && l.all (fun e => btw e.tag 0 255 && decide (e.data.length ≤ 200))
theorem xsOk_ex (xs : List Xr) : xsOk xs = xsE (xs.map Xr.ex) := by
  unfold xsOk xsE
  rw [List.length_map, List.all_map]
  rfl
theorem may_ex {h : Int} {s : Sg} {hx tx hy ty : List Xr} (e1 : hx.map Xr.ex = hy.map Xr.ex) (e2 : tx.map Xr.ex = ty.map Xr.ex) : may h s hx tx = may h s hy ty := by
  unfold may
  rw [xsOk_ex hx, xsOk_ex tx, e1, e2, ← xsOk_ex, ← xsOk_ex]
/-- What is printed hangs on what the extensions say alone. -/
theorem prt_ex {s : Sg} {hx tx hy ty : List Xr} (e1 : hx.map Xr.ex = hy.map Xr.ex) (e2 : tx.map Xr.ex = ty.map Xr.ex) : prt s hx tx = prt s hy ty := by
  unfold prt
  rw [may_ex e1 e2]

set_option maxRecDepth 100000 in
set_option maxHeartbeats 4000000 in
/-- segment.Right of any segment. -/
theorem rightS_any (s : Sg) (hv tv dv cv : Value) (hx tx : List Xr) (w : World) (hs : SIn w s hv tv dv cv hx tx) (hT : Tab w) :
    Calls Tryd.prog 11 #[.agg (svC s hv tv dv cv)] w fun e w' => e = .returned (.int .i64 (prt s hx tx).1) ∧ Below w.heap.size w w' := by
  have h00 : 0 < w.heap.size := World.block_lt_of_cell? w ⟨0, 0, none⟩ (hT 0 (by omega))
  obtain ⟨W, hW⟩ : ∃ W, w.alloc (.cells (svC s hv tv dv cv) 28) = W := ⟨_, rfl⟩
  have HWe : Hid (w.alloc (.cells (svC s hv tv dv cv) 28) = W) := hW
  have hbW : Below w.heap.size w W := by rw [← hW]; exact (Below.refl _ _).alloc (Nat.le_refl _) _
  have HBW : Hid (Below w.heap.size w W) := hbW
  have hr : W.heap[w.heap.size]? = some (.cells (svC s hv tv dv cv) 28 (0, 0)) := by rw [← hW]; exact al_new _ _
  obtain ⟨y0, y1, y2, y3, y4, y5, y6, y7, y8, y9, y10, y11, y12, y13⟩ := s14_cells hr
  have hP := print_any s hv tv dv cv hx tx W (hs.below hbW) (hT.below hbW h00)
  obtain ⟨z, hz⟩ : ∃ z, (prt s hx tx).1 = z := ⟨_, rfl⟩
  have HZ : Hid ((prt s hx tx).1 = z) := hz
  rw [hz]
  clear hW hbW hr hs hT hz
  go_enter Tryd.func11, Tryd.ntmps11
  go_wp2_with fail
  rw [HWe.out]
  refine hP.mono ?_
  rintro e w1 ⟨a, c, rfl, _, hb⟩
  rw [HZ.out]
  have HF : Hid (Below w.heap.size w w1) := HBW.out.trans (hb.mono HBW.out.size)
  clear hb hP y0 y1 y2 y3 y4 y5 y6 y7 y8 y9 y10 y11 y12 y13
  go_wp2
  go_ret
  exact ⟨rfl, HF.out⟩

/-- A byte with its last bit turned. -/
def x1 (c : Int) : Int := bits .xor .u8 c 1
theorem x1_all : ∀ n : Fin 256, 0 ≤ x1 (n.val : Int) ∧ x1 (n.val : Int) ≤ 255 := by decide +kernel
theorem x1_byte {c : Int} (h : 0 ≤ c ∧ c ≤ 255) : 0 ≤ x1 c ∧ x1 c ≤ 255 := by
  have := x1_all ⟨c.toNat, by omega⟩
  simp only at this
  rwa [show ((c.toNat : Nat) : Int) = c by omega] at this
def x1s (k : Nat) (zs : List Int) : List Int := (zs.take k).map x1 ++ zs.drop k
theorem x1s_len (k : Nat) (zs : List Int) : (x1s k zs).length = zs.length := by simp [x1s]; omega
theorem x1s_zero (zs : List Int) : x1s 0 zs = zs := by simp [x1s]
theorem x1s_all (zs : List Int) : x1s zs.length zs = zs.map x1 := by simp [x1s]
theorem x1s_at {k : Nat} {zs : List Int} {c : Int} (h : zs[k]? = some c) : (x1s k zs)[k]? = some c := by
  have hk := (List.getElem?_eq_some_iff.mp h).1
  unfold x1s
  rw [List.getElem?_append_right (by simp; omega)]
  simp only [List.length_map, List.length_take, Nat.min_eq_left (Nat.le_of_lt hk), Nat.sub_self]
  rw [List.getElem?_drop]
  simpa using h
theorem x1s_set {k : Nat} {zs : List Int} {c : Int} (h : zs[k]? = some c) : (x1s k zs).set k (x1 c) = x1s (k + 1) zs := by
  have hk := (List.getElem?_eq_some_iff.mp h).1
  unfold x1s
  rw [List.set_append_right _ _ (by simp; omega)]
  simp only [List.length_map, List.length_take, Nat.min_eq_left (Nat.le_of_lt hk), Nat.sub_self]
  rw [drop_get zs k c h, List.set_cons_zero, List.take_add_one, h]
  simp
theorem mk2_set (zs : List Int) (k : Nat) (c : Int) (hk : k < zs.length) : (mk2 zs).set k c = mk2 (zs.set k c) := by
  unfold mk2
  rw [List.set_append_left _ _ hk]
/-- A span whose end is one less. -/
def d1 (p : Int × Int) : Int × Int := (p.1, IntKind.i64.wrap (p.2 - 1))
def d1s (k : Nat) (l : List (Int × Int)) : List (Int × Int) := (l.take k).map d1 ++ l.drop k
theorem d1s_len (k : Nat) (l : List (Int × Int)) : (d1s k l).length = l.length := by simp [d1s]; omega
theorem d1s_zero (l : List (Int × Int)) : d1s 0 l = l := by simp [d1s]
theorem d1s_all (l : List (Int × Int)) : d1s l.length l = l.map d1 := by simp [d1s]
theorem d1s_at {k : Nat} {l : List (Int × Int)} {p : Int × Int} (h : l[k]? = some p) : (d1s k l)[k]? = some p := by
  have hk := (List.getElem?_eq_some_iff.mp h).1
  unfold d1s
  rw [List.getElem?_append_right (by simp; omega)]
  simp only [List.length_map, List.length_take, Nat.min_eq_left (Nat.le_of_lt hk), Nat.sub_self]
  rw [List.getElem?_drop]
  simpa using h
theorem d1s_set {k : Nat} {l : List (Int × Int)} {p : Int × Int} (h : l[k]? = some p) : (d1s k l).set k (d1 p) = d1s (k + 1) l := by
  have hk := (List.getElem?_eq_some_iff.mp h).1
  unfold d1s
  rw [List.set_append_right _ _ (by simp; omega)]
  simp only [List.length_map, List.length_take, Nat.min_eq_left (Nat.le_of_lt hk), Nat.sub_self]
  rw [drop_get l k p h, List.set_cons_zero, List.take_add_one, h]
  simp

/-- Nothing but two blocks has changed. -/
structure Off (gd gc : Nat) (w w' : World) : Prop where
  os : w'.os = w.os
  tape : w'.tape = w.tape
  output : w'.output = w.output
  size : w.heap.size ≤ w'.heap.size
  block : ∀ g, g < w.heap.size → g ≠ gd → g ≠ gc → w'.heap[g]? = w.heap[g]?
theorem Off.refl (gd gc : Nat) (w : World) : Off gd gc w w := ⟨rfl, rfl, rfl, Nat.le_refl _, fun _ _ _ _ => rfl⟩
theorem Off.drewN {gd gc : Nat} {w w' : World} (h : Off gd gc w w') (n : Nat) : Off gd gc w (w'.drewN n) := ⟨h.os, h.tape, h.output, h.size, h.block⟩
theorem Off.setd {gd gc i : Nat} {w w' : World} {v : Value} (h : Off gd gc w w') : Off gd gc w (w'.setCell ⟨gd, i, none⟩ v) :=
  ⟨h.os, h.tape, h.output, by simpa using h.size, fun g hg h1 h2 => (heap_setCell_other _ _ _ _ (by simpa using h1)).trans (h.block g hg h1 h2)⟩
theorem Off.setc {gd gc i : Nat} {w w' : World} {v : Value} (h : Off gd gc w w') : Off gd gc w (w'.setCell ⟨gc, i, none⟩ v) :=
  ⟨h.os, h.tape, h.output, by simpa using h.size, fun g hg h1 h2 => (heap_setCell_other _ _ _ _ (by simpa using h2)).trans (h.block g hg h1 h2)⟩
theorem Off.low {gd gc b : Nat} {w w' : World} (h : Off gd gc w w') (h1 : b ≤ gd) (h2 : b ≤ gc) (hb : b ≤ w.heap.size) : Below b w w' := ⟨h.os, h.tape, h.output, h.size, fun g hg => h.block g (by omega) (by omega) (by omega)⟩
theorem BOwn.lies {w : World} {base n c : Nat} {a : Option Addr} {L : List Int} (h : BOwn w base (.slice a n c) L) : Lies .u8 w a L := by
  have hn := h.lenEq
  subst hn
  obtain ⟨_, ⟨e, e0⟩ | ⟨g, cap, cur, e, q⟩⟩ := id h
  · left; exact List.eq_nil_of_length_eq_zero e0
  · simp only [Value.slice.injEq] at e
    obtain ⟨rfl, _, rfl⟩ := e
    right
    refine ⟨g, 0, rfl, fun i hi => ?_⟩
    obtain ⟨q1, _⟩ := h.cell (k := i) (x := L.getD i 0) (by rw [List.getElem?_eq_getElem hi]; simp [List.getD_eq_getElem?_getD, List.getElem?_eq_getElem hi])
    rw [Nat.zero_add]
    exact q1
theorem BOwn.low {w : World} {b b' : Nat} {v : Value} {L : List Int} (h : BOwn w b v L) (hb : b' ≤ b) : BOwn w b' v L := own_low5 h hb

/-- What Print answers. -/
def PrP (z : Int) (b : List Int) (n : Nat) (w : World) (e : Ending) (w' : World) : Prop := ∃ a c, e = .returned (.tuple #[.slice a n c, .int .i64 z]) ∧ BOwn w' w.heap.size (.slice a n c) b ∧ Below w.heap.size w w'
theorem prP_of {s : Sg} {hx tx : List Xr} {w w' : World} {e : Ending} {z : Int} {b : List Int} {n : Nat} (h : PrintP s hx tx w e w') (hz : prt s hx tx = (z, b)) (hn : b.length = n) : PrP z b n w e w' := by
  obtain ⟨a, c, he, ho, hb⟩ := h
  rw [hz] at he ho
  subst hn
  exact ⟨a, c, he, ho, hb⟩
theorem LS.sin2 {w w0 w1 : World} {base B1 B2 B3 : Nat} {s : Sg} {hx tx hR tR : List Xr} {gh gt gd gc : Nat} {hv tv : Value} (h : LS w base B1 B2 B3 s hx tx hR tR gh gt gd gc) (hh : XIn w0 hv hx) (e1 : s.head = hx.map Xr.ex) (ht : XIn w1 tv tx) (e2 : s.tail = tx.map Xr.ex) (hb : Bytey s.data) (hsm : s.data.length ≤ 1048576) (hcm : s.clm.length ≤ 1048576) :
    SIn w s (lV gh hx.length) (lV gt tx.length) (lV gd s.data.length) (lV gc s.clm.length) (hR.take hx.length) (tR.take tx.length) where
  head := h.head.xin hh
  headEq := by rw [e1]; exact (LX.ex (w0 := w0) (v := hv) h.head).symm
  tail := h.tail.xin ht
  tailEq := by rw [e2]; exact (LX.ex (w0 := w1) (v := tv) h.tail).symm
  data := h.data.bin2 hb hsm
  clm := by
    refine ⟨⟨some ⟨gc, 0, none⟩, s.clm.length + 2, rfl, ?_⟩, hcm⟩
    by_cases h0 : s.clm = []
    · exact .inl h0
    · refine .inr ⟨gc, 0, rfl, fun i p hp => ?_⟩
      obtain ⟨q1, q2, _, _⟩ := h.clm.cells2 (C.mkL_at hp)
      rw [Nat.zero_add]
      exact ⟨q1, q2⟩
theorem four_new (w : World) (a b c d : Value) (t : TypeId) : (w.alloc (.cells #[a, b, c, d] t)).heap[w.heap.size]? = some (.cells #[a, b, c, d] t (0, 0)) := al_new _ _
/-- Four rows of bytes, each in a block of its own, in a list: what Owned wants. -/
theorem rws_four {w W : World} {A B C' D : Value} {bA bB bC bD : List Int} {kA kB kC kD eA eB eC : Nat}
    (hA : BOwn w kA A bA) (hB : BOwn w kB B bB) (hC : BOwn w kC C' bC) (hD : BOwn w kD D bD)
    (tA : ∀ g, A.ownBlock = some g → g < eA) (tB : ∀ g, B.ownBlock = some g → g < eB) (tC : ∀ g, C'.ownBlock = some g → g < eC)
    (h1 : eA ≤ kB) (h2 : eB ≤ kC) (h3 : eC ≤ kD) (hAB : kA ≤ eA) (hBC : kB ≤ eB) (hCD : kC ≤ eC)
    (lA : bA.length ≤ 1048600) (lB : bB.length ≤ 1048600) (lC : bC.length ≤ 1048600) (lD : bD.length ≤ 1048600)
    (hW : W = (w.alloc (.cells #[A, B, C', D] 25)).alloc (.cells #[.slice (some ⟨w.heap.size, 0, none⟩) 4 4, .slice none 0 0, .slice none 0 0] 43)) :
    ∃ oB, Rws W (w.heap.size + 1) oB (fun _ => 0) (fun _ => 0) (some ⟨w.heap.size, 0, none⟩) none none 4 0 0 [A, B, C', D] [] [] (fun j => [bA, bB, bC, bD].getD j []) (fun _ => []) (fun _ => []) ∧ ∀ g, g < kA → oB g = 0 := by
  have dis : ∀ (i j : Nat) v u g, [A, B, C', D][i]? = some v → [A, B, C', D][j]? = some u → v.ownBlock = some g → u.ownBlock = some g → i = j := by
    have key : ∀ (i : Nat) v g, [A, B, C', D][i]? = some v → v.ownBlock = some g → (i = 0 ∧ kA ≤ g ∧ g < eA) ∨ (i = 1 ∧ kB ≤ g ∧ g < eB) ∨ (i = 2 ∧ kC ≤ g ∧ g < eC) ∨ (i = 3 ∧ kD ≤ g) := by
      intro i v g hi hg
      match i, hi with
      | 0, hi => simp at hi; subst hi; exact .inl ⟨rfl, (hA.lt g hg).1, tA g hg⟩
      | 1, hi => simp at hi; subst hi; exact .inr (.inl ⟨rfl, (hB.lt g hg).1, tB g hg⟩)
      | 2, hi => simp at hi; subst hi; exact .inr (.inr (.inl ⟨rfl, (hC.lt g hg).1, tC g hg⟩))
      | 3, hi => simp at hi; subst hi; exact .inr (.inr (.inr ⟨rfl, (hD.lt g hg).1⟩))
      | n + 4, hi => simp at hi
    intro i j v u g hi hj hv hu
    have q1 := key i v g hi hv
    have q2 := key j u g hj hu
    omega
  obtain ⟨oB, ho1, ho2⟩ := own_tags2 [A, B, C', D] dis
  have hbel : Below w.heap.size w W := by rw [hW]; exact ((Below.refl _ _).alloc (Nat.le_refl _) _).alloc (by simp) _
  have hbl : ∀ (j : Nat) v g, [A, B, C', D][j]? = some v → v.ownBlock = some g → g < w.heap.size ∧ kA ≤ g := by
    intro i v g hi hg
    match i, hi with
    | 0, hi => simp at hi; subst hi; exact ⟨(hA.lt g hg).2, (hA.lt g hg).1⟩
    | 1, hi => simp at hi; subst hi; exact ⟨(hB.lt g hg).2, by have := (hB.lt g hg).1; omega⟩
    | 2, hi => simp at hi; subst hi; exact ⟨(hC.lt g hg).2, by have := (hC.lt g hg).1; omega⟩
    | 3, hi => simp at hi; subst hi; exact ⟨(hD.lt g hg).2, by have := (hD.lt g hg).1; omega⟩
    | n + 4, hi => simp at hi
  have z0 : ∀ g, w.heap.size ≤ g → oB g = 0 := fun g hg => ho2 g fun j v hj hv => by have := (hbl j v g hj hv).1; omega
  have hl1 : W.heap[w.heap.size]? = some (.cells #[A, B, C', D] 25 (0, 0)) := by
    rw [hW]
    exact (((Below.refl (w.heap.size + 1) (w.alloc (.cells #[A, B, C', D] 25))).alloc (by simp) _).block _ (by omega)).trans (al_new _ _)
  have hl2 : W.heap[w.heap.size + 1]? = some (.cells #[.slice (some ⟨w.heap.size, 0, none⟩) 4 4, .slice none 0 0, .slice none 0 0] 43 (0, 0)) := by
    rw [hW]
    have := al_new (w.alloc (.cells #[A, B, C', D] 25)) (.cells #[.slice (some ⟨w.heap.size, 0, none⟩) 4 4, .slice none 0 0, .slice none 0 0] 43)
    rwa [World.size_alloc] at this
  refine ⟨oB, ⟨hl2, ⟨z0 _ (by omega), rfl⟩, ⟨?_, ?_⟩, ⟨fun j v _ hv => by simp at hv, fun j v g _ hv => by simp at hv⟩, ⟨fun j v _ hv => by simp at hv, fun j v g _ hv => by simp at hv⟩, .inr ⟨w.heap.size, 0, rfl, z0 _ (Nat.le_refl _), ?_⟩, .inl rfl, .inl rfl, fun g _ h => absurd rfl h, fun g _ h => absurd rfl h, (fun gl off e => by cases e), (fun gl off e => by cases e), ⟨by simp, by simp, by simp⟩, ⟨?_, fun j => by simp, fun j => by simp⟩⟩, fun g hg => ho2 g fun j v hj hv => by have := (hbl j v g hj hv).2; omega⟩
  · intro j v _ hv
    have below0 : ∀ {k : Nat} {v : Value} {b : List Int}, BOwn w k v b → BOwn W 0 v b := fun h => (h.blk (fun g hg => hbel.block g (h.lt g hg).2)).low (Nat.zero_le _)
    match j, hv with
    | 0, hv => simp at hv; subst hv; exact below0 hA
    | 1, hv => simp at hv; subst hv; exact below0 hB
    | 2, hv => simp at hv; subst hv; exact below0 hC
    | 3, hv => simp at hv; subst hv; exact below0 hD
    | n + 4, hv => simp at hv
  · intro j v g _ hv hg
    exact ho1 j v g hv hg
  · intro i v hi
    rw [cell_of_row _ _ _ _ _ _ hl1, Nat.zero_add]
    match i, hi with
    | 0, hi => simpa using hi
    | 1, hi => simpa using hi
    | 2, hi => simpa using hi
    | 3, hi => simpa using hi
    | n + 4, hi => simp at hi
  · intro j
    match j with
    | 0 => exact lA
    | 1 => exact lB
    | 2 => exact lC
    | 3 => exact lD
    | n + 4 => simp

end Go.Proofs.YthbkabehjeidjabDoor

namespace Go.Proofs.YthbkabehjeidjabDoor
open Go.RowKit
set_option linter.unusedVariables false
set_option linter.unusedSimpArgs false
attribute [local go_sem ↓] wp_store2
attribute [local go_sem] pBlk2_ptr pAgg2_agg

set_option maxRecDepth 100000 in
set_option maxHeartbeats 32000000 in
theorem prints_walk (s t : Sg) (hv tv dv cv bh bt bd bc : Value) (hx tx hy ty : List Xr) (w : World) (hT : Tab w) (h1 : SIn w s hv tv dv cv hx tx) (h2 : SIn w t bh bt bd bc hy ty) :
    Calls Tryd.prog 3 #[.agg (svC s hv tv dv cv), .agg (svC t bh bt bd bc)] w fun e W' => e = .returned (.bool true) ∧ Below w.heap.size w W' := by
  have h00 : 0 < w.heap.size := World.block_lt_of_cell? w ⟨0, 0, none⟩ (hT 0 (by omega))
  obtain ⟨ah, ch, rfl, _⟩ := h1.head.shape
  obtain ⟨at1, ct, rfl, _⟩ := h1.tail.shape
  obtain ⟨ad, cd, rfl, _⟩ := h1.data.shape
  obtain ⟨ac, cc, rfl, _⟩ := h1.clm.shape
  obtain ⟨nh, hnh⟩ : ∃ n, hx.length = n := ⟨_, rfl⟩
  obtain ⟨nt, hnt⟩ : ∃ n, tx.length = n := ⟨_, rfl⟩
  obtain ⟨nd, hnd⟩ : ∃ n, s.data.length = n := ⟨_, rfl⟩
  obtain ⟨nc, hnc⟩ : ∃ n, s.clm.length = n := ⟨_, rfl⟩
  have HNs : Hid (hx.length = nh ∧ tx.length = nt ∧ s.data.length = nd ∧ s.clm.length = nc) := ⟨hnh, hnt, hnd, hnc⟩
  have HSm : Hid (nd ≤ 1048576 ∧ nc ≤ 1048576) := ⟨by rw [← hnd]; exact h1.data.small, by rw [← hnc]; exact h1.clm.small⟩
  obtain ⟨⟨z1, b1⟩, hz1⟩ : ∃ q, prt s hx tx = q := ⟨_, rfl⟩
  obtain ⟨⟨z2, b2⟩, hz2⟩ : ∃ q, prt t hy ty = q := ⟨_, rfl⟩
  obtain ⟨n1, hn1⟩ : ∃ n, b1.length = n := ⟨_, rfl⟩
  obtain ⟨n2, hn2⟩ : ∃ n, b2.length = n := ⟨_, rfl⟩
  have HLb : Hid (∀ s hx tx z b, prt s hx tx = (z, b) → b.length ≤ 8192) := fun s hx tx z b h => by
    unfold prt at h
    split at h
    · cases h; simp
    · split at h
      · cases h; simp
      · split at h
        · cases h; simp
        · cases h; omega
  have HZ1 : Hid (prt s hx tx = (z1, b1) ∧ b1.length = n1) := ⟨hz1, hn1⟩
  have HZ2 : Hid (prt t hy ty = (z2, b2) ∧ b2.length = n2) := ⟨hz2, hn2⟩
  have HT : Hid (∀ V, Below w.heap.size w V → Tab V) := fun V hV => hT.below hV h00
  have H1 : Hid (SIn w s (.slice ah hx.length ch) (.slice at1 tx.length ct) (.slice ad s.data.length cd) (.slice ac s.clm.length cc) hx tx) := h1
  rw [hnh, hnt, hnd, hnc] at h1 ⊢
  have HS1 : Hid (∀ V, Below w.heap.size w V → SIn V s (.slice ah nh ch) (.slice at1 nt ct) (.slice ad nd cd) (.slice ac nc cc) hx tx) := fun V hV => h1.below hV
  have HRS : Hid (∀ V, Below w.heap.size w V → Calls Tryd.prog 9 #[.agg (svC s (.slice ah nh ch) (.slice at1 nt ct) (.slice ad nd cd) (.slice ac nc cc))] V (PrP z1 b1 n1 V)) := fun V hV => (rqPrint_any s _ _ _ _ hx tx V (h1.below hV)).mono fun e w' h => prP_of h hz1 hn1
  have HRT : Hid (∀ V, Below w.heap.size w V → Calls Tryd.prog 9 #[.agg (svC t bh bt bd bc)] V (PrP z2 b2 n2 V)) := fun V hV => (rqPrint_any t _ _ _ _ hy ty V (h2.below hV)).mono fun e w' h => prP_of h hz2 hn2
  have HPT : Hid (∀ V, Below w.heap.size w V → Calls Tryd.prog 12 #[.agg (svC t bh bt bd bc)] V (PrP z2 b2 n2 V)) := fun V hV => (print_any t _ _ _ _ hy ty V (h2.below hV) (hT.below hV h00)).mono fun e w' h => prP_of h hz2 hn2
  have HGT : Hid (∀ V, Below w.heap.size w V → Calls Tryd.prog 11 #[.agg (svC t bh bt bd bc)] V fun e w' => e = .returned (.int .i64 z2) ∧ Below V.heap.size V w') := fun V hV => by
    have := rightS_any t _ _ _ _ hy ty V (h2.below hV) (hT.below hV h00); rw [hz2] at this; exact this
  have HLe : Hid (∀ V, Below w.heap.size w V → Calls Tryd.prog 10 #[.agg (svC s (.slice ah nh ch) (.slice at1 nt ct) (.slice ad nd cd) (.slice ac nc cc))] V (LentP s hx tx V)) := fun V hV => lent_seg s _ _ _ _ hx tx V (h1.below hV)
  obtain ⟨W, hW⟩ : ∃ W, (w.alloc (.cells (svC s (.slice ah nh ch) (.slice at1 nt ct) (.slice ad nd cd) (.slice ac nc cc)) 28)).alloc (.cells (svC t bh bt bd bc) 28) = W := ⟨_, rfl⟩
  have HWe : Hid ((w.alloc (.cells (svC s (.slice ah nh ch) (.slice at1 nt ct) (.slice ad nd cd) (.slice ac nc cc)) 28)).alloc (.cells (svC t bh bt bd bc) 28) = W) := hW
  have hbW : Below w.heap.size w W := by rw [← hW]; exact ((Below.refl _ _).alloc (Nat.le_refl _) _).alloc (by simp) _
  have HR1 : Hid (∀ V, Below W.heap.size W V → V.heap[w.heap.size]? = some (.cells (svC s (.slice ah nh ch) (.slice at1 nt ct) (.slice ad nd cd) (.slice ac nc cc)) 28 (0, 0))) := fun V hV => by
    have h1 : W.heap[w.heap.size]? = some (.cells (svC s (.slice ah nh ch) (.slice at1 nt ct) (.slice ad nd cd) (.slice ac nc cc)) 28 (0, 0)) := by rw [← hW]; exact (((Below.refl (w.heap.size + 1) (w.alloc (.cells (svC s (.slice ah nh ch) (.slice at1 nt ct) (.slice ad nd cd) (.slice ac nc cc)) 28))).alloc (by simp) _).block _ (by omega)).trans (al_new _ _)
    exact (hV.block _ (Array.getElem?_eq_some_iff.1 h1).1).trans h1
  have HR2 : Hid (∀ V, Below W.heap.size W V → V.heap[w.heap.size + 1]? = some (.cells (svC t bh bt bd bc) 28 (0, 0))) := fun V hV => by
    have h1 : W.heap[w.heap.size + 1]? = some (.cells (svC t bh bt bd bc) 28 (0, 0)) := by rw [← hW]; have := al_new (w.alloc (.cells (svC s (.slice ah nh ch) (.slice at1 nt ct) (.slice ad nd cd) (.slice ac nc cc)) 28)) (.cells (svC t bh bt bd bc) 28); rwa [World.size_alloc] at this
    exact (hV.block _ (Array.getElem?_eq_some_iff.1 h1).1).trans h1
  have HWs : Hid (W.heap.size = w.heap.size + 1 + 1) := by show _ = _; rw [← hW]; simp
  have HBW : Hid (Below w.heap.size w W) := hbW
  have hA := awake_any W (hT.below hbW h00)
  clear h1 h2 hT hW hbW hnh hnt hnd hnc hz1 hz2 hn1 hn2
  go_enter Tryd.func3, Tryd.ntmps3
  go_wp2_with fail
  rw [HWe.out]
  refine hA.mono ?_
  rintro e w1 ⟨rfl, hb⟩
  have HB1 : Hid (Below W.heap.size W w1) := hb
  clear hb hA
  obtain ⟨y0, y1, y2, y3, y4, y5, y6, y7, y8, y9, y10, y11, y12, y13⟩ := s14_cells (HR1.out w1 HB1.out)
  go_wp2_with fail
  refine (HRS.out w1 (btr2 HBW.out HB1.out)).mono ?_
  rintro e w2 ⟨a2, c2, rfl, ho, hb⟩
  have HO2 : Hid (BOwn w2 w1.heap.size (.slice a2 n1 c2) b1) := ho
  have HB2 : Hid (Below W.heap.size W w2) := btr2 HB1.out hb
  clear hb ho HRS y0 y1 y2 y3 y4 y5 y6 y7 y8 y9 y10 y11 y12 y13
  obtain ⟨v0, v1, v2, v3, v4, v5, v6, v7, v8, v9, v10, v11, v12, v13⟩ := s14_cells (HR2.out w2 HB2.out)
  go_wp2_with fail
  refine (HRT.out w2 (btr2 HBW.out HB2.out)).mono ?_
  rintro e w3 ⟨a3, c3, rfl, ho, hb⟩
  have HO3 : Hid (BOwn w3 w2.heap.size (.slice a3 n2 c3) b2) := ho
  have HQ2 : Hid (BOwn w3 w1.heap.size (.slice a2 n1 c2) b1) := HO2.out.blk (fun g hg => hb.block g (HO2.out.lt g hg).2)
  have HB3 : Hid (Below W.heap.size W w3) := btr2 HB2.out hb
  clear hb ho HRT v0 v1 v2 v3 v4 v5 v6 v7 v8 v9 v10 v11 v12 v13 HO2
  obtain ⟨y0, y1, y2, y3, y4, y5, y6, y7, y8, y9, y10, y11, y12, y13⟩ := s14_cells (HR1.out w3 HB3.out)
  go_wp2_with fail
  refine (HLe.out w3 (btr2 HBW.out HB3.out)).mono ?_
  rintro e w4 ⟨B1, B2, B3, hR, tR, gh, gt, gd, gc, he, hLS, hb⟩
  rw [HNs.out.1, HNs.out.2.1, HNs.out.2.2.1, HNs.out.2.2.2] at he
  subst he
  have HLS : Hid (LS w4 w3.heap.size B1 B2 B3 s hx tx hR tR gh gt gd gc) := hLS
  have HB4 : Hid (Below W.heap.size W w4) := btr2 HB3.out hb
  have HQ2b : Hid (BOwn w4 w1.heap.size (.slice a2 n1 c2) b1 ∧ BOwn w4 w2.heap.size (.slice a3 n2 c3) b2) := ⟨HQ2.out.blk (fun g hg => hb.block g (HQ2.out.lt g hg).2), HO3.out.blk (fun g hg => hb.block g (HO3.out.lt g hg).2)⟩
  have HS43 : Hid (w3.heap.size ≤ w4.heap.size) := hb.size
  clear hb hLS y0 y1 y2 y3 y4 y5 y6 y7 y8 y9 y10 y11 y12 y13 HO3 HQ2 HLe
  obtain ⟨x4, hx4⟩ : ∃ x, (w4.alloc (.cells zsC 28)) = x := ⟨_, rfl⟩
  have hst : Stor2 Tryd.prog 28 (w4.alloc (.cells zsC 28)) (.pointer (some ⟨w4.heap.size, 0, none⟩)) (.agg (svC s (lV gh nh) (lV gt nt) (lV gd nd) (lV gc nc))) := ⟨w4.heap.size, _, _, _, rfl, rfl, al_new _ _, rfl, size_sg2, by simp [Value.oneCell']⟩
  clear hx4 x4
  go_upto_region 5 with fail
  obtain ⟨w5, hw5⟩ : ∃ x, (w4.alloc (.cells zsC 28)).setRow w4.heap.size (svC s (lV gh nh) (lV gt nt) (lV gd nd) (lV gc nc)) = x := ⟨_, rfl⟩
  have HB45 : Hid (Below w4.heap.size w4 w5) := by show Below _ _ _; rw [← hw5]; exact bl_setRow2 ((Below.refl _ _).alloc (Nat.le_refl _) _) (Nat.le_refl _) _
  have HU5 : Hid (w5.heap[w4.heap.size]? = some (.cells (svC s (lV gh nh) (lV gt nt) (lV gd nd) (lV gc nc)) 28 (0, 0))) := by show _ = _; rw [← hw5]; exact setRow_heap _ _ _ _ _ _ (al_new _ _)
  have HS5 : Hid (w5.heap.size = w4.heap.size + 1) := by show _ = _; rw [← hw5]; simp [World.setRow]
  rw [hw5]
  clear hw5 hst
  have HB5 : Hid (Below W.heap.size W w5) := btr2 HB4.out HB45.out
  have HU : Hid (∀ V, Below w5.heap.size w5 V → V.heap[w4.heap.size]? = some (.cells (svC s (lV gh nh) (lV gt nt) (lV gd nd) (lV gc nc)) 28 (0, 0))) := fun V hV => (hV.block _ (by have := HS5.out; omega)).trans HU5.out
  have HLV : Hid (∀ V, Below w5.heap.size w5 V → LS V w3.heap.size B1 B2 B3 s hx tx hR tR gh gt gd gc) := fun V hV => HLS.out.below (btr2 HB45.out hV)
  have HSU : Hid (∀ V, Below w5.heap.size w5 V → SIn V s (lV gh nh) (lV gt nt) (lV gd nd) (lV gc nc) (hR.take hx.length) (tR.take tx.length)) := fun V hV => by
    have h := (HLV.out V hV).sin H1.out
    rw [HNs.out.1, HNs.out.2.1, HNs.out.2.2.1, HNs.out.2.2.2] at h
    rw [HNs.out.1, HNs.out.2.1]
    exact h
  have HEx : Hid (∀ q : Sg, prt q (hR.take hx.length) (tR.take tx.length) = prt q hx tx) := fun q => prt_ex (LX.ex (w0 := w) (v := .slice none 0 0) HLS.out.head) (LX.ex (w0 := w) (v := .slice none 0 0) HLS.out.tail)
  have HPU : Hid (∀ V, Below w5.heap.size w5 V → Calls Tryd.prog 12 #[.agg (svC s (lV gh nh) (lV gt nt) (lV gd nd) (lV gc nc))] V (PrP z1 b1 n1 V)) := fun V hV => (print_any s _ _ _ _ _ _ V (HSU.out V hV) (HT.out V (btr2 HBW.out (btr2 HB5.out hV)))).mono fun e w' h => prP_of h (by rw [HEx.out]; exact HZ1.out.1) HZ1.out.2
  have HGU : Hid (∀ V, Below w5.heap.size w5 V → Calls Tryd.prog 11 #[.agg (svC s (lV gh nh) (lV gt nt) (lV gd nd) (lV gc nc))] V fun e w' => e = .returned (.int .i64 z1) ∧ Below V.heap.size V w') := fun V hV => by
    have := rightS_any s _ _ _ _ _ _ V (HSU.out V hV) (HT.out V (btr2 HBW.out (btr2 HB5.out hV)))
    rw [HEx.out, HZ1.out.1] at this
    exact this
  have HKe : Hid (∀ V, Below w5.heap.size w5 V → Calls Tryd.prog 13 #[.agg (svC s (lV gh nh) (lV gt nt) (lV gd nd) (lV gc nc)), .agg (svC s (.slice ah nh ch) (.slice at1 nt ct) (.slice ad nd cd) (.slice ac nc cc))] V fun e w' => e = .returned (.bool true) ∧ Below V.heap.size V w') := fun V hV => by
    have := kept_seg s _ _ _ _ hx tx hR tR V _ _ _ _ _ _ _ _ (HLV.out V hV) (HS1.out V (btr2 HBW.out (btr2 HB5.out hV)))
    rw [HNs.out.1, HNs.out.2.1, HNs.out.2.2.1, HNs.out.2.2.2] at this
    exact this
  have HD5 : Hid (Below w5.heap.size w5 w5) := Below.refl _ _
  obtain ⟨y0, y1, y2, y3, y4, y5, y6, y7, y8, y9, y10, y11, y12, y13⟩ := s14_cells (HU.out w5 HD5.out)
  go_wp2_with fail
  refine (HGU.out w5 HD5.out).mono ?_
  rintro e w6 ⟨rfl, hb⟩
  have HD6 : Hid (Below w5.heap.size w5 w6) := hb
  clear hb y0 y1 y2 y3 y4 y5 y6 y7 y8 y9 y10 y11 y12 y13 HD5 HGU
  obtain ⟨y0, y1, y2, y3, y4, y5, y6, y7, y8, y9, y10, y11, y12, y13⟩ := s14_cells (HU.out w6 HD6.out)
  go_wp2_with fail
  refine (HPU.out w6 HD6.out).mono ?_
  rintro e w7 ⟨a7, c7, rfl, ho, hb⟩
  have HO7 : Hid (BOwn w7 w6.heap.size (.slice a7 n1 c7) b1) := ho
  have HD7 : Hid (Below w5.heap.size w5 w7) := btr2 HD6.out hb
  have HS67 : Hid (w6.heap.size ≤ w7.heap.size) := hb.size
  clear hb ho y0 y1 y2 y3 y4 y5 y6 y7 y8 y9 y10 y11 y12 y13
  obtain ⟨v0, v1, v2, v3, v4, v5, v6, v7, v8, v9, v10, v11, v12, v13⟩ := s14_cells (HR2.out w7 (btr2 HB5.out HD7.out))
  go_wp2_with fail
  refine (HPT.out w7 (btr2 HBW.out (btr2 HB5.out HD7.out))).mono ?_
  rintro e w8 ⟨a8, c8, rfl, ho, hb⟩
  have HO8 : Hid (BOwn w8 w7.heap.size (.slice a8 n2 c8) b2) := ho
  have HB78 : Hid (Below w7.heap.size w7 w8) := hb
  have HD8 : Hid (Below w5.heap.size w5 w8) := btr2 HD7.out hb
  clear hb ho v0 v1 v2 v3 v4 v5 v6 v7 v8 v9 v10 v11 v12 v13 HPT
  obtain ⟨y0, y1, y2, y3, y4, y5, y6, y7, y8, y9, y10, y11, y12, y13⟩ := s14_cells (HU.out w8 HD8.out)
  go_wp2_with fail
  refine (HPU.out w8 HD8.out).mono ?_
  rintro e w9 ⟨a9, c9, rfl, ho, hb⟩
  have HO9 : Hid (BOwn w9 w8.heap.size (.slice a9 n1 c9) b1) := ho
  have HB89 : Hid (Below w8.heap.size w8 w9) := hb
  have HD9 : Hid (Below w5.heap.size w5 w9) := btr2 HD8.out hb
  clear hb ho y0 y1 y2 y3 y4 y5 y6 y7 y8 y9 y10 y11 y12 y13 HPU
  obtain ⟨v0, v1, v2, v3, v4, v5, v6, v7, v8, v9, v10, v11, v12, v13⟩ := s14_cells (HR2.out w9 (btr2 HB5.out HD9.out))
  go_wp2_with fail
  refine (HGT.out w9 (btr2 HBW.out (btr2 HB5.out HD9.out))).mono ?_
  rintro e w10 ⟨rfl, hb⟩
  have HB90 : Hid (Below w9.heap.size w9 w10) := hb
  have HD10 : Hid (Below w5.heap.size w5 w10) := btr2 HD9.out hb
  clear hb v0 v1 v2 v3 v4 v5 v6 v7 v8 v9 v10 v11 v12 v13 HGT
  obtain ⟨y0, y1, y2, y3, y4, y5, y6, y7, y8, y9, y10, y11, y12, y13⟩ := s14_cells (HU.out w10 HD10.out)
  obtain ⟨v0, v1, v2, v3, v4, v5, v6, v7, v8, v9, v10, v11, v12, v13⟩ := s14_cells (HR1.out w10 (btr2 HB5.out HD10.out))
  go_wp2_with fail
  refine (HKe.out w10 HD10.out).mono ?_
  rintro e w11 ⟨rfl, hb⟩
  have HB01 : Hid (Below w9.heap.size w9 w11) := btr2 HB90.out hb
  have HD11 : Hid (Below w5.heap.size w5 w11) := btr2 HD10.out hb
  clear hb y0 y1 y2 y3 y4 y5 y6 y7 y8 y9 y10 y11 y12 y13 v0 v1 v2 v3 v4 v5 v6 v7 v8 v9 v10 v11 v12 v13 HKe
  have e1 : (z1 != z1) = false := by simp
  have e2 : (z2 != z2) = false := by simp
  have HA : Hid (BOwn w11 w6.heap.size (.slice a7 n1 c7) b1) := HO7.out.blk (fun g hg => (btr2 HB78.out (btr2 HB89.out HB01.out)).block g (HO7.out.lt g hg).2)
  have HBr : Hid (BOwn w11 w7.heap.size (.slice a8 n2 c8) b2) := HO8.out.blk (fun g hg => (btr2 HB89.out HB01.out).block g (HO8.out.lt g hg).2)
  have HCr : Hid (BOwn w11 w8.heap.size (.slice a9 n1 c9) b1) := HO9.out.blk (fun g hg => HB01.out.block g (HO9.out.lt g hg).2)
  have HW1 : Hid (BOwn w11 w1.heap.size (.slice a2 n1 c2) b1 ∧ BOwn w11 w2.heap.size (.slice a3 n2 c3) b2) := ⟨HQ2b.out.1.blk (fun g hg => (btr2 HB45.out HD11.out).block g (HQ2b.out.1.lt g hg).2), HQ2b.out.2.blk (fun g hg => (btr2 HB45.out HD11.out).block g (HQ2b.out.2.lt g hg).2)⟩
  have HTop : Hid ((∀ g, (Value.slice a7 n1 c7).ownBlock = some g → g < w7.heap.size) ∧ (∀ g, (Value.slice a8 n2 c8).ownBlock = some g → g < w8.heap.size) ∧ ∀ g, (Value.slice a9 n1 c9).ownBlock = some g → g < w9.heap.size) := ⟨fun g hg => (HO7.out.lt g hg).2, fun g hg => (HO8.out.lt g hg).2, fun g hg => (HO9.out.lt g hg).2⟩
  have k1 : (convert 25 9 (.slice a7 n1 c7)).run Tryd.prog w11 = .ok (.string (strOfNums b1)) w11 := conv_any _ _ _ _ _ HZ1.out.2 HA.out.lies
  have k2 : (convert 25 9 (.slice a2 n1 c2)).run Tryd.prog w11 = .ok (.string (strOfNums b1)) w11 := conv_any _ _ _ _ _ HZ1.out.2 HW1.out.1.lies
  have k3 : (convert 25 9 (.slice a8 n2 c8)).run Tryd.prog w11 = .ok (.string (strOfNums b2)) w11 := conv_any _ _ _ _ _ HZ2.out.2 HBr.out.lies
  have k4 : (convert 25 9 (.slice a3 n2 c3)).run Tryd.prog w11 = .ok (.string (strOfNums b2)) w11 := conv_any _ _ _ _ _ HZ2.out.2 HW1.out.2.lies
  have k5 : (convert 25 9 (.slice a9 n1 c9)).run Tryd.prog w11 = .ok (.string (strOfNums b1)) w11 := conv_any _ _ _ _ _ HZ1.out.2 HCr.out.lies
  generalize strOfNums b1 = S1 at k1 k2 k5
  generalize strOfNums b2 = S2 at k3 k4
  have e3 : (S1.toList != S1.toList) = false := by simp
  have e4 : (S2.toList != S2.toList) = false := by simp
  have e5 : (S1.toList == S1.toList) = true := by simp
  have e6 : (S2.toList == S2.toList) = true := by simp
  clear HO7 HO8 HO9 HQ2b
  have hgd := HLS.out.gdb
  have hgc := HLS.out.clm.lt gc rfl
  have HGs : Hid ((W.heap.size ≤ gd ∧ gd < w4.heap.size) ∧ (W.heap.size ≤ gc ∧ gc < w4.heap.size) ∧ gd ≠ gc ∧ B2 ≤ gd ∧ B2 ≤ gc ∧ w3.heap.size ≤ B1 ∧ B1 ≤ B2) := by
    have q1 := HLS.out.head.g0
    have q2 := HLS.out.tail.g0
    have q3 := HB3.out.size
    refine ⟨⟨by omega, by omega⟩, ⟨by omega, hgc.2⟩, by omega, by omega, by omega, by omega, by omega⟩
  clear hgd hgc
  have HSz : Hid (w5.heap.size ≤ w11.heap.size ∧ w4.heap.size < w5.heap.size) := ⟨HD11.out.size, by have := HS5.out; omega⟩
  have hL11 := HLV.out w11 HD11.out
  have HD0 : Hid (Blk .u8 w11 gd 5 (mk2 (x1s 0 s.data))) := by show Blk _ _ _ _ _; rw [x1s_zero]; exact hL11.data
  have HC0 : Hid (C.SOwn w11 B3 (.slice (some ⟨gc, 0, none⟩) (nc + 2) (nc + 2)) (C.mkL s.clm)) := by have h := hL11.clm; rw [HNs.out.2.2.2] at h; exact h
  clear hL11
  obtain ⟨y0, y1, y2, y3, y4, y5, y6, y7, y8, y9, y10, y11, y12, y13⟩ := s14_cells (HU.out w11 HD11.out)
  have hndm : nd ≤ 1048576 := HSm.out.1
  have hncm : nc ≤ 1048576 := HSm.out.2
  go_wp2_with fail
  clear k1 k2 k3 k4 k5 e1 e2 e3 e4 e5 e6 y0 y1 y2 y3 y4 y5 y6 y7 y8 y9 y10 y11 y12 y13
  go_loopw [20] (fun i wr => ∃ k : Nat, k ≤ nd ∧ i = .int .i64 k ∧ Hid (Blk .u8 wr gd 5 (mk2 (x1s k s.data)) ∧ Off gd gc w11 wr ∧ wr.heap[gc]? = w11.heap[gc]?)) (fun i _ => nd - (intOf i).toNat)
  case atStart => exact ⟨0, by omega, rfl, HD0.out, Off.refl _ _ _, rfl⟩
  case round =>
    obtain ⟨k, hk, rfl, HJ⟩ := hrel
    have hur : wr.heap[w4.heap.size]? = some (.cells (svC s (lV gh nh) (lV gt nt) (lV gd nd) (lV gc nc)) 28 (0, 0)) := (HJ.out.2.1.block _ (by have := HSz.out; omega) (by have := HGs.out; omega) (by have := HGs.out; omega)).trans (HU.out w11 HD11.out)
    obtain ⟨y0, y1, y2, y3, y4, y5, y6, y7, y8, y9, y10, y11, y12, y13⟩ := s14_cells hur
    have HUr : Hid (wr.heap[w4.heap.size]? = some (.cells (svC s (lV gh nh) (lV gt nt) (lV gd nd) (lV gc nc)) 28 (0, 0))) := hur
    clear hur HD0
    by_cases hlt : k < nd
    · have hlt' : (k : Int) < (nd : Int) := by omega
      have hwk : IntKind.i64.wrap ((k : Int) + 1) = (k : Int) + 1 := by rw [IntKind.wrap_i64]; omega
      obtain ⟨c, hc⟩ := get_one s.data k (by rw [HNs.out.2.2.1]; exact hlt)
      have q1 := HJ.out.1.cell k (by rw [mk2_len, x1s_len, HNs.out.2.2.1]; omega)
      have q2 := HJ.out.1.frozen k
      have e0 : (mk2 (x1s k s.data)).getD k 0 = c := by
        rw [List.getD_eq_getElem?_getD]
        unfold mk2
        rw [List.getElem?_append_left (by rw [x1s_len, HNs.out.2.2.1]; exact hlt), x1s_at hc]
        rfl
      rw [e0] at q1
      have HNx : Hid (∀ nd, Blk .u8 ((wr.drewN nd).setCell ⟨gd, k, none⟩ (.int .u8 (x1 c))) gd 5 (mk2 (x1s (k + 1) s.data)) ∧ Off gd gc w11 ((wr.drewN nd).setCell ⟨gd, k, none⟩ (.int .u8 (x1 c))) ∧ ((wr.drewN nd).setCell ⟨gd, k, none⟩ (.int .u8 (x1 c))).heap[gc]? = w11.heap[gc]?) := fun n => by
        have hB : Blk .u8 (wr.drewN n) gd 5 (mk2 (x1s k s.data)) := HJ.out.1
        have h := hB.set k (x1 c)
        rw [mk2_set _ _ _ (by rw [x1s_len, HNs.out.2.2.1]; exact hlt), x1s_set hc] at h
        exact ⟨h, (HJ.out.2.1.drewN n).setd, (heap_setCell_other _ _ _ _ (by have := HGs.out; show gc ≠ gd; omega)).trans HJ.out.2.2⟩
      have HG1 : Hid (w4.heap.size ≠ gd) := by have := HGs.out; show _ ≠ _; omega
      have hxc : bits .xor .u8 c 1 = x1 c := rfl
      clear hc e0
      generalize x1 c = xc at *
      have y7' : wr.drew.cell? ⟨w4.heap.size, 7, none⟩ = some (lV gd nd) := y7
      go_wp2_with fail
      go_region
      all_goals (
        go_wp2
        go_roundw
        case rel => exact ⟨k + 1, by omega, by go_num, HNx.out 1⟩
        case measure => simp [intOf]; omega)
    · have hkn : k = nd := by omega
      have hlt' : ¬ (k : Int) < (nd : Int) := by omega
      have HD1 : Hid (Blk .u8 wr gd 5 (mk2 (s.data.map x1))) := by have h := HJ.out.1; rw [hkn, ← HNs.out.2.2.1, x1s_all] at h; exact h
      clear hkn
      have HOf : Hid (Off gd gc w11 wr) := HJ.out.2.1
      have HC1 : Hid (C.SOwn wr B3 (.slice (some ⟨gc, 0, none⟩) (nc + 2) (nc + 2)) (C.mkL (d1s 0 s.clm))) := by
        show C.SOwn _ _ _ _
        rw [d1s_zero]
        exact C.SOwn.blk2 HC0.out (fun g hg => by cases hg; exact HJ.out.2.2)
      clear HJ HC0
      go_wp2_with fail
      clear y0 y1 y2 y3 y4 y5 y6 y7 y8 y9 y10 y11 y12 y13
      go_loopw [21] (fun i wv => ∃ k : Nat, k ≤ nc ∧ i = .int .i64 k ∧ Hid (C.SOwn wv B3 (.slice (some ⟨gc, 0, none⟩) (nc + 2) (nc + 2)) (C.mkL (d1s k s.clm)) ∧ Off gd gc w11 wv ∧ Blk .u8 wv gd 5 (mk2 (s.data.map x1)))) (fun i _ => nc - (intOf i).toNat)
      case atStart => exact ⟨0, by omega, rfl, HC1.out, HOf.out, HD1.out⟩
      case round =>
        clear HC1 HOf HD1 HUr
        obtain ⟨m, hm, rfl, HJ⟩ := hrel
        have hur : wr.heap[w4.heap.size]? = some (.cells (svC s (lV gh nh) (lV gt nt) (lV gd nd) (lV gc nc)) 28 (0, 0)) := (HJ.out.2.1.block _ (by have := HSz.out; omega) (by have := HGs.out; omega) (by have := HGs.out; omega)).trans (HU.out w11 HD11.out)
        have HUr : Hid (wr.heap[w4.heap.size]? = some (.cells (svC s (lV gh nh) (lV gt nt) (lV gd nd) (lV gc nc)) 28 (0, 0))) := hur
        obtain ⟨y0, y1, y2, y3, y4, y5, y6, y7, y8, y9, y10, y11, y12, y13⟩ := s14_cells hur
        clear hur
        by_cases hml : m < nc
        · have hml' : (m : Int) < (nc : Int) := by omega
          have hwm : IntKind.i64.wrap ((m : Int) + 1) = (m : Int) + 1 := by rw [IntKind.wrap_i64]; omega
          obtain ⟨p, hp⟩ := get_one s.clm m (by rw [HNs.out.2.2.2]; exact hml)
          have hpd := d1s_at hp
          obtain ⟨q1, q2, q3, q4⟩ := HJ.out.1.cells2 (C.mkL_at hpd)
          obtain ⟨e2, he2⟩ : ∃ x, IntKind.i64.wrap (p.2 - 1) = x := ⟨_, rfl⟩
          have HNx : Hid (C.SOwn (wr.setCell ⟨gc, m * 2 + 1, none⟩ (.int .i64 e2)) B3 (.slice (some ⟨gc, 0, none⟩) (nc + 2) (nc + 2)) (C.mkL (d1s (m + 1) s.clm)) ∧ Off gd gc w11 (wr.setCell ⟨gc, m * 2 + 1, none⟩ (.int .i64 e2)) ∧ Blk .u8 (wr.setCell ⟨gc, m * 2 + 1, none⟩ (.int .i64 e2)) gd 5 (mk2 (s.data.map x1))) := by
            have h := put_to2 HJ.out.1 (C.mkL_at hpd) e2
            rw [mkL_set2 _ _ _ (by rw [d1s_len, HNs.out.2.2.2]; exact hml), ← he2, show ((p.1, IntKind.i64.wrap (p.2 - 1)) : Int × Int) = d1 p from rfl, d1s_set hp, he2] at h
            exact ⟨h, HJ.out.2.1.setc, (heap_setCell_other _ _ _ _ (by have := HGs.out; show gd ≠ gc; omega)).trans HJ.out.2.2⟩
          clear hp hpd HJ
          go_wp2
          go_roundw
          case rel => exact ⟨m + 1, by omega, by go_num, HNx.out⟩
          case measure => simp [intOf]; omega
        · have hmn : m = nc := by omega
          have hml' : ¬ (m : Int) < (nc : Int) := by omega
          have HMn : Hid (m = nc) := hmn
          clear hmn
          obtain ⟨wz, hwz⟩ : ∃ x, x = wr := ⟨_, rfl⟩
          subst hwz
          have HOf : Hid (Off gd gc w11 wz) := HJ.out.2.1
          obtain ⟨s2, hs2⟩ : ∃ x : Sg, { s with data := s.data.map x1, clm := s.clm.map d1 } = x := ⟨_, rfl⟩
          have HLz : Hid (LS wz w3.heap.size B1 B2 B3 s2 hx tx hR tR gh gt gd gc) := by
            have hL := HLV.out w11 HD11.out
            have q := HGs.out
            have qz := HSz.out
            have hc := HJ.out.1
            rw [HMn.out, ← HNs.out.2.2.2, d1s_all] at hc
            subst hs2
            refine ⟨hL.head.keep (fun g _ hg => HOf.out.block g (by omega) (by omega) (by omega)), hL.tail.keep (fun g _ hg => HOf.out.block g (by omega) (by omega) (by omega)), HJ.out.2.2, hL.gdb, ?_⟩
            show C.SOwn wz B3 (.slice (some ⟨gc, 0, none⟩) ((s.clm.map d1).length + 2) ((s.clm.map d1).length + 2)) (C.mkL (s.clm.map d1))
            rw [List.length_map]
            exact hc
          have HSz2 : Hid (∀ V, Below wz.heap.size wz V → SIn V s2 (lV gh nh) (lV gt nt) (lV gd nd) (lV gc nc) (hR.take hx.length) (tR.take tx.length)) := fun V hV => by
            have h := (HLz.out.below hV).sin2 H1.out.head (by rw [← hs2]; exact H1.out.headEq) H1.out.tail (by rw [← hs2]; exact H1.out.tailEq) (by rw [← hs2]; intro z hz; obtain ⟨c, hc, rfl⟩ := List.mem_map.mp hz; exact x1_byte (H1.out.data.bytes c hc)) (by rw [← hs2]; show (s.data.map x1).length ≤ _; rw [List.length_map]; exact H1.out.data.small) (by rw [← hs2]; show (s.clm.map d1).length ≤ _; rw [List.length_map]; exact H1.out.clm.small)
            have l1 : s2.data.length = nd := by rw [← hs2]; show (s.data.map x1).length = _; rw [List.length_map]; exact HNs.out.2.2.1
            have l2 : s2.clm.length = nc := by rw [← hs2]; show (s.clm.map d1).length = _; rw [List.length_map]; exact HNs.out.2.2.2
            rw [l1, l2, HNs.out.1, HNs.out.2.1] at h
            rw [HNs.out.1, HNs.out.2.1]
            exact h
          have HUe : Hid (svC s (lV gh nh) (lV gt nt) (lV gd nd) (lV gc nc) = svC s2 (lV gh nh) (lV gt nt) (lV gd nd) (lV gc nc)) := by show _ = _; rw [← hs2]
          obtain ⟨⟨z3, b3⟩, hz3⟩ : ∃ q, prt s2 hx tx = q := ⟨_, rfl⟩
          obtain ⟨n3, hn3⟩ : ∃ n, b3.length = n := ⟨_, rfl⟩
          have HZ3 : Hid (prt s2 hx tx = (z3, b3) ∧ b3.length = n3) := ⟨hz3, hn3⟩
          have HWz : Hid (Below w.heap.size w wz) := btr2 HBW.out ((btr2 HB5.out HD11.out).trans (HOf.out.low (by have := HGs.out; omega) (by have := HGs.out; omega) (by have := HB5.out.size; have := HSz.out; omega)))
          have HRU : Hid (∀ V, Below wz.heap.size wz V → Calls Tryd.prog 9 #[.agg (svC s (lV gh nh) (lV gt nt) (lV gd nd) (lV gc nc))] V (PrP z3 b3 n3 V)) := fun V hV => by
            rw [HUe.out]
            exact (rqPrint_any s2 _ _ _ _ _ _ V (HSz2.out V hV)).mono fun e w' h => prP_of h (by rw [HEx.out]; exact hz3) hn3
          have HPU : Hid (∀ V, Below wz.heap.size wz V → Calls Tryd.prog 12 #[.agg (svC s (lV gh nh) (lV gt nt) (lV gd nd) (lV gc nc))] V (PrP z3 b3 n3 V)) := fun V hV => by
            rw [HUe.out]
            exact (print_any s2 _ _ _ _ _ _ V (HSz2.out V hV) (HT.out V (btr2 HWz.out hV))).mono fun e w' h => prP_of h (by rw [HEx.out]; exact hz3) hn3
          have HAz : Hid (BOwn wz w6.heap.size (.slice a7 n1 c7) b1) := HA.out.blk (fun g hg => HOf.out.block g (HA.out.lt g hg).2 (by have := (HA.out.lt g hg).1; have := HGs.out; have := HSz.out; have := HD6.out.size; omega) (by have := (HA.out.lt g hg).1; have := HGs.out; have := HSz.out; have := HD6.out.size; omega))
          have HBz : Hid (BOwn wz w7.heap.size (.slice a8 n2 c8) b2) := HBr.out.blk (fun g hg => HOf.out.block g (HBr.out.lt g hg).2 (by have := (HBr.out.lt g hg).1; have := HGs.out; have := HSz.out; have := HD7.out.size; omega) (by have := (HBr.out.lt g hg).1; have := HGs.out; have := HSz.out; have := HD7.out.size; omega))
          have HCz : Hid (BOwn wz w8.heap.size (.slice a9 n1 c9) b1) := HCr.out.blk (fun g hg => HOf.out.block g (HCr.out.lt g hg).2 (by have := (HCr.out.lt g hg).1; have := HGs.out; have := HSz.out; have := HD8.out.size; omega) (by have := (HCr.out.lt g hg).1; have := HGs.out; have := HSz.out; have := HD8.out.size; omega))
          have HUz : Hid (∀ V, Below wz.heap.size wz V → V.heap[w4.heap.size]? = some (.cells (svC s (lV gh nh) (lV gt nt) (lV gd nd) (lV gc nc)) 28 (0, 0))) := fun V hV => (hV.block _ (by have := HSz.out; have := HOf.out.size; omega)).trans HUr.out
          clear hs2 hz3 hn3 HJ
          go_wp2_with fail
          refine (HRU.out wz (Below.refl _ _)).mono ?_
          rintro e w14 ⟨a14, c14, rfl, ho, hb⟩
          have HO14 : Hid (BOwn w14 wz.heap.size (.slice a14 n3 c14) b3) := ho
          have HF14 : Hid (Below wz.heap.size wz w14) := hb
          clear hb ho y0 y1 y2 y3 y4 y5 y6 y7 y8 y9 y10 y11 y12 y13 HRU
          obtain ⟨y0, y1, y2, y3, y4, y5, y6, y7, y8, y9, y10, y11, y12, y13⟩ := s14_cells (HUz.out w14 HF14.out)
          go_wp2_with fail
          refine (HPU.out w14 HF14.out).mono ?_
          rintro e w15 ⟨a15, c15, rfl, ho, hb⟩
          have HO15 : Hid (BOwn w15 w14.heap.size (.slice a15 n3 c15) b3) := ho
          have HF15 : Hid (Below wz.heap.size wz w15) := btr2 HF14.out hb
          have HQ14 : Hid (BOwn w15 wz.heap.size (.slice a14 n3 c14) b3) := HO14.out.blk (fun g hg => hb.block g (HO14.out.lt g hg).2)
          clear hb ho y0 y1 y2 y3 y4 y5 y6 y7 y8 y9 y10 y11 y12 y13 HPU HO14
          have e1 : (z3 != z3) = false := by simp
          have k1 : (convert 25 9 (.slice a15 n3 c15)).run Tryd.prog w15 = .ok (.string (strOfNums b3)) w15 := conv_any _ _ _ _ _ HZ3.out.2 HO15.out.lies
          have k2 : (convert 25 9 (.slice a14 n3 c14)).run Tryd.prog w15 = .ok (.string (strOfNums b3)) w15 := conv_any _ _ _ _ _ HZ3.out.2 HQ14.out.lies
          generalize strOfNums b3 = S3 at k1 k2
          have e3 : (S3.toList != S3.toList) = false := by simp
          have e5 : (S3.toList == S3.toList) = true := by simp
          obtain ⟨oB, hRw, hz0⟩ := rws_four (w := w15) (HAz.out.blk (fun g hg => HF15.out.block g (HAz.out.lt g hg).2)) (HBz.out.blk (fun g hg => HF15.out.block g (HBz.out.lt g hg).2)) (HCz.out.blk (fun g hg => HF15.out.block g (HCz.out.lt g hg).2)) HO15.out HTop.out.1 HTop.out.2.1 HTop.out.2.2 (Nat.le_refl _) (Nat.le_refl _) (by have := HB01.out.size; have := HOf.out.size; have := HF14.out.size; omega) HS67.out HB78.out.size HB89.out.size (by have := HLb.out _ _ _ _ _ HZ1.out.1; omega) (by have := HLb.out _ _ _ _ _ HZ2.out.1; omega) (by have := HLb.out _ _ _ _ _ HZ1.out.1; omega) (by have := HLb.out _ _ _ _ _ HZ3.out.1; omega) rfl
          have hOw := ownedRows_any hRw
          have HZ0 : Hid (∀ g, g < w6.heap.size → oB g = 0) := hz0
          have HFin : Hid (Below w.heap.size w w15) := HWz.out.trans (HF15.out.mono HWz.out.size)
          have HLt : Hid (w.heap.size ≤ w6.heap.size) := by have := HBW.out.size; have := HB5.out.size; have := HD6.out.size; show _ ≤ _; omega
          clear hRw hz0
          go_wp2_with fail
          refine hOw.mono ?_
          rintro e wq ⟨rfl, hk⟩
          have HEnd : Hid (Below w.heap.size w wq) := by
            have hb2 : Below w.heap.size w ((w15.alloc (.cells #[.slice a7 n1 c7, .slice a8 n2 c8, .slice a9 n1 c9, .slice a15 n3 c15] 25)).alloc (.cells #[.slice (some ⟨w15.heap.size, 0, none⟩) 4 4, .slice none 0 0, .slice none 0 0] 43)) := (HFin.out.alloc HFin.out.size _).alloc (by have := HFin.out.size; simp; omega) _
            exact ⟨hk.os.trans hb2.os, hk.tape.trans hb2.tape, hk.output.trans hb2.output, Nat.le_trans hb2.size hk.size, fun g hg => (hk.block g (Nat.lt_of_lt_of_le hg hb2.size) (by show oB g + 0 + 0 = 0; have := HZ0.out g (by have := HLt.out; omega); omega)).trans (hb2.block g hg)⟩
          clear hOw hk
          go_wp2
          first | exact ⟨rfl, HEnd.out⟩ | (go_ret; exact ⟨rfl, HEnd.out⟩)

end Go.Proofs.YthbkabehjeidjabDoor
