import Derived.Test.YtgmbpagbiakciafDoorRcKpt
import Derived.Maps.AppendAt
import Derived.Test.YtgmbpagbiakciafDoorRcApp
namespace Go.Proofs.YtgmbpagbiakciafDoor
open Go.RowKit
set_option linter.unusedVariables false

/-- A row of bytes of the call's own. -/
def DOwn (w : World) (base : Nat) (v : Value) (zs : List Int) : Prop := w.ownsRow base 5 1 v zs.length (zs.map (Value.int .u8))
/-- What alone two rows may have changed in. -/
structure OthV (a b : Option Nat) (w w' : World) : Prop where
  os : w'.os = w.os
  tape : w'.tape = w.tape
  output : w'.output = w.output
  size : w.heap.size ≤ w'.heap.size
  block : ∀ g, g < w.heap.size → some g ≠ a → some g ≠ b → w'.heap[g]? = w.heap[g]?
theorem othV_of {a b : Option Nat} {w w1 w2 w3 : World} (hb : Below w.heap.size w w1) (h1 : w1.grownBy w2 a) (h2 : w2.grownBy w3 b) : OthV a b w w3 := by
  have := hb.size; have := h1.size; have := h2.size
  refine ⟨h2.os.trans (h1.os.trans hb.os), h2.tape.trans (h1.tape.trans hb.tape), h2.output.trans (h1.output.trans hb.output), by omega, fun g hg e1 e2 => ?_⟩
  exact (h2.block g (by omega) e2).trans ((h1.block g (by omega) e1).trans (hb.block g hg))
theorem rep_set {α : Type} (zs : List α) (k : Nat) (y : α) (hk : k < zs.length) : (List.replicate k y ++ zs.drop k).set k y = List.replicate (k + 1) y ++ zs.drop (k + 1) := by
  rw [List.set_append_right _ _ (by simp), List.length_replicate, Nat.sub_self, List.drop_eq_getElem_cons hk, List.set_cons_zero, List.replicate_succ', List.append_assoc]
  rfl
theorem rep_at {α : Type} (zs : List α) (k : Nat) (y : α) : (List.replicate k y ++ zs.drop k)[k]? = zs[k]? := by
  rw [List.getElem?_append_right (by simp), List.length_replicate, Nat.sub_self, List.getElem?_drop, Nat.add_zero]
theorem rep_len {α : Type} (zs : List α) (k : Nat) (y : α) (hk : k ≤ zs.length) : (List.replicate k y ++ zs.drop k).length = zs.length := by
  simp; omega
theorem rep_all {α : Type} (zs : List α) (y : α) : List.replicate zs.length y ++ zs.drop zs.length = List.replicate zs.length y := by
  simp
theorem DOwn.put {W : World} {base g n cap : Nat} {L : List Int} (h : DOwn W base (.slice (some ⟨g, 0, none⟩) n cap) L) (k : Nat) (x : Int) : DOwn (W.setCell ⟨g, k, none⟩ (.int .u8 x)) base (.slice (some ⟨g, 0, none⟩) n cap) (L.set k x) := by
  obtain ⟨a', c', hv⟩ := C.own_shape h
  simp only [Value.slice.injEq] at hv
  obtain ⟨_, rfl, _⟩ := hv
  have h1 := (World.ownsRow.stored h k (.int .u8 x)).1
  unfold DOwn
  rw [List.length_set, List.map_set]
  exact h1
theorem DOwn.cells {W : World} {base g n cap k : Nat} {L : List Int} {x : Int} (h : DOwn W base (.slice (some ⟨g, 0, none⟩) n cap) L) (hk : L[k]? = some x) : W.cell? ⟨g, k, none⟩ = some (.int .u8 x) ∧ W.frozen? ⟨g, k, none⟩ = false := by
  obtain ⟨a', c', hv⟩ := C.own_shape h
  simp only [Value.slice.injEq] at hv
  obtain ⟨_, rfl, _⟩ := hv
  have hkl : k < L.length := (List.getElem?_eq_some_iff.mp hk).1
  refine ⟨(World.ownsRow.cellAt h _ (by omega)).trans ?_, World.ownsRow.frozenAt h _⟩
  rw [List.getElem?_map, hk]; rfl

set_option maxRecDepth 100000 in
set_option maxHeartbeats 2000000 in
theorem spoilO_any (r : Rc) (base : Nat) (sa da : Option Addr) (ns nd sc dc : Nat) (l : List (Int × Int)) (zs : List Int) (mark y z : Int) (w : World)
    (hs : C.SOwn w base (.slice sa ns sc) l) (hd : DOwn w base (.slice da nd dc) zs) (hne : ∀ j, (Value.slice sa ns sc).ownBlock = some j → (Value.slice da nd dc).ownBlock ≠ some j)
    (hnl : l.length = ns) (hzl : zs.length = nd) (hnm : ns ≤ 9223372036854775807) (hdm : nd ≤ 9223372036854775807) (hy : IntKind.u8.wrap mark = y) (hz : IntKind.i64.wrap (-1 - mark) = z) :
    Calls Tryd.prog 23 #[.agg (rcC r (.slice sa ns sc) (.slice da nd dc)), .int .i64 mark] w fun e w' => (∃ v, e = .returned v) ∧ C.SOwn w' base (.slice sa ns sc) (List.replicate ns (z, 0)) ∧ DOwn w' base (.slice da nd dc) (List.replicate nd y) ∧ OthV (Value.slice da nd dc).ownBlock (Value.slice sa ns sc).ownBlock w w' := by
  have HB : Hid (Below w.heap.size w (w.alloc (rcO r (.slice sa ns sc) (.slice da nd dc)))) := (Below.refl _ _).alloc (Nat.le_refl _) _
  have HX : Hid ((w.alloc (rcO r (.slice sa ns sc) (.slice da nd dc))).heap[w.heap.size]? = some (rcO r (.slice sa ns sc) (.slice da nd dc))) := heap_new6 w _
  have HD : Hid (DOwn (w.alloc (rcO r (.slice sa ns sc) (.slice da nd dc))) base (.slice da nd dc) zs) := World.ownsRow.alloc hd _
  have HS : Hid (C.SOwn (w.alloc (rcO r (.slice sa ns sc) (.slice da nd dc))) base (.slice sa ns sc) l) := World.ownsRow.alloc hs _
  have HDT : Hid (∀ k, (Value.slice da nd dc).ownBlock = some k → k < w.heap.size) := fun k hk => (World.ownsRow.lt hd k hk).2
  have HST : Hid (∀ k, (Value.slice sa ns sc).ownBlock = some k → k < w.heap.size) := fun k hk => (World.ownsRow.lt hs k hk).2
  have HNE : Hid (∀ j, (Value.slice sa ns sc).ownBlock = some j → (Value.slice da nd dc).ownBlock ≠ some j) := hne
  have HNL : Hid (l.length = ns) := hnl
  have HZL : Hid (zs.length = nd) := hzl
  clear hs hd hne hnl hzl
  go_enter Tryd.func23, Tryd.ntmps23
  go_wp2_with fail
  generalize w.alloc (rcO r (.slice sa ns sc) (.slice da nd dc)) = w1 at *
  go_loopw [4] (fun i wr => ∃ k : Nat, k ≤ nd ∧ i = .int .i64 k ∧ DOwn wr base (.slice da nd dc) (List.replicate k y ++ zs.drop k) ∧ w1.grownBy wr (Value.slice da nd dc).ownBlock) (fun i _ => nd - (intOf i).toNat)
  case atStart => exact ⟨0, Nat.zero_le _, rfl, by simpa using HD.out, World.grownBy.refl _ _⟩
  case round =>
    obtain ⟨k, hk, rfl, hbk, hgr⟩ := hrel
    have HG : Hid (w1.grownBy wr (Value.slice da nd dc).ownBlock) := hgr
    have hx : wr.heap[w.heap.size]? = some (rcO r (.slice sa ns sc) (.slice da nd dc)) := (hgr.block _ (Array.getElem?_eq_some_iff.mp HX.out).1 (fun e => by have := HDT.out _ e.symm; omega)).trans HX.out
    obtain ⟨_, _, _, _, _, _, _, _, _, c9, c10⟩ := rc_cells hx
    clear hgr
    by_cases hlt : k < nd
    · have hlt' : (k : Int) < (nd : Int) := by omega
      have hk2 : k < zs.length := by rw [HZL.out]; omega
      obtain ⟨gd, cap, hv⟩ := C.own_some hbk (by rw [rep_len _ _ _ (by omega)]; omega)
      simp only [Value.slice.injEq] at hv
      obtain ⟨rfl, _, rfl⟩ := hv
      obtain ⟨p, hp⟩ := C.get_some zs k hk2
      obtain ⟨q1, q2⟩ := hbk.cells (k := k) ((rep_at zs k y).trans hp)
      have hst := hbk.put k y
      rw [rep_set zs k y hk2] at hst
      have HS2 : Hid (DOwn (wr.setCell ⟨gd, k, none⟩ (.int .u8 y)) base (.slice (some ⟨gd, 0, none⟩) nd dc) (List.replicate (k + 1) y ++ zs.drop (k + 1))) := hst
      have HG2 : Hid (w1.grownBy (wr.setCell ⟨gd, k, none⟩ (.int .u8 y)) (Value.slice (some ⟨gd, 0, none⟩) nd dc).ownBlock) := C.grown_trans HG.out (grown_set _ _ _ _)
      clear hst hbk hx HG hp
      go_wp2
      go_roundw
      case rel => exact ⟨k + 1, by omega, by go_num, HS2.out, HG2.out⟩
      case measure => simp [intOf]; omega
    · obtain rfl : k = nd := by omega
      have HDE : Hid (DOwn wr base (.slice da k dc) (List.replicate k y)) := by
        unfold Hid
        have e := HZL.out
        subst e
        rw [rep_all] at hbk
        exact hbk
      have HSE : Hid (C.SOwn wr base (.slice sa ns sc) l) := own_keep6 HS.out HG.out (fun j hj => HNE.out j hj)
      have HXE : Hid (wr.heap[w.heap.size]? = some (rcO r (.slice sa ns sc) (.slice da k dc))) := hx
      clear hbk hx HS HX HD
      go_wp2_with fail
      obtain ⟨w3, h3⟩ : ∃ x, x = wr := ⟨_, rfl⟩
      subst h3
      clear c9 c10
      go_loopw [5] (fun i wr => ∃ m : Nat, m ≤ ns ∧ i = .int .i64 m ∧ C.SOwn wr base (.slice sa ns sc) (List.replicate m ((z, 0) : Int × Int) ++ l.drop m) ∧ w3.grownBy wr (Value.slice sa ns sc).ownBlock) (fun i _ => ns - (intOf i).toNat)
      case atStart => exact ⟨0, Nat.zero_le _, rfl, by simpa using HSE.out, World.grownBy.refl _ _⟩
      case round =>
        obtain ⟨m, hm, rfl, hso, hgr⟩ := hrel
        have HG3 : Hid (w3.grownBy wr (Value.slice sa ns sc).ownBlock) := hgr
        have hx : wr.heap[w.heap.size]? = some (rcO r (.slice sa ns sc) (.slice da k dc)) := (hgr.block _ (Array.getElem?_eq_some_iff.mp HXE.out).1 (fun e => by have := HST.out _ e.symm; omega)).trans HXE.out
        obtain ⟨_, _, _, _, _, _, _, _, _, c9, c10⟩ := rc_cells hx
        clear hgr hx
        by_cases hmt : m < ns
        · have hmt' : (m : Int) < (ns : Int) := by omega
          have hm2 : m < l.length := by rw [HNL.out]; omega
          obtain ⟨gs, cap, hv⟩ := C.own_some hso (by rw [rep_len _ _ _ (by omega)]; omega)
          simp only [Value.slice.injEq] at hv
          obtain ⟨rfl, _, rfl⟩ := hv
          obtain ⟨p, hp⟩ := C.get_some l m hm2
          obtain ⟨q1, q2, q3, q4⟩ := hso.cells ((rep_at l m (z, 0)).trans hp)
          have h2 := hso.put (k := m) z 0
          rw [rep_set l m (z, 0) hm2] at h2
          have HS2 : Hid (C.SOwn ((wr.setCell ⟨gs, m * 2, none⟩ (.int .i64 z)).setCell ⟨gs, m * 2 + 1, none⟩ (.int .i64 0)) base (.slice (some ⟨gs, 0, none⟩) ns sc) (List.replicate (m + 1) ((z, 0) : Int × Int) ++ l.drop (m + 1))) := h2
          have HG4 : Hid (w3.grownBy ((wr.setCell ⟨gs, m * 2, none⟩ (.int .i64 z)).setCell ⟨gs, m * 2 + 1, none⟩ (.int .i64 0)) (Value.slice (some ⟨gs, 0, none⟩) ns sc).ownBlock) := C.grown_trans HG3.out (C.grown_put _ _ _ _ _)
          clear h2 hp hso HG3
          go_wp2
          go_roundw
          case rel => exact ⟨m + 1, by omega, by go_num, HS2.out, HG4.out⟩
          case measure => simp [intOf]; omega
        · obtain rfl : m = ns := by omega
          have HSF : Hid (C.SOwn wr base (.slice sa m sc) (List.replicate m (z, 0))) := by
            unfold Hid
            have e := HNL.out
            subst e
            rw [rep_all] at hso
            exact hso
          have HDF : Hid (DOwn wr base (.slice da k dc) (List.replicate k y)) := own_keep6 HDE.out HG3.out (fun j hj e => HNE.out j e hj)
          have HOT : Hid (OthV (Value.slice da k dc).ownBlock (Value.slice sa m sc).ownBlock w wr) := othV_of HB.out HG.out HG3.out
          clear hso HSE HDE
          go_wp2
          go_end0
          exact ⟨⟨_, rfl⟩, HSF.out, HDF.out, HOT.out⟩
end Go.Proofs.YtgmbpagbiakciafDoor

namespace Go.Proofs.YtgmbpagbiakciafDoor
open Go.RowKit
set_option linter.unusedVariables false

/-- A row of the call's own: its elements' type and size, its slice, how many, its cells. -/
structure Rwo where
  e : TypeId
  sz : Nat
  v : Value
  n : Nat
  xs : List Value
/-- Rows of the call's own, each in a block that is no other's. -/
structure Fam (S : Nat → Prop) (H : Nat) (w : World) (base N : Nat) (F : Nat → Rwo) : Prop where
  own : ∀ p, p < N → w.ownsRow base (F p).e (F p).sz (F p).v (F p).n (F p).xs
  sep : ∀ p q k, p < N → q < N → (F p).v.ownBlock = some k → (F q).v.ownBlock = some k → p = q
  new : ∀ p k, p < N → (F p).v.ownBlock = some k → S k ∨ H ≤ k
/-- What alone the blocks of S may have changed in. -/
structure Kps (S : Nat → Prop) (w w' : World) : Prop where
  os : w'.os = w.os
  tape : w'.tape = w.tape
  output : w'.output = w.output
  size : w.heap.size ≤ w'.heap.size
  block : ∀ g, g < w.heap.size → ¬ S g → w'.heap[g]? = w.heap[g]?
theorem Kps.refl (S : Nat → Prop) (w : World) : Kps S w w := ⟨rfl, rfl, rfl, Nat.le_refl _, fun _ _ _ => rfl⟩
theorem Kps.after {S : Nat → Prop} {w w1 w2 : World} (h : Kps S w w1) (hb : Below w1.heap.size w1 w2) : Kps S w w2 := by
  have := h.size
  exact ⟨hb.os.trans h.os, hb.tape.trans h.tape, hb.output.trans h.output, Nat.le_trans h.size hb.size, fun g hg hS => (hb.block g (by omega)).trans (h.block g hg hS)⟩
def upF (F : Nat → Rwo) (p : Nat) (x : Rwo) : Nat → Rwo := fun q => if q = p then x else F q
theorem upF_same (F : Nat → Rwo) (p : Nat) (x : Rwo) : upF F p x p = x := if_pos rfl
theorem upF_other (F : Nat → Rwo) {p q : Nat} (x : Rwo) (h : q ≠ p) : upF F p x q = F q := if_neg h
theorem Fam.step {S : Nat → Prop} {H : Nat} {w w' : World} {base N p : Nat} {F : Nat → Rwo} (h : Fam S H w base N F) (hH : H ≤ w.heap.size) (hp : p < N) (x : Rwo) (hg : w.grownBy w' (F p).v.ownBlock) (ho : w'.ownsRow base x.e x.sz x.v x.n x.xs) (hf : ∀ j, x.v.ownBlock = some j → (F p).v.ownBlock = some j ∨ w.heap.size ≤ j) : Fam S H w' base N (upF F p x) := by
  have hlt : ∀ q k, q < N → (F q).v.ownBlock = some k → k < w.heap.size := fun q k hq hk => ((h.own q hq).lt k hk).2
  refine ⟨fun q hq => ?_, fun q q' k hq hq' h1 h2 => ?_, fun q k hq hk => ?_⟩
  rotate_left 2
  · by_cases e : q = p
    · subst e
      rw [upF_same] at hk
      rcases hf k hk with h3 | h3
      · exact h.new q k hq h3
      · exact .inr (Nat.le_trans hH h3)
    · rw [upF_other _ _ e] at hk
      exact h.new q k hq hk
  · by_cases e : q = p
    · subst e; rw [upF_same]; exact ho
    · rw [upF_other _ _ e]
      exact own_keep6 (h.own q hq) hg (fun k hk e2 => e (h.sep q p k hq hp hk e2))
  · by_cases e : q = p
    · by_cases e' : q' = p
      · exact e.trans e'.symm
      · subst e
        rw [upF_same] at h1
        rw [upF_other _ _ e'] at h2
        rcases hf k h1 with h3 | h3
        · exact h.sep _ _ k hq hq' h3 h2
        · have := hlt q' k hq' h2; omega
    · by_cases e' : q' = p
      · subst e'
        rw [upF_same] at h2
        rw [upF_other _ _ e] at h1
        rcases hf k h2 with h3 | h3
        · exact h.sep _ _ k hq hq' h1 h3
        · have := hlt q k hq h1; omega
      · rw [upF_other _ _ e] at h1
        rw [upF_other _ _ e'] at h2
        exact h.sep _ _ k hq hq' h1 h2
theorem Fam.keep {S : Nat → Prop} {H : Nat} {w w' : World} {base N : Nat} {F : Nat → Rwo} (h : Fam S H w base N F) (hb : Below w.heap.size w w') : Fam S H w' base N F :=
  ⟨fun p hp => own_below6 (h.own p hp) hb, h.sep, h.new⟩
theorem Fam.two {S : Nat → Prop} {H : Nat} {w w' : World} {base N p q : Nat} {F : Nat → Rwo} (h : Fam S H w base N F) (hp : p < N) (hq : q < N) (hpq : p ≠ q) (x y : Rwo) (ho : OthV (F p).v.ownBlock (F q).v.ownBlock w w') (hx : w'.ownsRow base x.e x.sz x.v x.n x.xs) (hy : w'.ownsRow base y.e y.sz y.v y.n y.xs) (ex : x.v = (F p).v) (ey : y.v = (F q).v) : Fam S H w' base N (upF (upF F p x) q y) := by
  have hv : ∀ i, (upF (upF F p x) q y i).v = (F i).v := fun i => by
    by_cases e : i = q
    · subst e; rw [upF_same, ey]
    · rw [upF_other _ _ e]
      by_cases e' : i = p
      · subst e'; rw [upF_same, ex]
      · rw [upF_other _ _ e']
  refine ⟨fun i hi => ?_, fun i j k hi hj h1 h2 => ?_, fun i k hi hk => h.new i k hi (by rw [hv] at hk; exact hk)⟩
  · by_cases e : i = q
    · subst e; rw [upF_same]; exact hy
    · rw [upF_other _ _ e]
      by_cases e' : i = p
      · subst e'; rw [upF_same]; exact hx
      · rw [upF_other _ _ e']
        have h0 := h.own i hi
        have hl := h0.lt
        have hs1 := h.sep i p
        have hs2 := h.sep i q
        generalize F i = R at h0 hl hs1 hs2
        obtain ⟨re, rs, rv, rn, rx⟩ := R
        simp only at h0 hl hs1 hs2 ⊢
        obtain ⟨hl1, h3 | ⟨g, cap, cur, rfl, hb, hh, r⟩⟩ := h0
        · exact ⟨hl1, .inl h3⟩
        · refine ⟨hl1, .inr ⟨g, cap, cur, rfl, hb, ?_, r⟩⟩
          rw [ho.block g (hl g rfl).2 (fun e3 => e' (hs1 g hi hp rfl e3.symm)) (fun e3 => e (hs2 g hi hq rfl e3.symm))]; exact hh
  · rw [hv] at h1 h2
    exact h.sep _ _ k hi hj h1 h2
theorem Fam.below {S : Nat → Prop} {w0 w w' : World} {base N p : Nat} {F : Nat → Rwo} (h : Fam S w0.heap.size w base N F) (hp : p < N) (hg : w.grownBy w' (F p).v.ownBlock) (hb : Kps S w0 w) : Kps S w0 w' := by
  have := hb.size
  refine ⟨hg.os.trans hb.os, hg.tape.trans hb.tape, hg.output.trans hb.output, Nat.le_trans hb.size hg.size, fun g hlt hS => (hg.block g (by omega) (fun e => ?_)).trans (hb.block g hlt hS)⟩
  rcases h.new p g hp e.symm with h1 | h1
  · exact hS h1
  · omega
theorem Fam.below2 {S : Nat → Prop} {w0 w w' : World} {base N p q : Nat} {F : Nat → Rwo} (h : Fam S w0.heap.size w base N F) (hp : p < N) (hq : q < N) (ho : OthV (F p).v.ownBlock (F q).v.ownBlock w w') (hb : Kps S w0 w) : Kps S w0 w' := by
  have := hb.size
  refine ⟨ho.os.trans hb.os, ho.tape.trans hb.tape, ho.output.trans hb.output, Nat.le_trans hb.size ho.size, fun g hlt hS => (ho.block g (by omega) (fun e => ?_) (fun e => ?_)).trans (hb.block g hlt hS)⟩
  · rcases h.new p g hp e.symm with h1 | h1
    · exact hS h1
    · omega
  · rcases h.new q g hq e.symm with h1 | h1
    · exact hS h1
    · omega

/-- A record in memory of its own. -/
structure Ro where
  r : Rc
  sa : Option Addr
  da : Option Addr
  sc : Nat
  dc : Nat
abbrev Ro.sv (o : Ro) : Value := .slice o.sa o.r.spans.length o.sc
abbrev Ro.dv (o : Ro) : Value := .slice o.da o.r.data.length o.dc
def dRow (v : Value) (zs : List Int) : Rwo := ⟨5, 1, v, zs.length, zs.map (Value.int .u8)⟩
def sRow (v : Value) (l : List (Int × Int)) : Rwo := ⟨62, 2, v, l.length, l.flatMap C.spc⟩
/-- What is written over a record's lists. -/
def yM (i : Nat) : Int := IntKind.u8.wrap (i : Int)
def zM (i : Nat) : Int := IntKind.i64.wrap (-1 - (i : Int))

/-- Some of the records are written over. -/
structure Spd (S : Nat → Prop) (w0 w : World) (base R : Nat) (X : Rwo) (os : Nat → Ro) (n : Nat) (F : Nat → Rwo) : Prop where
  fam : Fam S w0.heap.size w base (3 + 2 * R) F
  f0 : F 0 = ⟨39, 1, .slice none 0 0, 0, []⟩
  f1 : F 1 = ⟨26, 1, .slice none 0 0, 0, []⟩
  f2 : F 2 = X
  done : ∀ i, i < n → F (3 + 2 * i) = dRow (os i).dv (List.replicate (os i).r.data.length (yM i)) ∧ F (4 + 2 * i) = sRow (os i).sv (List.replicate (os i).r.spans.length (zM i, 0))
  left : ∀ i, n ≤ i → i < R → F (3 + 2 * i) = dRow (os i).dv (os i).r.data ∧ F (4 + 2 * i) = sRow (os i).sv (os i).r.spans
  blw : Kps S w0 w
theorem Spd.step {S : Nat → Prop} {w0 w w' : World} {base R n : Nat} {X : Rwo} {os : Nat → Ro} {F : Nat → Rwo} (h : Spd S w0 w base R X os n F) (hn : n < R) (hB : base ≤ w.heap.size)
    (hs : C.SOwn w' base (os n).sv (List.replicate (os n).r.spans.length (zM n, 0))) (hd : DOwn w' base (os n).dv (List.replicate (os n).r.data.length (yM n))) (ho : OthV (os n).dv.ownBlock (os n).sv.ownBlock w w') :
    ∃ F', Spd S w0 w' base R X os (n + 1) F' := by
  obtain ⟨l1, l2⟩ := h.left n (Nat.le_refl _) hn
  have ho' : OthV (F (3 + 2 * n)).v.ownBlock (F (4 + 2 * n)).v.ownBlock w w' := by rw [l1, l2]; exact ho
  refine ⟨upF (upF F (3 + 2 * n) (dRow (os n).dv (List.replicate (os n).r.data.length (yM n)))) (4 + 2 * n) (sRow (os n).sv (List.replicate (os n).r.spans.length (zM n, 0))), h.fam.two (by omega) (by omega) (by omega) _ _ ho' hd hs (by rw [l1]; rfl) (by rw [l2]; rfl), ?_, ?_, ?_, fun i hi => ?_, fun i hi hi2 => ?_, h.fam.below2 (by omega) (by omega) ho' h.blw⟩
  · rw [upF_other _ _ (by omega), upF_other _ _ (by omega)]; exact h.f0
  · rw [upF_other _ _ (by omega), upF_other _ _ (by omega)]; exact h.f1
  · rw [upF_other _ _ (by omega), upF_other _ _ (by omega)]; exact h.f2
  · by_cases e : i = n
    · subst e
      exact ⟨by rw [upF_other _ _ (by omega), upF_same], by rw [upF_same]⟩
    · rw [upF_other _ _ (by omega), upF_other _ _ (by omega), upF_other _ _ (by omega), upF_other _ _ (by omega)]
      exact h.done i (by omega)
  · rw [upF_other _ _ (by omega), upF_other _ _ (by omega), upF_other _ _ (by omega), upF_other _ _ (by omega)]
    exact h.left i (by omega) hi2

/-- Some of the records' lists have grown, and lie in two rows. -/
structure Grd (S : Nat → Prop) (w0 w : World) (base R : Nat) (X : Rwo) (os : Nat → Ro) (n : Nat) (vd vs : Value) (dl sl : List Value) (F : Nat → Rwo) : Prop where
  fam : Fam S w0.heap.size w base (3 + 2 * R) F
  f0 : F 0 = ⟨39, 1, vd, n, dl⟩
  f1 : F 1 = ⟨26, 1, vs, n, sl⟩
  f2 : F 2 = X
  done : ∀ i, i < n → ∃ d s, dl[i]? = some d ∧ sl[i]? = some s ∧ F (3 + 2 * i) = dRow d (List.replicate ((os i).r.data.length + 9) (yM i)) ∧ F (4 + 2 * i) = sRow s (List.replicate ((os i).r.spans.length + 9) (zM i, 0))
  left : ∀ i, n ≤ i → i < R → F (3 + 2 * i) = dRow (os i).dv (List.replicate (os i).r.data.length (yM i)) ∧ F (4 + 2 * i) = sRow (os i).sv (List.replicate (os i).r.spans.length (zM i, 0))
  blw : Kps S w0 w
theorem Spd.grd {S : Nat → Prop} {w0 w : World} {base R : Nat} {X : Rwo} {os : Nat → Ro} {F : Nat → Rwo} (h : Spd S w0 w base R X os R F) : Grd S w0 w base R X os 0 (.slice none 0 0) (.slice none 0 0) [] [] F :=
  ⟨h.fam, h.f0, h.f1, h.f2, fun i hi => by omega, fun i _ hi => h.done i hi, h.blw⟩
/-- One record's lists are growing. -/
structure Gri (S : Nat → Prop) (w0 w : World) (base R : Nat) (X : Rwo) (os : Nat → Ro) (n k : Nat) (vd vs d s : Value) (dl sl : List Value) (F : Nat → Rwo) : Prop where
  fam : Fam S w0.heap.size w base (3 + 2 * R) F
  f0 : F 0 = ⟨39, 1, vd, n, dl⟩
  f1 : F 1 = ⟨26, 1, vs, n, sl⟩
  f2 : F 2 = X
  done : ∀ i, i < n → ∃ d s, dl[i]? = some d ∧ sl[i]? = some s ∧ F (3 + 2 * i) = dRow d (List.replicate ((os i).r.data.length + 9) (yM i)) ∧ F (4 + 2 * i) = sRow s (List.replicate ((os i).r.spans.length + 9) (zM i, 0))
  here : F (3 + 2 * n) = dRow d (List.replicate ((os n).r.data.length + k) (yM n)) ∧ F (4 + 2 * n) = sRow s (List.replicate ((os n).r.spans.length + k) (zM n, 0))
  left : ∀ i, n < i → i < R → F (3 + 2 * i) = dRow (os i).dv (List.replicate (os i).r.data.length (yM i)) ∧ F (4 + 2 * i) = sRow (os i).sv (List.replicate (os i).r.spans.length (zM i, 0))
  blw : Kps S w0 w
theorem Grd.gri {S : Nat → Prop} {w0 w : World} {base R n : Nat} {X : Rwo} {os : Nat → Ro} {vd vs : Value} {dl sl : List Value} {F : Nat → Rwo} (h : Grd S w0 w base R X os n vd vs dl sl F) (hn : n < R) : Gri S w0 w base R X os n 0 vd vs (os n).dv (os n).sv dl sl F :=
  ⟨h.fam, h.f0, h.f1, h.f2, h.done, h.left n (Nat.le_refl _) hn, fun i hi hi2 => h.left i (by omega) hi2, h.blw⟩
theorem Gri.keep {S : Nat → Prop} {w0 w w' : World} {base R n k : Nat} {X : Rwo} {os : Nat → Ro} {vd vs d s : Value} {dl sl : List Value} {F : Nat → Rwo} (h : Gri S w0 w base R X os n k vd vs d s dl sl F) (hb : Below w.heap.size w w') (hB : base ≤ w.heap.size) : Gri S w0 w' base R X os n k vd vs d s dl sl F :=
  ⟨h.fam.keep hb, h.f0, h.f1, h.f2, h.done, h.here, h.left, h.blw.after hb⟩
theorem Gri.dat {S : Nat → Prop} {w0 w : World} {base R n k : Nat} {X : Rwo} {os : Nat → Ro} {vd vs d s : Value} {dl sl : List Value} {F : Nat → Rwo} (h : Gri S w0 w base R X os n k vd vs d s dl sl F) (hn : n < R) : w.ownsRow base 5 1 d ((os n).r.data.length + k) ((List.replicate ((os n).r.data.length + k) (yM n)).map (Value.int .u8)) := by
  have := h.fam.own (3 + 2 * n) (by omega)
  rw [h.here.1] at this
  simpa [dRow] using this
theorem Gri.spn {S : Nat → Prop} {w0 w : World} {base R n k : Nat} {X : Rwo} {os : Nat → Ro} {vd vs d s : Value} {dl sl : List Value} {F : Nat → Rwo} (h : Gri S w0 w base R X os n k vd vs d s dl sl F) (hn : n < R) : w.ownsRow base 62 2 s ((os n).r.spans.length + k) ((List.replicate ((os n).r.spans.length + k) (zM n, (0 : Int))).flatMap C.spc) := by
  have := h.fam.own (4 + 2 * n) (by omega)
  rw [h.here.2] at this
  simpa [sRow] using this
/-- Both lists grew by one. -/
theorem Gri.step {S : Nat → Prop} {w0 w w1 w2 w3 : World} {base R n k : Nat} {X : Rwo} {os : Nat → Ro} {vd vs d s d' s' : Value} {dl sl : List Value} {F : Nat → Rwo} (h : Gri S w0 w base R X os n k vd vs d s dl sl F) (hn : n < R) (hB : base ≤ w.heap.size)
    (o1 : w1.ownsRow base 5 1 d' ((os n).r.data.length + k + 1) ((List.replicate ((os n).r.data.length + k) (yM n)).map (Value.int .u8) ++ [Value.int .u8 (yM n)])) (g1 : w.grownBy w1 d.ownBlock) (t1 : d'.ownBlock = d.ownBlock ∨ d'.ownBlock = some w.heap.size)
    (hb : Below w1.heap.size w1 w2)
    (o2 : w3.ownsRow base 62 2 s' ((os n).r.spans.length + k + 1) ((List.replicate ((os n).r.spans.length + k) (zM n, (0 : Int))).flatMap C.spc ++ [Value.int .i64 (zM n), Value.int .i64 0])) (g2 : w2.grownBy w3 s.ownBlock) (t2 : s'.ownBlock = s.ownBlock ∨ s'.ownBlock = some w2.heap.size) :
    ∃ F', Gri S w0 w3 base R X os n (k + 1) vd vs d' s' dl sl F' := by
  have hs1 := g1.size
  have hs2 := hb.size
  have e1 : (F (3 + 2 * n)).v = d := by rw [h.here.1]; rfl
  have e2 : (F (4 + 2 * n)).v = s := by rw [h.here.2]; rfl
  have q1 : dRow d' (List.replicate ((os n).r.data.length + (k + 1)) (yM n)) = ⟨5, 1, d', (os n).r.data.length + k + 1, (List.replicate ((os n).r.data.length + k) (yM n)).map (Value.int .u8) ++ [Value.int .u8 (yM n)]⟩ := by
    unfold dRow; rw [← Nat.add_assoc, List.replicate_succ']; simp
  have q2 : sRow s' (List.replicate ((os n).r.spans.length + (k + 1)) (zM n, 0)) = ⟨62, 2, s', (os n).r.spans.length + k + 1, (List.replicate ((os n).r.spans.length + k) (zM n, (0 : Int))).flatMap C.spc ++ [Value.int .i64 (zM n), Value.int .i64 0]⟩ := by
    unfold sRow; rw [← Nat.add_assoc, List.replicate_succ']; simp [C.spc]
  have F1 := h.fam.step h.blw.size (p := 3 + 2 * n) (by omega) (dRow d' (List.replicate ((os n).r.data.length + (k + 1)) (yM n))) (by rw [e1]; exact g1) (by rw [q1]; exact o1) (fun j hj => by
    rw [q1] at hj; rw [e1]
    rcases t1 with t | t
    · exact .inl (t ▸ hj)
    · right; rw [show d'.ownBlock = some j from hj] at t; simp at t; omega)
  have B1 := h.fam.below (p := 3 + 2 * n) (by omega) (by rw [e1]; exact g1) h.blw
  have F2 := F1.keep hb
  have e3 : (upF F (3 + 2 * n) (dRow d' (List.replicate ((os n).r.data.length + (k + 1)) (yM n))) (4 + 2 * n)).v = s := by rw [upF_other _ _ (by omega)]; exact e2
  have F3 := F2.step (B1.after hb).size (p := 4 + 2 * n) (by omega) (sRow s' (List.replicate ((os n).r.spans.length + (k + 1)) (zM n, 0))) (by rw [e3]; exact g2) (by rw [q2]; exact o2) (fun j hj => by
    rw [q2] at hj; rw [e3]
    rcases t2 with t | t
    · exact .inl (t ▸ hj)
    · right; rw [show s'.ownBlock = some j from hj] at t; simp at t; omega)
  have B3 := F2.below (p := 4 + 2 * n) (by omega) (by rw [e3]; exact g2) (B1.after hb)
  refine ⟨_, F3, ?_, ?_, ?_, fun i hi => ?_, ⟨?_, ?_⟩, fun i hi hi2 => ?_, B3⟩
  · rw [upF_other _ _ (by omega), upF_other _ _ (by omega)]; exact h.f0
  · rw [upF_other _ _ (by omega), upF_other _ _ (by omega)]; exact h.f1
  · rw [upF_other _ _ (by omega), upF_other _ _ (by omega)]; exact h.f2
  · rw [upF_other _ _ (by omega), upF_other _ _ (by omega), upF_other _ _ (by omega), upF_other _ _ (by omega)]; exact h.done i hi
  · rw [upF_other _ _ (by omega), upF_same]
  · rw [upF_same]
  · rw [upF_other _ _ (by omega), upF_other _ _ (by omega), upF_other _ _ (by omega), upF_other _ _ (by omega)]; exact h.left i hi hi2
/-- Both are laid into their rows. -/
theorem Gri.lay {S : Nat → Prop} {w0 w w1 w2 w3 : World} {base R n : Nat} {X : Rwo} {os : Nat → Ro} {vd vs d s vd' vs' : Value} {dl sl : List Value} {F : Nat → Rwo} (h : Gri S w0 w base R X os n 9 vd vs d s dl sl F) (hn : n < R) (hB : base ≤ w.heap.size)
    (o1 : w1.ownsRow base 39 1 vd' (n + 1) (dl ++ [d])) (g1 : w.grownBy w1 vd.ownBlock) (t1 : vd'.ownBlock = vd.ownBlock ∨ vd'.ownBlock = some w.heap.size)
    (hb : Below w1.heap.size w1 w2)
    (o2 : w3.ownsRow base 26 1 vs' (n + 1) (sl ++ [s])) (g2 : w2.grownBy w3 vs.ownBlock) (t2 : vs'.ownBlock = vs.ownBlock ∨ vs'.ownBlock = some w2.heap.size) :
    ∃ F', Grd S w0 w3 base R X os (n + 1) vd' vs' (dl ++ [d]) (sl ++ [s]) F' := by
  have hs1 := g1.size
  have hs2 := hb.size
  have e1 : (F 0).v = vd := by rw [h.f0]
  have e2 : (F 1).v = vs := by rw [h.f1]
  have hl1 : dl.length = n := by have := (h.fam.own 0 (by omega)).1; rw [h.f0] at this; simpa using this
  have hl2 : sl.length = n := by have := (h.fam.own 1 (by omega)).1; rw [h.f1] at this; simpa using this
  have F1 := h.fam.step h.blw.size (p := 0) (by omega) ⟨39, 1, vd', n + 1, dl ++ [d]⟩ (by rw [e1]; exact g1) o1 (fun j hj => by
    rw [e1]
    rcases t1 with t | t
    · exact .inl (t ▸ hj)
    · right; rw [show vd'.ownBlock = some j from hj] at t; simp at t; omega)
  have B1 := h.fam.below (p := 0) (by omega) (by rw [e1]; exact g1) h.blw
  have F2 := F1.keep hb
  have e3 : (upF F 0 ⟨39, 1, vd', n + 1, dl ++ [d]⟩ 1).v = vs := by rw [upF_other _ _ (by omega)]; exact e2
  have F3 := F2.step (B1.after hb).size (p := 1) (by omega) ⟨26, 1, vs', n + 1, sl ++ [s]⟩ (by rw [e3]; exact g2) o2 (fun j hj => by
    rw [e3]
    rcases t2 with t | t
    · exact .inl (t ▸ hj)
    · right; rw [show vs'.ownBlock = some j from hj] at t; simp at t; omega)
  have B3 := F2.below (p := 1) (by omega) (by rw [e3]; exact g2) (B1.after hb)
  refine ⟨_, F3, ?_, ?_, ?_, fun i hi => ?_, fun i hi hi2 => ?_, B3⟩
  · rw [upF_other _ _ (by omega), upF_same]
  · rw [upF_same]
  · rw [upF_other _ _ (by omega), upF_other _ _ (by omega)]; exact h.f2
  · rw [upF_other _ _ (by omega), upF_other _ _ (by omega), upF_other _ _ (by omega), upF_other _ _ (by omega)]
    by_cases e : i = n
    · subst e
      exact ⟨d, s, by rw [List.getElem?_append_right (by omega), hl1]; simp, by rw [List.getElem?_append_right (by omega), hl2]; simp, h.here⟩
    · obtain ⟨a, b, h1, h2, h3⟩ := h.done i (by omega)
      exact ⟨a, b, by rw [List.getElem?_append_left (by omega)]; exact h1, by rw [List.getElem?_append_left (by omega)]; exact h2, h3⟩
  · rw [upF_other _ _ (by omega), upF_other _ _ (by omega), upF_other _ _ (by omega), upF_other _ _ (by omega)]; exact h.left i (by omega) hi2
end Go.Proofs.YtgmbpagbiakciafDoor

namespace Go.Proofs.YtgmbpagbiakciafDoor
open Go.RowKit
set_option linter.unusedVariables false

theorem Tryd.info_bytes6 : (Tryd.prog.info? 39).map (fun i => (i.zero, i.size, i.bytes)) = some (some (.slice none 0 0), 1, 24) := by kernel_rfl
theorem Tryd.info_spans6 : (Tryd.prog.info? 26).map (fun i => (i.zero, i.size, i.bytes)) = some (some (.slice none 0 0), 1, 24) := by kernel_rfl

theorem Gri.sep {S : Nat → Prop} {w0 w : World} {base R n k : Nat} {X : Rwo} {os : Nat → Ro} {vd vs d s : Value} {dl sl : List Value} {F : Nat → Rwo} (h : Gri S w0 w base R X os n k vd vs d s dl sl F) (hn : n < R) : ∀ j, s.ownBlock = some j → d.ownBlock ≠ some j := fun j h1 h2 => by
  have := h.fam.sep (4 + 2 * n) (3 + 2 * n) j (by omega) (by omega) (by rw [h.here.2]; exact h1) (by rw [h.here.1]; exact h2)
  omega
theorem Gri.sep2 {S : Nat → Prop} {w0 w : World} {base R n k : Nat} {X : Rwo} {os : Nat → Ro} {vd vs d s : Value} {dl sl : List Value} {F : Nat → Rwo} (h : Gri S w0 w base R X os n k vd vs d s dl sl F) : ∀ j, vs.ownBlock = some j → vd.ownBlock ≠ some j := fun j h1 h2 => by
  have := h.fam.sep 1 0 j (by omega) (by omega) (by rw [h.f1]; exact h1) (by rw [h.f0]; exact h2)
  omega
theorem Gri.rows {S : Nat → Prop} {w0 w : World} {base R n k : Nat} {X : Rwo} {os : Nat → Ro} {vd vs d s : Value} {dl sl : List Value} {F : Nat → Rwo} (h : Gri S w0 w base R X os n k vd vs d s dl sl F) : w.ownsRow base 39 1 vd n dl ∧ w.ownsRow base 26 1 vs n sl := by
  have h0 := h.fam.own 0 (by omega)
  have h1 := h.fam.own 1 (by omega)
  rw [h.f0] at h0; rw [h.f1] at h1
  exact ⟨h0, h1⟩
/-- Where the list of records lies. -/
theorem list_cells {w : World} {base R rc : Nat} {ra : Option Addr} {os : Nat → Ro} {cs : List Value} (h : w.ownsRow base 41 11 (.slice ra R rc) R cs) (hc : ∀ i, i < R → ∀ j u, (rcC (os i).r (os i).sv (os i).dv)[j]? = some u → cs[i * 11 + j]? = some u) (n : Nat) (hn : n < R) :
    ∃ g, ra = some ⟨g, 0, none⟩ ∧ ∀ j u, (rcC (os n).r (os n).sv (os n).dv)[j]? = some u → w.cell? ⟨g, n * 11 + j, none⟩ = some u := by
  obtain ⟨g, cap, hv⟩ := C.own_some h (by omega)
  simp only [Value.slice.injEq] at hv
  obtain ⟨rfl, _, rfl⟩ := hv
  refine ⟨g, rfl, fun j u hj => ?_⟩
  have hj2 : j < 11 := (Array.getElem?_eq_some_iff.mp hj).1
  rw [h.cellAt _ (by omega)]
  exact hc n hn j u hj

/-- What the two rows tell at the end. -/
theorem Grd.read {S : Nat → Prop} {w0 w : World} {base R : Nat} {X : Rwo} {os : Nat → Ro} {vd vs : Value} {dl sl : List Value} {F : Nat → Rwo} (h : Grd S w0 w base R X os R vd vs dl sl F) (i : Nat) (hi : i < R) :
    ∃ gD cD gS cS g1 l1 g2 l2, vd = .slice (some ⟨gD, 0, none⟩) R cD ∧ vs = .slice (some ⟨gS, 0, none⟩) R cS ∧ w.cell? ⟨gD, i, none⟩ = some (.slice (some ⟨g1, 0, none⟩) ((os i).r.data.length + 9) l1) ∧ w.cell? ⟨gS, i, none⟩ = some (.slice (some ⟨g2, 0, none⟩) ((os i).r.spans.length + 9) l2) ∧ (∀ k, k < (os i).r.data.length + 9 → w.cell? ⟨g1, k, none⟩ = some (.int .u8 (yM i))) ∧ (∀ k, k < (os i).r.spans.length + 9 → w.cell? ⟨g2, k * 2, none⟩ = some (.int .i64 (zM i))) := by
  have h0 := h.fam.own 0 (by omega)
  have h1 := h.fam.own 1 (by omega)
  rw [h.f0] at h0; rw [h.f1] at h1
  simp only at h0 h1
  obtain ⟨d, s, q1, q2, q3, q4⟩ := h.done i hi
  have h2 := h.fam.own (3 + 2 * i) (by omega)
  have h3 := h.fam.own (4 + 2 * i) (by omega)
  rw [q3] at h2; rw [q4] at h3
  have h2' : DOwn w base d (List.replicate ((os i).r.data.length + 9) (yM i)) := h2
  have h3' : C.SOwn w base s (List.replicate ((os i).r.spans.length + 9) (zM i, 0)) := h3
  obtain ⟨gD, cD, rfl⟩ := C.own_some h0 (by omega)
  obtain ⟨gS, cS, rfl⟩ := C.own_some h1 (by omega)
  obtain ⟨g1, l1, hd⟩ := C.own_some h2' (by simp)
  obtain ⟨g2, l2, hs⟩ := C.own_some h3' (by simp)
  rw [List.length_replicate] at hd hs
  subst hd hs
  refine ⟨gD, cD, gS, cS, g1, l1, g2, l2, rfl, rfl, (h0.cellAt i (by omega)).trans q1, (h1.cellAt i (by omega)).trans q2, fun k hk => (h2'.cells (k := k) (x := yM i) ?_).1, fun k hk => (h3'.cells (k := k) (p := (zM i, 0)) ?_).1⟩
  · rw [List.getElem?_replicate, if_pos hk]
  · rw [List.getElem?_replicate, if_pos hk]

set_option maxRecDepth 100000 in
set_option maxHeartbeats 4000000 in
theorem owned6_all (S : Nat → Prop) (w : World) (base R rc : Nat) (ra : Option Addr) (os : Nat → Ro) (cs : List Value) (F : Nat → Rwo) (h : Spd S w w base R ⟨41, 11, .slice ra R rc, R, cs⟩ os 0 F) (hB : base ≤ w.heap.size) (hR : R ≤ 1099511627776)
    (hm : ∀ i, i < R → (os i).r.data.length ≤ 1099511627776 ∧ (os i).r.spans.length ≤ 1099511627776)
    (hc : ∀ i, i < R → ∀ j u, (rcC (os i).r (os i).sv (os i).dv)[j]? = some u → cs[i * 11 + j]? = some u) :
    Calls Tryd.prog 26 #[.slice ra R rc] w fun e w' => e = .returned (.bool true) ∧ Kps S w w' ∧ w'.ownsRow base 41 11 (.slice ra R rc) R cs := by
  obtain ⟨i0, hi0, hz0, hy0, hb0⟩ := info_parts Tryd.info_u8
  obtain ⟨i1, hi1, hz1, hy1, hb1⟩ := info_parts C.Tryd.info_span
  obtain ⟨i2, hi2, hz2, hy2, hb2⟩ := info_parts Tryd.info_bytes6
  obtain ⟨i3, hi3, hz3, hy3, hb3⟩ := info_parts Tryd.info_spans6
  have H0 : Hid (∃ F, Spd S w w base R ⟨41, 11, .slice ra R rc, R, cs⟩ os 0 F) := ⟨F, h⟩
  have HM : Hid (∀ i, i < R → (os i).r.data.length ≤ 1099511627776 ∧ (os i).r.spans.length ≤ 1099511627776) := hm
  have HC : Hid (∀ i, i < R → ∀ j u, (rcC (os i).r (os i).sv (os i).dv)[j]? = some u → cs[i * 11 + j]? = some u) := hc
  clear h hm hc
  go_enter Tryd.func26, Tryd.ntmps26
  go_wp2
  go_loopw [3] (fun i wr => ∃ n : Nat, n ≤ R ∧ i = .int .i64 n ∧ ∃ F, Spd S w wr base R ⟨41, 11, .slice ra R rc, R, cs⟩ os n F) (fun i _ => R - (intOf i).toNat)
  case atStart => exact ⟨0, Nat.zero_le _, rfl, H0.out⟩
  case round =>
    obtain ⟨n, hn, rfl, F, hsp⟩ := hrel
    have HS : Hid (Spd S w wr base R ⟨41, 11, .slice ra R rc, R, cs⟩ os n F) := hsp
    have hBr : base ≤ wr.heap.size := Nat.le_trans hB hsp.blw.size
    by_cases hlt : n < R
    · have hlt' : (n : Int) < (R : Int) := by omega
      have hrow := hsp.fam.own 2 (by omega)
      rw [hsp.f2] at hrow
      obtain ⟨g, rfl, hce⟩ := list_cells hrow HC.out n hlt
      have c0 := hce 0 _ rfl
      have c1 := hce 1 _ rfl
      have c2 := hce 2 _ rfl
      have c3 := hce 3 _ rfl
      have c4 := hce 4 _ rfl
      have c5 := hce 5 _ rfl
      have c6 := hce 6 _ rfl
      have c7 := hce 7 _ rfl
      have c8 := hce 8 _ rfl
      have c9 := hce 9 _ rfl
      have c10 := hce 10 _ rfl
      obtain ⟨l1, l2⟩ := hsp.left n (Nat.le_refl _) hlt
      obtain ⟨m1, m2⟩ := HM.out n hlt
      have HSo : Hid (C.SOwn wr base (.slice (os n).sa (os n).r.spans.length (os n).sc) (os n).r.spans) := by
        have := hsp.fam.own (4 + 2 * n) (by omega); rw [l2] at this; exact this
      have HDo : Hid (DOwn wr base (.slice (os n).da (os n).r.data.length (os n).dc) (os n).r.data) := by
        have := hsp.fam.own (3 + 2 * n) (by omega); rw [l1] at this; exact this
      have HNE : Hid (∀ j, (Value.slice (os n).sa (os n).r.spans.length (os n).sc).ownBlock = some j → (Value.slice (os n).da (os n).r.data.length (os n).dc).ownBlock ≠ some j) := fun j h1 h2 => by
        have := hsp.fam.sep (4 + 2 * n) (3 + 2 * n) j (by omega) (by omega) (by rw [l2]; exact h1) (by rw [l1]; exact h2)
        omega
      clear hrow hce hsp l1 l2
      simp only [Nat.add_zero] at c0
      go_wp2_with (go_at_call 23; refine (spoilO_any (os n).r base (os n).sa (os n).da (os n).r.spans.length (os n).r.data.length (os n).sc (os n).dc (os n).r.spans (os n).r.data n (yM n) (zM n) _ HSo.out HDo.out HNE.out rfl rfl (by omega) (by omega) rfl rfl).mono ?_; rintro e w2 ⟨⟨v2, rfl⟩, hs2, hd2, ho2⟩)
      have HN : Hid (∃ F', Spd S w w2 base R ⟨41, 11, .slice (some ⟨g, 0, none⟩) R rc, R, cs⟩ os (n + 1) F') := HS.out.step hlt hBr hs2 hd2 ho2
      clear hs2 hd2 ho2 HSo HDo HNE
      go_wp2
      go_roundw
      case rel => exact ⟨n + 1, by omega, by go_num, HN.out⟩
      case measure => simp [intOf]; omega
    · obtain rfl : n = R := by omega
      have HG0 : Hid (Grd S w wr base n ⟨41, 11, .slice ra n rc, n, cs⟩ os 0 (.slice none 0 0) (.slice none 0 0) [] [] F) := hsp.grd
      clear hsp HS
      go_wp2
      go_loopw [4, 5, 6] (fun vd vs i wr => ∃ (m : Nat) (dl sl : List Value) (F : Nat → Rwo), m ≤ n ∧ i = .int .i64 m ∧ Grd S w wr base n ⟨41, 11, .slice ra n rc, n, cs⟩ os m vd vs dl sl F) (fun _ _ i _ => n - (intOf i).toNat)
      case atStart => exact ⟨0, [], [], F, Nat.zero_le _, rfl, HG0.out⟩
      case round =>
        obtain ⟨m, dl, sl, F, hm, rfl, hgd⟩ := hrel
        have hBr2 : base ≤ wr.heap.size := Nat.le_trans hB hgd.blw.size
        by_cases hlt : m < n
        · have hlt' : (m : Int) < (n : Int) := by omega
          have hrow := hgd.fam.own 2 (by omega)
          rw [hgd.f2] at hrow
          obtain ⟨g, rfl, hce⟩ := list_cells hrow HC.out m hlt
          have c9 := hce 9 _ rfl
          have c10 := hce 10 _ rfl
          obtain ⟨m1, m2⟩ := HM.out m hlt
          have HGi : Hid (Gri S w wr base n ⟨41, 11, .slice (some ⟨g, 0, none⟩) n rc, n, cs⟩ os m 0 u4 u5 (os m).dv (os m).sv dl sl F) := hgd.gri hlt
          clear hrow hce hgd HG0
          go_wp2
          go_loopw [7, 8, 9] (fun d s i wr => ∃ (k : Nat) (F : Nat → Rwo), k ≤ 9 ∧ i = .int .i64 k ∧ Gri S w wr base n ⟨41, 11, .slice (some ⟨g, 0, none⟩) n rc, n, cs⟩ os m k u4 u5 d s dl sl F) (fun _ _ i _ => 9 - (intOf i).toNat)
          case atStart => exact ⟨0, F, by omega, rfl, HGi.out⟩
          case round =>
            obtain ⟨k, F, hk, rfl, hgi⟩ := hrel
            have HGi : Hid (Gri S w wr base n ⟨41, 11, .slice (some ⟨g, 0, none⟩) n rc, n, cs⟩ os m k u4 u5 u7 u8 dl sl F) := hgi
            have hBr3 : base ≤ wr.heap.size := Nat.le_trans hB hgi.blw.size
            clear hgi
            by_cases hk9 : k < 9
            · have hk9' : (k : Int) < 9 := by omega
              have HK : Hid (∀ o, Gri S w (wr.alloc o) base n ⟨41, 11, .slice (some ⟨g, 0, none⟩) n rc, n, cs⟩ os m k u4 u5 u7 u8 dl sl F) := fun o => HGi.out.keep ((Below.refl _ _).alloc (Nat.le_refl _) _) hBr3
              have hy : IntKind.u8.wrap (m : Int) = yM m := rfl
              have hz : IntKind.i64.wrap (-1 - (m : Int)) = zM m := rfl
              clear c9 c10
              go_wp2_with (first
                | (at_builtin; refine wpList_append_own_at _ rfl (.tmp 45) (.tmp 48) 39 rfl base 5 i0 (.int .u8 0) 1 1 Tryd.underlying39 hi0 hz0 hy0 hb0 rfl (by decide) _ _ _ rfl ((HK.out _).dat hlt) ⟨wr.heap.size, 0, none⟩ 1 1 [.int .u8 (yM m)] rfl rfl (cell_one_new _ _ _) (by intro u hu; simp at hu; subst hu; rfl) (by unfold maxLen; omega) (by omega) (by simp; omega) ?_; intro d1 w1 o1 g1 _ t1; have hs1 := g1.size; simp only [World.size_alloc] at hs1; have HSp := own_keep6 ((HK.out _).spn hlt) g1 (fun j hj e => (HK.out (.cells #[] 0)).sep hlt j hj e))
                | (at_builtin; refine wpList_append_own_at _ rfl (.tmp 50) (.tmp 54) 26 rfl base 62 i1 (.agg #[.int .i64 0, .int .i64 0]) 2 16 Tryd.underlying26 hi1 hz1 hy1 hb1 rfl (by decide) _ _ _ rfl (World.ownsRow.alloc HSp _) ⟨w1.heap.size, 0, none⟩ 1 1 [.int .i64 (zM m), .int .i64 0] rfl rfl (C.cell_two_at _ _ _ _ _ (by simp)) (by intro u hu; simp at hu; rcases hu with rfl | rfl <;> rfl) (by unfold maxLen; omega) (by omega) (by simp; omega) ?_; intro s1 w3 o2 g2 _ t2))
              have HN : Hid (∃ F', Gri S w w3 base n ⟨41, 11, .slice (some ⟨g, 0, none⟩) n rc, n, cs⟩ os m (k + 1) u4 u5 d1 s1 dl sl F') := (HK.out _).step hlt (by simp; omega) o1 g1 t1 ((Below.refl _ _).alloc (Nat.le_refl _) _) o2 g2 t2
              clear o1 g1 t1 o2 g2 t2 HSp HK HGi
              go_wp2
              go_roundw
              case rel => obtain ⟨F', hF⟩ := HN.out; exact ⟨k + 1, F', by omega, by go_num, hF⟩
              case measure => simp [intOf]; omega
            · obtain rfl : k = 9 := by omega
              have HK : Hid (∀ o, Gri S w (wr.alloc o) base n ⟨41, 11, .slice (some ⟨g, 0, none⟩) n rc, n, cs⟩ os m 9 u4 u5 u7 u8 dl sl F) := fun o => HGi.out.keep ((Below.refl _ _).alloc (Nat.le_refl _) _) hBr3
              have hsl : ∃ a b c, u7 = .slice a b c := by
                obtain ⟨a, c, hv⟩ := C.own_shape (HGi.out.dat hlt)
                exact ⟨a, _, c, hv⟩
              have hsl2 : ∃ a b c, u8 = .slice a b c := by
                obtain ⟨a, c, hv⟩ := C.own_shape (HGi.out.spn hlt)
                exact ⟨a, _, c, hv⟩
              obtain ⟨a7, b7, c7, rfl⟩ := hsl
              obtain ⟨a8, b8, c8, rfl⟩ := hsl2
              clear c9 c10
              go_wp2_with (first
                | (at_builtin; refine wpList_append_own_at _ rfl (.tmp 56) (.tmp 58) 87 rfl base 39 i2 (.slice none 0 0) 1 24 Tryd.underlying87 hi2 hz2 hy2 hb2 rfl (by decide) _ _ _ rfl (HK.out _).rows.1 ⟨wr.heap.size, 0, none⟩ 1 1 [.slice a7 b7 c7] rfl rfl (cell_one_new _ _ _) (by intro u hu; simp at hu; subst hu; rfl) (by unfold maxLen; omega) (by omega) (by simp; omega) ?_; intro d1 w1 o1 g1 _ t1; have hs1 := g1.size; simp only [World.size_alloc] at hs1; have HSp := own_keep6 ((HK.out _).rows.2) g1 (fun j hj e => (HK.out (.cells #[] 0)).sep2 j hj e))
                | (at_builtin; refine wpList_append_own_at _ rfl (.tmp 60) (.tmp 62) 88 rfl base 26 i3 (.slice none 0 0) 1 24 Tryd.underlying88 hi3 hz3 hy3 hb3 rfl (by decide) _ _ _ rfl (World.ownsRow.alloc HSp _) ⟨w1.heap.size, 0, none⟩ 1 1 [.slice a8 b8 c8] rfl rfl (cell_one_new _ _ _) (by intro u hu; simp at hu; subst hu; rfl) (by unfold maxLen; omega) (by omega) (by simp; omega) ?_; intro s1 w3 o2 g2 _ t2))
              have HN : Hid (∃ F', Grd S w w3 base n ⟨41, 11, .slice (some ⟨g, 0, none⟩) n rc, n, cs⟩ os (m + 1) d1 s1 (dl ++ [.slice a7 b7 c7]) (sl ++ [.slice a8 b8 c8]) F') := (HK.out _).lay hlt (by simp; omega) o1 g1 t1 ((Below.refl _ _).alloc (Nat.le_refl _) _) o2 g2 t2
              clear o1 g1 t1 o2 g2 t2 HSp HK HGi
              go_wp2
              go_roundw
              case rel => obtain ⟨F', hF⟩ := HN.out; exact ⟨m + 1, _, _, F', by omega, by go_num, hF⟩
              case measure => simp [intOf]; omega
        · obtain rfl : m = n := by omega
          have HBE : Hid (Kps S w wr) := hgd.blw
          have HBX : Hid (wr.ownsRow base 41 11 (.slice ra m rc) m cs) := by
            have := hgd.fam.own 2 (by omega)
            rw [hgd.f2] at this
            exact this
          have HDN : Hid (∀ i, i < m → ∃ gD cD gS cS g1 l1 g2 l2, u4 = .slice (some ⟨gD, 0, none⟩) m cD ∧ u5 = .slice (some ⟨gS, 0, none⟩) m cS ∧ wr.cell? ⟨gD, i, none⟩ = some (.slice (some ⟨g1, 0, none⟩) ((os i).r.data.length + 9) l1) ∧ wr.cell? ⟨gS, i, none⟩ = some (.slice (some ⟨g2, 0, none⟩) ((os i).r.spans.length + 9) l2) ∧ (∀ k, k < (os i).r.data.length + 9 → wr.cell? ⟨g1, k, none⟩ = some (.int .u8 (yM i))) ∧ (∀ k, k < (os i).r.spans.length + 9 → wr.cell? ⟨g2, k * 2, none⟩ = some (.int .i64 (zM i)))) := fun i hi => hgd.read i hi
          clear hgd HG0 H0
          go_wp2
          go_loop [10] (fun i => ∃ q : Nat, q ≤ m ∧ i = .int .i64 q) (fun i => m - (intOf i).toNat)
          case atStart => exact ⟨0, Nat.zero_le _, rfl⟩
          case round =>
            obtain ⟨q, hq, rfl⟩ := hrel
            by_cases hql : q < m
            · have hql' : (q : Int) < (m : Int) := by omega
              obtain ⟨gD, cD, gS, cS, g1, l1, g2, l2, rfl, rfl, e1, e2, e3, e4⟩ := HDN.out q hql
              obtain ⟨m1, m2⟩ := HM.out q hql
              have hy : IntKind.u8.wrap (q : Int) = yM q := rfl
              have hz : zM q = -1 - (q : Int) := by unfold zM; rw [IntKind.wrap_i64]; omega
              have H3 : Hid (∀ k, k < (os q).r.data.length + 9 → wr.cell? ⟨g1, k, none⟩ = some (.int .u8 (yM q))) := e3
              have H4 : Hid (∀ k, k < (os q).r.spans.length + 9 → wr.cell? ⟨g2, k * 2, none⟩ = some (.int .i64 (-1 - (q : Int)))) := fun k hk => by rw [← hz]; exact e4 k hk
              clear e3 e4 hz
              generalize (os q).r.data.length = nd at *
              generalize (os q).r.spans.length = ns at *
              go_wp2
              go_loop [11] (fun i => ∃ j : Nat, j ≤ nd + 9 ∧ i = .int .i64 j) (fun i => nd + 9 - (intOf i).toNat)
              case atStart => exact ⟨0, Nat.zero_le _, rfl⟩
              case round =>
                obtain ⟨j, hj, rfl⟩ := hrel
                by_cases hjl : j < nd + 9
                · have hjl' : (j : Int) < (nd : Int) + 9 := by omega
                  have e3 := H3.out j hjl
                  go_wp2
                  go_round
                  case rel => exact ⟨j + 1, by omega, by go_num⟩
                  case measure => simp [intOf]; omega
                · have hjl' : (nd : Int) + 9 ≤ (j : Int) := by omega
                  go_wp2
                  go_loop [12] (fun i => ∃ j : Nat, j ≤ ns + 9 ∧ i = .int .i64 j) (fun i => ns + 9 - (intOf i).toNat)
                  case atStart => exact ⟨0, Nat.zero_le _, rfl⟩
                  case round =>
                    obtain ⟨x, hx, rfl⟩ := hrel
                    by_cases hxl : x < ns + 9
                    · have hxl' : (x : Int) < (ns : Int) + 9 := by omega
                      have e4 := H4.out x hxl
                      go_wp2
                      go_round
                      case rel => exact ⟨x + 1, by omega, by go_num⟩
                      case measure => simp [intOf]; omega
                    · have hxl' : (ns : Int) + 9 ≤ (x : Int) := by omega
                      go_wp2
                      go_round
                      case rel => exact ⟨q + 1, by omega, by go_num⟩
                      case measure => simp [intOf]; omega
            · have hql' : (m : Int) ≤ (q : Int) := by omega
              go_wp2
              go_ret
              exact ⟨rfl, HBE.out, HBX.out⟩
theorem owned6_any (S : Nat → Prop) (w : World) (base R rc : Nat) (ra : Option Addr) (os : Nat → Ro) (cs : List Value) (F : Nat → Rwo) (h : Spd S w w base R ⟨41, 11, .slice ra R rc, R, cs⟩ os 0 F) (hB : base ≤ w.heap.size) (hR : R ≤ 1099511627776)
    (hm : ∀ i, i < R → (os i).r.data.length ≤ 1099511627776 ∧ (os i).r.spans.length ≤ 1099511627776)
    (hc : ∀ i, i < R → ∀ j u, (rcC (os i).r (os i).sv (os i).dv)[j]? = some u → cs[i * 11 + j]? = some u) :
    Calls Tryd.prog 26 #[.slice ra R rc] w fun e w' => e = .returned (.bool true) ∧ Kps S w w' :=
  (owned6_all S w base R rc ra os cs F h hB hR hm hc).mono fun e w' q => ⟨q.1, q.2.1⟩
end Go.Proofs.YtgmbpagbiakciafDoor

namespace Go.Proofs.YtgmbpagbiakciafDoor
open Go.RowKit
set_option linter.unusedVariables false

theorem rd_small {zs : List Int} (hb : Bytey zs) : (rdR zs).1.data.length ≤ 65536 ∧ (rdR zs).1.spans.length ≤ 500 := by
  unfold rdR
  split
  · exact ⟨by decide, by decide⟩
  · split
    · rename_i r h
      obtain ⟨_, hm⟩ := read_inv hb h
      obtain ⟨_, _, h1, h2⟩ := may_parts hm
      obtain ⟨h3, h4⟩ := may_lists hm
      constructor
      · cases h9 : hasB (kf r.kind) 9 with
        | true => exact h2 h9
        | false => simp only [h4 h9]; exact Nat.zero_le _
      · cases h8 : hasB (kf r.kind) 8 with
        | true => exact (h1 h8).1
        | false => simp only [h3 h8]; exact Nat.zero_le _
    · exact ⟨by decide, by decide⟩

/-- A record that was read: its lists lie from lo on, below hi; itself it lies in block b. -/
structure RAt (w : World) (lo hi b : Nat) (r : Rc) (sa da : Option Addr) (sc dc : Nat) : Prop where
  spn : C.SOwn w lo (.slice sa r.spans.length sc) r.spans
  dat : w.ownsRow lo 5 1 (.slice da r.data.length dc) r.data.length (r.data.map (Value.int .u8))
  ne : ∀ j, (Value.slice sa r.spans.length sc).ownBlock = some j → (Value.slice da r.data.length dc).ownBlock ≠ some j
  shi : ∀ k, (Value.slice sa r.spans.length sc).ownBlock = some k → k < hi
  dhi : ∀ k, (Value.slice da r.data.length dc).ownBlock = some k → k < hi
  box : w.heap[b]? = some (rcO r (.slice sa r.spans.length sc) (.slice da r.data.length dc))
theorem own_same {w w' : World} {base size n : Nat} {e : TypeId} {v : Value} {xs : List Value} (h : w.ownsRow base e size v n xs) (hg : ∀ k, v.ownBlock = some k → w'.heap[k]? = w.heap[k]?) : w'.ownsRow base e size v n xs := by
  obtain ⟨hl, h | ⟨g, cap, cur, rfl, hb, hh, r⟩⟩ := h
  · exact ⟨hl, .inl h⟩
  · exact ⟨hl, .inr ⟨g, cap, cur, rfl, hb, (hg g rfl).trans hh, r⟩⟩
theorem own_lower {w : World} {base base' size n : Nat} {e : TypeId} {v : Value} {xs : List Value} (h : w.ownsRow base e size v n xs) (hb : base' ≤ base) : w.ownsRow base' e size v n xs := by
  obtain ⟨hl, h | ⟨g, cap, cur, rfl, hb', r⟩⟩ := h
  · exact ⟨hl, .inl h⟩
  · exact ⟨hl, .inr ⟨g, cap, cur, rfl, Nat.le_trans hb hb', r⟩⟩
theorem RAt.same {w w' : World} {lo hi b : Nat} {r : Rc} {sa da : Option Addr} {sc dc : Nat} (h : RAt w lo hi b r sa da sc dc) (hg : ∀ g, (lo ≤ g ∧ g < hi) ∨ g = b → g < w.heap.size → w'.heap[g]? = w.heap[g]?) : RAt w' lo hi b r sa da sc dc :=
  ⟨own_same h.spn (fun k hk => hg k (.inl ⟨(World.ownsRow.lt h.spn k hk).1, h.shi k hk⟩) (World.ownsRow.lt h.spn k hk).2), own_same h.dat (fun k hk => hg k (.inl ⟨(h.dat.lt k hk).1, h.dhi k hk⟩) (h.dat.lt k hk).2), h.ne, h.shi, h.dhi, (hg b (.inr rfl) (Array.getElem?_eq_some_iff.mp h.box).1).trans h.box⟩
theorem RAt.below {w w' : World} {lo hi b : Nat} {r : Rc} {sa da : Option Addr} {sc dc : Nat} (h : RAt w lo hi b r sa da sc dc) (hb : Below w.heap.size w w') : RAt w' lo hi b r sa da sc dc := h.same (fun g _ hg => hb.block g hg)
theorem RAt.rin {w : World} {lo hi b : Nat} {r : Rc} {sa da : Option Addr} {sc dc : Nat} (h : RAt w lo hi b r sa da sc dc) (hb : r.data.length ≤ 65536) : RIn w r sa da r.spans.length r.data.length sc dc := own_rin h.spn h.dat (by omega)
theorem rat_read {P : Rc × Int} {w w' : World} {sa da : Option Addr} {sc dc : Nat} (h1 : C.SOwn w' w.heap.size (.slice sa P.1.spans.length sc) P.1.spans) (h2 : w'.ownsRow w.heap.size 5 1 (.slice da P.1.data.length dc) P.1.data.length (P.1.data.map (Value.int .u8))) (h3 : ∀ j, (Value.slice sa P.1.spans.length sc).ownBlock = some j → (Value.slice da P.1.data.length dc).ownBlock ≠ some j) :
    RAt (w'.alloc (rcO P.1 (.slice sa P.1.spans.length sc) (.slice da P.1.data.length dc))) w.heap.size w'.heap.size w'.heap.size P.1 sa da sc dc :=
  ⟨World.ownsRow.alloc h1 _, h2.alloc _, h3, fun k hk => (World.ownsRow.lt h1 k hk).2, fun k hk => (h2.lt k hk).2, heap_new6 w' _⟩

/-- The bytes and the two marks behind them. -/
theorem marks_lies {w : World} {base g n c : Nat} {zs : List Int} (h : w.ownsRow base 5 1 (.slice (some ⟨g, 0, none⟩) (n + 2) c) (n + 2) ((zs ++ [177, 178]).map (Value.int .u8))) (hl : zs.length = n) : Lies .u8 w (some ⟨g, 0, none⟩) zs ∧ w.cell? ⟨g, n, none⟩ = some (.int .u8 177) ∧ w.cell? ⟨g, n + 1, none⟩ = some (.int .u8 178) := by
  refine ⟨.inr ⟨g, 0, rfl, fun i hi => ?_⟩, ?_, ?_⟩
  · rw [Nat.zero_add, h.cellAt i (by omega), List.getElem?_map, List.getElem?_append_left hi, List.getD_eq_getElem?_getD, List.getElem?_eq_getElem hi]; rfl
  · rw [h.cellAt n (by omega), List.getElem?_map, List.getElem?_append_right (by omega), hl, Nat.sub_self]; rfl
  · rw [h.cellAt (n + 1) (by omega), List.getElem?_map, List.getElem?_append_right (by omega), hl, show n + 1 - n = 1 by omega]; rfl
theorem marks_set {w : World} {base g n c k : Nat} {zs : List Int} {y : Int} (h : w.ownsRow base 5 1 (.slice (some ⟨g, 0, none⟩) (n + 2) c) (n + 2) ((zs ++ [177, 178]).map (Value.int .u8))) (hk : k < zs.length) : (w.setCell ⟨g, k, none⟩ (.int .u8 y)).ownsRow base 5 1 (.slice (some ⟨g, 0, none⟩) (n + 2) c) (n + 2) ((zs.set k y ++ [177, 178]).map (Value.int .u8)) := by
  have h1 := (h.stored k (.int .u8 y)).1
  rw [← List.map_set, List.set_append_left _ _ hk] at h1
  exact h1

/-- The two records that Owned is asked of. -/
def twoO (r s : Ro) (i : Nat) : Ro := if i = 0 then r else s
def twoF (vl : Value) (cs : List Value) (r s : Ro) (p : Nat) : Rwo :=
  if p = 0 then ⟨39, 1, .slice none 0 0, 0, []⟩ else if p = 1 then ⟨26, 1, .slice none 0 0, 0, []⟩ else if p = 2 then ⟨41, 11, vl, 2, cs⟩ else if p = 3 then dRow r.dv r.r.data else if p = 4 then sRow r.sv r.r.spans else if p = 5 then dRow s.dv s.r.data else sRow s.sv s.r.spans
theorem two_fam {w : World} {base gl l1 h1 b1 l2 h2 b2 : Nat} {r s : Rc} {sa da sb db : Option Addr} {sc dc tc ec : Nat} {cs : List Value} (hr : RAt w l1 h1 b1 r sa da sc dc) (hs : RAt w l2 h2 b2 s sb db tc ec)
    (hl : w.ownsRow gl 41 11 (.slice (some ⟨gl, 0, none⟩) 2 2) 2 cs) (q1 : base ≤ l1) (q2 : h1 ≤ l2) (q3 : h2 ≤ gl) (q4 : l1 ≤ h1) (q5 : l2 ≤ h2) :
    Spd (fun g => (l1 ≤ g ∧ g < h1) ∨ (l2 ≤ g ∧ g < h2) ∨ g = gl) w w base 2 ⟨41, 11, .slice (some ⟨gl, 0, none⟩) 2 2, 2, cs⟩ (twoO ⟨r, sa, da, sc, dc⟩ ⟨s, sb, db, tc, ec⟩) 0 (twoF (.slice (some ⟨gl, 0, none⟩) 2 2) cs ⟨r, sa, da, sc, dc⟩ ⟨s, sb, db, tc, ec⟩) := by
  have hpl : ∀ p k, p < 7 → (twoF (.slice (some ⟨gl, 0, none⟩) 2 2) cs ⟨r, sa, da, sc, dc⟩ ⟨s, sb, db, tc, ec⟩ p).v.ownBlock = some k → (p = 2 ∧ k = gl) ∨ (p = 3 ∧ l1 ≤ k ∧ k < h1 ∧ (Value.slice da r.data.length dc).ownBlock = some k) ∨ (p = 4 ∧ l1 ≤ k ∧ k < h1 ∧ (Value.slice sa r.spans.length sc).ownBlock = some k) ∨ (p = 5 ∧ l2 ≤ k ∧ k < h2 ∧ (Value.slice db s.data.length ec).ownBlock = some k) ∨ (p = 6 ∧ l2 ≤ k ∧ k < h2 ∧ (Value.slice sb s.spans.length tc).ownBlock = some k) := by
    intro p k hp hk
    have : p = 0 ∨ p = 1 ∨ p = 2 ∨ p = 3 ∨ p = 4 ∨ p = 5 ∨ p = 6 := by omega
    rcases this with rfl | rfl | rfl | rfl | rfl | rfl | rfl
    · cases hk
    · cases hk
    · left; refine ⟨rfl, ?_⟩; have : some gl = some k := hk; simp at this; exact this.symm
    · right; left; exact ⟨rfl, (hr.dat.lt k hk).1, hr.dhi k hk, hk⟩
    · right; right; left; exact ⟨rfl, (World.ownsRow.lt hr.spn k hk).1, hr.shi k hk, hk⟩
    · right; right; right; left; exact ⟨rfl, (hs.dat.lt k hk).1, hs.dhi k hk, hk⟩
    · right; right; right; right; exact ⟨rfl, (World.ownsRow.lt hs.spn k hk).1, hs.shi k hk, hk⟩
  refine ⟨⟨fun p hp => ?_, fun p q k hp hq a b => ?_, fun p k hp hk => ?_⟩, rfl, rfl, rfl, fun i hi => by omega, fun i _ hi => ?_, Kps.refl _ _⟩
  · have : p = 0 ∨ p = 1 ∨ p = 2 ∨ p = 3 ∨ p = 4 ∨ p = 5 ∨ p = 6 := by omega
    rcases this with rfl | rfl | rfl | rfl | rfl | rfl | rfl
    · exact World.ownsRow_nil _ _ _ _
    · exact World.ownsRow_nil _ _ _ _
    · exact own_lower hl (by omega)
    · exact own_lower hr.dat q1
    · exact own_lower hr.spn q1
    · exact own_lower hs.dat (by omega)
    · exact own_lower hs.spn (by omega)
  · rcases hpl p k hp a with ⟨rfl, _⟩ | ⟨rfl, _, _, e⟩ | ⟨rfl, _, _, e⟩ | ⟨rfl, _, _, e⟩ | ⟨rfl, _, _, e⟩ <;> rcases hpl q k hq b with ⟨rfl, _⟩ | ⟨rfl, _, _, e'⟩ | ⟨rfl, _, _, e'⟩ | ⟨rfl, _, _, e'⟩ | ⟨rfl, _, _, e'⟩ <;> first | rfl | omega | exact absurd e (hr.ne k e') | exact absurd e' (hr.ne k e) | exact absurd e (hs.ne k e') | exact absurd e' (hs.ne k e)
  · rcases hpl p k hp hk with ⟨_, h⟩ | ⟨_, h, h', _⟩ | ⟨_, h, h', _⟩ | ⟨_, h, h', _⟩ | ⟨_, h, h', _⟩
    · exact .inl (.inr (.inr h))
    · exact .inl (.inl ⟨h, h'⟩)
    · exact .inl (.inl ⟨h, h'⟩)
    · exact .inl (.inr (.inl ⟨h, h'⟩))
    · exact .inl (.inr (.inl ⟨h, h'⟩))
  · have : i = 0 ∨ i = 1 := by omega
    rcases this with rfl | rfl <;> exact ⟨rfl, rfl⟩
end Go.Proofs.YtgmbpagbiakciafDoor
