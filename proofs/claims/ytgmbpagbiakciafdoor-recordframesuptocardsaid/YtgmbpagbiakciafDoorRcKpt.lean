import Derived.Test.YtgmbpagbiakciafDoorRcLnd
namespace Go.Proofs.YtgmbpagbiakciafDoor
open Go.RowKit
set_option linter.unusedVariables false

/-- The lists of a record that was lent, with their marks. -/
structure Lnd (w : World) (base gd gs ns nd : Nat) (l : List (Int × Int)) (zs : List Int) : Prop where
  dat : Blk .u8 w gd 5 (mkD zs)
  spn : C.SOwn w base (.slice (some ⟨gs, 0, none⟩) (ns + 2) (ns + 2)) (mkS l)
  ndl : zs.length = nd
  nsl : l.length = ns
  ne : gd ≠ gs
  lo : base ≤ gd
  sd : nd ≤ 140737488351232
  ss : ns * 16 ≤ 140737488351232
theorem Lnd.below {w w' : World} {base gd gs ns nd : Nat} {l : List (Int × Int)} {zs : List Int} (h : Lnd w base gd gs ns nd l zs) (hb : Below w.heap.size w w') : Lnd w' base gd gs ns nd l zs :=
  ⟨(hb.block gd (Array.getElem?_eq_some_iff.mp h.dat).1).trans h.dat, own_below6 h.spn hb, h.ndl, h.nsl, h.ne, h.lo, h.sd, h.ss⟩
theorem Lnd.gsl {w : World} {base gd gs ns nd : Nat} {l : List (Int × Int)} {zs : List Int} (h : Lnd w base gd gs ns nd l zs) : base ≤ gs ∧ gs < w.heap.size := h.spn.lt gs rfl
/-- It lies there as any record. -/
theorem Lnd.rin {w : World} {base gd gs ns nd : Nat} {r : Rc} (h : Lnd w base gd gs ns nd r.spans r.data) : RIn w r (some ⟨gs, 0, none⟩) (some ⟨gd, 0, none⟩) ns nd (ns + 2) (nd + 2) := by
  have h1 := h.ndl
  have h2 := h.nsl
  have h3 := h.sd
  have h4 := h.ss
  refine ⟨h.nsl, h.ndl, by omega, ⟨⟨some ⟨gs, 0, none⟩, ns + 2, by rw [h.nsl], .inr ⟨gs, 0, rfl, fun i p hp => ?_⟩, by omega, by omega⟩, by omega⟩, .inr ⟨gd, 0, rfl, fun i hi => ?_⟩, fun h => by cases h⟩
  · have hi : i < r.spans.length := (List.getElem?_eq_some_iff.mp hp).1
    have q := h.spn.cells (k := i) (p := p) (by rw [List.getElem?_append_left hi]; exact hp)
    rw [Nat.zero_add]
    exact ⟨q.1, q.2.1⟩
  · have q := h.dat.cell i (by simp; omega)
    rw [Nat.zero_add, q, List.getD_eq_getElem?_getD, List.getElem?_append_left hi, ← List.getD_eq_getElem?_getD]

set_option maxRecDepth 100000 in
set_option maxHeartbeats 1000000 in
theorem kept6_any (r : Rc) (base gd gs ns nd : Nat) (l : List (Int × Int)) (zs : List Int) (w : World) (h : Lnd w base gd gs ns nd l zs) :
    Calls Tryd.prog 22 #[.agg (rcC r (.slice (some ⟨gs, 0, none⟩) ns (ns + 2)) (.slice (some ⟨gd, 0, none⟩) nd (nd + 2)))] w fun e w' => e = .returned (.bool true) ∧ Below w.heap.size w w' := by
  have HB : Hid (Below w.heap.size w (w.alloc (rcO r (.slice (some ⟨gs, 0, none⟩) ns (ns + 2)) (.slice (some ⟨gd, 0, none⟩) nd (nd + 2))))) := (Below.refl _ _).alloc (Nat.le_refl _) _
  have h1 := h.below HB.out
  obtain ⟨q1, _, _, _⟩ := h1.spn.cells (rget1 l ns h.nsl (-77, 0) (-78, 0))
  obtain ⟨q2, _, _, _⟩ := h1.spn.cells (rget2 l ns h.nsl (-77, 0) (-78, 0))
  have k1 := h1.dat.cell nd (by have := h.ndl; simp; omega)
  have k2 := h1.dat.cell (nd + 1) (by have := h.ndl; simp; omega)
  rw [List.getD_eq_getElem?_getD, rget1 zs nd h.ndl] at k1
  rw [List.getD_eq_getElem?_getD, rget2 zs nd h.ndl] at k2
  simp only [Option.getD_some] at q1 q2 k1 k2
  have hsd := h.sd
  have hss := h.ss
  clear h h1
  go_enter Tryd.func22, Tryd.ntmps22
  go_wp2
  go_ret
  exact ⟨rfl, HB.out⟩
end Go.Proofs.YtgmbpagbiakciafDoor

namespace Go.Proofs.YtgmbpagbiakciafDoor
open Go.RowKit
set_option linter.unusedVariables false

theorem gfill_set {α : Type} (A B : List α) (k : Nat) (x : α) (hk : A[k]? = some x) (hl : A.length = B.length) : (A.take k ++ B.drop k).set k x = A.take (k + 1) ++ B.drop (k + 1) := by
  have h1 : k < A.length := (List.getElem?_eq_some_iff.mp hk).1
  have h2 : (A.take k).length = k := by simp; omega
  rw [List.set_append_right _ _ (by omega), h2, Nat.sub_self]
  rw [List.drop_eq_getElem_cons (show k < B.length by omega), List.set_cons_zero, List.take_add_one, hk]
  simp
theorem gfill_at {α : Type} (A B : List α) (k : Nat) (hk : k < A.length) (hl : A.length = B.length) : (A.take k ++ B.drop k)[k]? = B[k]? := by
  have h2 : (A.take k).length = k := by simp; omega
  rw [List.getElem?_append_right (by omega), h2, Nat.sub_self, List.getElem?_drop, Nat.add_zero]
theorem gpre {α : Type} (n : Nat) (y : α) (m : List α) (k : Nat) (hk : k < n) : (List.replicate n y ++ m)[k]? = some y := by
  rw [List.getElem?_append_left (by simpa using hk), List.getElem?_replicate, if_pos hk]

/-- What alone two blocks may have changed in. -/
structure Oth (gd gs : Nat) (w w' : World) : Prop where
  os : w'.os = w.os
  tape : w'.tape = w.tape
  output : w'.output = w.output
  size : w.heap.size ≤ w'.heap.size
  block : ∀ g, g < w.heap.size → g ≠ gd → g ≠ gs → w'.heap[g]? = w.heap[g]?
theorem Oth.below {gd gs base : Nat} {w0 w w' : World} (h : Oth gd gs w w') (hb : Below base w0 w) (h1 : base ≤ gd) (h2 : base ≤ gs) (h3 : base ≤ w.heap.size) : Below base w0 w' :=
  ⟨h.os.trans hb.os, h.tape.trans hb.tape, h.output.trans hb.output, Nat.le_trans hb.size h.size, fun g hg => (h.block g (by omega) (by omega) (by omega)).trans (hb.block g hg)⟩
theorem oth_of {gd gs : Nat} {w w1 w2 w3 : World} (hb : Below w.heap.size w w1) (h1 : w1.grownBy w2 (some gd)) (h2 : w2.grownBy w3 (some gs)) : Oth gd gs w w3 := by
  have := hb.size; have := h1.size; have := h2.size
  refine ⟨h2.os.trans (h1.os.trans hb.os), h2.tape.trans (h1.tape.trans hb.tape), h2.output.trans (h1.output.trans hb.output), by omega, fun g hg e1 e2 => ?_⟩
  exact (h2.block g (by omega) (by simpa using e2)).trans ((h1.block g (by omega) (by simpa using e1)).trans (hb.block g hg))
theorem mkD_drop (zs : List Int) (nd : Nat) (h : zs.length = nd) (y : Int) : List.replicate nd y ++ (mkD zs).drop nd = mkD (List.replicate nd y) := by
  subst h; rw [mkD, List.drop_left]
theorem mkS_drop (l : List (Int × Int)) (ns : Nat) (h : l.length = ns) (y : Int × Int) : List.replicate ns y ++ (mkS l).drop ns = mkS (List.replicate ns y) := by
  subst h; rw [mkS, List.drop_left]

set_option maxRecDepth 100000 in
set_option maxHeartbeats 2000000 in
theorem spoil6_any (r : Rc) (base gd gs ns nd : Nat) (l : List (Int × Int)) (zs : List Int) (mark y z : Int) (w : World) (h : Lnd w base gd gs ns nd l zs) (hy : IntKind.u8.wrap mark = y) (hz : IntKind.i64.wrap (-1 - mark) = z) :
    Calls Tryd.prog 23 #[.agg (rcC r (.slice (some ⟨gs, 0, none⟩) ns (ns + 2)) (.slice (some ⟨gd, 0, none⟩) nd (nd + 2))), .int .i64 mark] w fun e w' => (∃ v, e = .returned v) ∧ Lnd w' base gd gs ns nd (List.replicate ns (z, 0)) (List.replicate nd y) ∧ Oth gd gs w w' := by
  have HB : Hid (Below w.heap.size w (w.alloc (rcO r (.slice (some ⟨gs, 0, none⟩) ns (ns + 2)) (.slice (some ⟨gd, 0, none⟩) nd (nd + 2))))) := (Below.refl _ _).alloc (Nat.le_refl _) _
  have HX : Hid ((w.alloc (rcO r (.slice (some ⟨gs, 0, none⟩) ns (ns + 2)) (.slice (some ⟨gd, 0, none⟩) nd (nd + 2)))).heap[w.heap.size]? = some (rcO r (.slice (some ⟨gs, 0, none⟩) ns (ns + 2)) (.slice (some ⟨gd, 0, none⟩) nd (nd + 2)))) := heap_new6 w _
  have h1 := h.below HB.out
  have HL : Hid (Lnd w base gd gs ns nd l zs) := h
  have HD : Hid (Blk .u8 (w.alloc (rcO r (.slice (some ⟨gs, 0, none⟩) ns (ns + 2)) (.slice (some ⟨gd, 0, none⟩) nd (nd + 2)))) gd 5 (mkD zs)) := h1.dat
  have HS : Hid (C.SOwn (w.alloc (rcO r (.slice (some ⟨gs, 0, none⟩) ns (ns + 2)) (.slice (some ⟨gd, 0, none⟩) nd (nd + 2)))) base (.slice (some ⟨gs, 0, none⟩) (ns + 2) (ns + 2)) (mkS l)) := h1.spn
  have hgd : gd < w.heap.size := (Array.getElem?_eq_some_iff.mp h.dat).1
  have hgs := h.gsl
  have hne := h.ne
  have hnd := h.sd
  have hns := h.ss
  have HDL : Hid ((List.replicate nd y ++ (mkD zs).drop nd).length = (mkD zs).length) := by unfold Hid; have := h.ndl; simp; omega
  have HSL : Hid ((List.replicate ns ((z, 0) : Int × Int) ++ (mkS l).drop ns).length = (mkS l).length) := by unfold Hid; have := h.nsl; simp; omega
  have HDN : Hid ((mkD zs).length = nd + 2) := by unfold Hid; have := h.ndl; simp; omega
  have HSN : Hid ((mkS l).length = ns + 2) := by unfold Hid; have := h.nsl; simp; omega
  clear h h1
  go_enter Tryd.func23, Tryd.ntmps23
  go_wp2_with fail
  generalize w.alloc (rcO r (.slice (some ⟨gs, 0, none⟩) ns (ns + 2)) (.slice (some ⟨gd, 0, none⟩) nd (nd + 2))) = w1 at *
  go_loopw [4] (fun i wr => ∃ k : Nat, k ≤ nd ∧ i = .int .i64 k ∧ Blk .u8 wr gd 5 ((List.replicate nd y ++ (mkD zs).drop nd).take k ++ (mkD zs).drop k) ∧ w1.grownBy wr (some gd)) (fun i _ => nd - (intOf i).toNat)
  case atStart => exact ⟨0, Nat.zero_le _, rfl, by simpa using HD.out, World.grownBy.refl _ _⟩
  case round =>
    obtain ⟨k, hk, rfl, hbk, hgr⟩ := hrel
    have HG : Hid (w1.grownBy wr (some gd)) := hgr
    have hx : wr.heap[w.heap.size]? = some (rcO r (.slice (some ⟨gs, 0, none⟩) ns (ns + 2)) (.slice (some ⟨gd, 0, none⟩) nd (nd + 2))) := (hgr.block _ (Array.getElem?_eq_some_iff.mp HX.out).1 (by simp; omega)).trans HX.out
    obtain ⟨_, _, _, _, _, _, _, _, _, c9, c10⟩ := rc_cells hx
    have hfr := hbk.frozen k
    clear hgr
    by_cases hlt : k < nd
    · have hlt' : (k : Int) < (nd : Int) := by omega
      have hk2 : k < (mkD zs).length := by rw [HDN.out]; omega
      have hce := hbk.cell k (by rw [List.length_append, List.length_take, List.length_drop, HDL.out, HDN.out]; omega)
      have hst := hbk.set k y
      rw [gfill_set _ _ k y (gpre nd y _ k hlt) HDL.out] at hst
      have HS2 : Hid (Blk .u8 (wr.setCell ⟨gd, k, none⟩ (.int .u8 y)) gd 5 ((List.replicate nd y ++ (mkD zs).drop nd).take (k + 1) ++ (mkD zs).drop (k + 1))) := hst
      have HG2 : Hid (w1.grownBy (wr.setCell ⟨gd, k, none⟩ (.int .u8 y)) (some gd)) := C.grown_trans HG.out (grown_set _ _ _ _)
      generalize ((List.replicate nd y ++ (mkD zs).drop nd).take k ++ (mkD zs).drop k).getD k 0 = x at hce
      clear hst hbk hx HG
      go_wp2
      go_roundw
      case rel => exact ⟨k + 1, by omega, by go_num, HS2.out, HG2.out⟩
      case measure => simp [intOf]; omega
    · obtain rfl : k = nd := by omega
      have HDE : Hid (Blk .u8 wr gd 5 (mkD (List.replicate k y))) := by
        unfold Hid
        rw [List.take_append_of_le_length (by simp), List.take_of_length_le (by simp), mkD_drop zs k HL.out.ndl] at hbk
        exact hbk
      have HSE : Hid (C.SOwn wr base (.slice (some ⟨gs, 0, none⟩) (ns + 2) (ns + 2)) (mkS l)) := own_keep6 HS.out HG.out (by intro j hj; simp [Value.ownBlock] at hj; simp; omega)
      have HXE : Hid (wr.heap[w.heap.size]? = some (rcO r (.slice (some ⟨gs, 0, none⟩) ns (ns + 2)) (.slice (some ⟨gd, 0, none⟩) k (k + 2)))) := hx
      clear hbk hx hfr HS HX HD
      go_wp2_with fail
      obtain ⟨w3, h3⟩ : ∃ x, x = wr := ⟨_, rfl⟩
      subst h3
      clear c9 c10
      go_loopw [5] (fun i wr => ∃ m : Nat, m ≤ ns ∧ i = .int .i64 m ∧ C.SOwn wr base (.slice (some ⟨gs, 0, none⟩) (ns + 2) (ns + 2)) ((List.replicate ns ((z, 0) : Int × Int) ++ (mkS l).drop ns).take m ++ (mkS l).drop m) ∧ w3.grownBy wr (some gs)) (fun i _ => ns - (intOf i).toNat)
      case atStart => exact ⟨0, Nat.zero_le _, rfl, by simpa using HSE.out, World.grownBy.refl _ _⟩
      case round =>
        obtain ⟨m, hm, rfl, hso, hgr⟩ := hrel
        have HG3 : Hid (w3.grownBy wr (some gs)) := hgr
        have hx : wr.heap[w.heap.size]? = some (rcO r (.slice (some ⟨gs, 0, none⟩) ns (ns + 2)) (.slice (some ⟨gd, 0, none⟩) k (k + 2))) := (hgr.block _ (Array.getElem?_eq_some_iff.mp HXE.out).1 (by simp; omega)).trans HXE.out
        obtain ⟨_, _, _, _, _, _, _, _, _, c9, c10⟩ := rc_cells hx
        clear hgr hx
        by_cases hmt : m < ns
        · have hmt' : (m : Int) < (ns : Int) := by omega
          have hm2 : m < (mkS l).length := by rw [HSN.out]; omega
          have hex : ∃ p : Int × Int, (mkS l)[m]? = some p := C.get_some _ _ hm2
          obtain ⟨p, hp⟩ := hex
          have hat : ((List.replicate ns ((z, 0) : Int × Int) ++ (mkS l).drop ns).take m ++ (mkS l).drop m)[m]? = some p := by rw [gfill_at _ _ m (by rw [HSL.out]; exact hm2) HSL.out]; exact hp
          obtain ⟨q1, q2, q3, q4⟩ := hso.cells hat
          have h2 := hso.put (k := m) z 0
          rw [gfill_set _ _ m (z, 0) (gpre ns (z, 0) _ m hmt) HSL.out] at h2
          have HS2 : Hid (C.SOwn ((wr.setCell ⟨gs, m * 2, none⟩ (.int .i64 z)).setCell ⟨gs, m * 2 + 1, none⟩ (.int .i64 0)) base (.slice (some ⟨gs, 0, none⟩) (ns + 2) (ns + 2)) ((List.replicate ns ((z, 0) : Int × Int) ++ (mkS l).drop ns).take (m + 1) ++ (mkS l).drop (m + 1))) := h2
          have HG4 : Hid (w3.grownBy ((wr.setCell ⟨gs, m * 2, none⟩ (.int .i64 z)).setCell ⟨gs, m * 2 + 1, none⟩ (.int .i64 0)) (some gs)) := C.grown_trans HG3.out (C.grown_put _ _ _ _ _)
          clear h2 hat hp hso HG3
          go_wp2
          go_roundw
          case rel => exact ⟨m + 1, by omega, by go_num, HS2.out, HG4.out⟩
          case measure => simp [intOf]; omega
        · obtain rfl : m = ns := by omega
          have HSF : Hid (C.SOwn wr base (.slice (some ⟨gs, 0, none⟩) (m + 2) (m + 2)) (mkS (List.replicate m (z, 0)))) := by
            unfold Hid
            rw [List.take_append_of_le_length (by simp), List.take_of_length_le (by simp), mkS_drop l m HL.out.nsl] at hso
            exact hso
          have HDF : Hid (Blk .u8 wr gd 5 (mkD (List.replicate k y))) := blk_keep HDE.out HG3.out (by simp; omega)
          have HOT : Hid (Oth gd gs w wr) := oth_of HB.out HG.out HG3.out
          clear hso HSE HDE
          go_wp2
          go_end0
          exact ⟨⟨_, rfl⟩, ⟨HDF.out, HSF.out, by simp, by simp, hne, HL.out.lo, by omega, by omega⟩, HOT.out⟩
end Go.Proofs.YtgmbpagbiakciafDoor
