import Derived.Test.YtfghdhikjhbbgaeDoorBkMay
import Derived.Test.YtfghdhikjhbbgaeDoorBkRfA
import Derived.Test.YtfghdhikjhbbgaeDoorBkSap
namespace Go.Proofs.YtfghdhikjhbbgaeDoor
open Go.RowKit

abbrev gqO (k : Pk) (a : Option Addr) (n cap : Nat) (c r : Int) : Obj := .cells #[.int .i64 k.org, .int .i64 k.num, .int .i64 k.srv, .int .i64 k.size, .int .i64 k.red, .int .i64 k.mtu, .int .i64 k.every, .slice a n cap, .int .i64 c, .int .i64 r] 28
theorem gq_cells {W : World} {g : Nat} {k : Pk} {a : Option Addr} {n cap : Nat} {c r : Int} (h : W.heap[g]? = some (gqO k a n cap c r)) :
    W.cell? ⟨g, 0, none⟩ = some (.int .i64 k.org) ∧ W.cell? ⟨g, 1, none⟩ = some (.int .i64 k.num) ∧ W.cell? ⟨g, 2, none⟩ = some (.int .i64 k.srv) ∧ W.cell? ⟨g, 3, none⟩ = some (.int .i64 k.size) ∧ W.cell? ⟨g, 4, none⟩ = some (.int .i64 k.red) ∧ W.cell? ⟨g, 5, none⟩ = some (.int .i64 k.mtu) ∧ W.cell? ⟨g, 6, none⟩ = some (.int .i64 k.every) ∧ W.cell? ⟨g, 7, none⟩ = some (.slice a n cap) ∧ W.cell? ⟨g, 8, none⟩ = some (.int .i64 c) ∧ W.cell? ⟨g, 9, none⟩ = some (.int .i64 r) :=
  ⟨cell_of_row _ _ 0 _ _ _ h, cell_of_row _ _ 1 _ _ _ h, cell_of_row _ _ 2 _ _ _ h, cell_of_row _ _ 3 _ _ _ h, cell_of_row _ _ 4 _ _ _ h, cell_of_row _ _ 5 _ _ _ h, cell_of_row _ _ 6 _ _ _ h, cell_of_row _ _ 7 _ _ _ h, cell_of_row _ _ 8 _ _ _ h, cell_of_row _ _ 9 _ _ _ h⟩

/-- What lies there while the pieces are looked through. -/
structure MW (k : Pk) (a : Option Addr) (n cap : Nat) (c r : Int) (l : List Pc) (v : Value) (w : World) (ba gz : Nat) (V : World) : Prop where
  ask : V.heap[w.heap.size]? = some (gqO k a n cap c r)
  row : POwn V ba v l
  zer : V.heap[gz]? = some (.cells (zrs k.size.toNat) 5)
  bel : Below w.heap.size w V
theorem MW.below {k : Pk} {a : Option Addr} {n cap : Nat} {c r : Int} {l : List Pc} {v : Value} {w : World} {ba gz : Nat} {V V' : World} (h : MW k a n cap c r l v w ba gz V) (hb : Below V.heap.size V V') : MW k a n cap c r l v w ba gz V' :=
  ⟨(hb.block _ (Array.getElem?_eq_some_iff.mp h.ask).1).trans h.ask, h.row.below hb, (hb.block _ (Array.getElem?_eq_some_iff.mp h.zer).1).trans h.zer, h.bel.trans (hb.mono h.bel.size)⟩
theorem zrs_lies {V : World} {g n : Nat} (h : V.heap[g]? = some (.cells (zrs n) 5)) : Lies .u8 V (some ⟨g, 0, none⟩) (List.replicate n 0) := by
  refine .inr ⟨g, 0, rfl, fun i hi => ?_⟩
  rw [List.length_replicate] at hi
  have hc : V.cell? ⟨g, 0 + i, none⟩ = (zrs n)[0 + i]? := by simp [World.cell?, h]
  rw [hc]
  simp [zrs, hi, List.getD_eq_getElem?_getD]
theorem bytey_zero (n : Nat) : Bytey (List.replicate n 0) := fun z hz => by rw [(List.mem_replicate.mp hz).2]; omega

theorem ag_no {k : Pk} {gs : List (Int × Int)} {c r : Int} (h : (ag k gs c r).2 ≠ 0) : (ag k gs c r).1 = [] := by
  unfold ag at h ⊢
  split
  · rfl
  · split
    · rfl
    · split
      · rfl
      · split
        · rfl
        · split
          · rfl
          · rename_i h1 h2 h3 h4 h5
            rw [if_neg h1, if_neg h2, if_neg h3, if_neg h4, if_neg h5] at h
            exact absurd rfl h
theorem ag_yes {k : Pk} {gs : List (Int × Int)} {c r : Int} (h : (ag k gs c r).2 = 0) : k.Ok ∧ Gp gs k.red ∧ (1 ≤ c ∧ c ≤ 4611686018427387903) ∧ (0 ≤ r ∧ r ≤ 4611686018427387903) ∧ ag k gs c r = (agL k c r gs, 0) := by
  unfold ag at h ⊢
  split
  · rename_i h1; rw [if_pos h1] at h; exact absurd h (by decide)
  · rename_i h1
    split
    · rename_i h2; rw [if_neg h1, if_pos h2] at h; exact absurd h (by decide)
    · rename_i h2
      split
      · rename_i h3; rw [if_neg h1, if_neg h2, if_pos h3] at h; exact absurd h (by decide)
      · rename_i h3
        split
        · rename_i h4; rw [if_neg h1, if_neg h2, if_neg h3, if_pos h4] at h; exact absurd h (by decide)
        · rename_i h4
          split
          · rename_i h5; rw [if_neg h1, if_neg h2, if_neg h3, if_neg h4, if_pos h5] at h; exact absurd h (by decide)
          · rename_i h5
            simp only [Bool.not_eq_false] at h2 h3 h4 h5
            have h6 := h5
            unfold asB at h6
            simp only [Bool.and_eq_true, btw, decide_eq_true_eq] at h6
            exact ⟨Pk.ok_of h2 h3, gp_of h4, h6.1, h6.2, rfl⟩
/-- Where the gaps lie. -/
theorem ls_at {w : World} {a : Option Addr} {cap : Nat} {gs : List (Int × Int)} (hs : C.Ls w (.slice a gs.length cap) gs) (hne : gs ≠ []) : ∃ g off, a = some ⟨g, off, none⟩ ∧ ∀ (i : Nat) (p : Int × Int), gs[i]? = some p → w.cell? ⟨g, off + i * 2, none⟩ = some (.int .i64 p.1) ∧ w.cell? ⟨g, off + i * 2 + 1, none⟩ = some (.int .i64 p.2) := by
  obtain ⟨⟨a', c', hv, hsp, _, _⟩, _⟩ := hs
  simp only [Value.slice.injEq] at hv
  obtain ⟨rfl, _, _⟩ := hv
  rcases hsp with h | h
  · exact absurd h hne
  · exact h
/-- A box that no tactic opens. -/
structure Bx (p : Prop) : Prop where
  out : p
/-- What the law says. -/
def MendSays : Prop := ∀ (k : Pk) (gs : List (Int × Int)) (c r : Int) (a : Option Addr) (n cap : Nat) (w : World), Tab w → gs.length = n → C.Ls w (.slice a gs.length cap) gs → Calls Tryd.prog 3 #[.agg #[.int .i64 k.org, .int .i64 k.num, .int .i64 k.srv, .int .i64 k.size, .int .i64 k.red, .int .i64 k.mtu, .int .i64 k.every, .slice a n cap, .int .i64 c, .int .i64 r]] w fun e w' => e = .returned (.bool true) ∧ Below w.heap.size w w'
attribute [local go_sem ↓] wp_make_bytes
theorem pNat_i (k : IntKind) (n : Int) : pNat (.int k n) = n.toNat := rfl
attribute [local go_sem] pNat_i
/-- The ways of a round behind the call of fits, as they stand there, and the rest of the walk over them. -/
structure MendWays where
  G0 : Prop
  G1 : Prop
  G2 : Prop
  G3 : Prop
  G4 : Prop
  G5 : Prop
  pf : Bx G0 → Bx G1 → Bx G2 → Bx G3 → Bx G4 → Bx G5 → MendSays
set_option maxRecDepth 100000 in
set_option maxHeartbeats 80000000 in
def mendWays : MendWays := by
  apply MendWays.mk
  intro HG0 HG1 HG2 HG3 HG4 HG5
  intro k gs c r a n cap w hT hn hs
  have HT : Hid (∀ W, Below w.heap.size w W → Tab W) := fun W hW => hT.below hW (tab_pos hT)
  have HS : Hid (∀ W, Below w.heap.size w W → C.Ls W (.slice a gs.length cap) gs) := fun W hW => hs.below hW
  have HNN : Hid (gs.length = n) := hn
  have HAG : Hid (∀ W, Below w.heap.size w W → Calls Tryd.prog 10 #[.agg #[.int .i64 k.org, .int .i64 k.num], .agg #[.int .i64 k.srv, .int .i64 k.size, .int .i64 k.red, .int .i64 k.mtu, .int .i64 k.every], .slice a n cap, .int .i64 c, .int .i64 r] W (CutPost (ag k gs c r) W)) := fun W hW => by
    have := again_any k gs c r a cap W (HT.out W hW) (HS.out W hW)
    rw [hn] at this; exact this
  have HAR : Hid (∀ W, Below w.heap.size w W → Calls Tryd.prog 11 #[.agg #[.int .i64 k.org, .int .i64 k.num], .agg #[.int .i64 k.srv, .int .i64 k.size, .int .i64 k.red, .int .i64 k.mtu, .int .i64 k.every], .slice a n cap, .int .i64 c, .int .i64 r] W (CutPost (ag k gs c r) W)) := fun W hW => by
    have := again2_any k gs c r a cap W (HS.out W hW)
    rw [hn] at this; exact this
  have hlen := ag_len k gs c r
  have HB0 : Hid (Below w.heap.size w (w.alloc (gqO k a n cap c r))) := (Below.refl _ _).alloc (Nat.le_refl _) _
  have HX0 : Hid ((w.alloc (gqO k a n cap c r)).heap[w.heap.size]? = some (gqO k a n cap c r)) := heap_alloc_new' w _
  have hA := awake4_any (w.alloc (gqO k a n cap c r)) (HT.out _ HB0.out)
  clear hT hn hs
  go_enter Tryd.func3, Tryd.ntmps3
  go_wp2_with fail
  refine hA.mono ?_
  rintro e w1 ⟨rfl, hb1⟩
  have HB1 : Hid (Below w.heap.size w w1) := HB0.out.trans (hb1.mono (by simp))
  have HX1 : Hid (w1.heap[w.heap.size]? = some (gqO k a n cap c r)) := (hb1.block _ (by simp)).trans HX0.out
  obtain ⟨a0, a1, a2, a3, a4, a5, a6, a7, a8, a9⟩ := gq_cells HX1.out
  clear hA hb1 HB0 HX0
  go_wp2_with fail
  refine (HAG.out w1 HB1.out).mono ?_
  rintro e w2 ⟨v2, rfl, ho2, hb2⟩
  have HB2 : Hid (Below w.heap.size w w2) := HB1.out.trans (hb2.mono HB1.out.size)
  have HX2 : Hid (w2.heap[w.heap.size]? = some (gqO k a n cap c r)) := (hb2.block _ (Array.getElem?_eq_some_iff.mp HX1.out).1).trans HX1.out
  have HO2 : Hid (POwn w2 w1.heap.size v2 (ag k gs c r).1) := ho2
  clear HAG hb2 ho2 HB1 HX1 a0 a1 a2 a3 a4 a5 a6 a7 a8 a9
  obtain ⟨a0, a1, a2, a3, a4, a5, a6, a7, a8, a9⟩ := gq_cells HX2.out
  obtain ⟨ga, gc, rfl⟩ := own_shp HO2.out
  go_wp2_with fail
  refine (HAR.out w2 HB2.out).mono ?_
  rintro e w3 ⟨v3, rfl, ho3, hb3⟩
  have HB3 : Hid (Below w.heap.size w w3) := HB2.out.trans (hb3.mono HB2.out.size)
  have HX3 : Hid (w3.heap[w.heap.size]? = some (gqO k a n cap c r)) := (hb3.block _ (Array.getElem?_eq_some_iff.mp HX2.out).1).trans HX2.out
  have HO3 : Hid (POwn w3 w1.heap.size (.slice ga (ag k gs c r).1.length gc) (ag k gs c r).1) := HO2.out.below hb3
  clear HAR hb3 ho3 HB2 HX2 HO2 a0 a1 a2 a3 a4 a5 a6 a7 a8 a9
  by_cases hbad : (ag k gs c r).2 = 0
  · obtain ⟨ok, hgp, hc, hr, hag⟩ := ag_yes hbad
    rw [hag] at HO3 hlen ⊢
    simp only at HO3 hlen ⊢
    clear hbad hag
    obtain ⟨f0, t0, hg0, hms⟩ := MSt.start (c := c) (r := r) hgp
    obtain ⟨g0, off0, rfl, hcl⟩ := ls_at (HS.out w (Below.refl _ _)) hgp.ne
    have HCL : Hid (∀ W, Below w.heap.size w W → ∀ (i : Nat) (p : Int × Int), gs[i]? = some p → W.cell? ⟨g0, off0 + i * 2, none⟩ = some (.int .i64 p.1) ∧ W.cell? ⟨g0, off0 + i * 2 + 1, none⟩ = some (.int .i64 p.2)) := fun W hW i p hp => ⟨C.cell_below (hcl i p hp).1 hW, C.cell_below (hcl i p hp).2 hW⟩
    have hn2 : n ≤ 2000 := by rw [← HNN.out]; exact hgp.few
    have hn0 : 0 < n := by rw [← HNN.out]; exact List.length_pos_iff.mpr hgp.ne
    have HMS0 : Hid (MSt k c r gs (agL k c r gs) 0 f0) := hms
    generalize agL k c r gs = l at *
    have hks := ok.size
    have hkr := ok.red
    have hmk : Makes (.int .i64 k.size) (.int .i64 k.size) := ⟨k.size.toNat, by rw [Int.toNat_of_nonneg (by omega)], by rw [Int.toNat_of_nonneg (by omega)], by omega⟩
    obtain ⟨a0, a1, a2, a3, a4, a5, a6, a7, a8, a9⟩ := gq_cells HX3.out
    have HW4 : Hid (MW k (some ⟨g0, off0, none⟩) n cap c r l (.slice ga l.length gc) w w1.heap.size w3.heap.size (w3.alloc (.cells (zrs k.size.toNat) 5))) :=
      ⟨heapA HX3.out _, HO3.out.below ((Below.refl _ _).alloc (Nat.le_refl _) _), heap_alloc_new' w3 _, HB3.out.alloc HB3.out.size _⟩
    have a7' := cellA a7 (.cells (zrs k.size.toNat) 5)
    have s0 := (HCL.out _ HW4.out.bel 0 _ hg0).1
    simp only [Nat.zero_mul, Nat.add_zero] at s0
    have hn0' : (0 : Int) < (n : Int) := by omega
    clear hms hcl hg0 HS
    go_wp2_with fail
    clear a0 a1 a2 a3 a4 a5 a6 a7 a8 a9 a7' s0 HO3 HX3 HB3
    generalize w3.alloc (.cells (zrs k.size.toNat) 5) = w4 at *
    generalize w3.heap.size = gz at *
    go_loopw [9, 10, 11] (fun x y t wr => ∃ (i g : Nat) (at' : Int), i ≤ l.length ∧ g ≤ n ∧ t = .int .i64 i ∧ x = .int .i64 g ∧ y = .int .i64 at' ∧ MSt k c r gs (l.drop i) g at' ∧ MW k (some ⟨g0, off0, none⟩) n cap c r l (.slice ga l.length gc) w w1.heap.size gz wr) (fun _ _ t _ => l.length - (intOf t).toNat)
    case atStart => exact ⟨0, 0, f0, Nat.zero_le _, Nat.zero_le _, rfl, rfl, rfl, HMS0.out, HW4.out⟩
    case round =>
      obtain ⟨i, g, at', hil, hgl, rfl, rfl, rfl, hfs, hfw⟩ := hrel
      clear HW4 HMS0
      by_cases hi : i < l.length
      · have hi' : (i : Int) < (l.length : Int) := by omega
        have hp : l[i]? = some l[i] := List.getElem?_eq_getElem hi
        have hdr : l.drop i = l[i] :: l.drop (i + 1) := List.drop_eq_getElem_cons hi
        generalize l[i] = y at hp hdr
        rw [hdr] at hfs
        obtain ⟨L, lc, hL⟩ := own_pos hfw.row (by omega)
        simp only [Value.slice.injEq, true_and] at hL
        obtain ⟨rfl, rfl⟩ := hL
        obtain ⟨q0, q1, q2, q3, q4⟩ := hfw.row.cells hp
        obtain ⟨f0', t0', hgn, hgg, hfrm, hpm, hkm⟩ := MSt.step ok hc hr hfs
        obtain ⟨ty, frm, tt, ck, rp⟩ := y
        simp only at hfrm q0 q1 q2 q3 q4
        subst hfrm
        have HPM : Hid (PM k ⟨ty, frm, tt, ck, rp⟩) := hpm
        have hlt : frm < tt := hpm.lt
        have hhi : tt ≤ k.size := hpm.hi
        have HFW : Hid (MW k (some ⟨g0, off0, none⟩) n cap c r l (.slice (some ⟨L, 0, none⟩) l.length gc) w w1.heap.size gz (wr.alloc (.cells #[.int .i64 ty, .int .i64 frm, .int .i64 tt, .int .i64 ck, .int .i64 rp] 38))) := hfw.below ((Below.refl _ _).alloc (Nat.le_refl _) _)
        have HPC : Hid ((wr.alloc (.cells #[.int .i64 ty, .int .i64 frm, .int .i64 tt, .int .i64 ck, .int .i64 rp] 38)).heap[wr.heap.size]? = some (.cells #[.int .i64 ty, .int .i64 frm, .int .i64 tt, .int .i64 ck, .int .i64 rp] 38)) := heap_alloc_new' wr _
        obtain ⟨a0, a1, a2, a3, a4, a5, a6, a7, a8, a9⟩ := gq_cells HFW.out.ask
        have HGG : Hid (gs[g]? = some (f0', t0')) := hgg
        have hgn2 : g < n := by rw [← HNN.out]; exact hgn
        have htb : 0 ≤ t0' ∧ t0' ≤ 65536 := by
          have h := hgp.mem _ (List.mem_of_getElem? HGG.out)
          have h2 := ok.red
          have h3 := ok.size
          simp only at h
          omega
        clear hpm hfw hfs hdr hp hgn hgg
        go_wp2_with fail
        refine (fits_ok ok ⟨ty, frm, tt, ck, rp⟩ gz (List.replicate k.size.toNat 0) k.size.toNat k.size.toNat _ (HT.out _ HFW.out.bel) (by simp) (Nat.le_refl _) (by omega) (zrs_lies HFW.out.zer) (bytey_zero _) HPM.out.pc HPM.out.ty HPM.out.no HPM.out.hi HPM.out.fit HPM.out.f0).mono ?_
        rintro e w5 ⟨rfl, hb5⟩
        have HFW5 : Hid (MW k (some ⟨g0, off0, none⟩) n cap c r l (.slice (some ⟨L, 0, none⟩) l.length gc) w w1.heap.size gz w5) := HFW.out.below hb5
        have HPC5 : Hid (w5.heap[wr.heap.size]? = some (.cells #[.int .i64 ty, .int .i64 frm, .int .i64 tt, .int .i64 ck, .int .i64 rp] 38)) := (hb5.block _ (Array.getElem?_eq_some_iff.mp HPC.out).1).trans HPC.out
        clear a0 a1 a2 a3 a4 a5 a6 a7 a8 a9 HFW HPC hb5 q0 q1 q2 q3 q4
        generalize wr.heap.size = gp at *
        have hgi : ((g : Int) == (n : Int)) = false := by rw [beq_eq_false_iff_ne]; omega
        have hgi' : ¬ (g : Int) = (n : Int) := by omega
        have hgi2 : (g : Int) < (n : Int) := by omega
        have hwl : IntKind.i64.wrap ((l.length : Int) - 1) = (l.length : Int) - 1 := by rw [IntKind.wrap_i64]; omega
        have hwn : IntKind.i64.wrap ((n : Int) - 1) = (n : Int) - 1 := by rw [IntKind.wrap_i64]; omega
        have hwg : IntKind.i64.wrap ((g : Int) + 1) = (g : Int) + 1 := by rw [IntKind.wrap_i64]; omega
        have HLG : Hid (∀ W, Below w.heap.size w W → Calls Tryd.prog 14 #[.agg #[.int .i64 k.org, .int .i64 k.num], .agg #[.int .i64 k.srv, .int .i64 k.size, .int .i64 k.red, .int .i64 k.mtu, .int .i64 k.every], .agg #[.int .i64 ty, .int .i64 frm, .int .i64 tt, .int .i64 ck, .int .i64 rp]] W fun e w' => e = .returned (.bool (decide (65536 < tt + 1) || !fitB (frX k ⟨ty, frm, tt, ck, rp⟩) k.mtu (tt + 1 - frm))) ∧ Below W.heap.size W w') := fun W hW => longer_ok ok ⟨ty, frm, tt, ck, rp⟩ W (HT.out W hW) HPM.out.lo HPM.out.lt HPM.out.hi HPM.out.ty HPM.out.no HPM.out.fit HPM.out.f0
        have HFU : Hid (fitB (frX k ⟨ty, frm, tt, ck, rp⟩) k.mtu (tt + 1 - frm) = false → (decide (65536 < tt + 1) || !fitB (frX k ⟨ty, frm, tt, ck, rp⟩) k.mtu (tt + 1 - frm)) = true) := fun h => by rw [h]; simp
        have HTY : Hid (ty = 0 → ck = 0 ∧ rp = 0) := fun h => by
          rcases HPM.out.no with q | q
          · have := q.1; rw [show (Pc.mk ty frm tt ck rp).typ = ty from rfl, h] at this; exact absurd this (by decide)
          · exact q.2
        have hto : 0 ≤ tt ∧ tt ≤ 65536 := by have := HPM.out.lo; have := ok.size; have := HPM.out.hi; have := HPM.out.lt; simp only at *; omega
        unfold Km at hkm
        dsimp only at hkm
        generalize hq : (decide (65536 < tt + 1) || !fitB (frX k ⟨ty, frm, tt, ck, rp⟩) k.mtu (tt + 1 - frm)) = q at *
        clear hq
        clear hks hkr hhi hmk HT
        rcases hkm with ⟨f1, t1, h1, h2, rfl, rfl, h5, h6⟩ | ⟨h1, rfl, h3, h4, h5, h6⟩ | ⟨h1, rfl, h3, h4, h5, h6⟩ | ⟨h1, rfl, h3, h4, rfl, rfl, h7, h8⟩
        · have hgx : g + 1 < n := by rw [← HNN.out]; exact h1
          have hgx' : (g : Int) + 1 < (n : Int) := by omega
          have hlx : i + 1 < l.length := by
            rcases Nat.lt_or_ge (i + 1) l.length with q | q
            · exact q
            · exact absurd (List.drop_eq_nil_of_le q) h5
          have hla : ((i : Int) == (l.length : Int) - 1) = false := by rw [beq_eq_false_iff_ne]; omega
          have hla' : ¬ (i : Int) = (l.length : Int) - 1 := by omega
          obtain ⟨rfl, rfl⟩ := HTY.out rfl
          have HG1 : Hid (gs[g + 1]? = some (f1, t1)) := h2
          have HMS : Hid (MSt k c r gs (l.drop (i + 1)) (g + 1) f1) := h6
          clear h1 h2 h5 h6 HFU HTY HPM ok hc hr hgp HNN
          rename_i Z0 Z1 Z2 Z3 Z4 Z5 Z6 Z7 Z8 Z9
          revert k gs c r n cap w Z0 w1 w2 gc w3 v3 f0 t0 g0 off0 HCL hn2 hn0 l hlen hn0' Z1 Z2 w4 gz wr u2 u12 u13 u14 u15 u16 u17 u73 u74 u75 u76 u77 u78 u79 u80 u81 u82 u83 u84 u85 u86 u87 u88 u89 u90 u91 u92 u93 u94 u95 u96 u97 u98 u99 u100 u101 u102 u103 u104 u105 u106 u107 u108 u109 u110 u111 u112 u113 u114 u115 u116 u117 u118 u119 u120 u121 u122 u123 u124 u125 u126 u127 u128 u129 u130 u131 u132 u133 u134 u135 u136 u137 u138 u139 u140 u141 u142 u143 u144 u145 u146 u147 u148 u149 u150 u151 u152 u153 u154 u155 u156 u157 u158 u159 u160 u161 u162 u163 u164 u165 u166 u167 u168 u169 u170 u171 u172 u173 u174 u175 u176 u177 u178 u179 u180 u181 u182 u183 u184 u185 u186 u187 u188 u189 u190 u191 u192 u193 u194 u195 u196 u197 u198 u199 u200 u201 u202 u203 u204 u205 u206 u207 u208 u209 u210 u211 u212 u213 u214 u215 u216 u217 u218 u219 u220 u221 u222 u223 u224 u225 u226 u227 u228 u229 u230 u231 i g hil hgl hi hi' L f0' frm tt hlt hgn2 Z3 Z4 Z5 Z6 Z7 Z8 Z9 w5 HFW5 gp hgi hgi' hgi2 hwl hwn hwg hto q f1 t1 HGG htb hgx hgx' hlx hla hla' HPC5 HLG HG1 HMS
          exact HG0.out
        · have hgx : g + 1 < n := by rw [← HNN.out]; exact h1
          have hlx : i + 1 < l.length := by
            rcases Nat.lt_or_ge (i + 1) l.length with q | q
            · exact q
            · exact absurd (List.drop_eq_nil_of_le q) h5
          have hla : ((i : Int) == (l.length : Int) - 1) = false := by rw [beq_eq_false_iff_ne]; omega
          have hla' : ¬ (i : Int) = (l.length : Int) - 1 := by omega
          obtain ⟨rfl, rfl⟩ := HTY.out rfl
          have hq : q = true := HFU.out h4
          subst hq
          have hge : ((g : Int) == (n : Int) - 1) = false := by rw [beq_eq_false_iff_ne]; omega
          have hge' : ¬ (g : Int) = (n : Int) - 1 := by omega
          have hte : (tt == t0') = false := by rw [beq_eq_false_iff_ne]; omega
          have hte' : ¬ tt = t0' := by omega
          have hle : decide (t0' < tt) = false := decide_eq_false (by omega)
          have hle' : ¬ t0' < tt := by omega
          have HMS : Hid (MSt k c r gs (l.drop (i + 1)) g tt) := h6
          clear h1 h3 h4 h5 h6 HFU HTY HPM ok hc hr hgp HNN
          rename_i Z0 Z1 Z2 Z3 Z4 Z5 Z6 Z7 Z8 Z9
          revert k gs c r n cap w Z0 w1 w2 gc w3 v3 f0 t0 g0 off0 HCL hn2 hn0 l hlen hn0' Z1 Z2 w4 gz wr u2 u12 u13 u14 u15 u16 u17 u73 u74 u75 u76 u77 u78 u79 u80 u81 u82 u83 u84 u85 u86 u87 u88 u89 u90 u91 u92 u93 u94 u95 u96 u97 u98 u99 u100 u101 u102 u103 u104 u105 u106 u107 u108 u109 u110 u111 u112 u113 u114 u115 u116 u117 u118 u119 u120 u121 u122 u123 u124 u125 u126 u127 u128 u129 u130 u131 u132 u133 u134 u135 u136 u137 u138 u139 u140 u141 u142 u143 u144 u145 u146 u147 u148 u149 u150 u151 u152 u153 u154 u155 u156 u157 u158 u159 u160 u161 u162 u163 u164 u165 u166 u167 u168 u169 u170 u171 u172 u173 u174 u175 u176 u177 u178 u179 u180 u181 u182 u183 u184 u185 u186 u187 u188 u189 u190 u191 u192 u193 u194 u195 u196 u197 u198 u199 u200 u201 u202 u203 u204 u205 u206 u207 u208 u209 u210 u211 u212 u213 u214 u215 u216 u217 u218 u219 u220 u221 u222 u223 u224 u225 u226 u227 u228 u229 u230 u231 i g hil hgl hi hi' L f0' t0' frm tt hlt HGG hgn2 htb Z3 Z4 Z5 Z6 Z7 Z8 Z9 w5 HFW5 gp hgi hgi' hgi2 hwl hwn hwg hto hgx hlx hla hla' HPC5 HLG hge hge' hte hte' hle hle' HMS
          exact HG1.out
        · have hgx : g + 1 = n := by rw [← HNN.out]; exact h1
          have hlx : i + 1 < l.length := by
            rcases Nat.lt_or_ge (i + 1) l.length with q | q
            · exact q
            · exact absurd (List.drop_eq_nil_of_le q) h5
          have hla : ((i : Int) == (l.length : Int) - 1) = false := by rw [beq_eq_false_iff_ne]; omega
          have hla' : ¬ (i : Int) = (l.length : Int) - 1 := by omega
          obtain ⟨rfl, rfl⟩ := HTY.out rfl
          have hge : ((g : Int) == (n : Int) - 1) = true := by rw [beq_iff_eq]; omega
          have HMS : Hid (MSt k c r gs (l.drop (i + 1)) g tt) := h6
          have hte : (tt == t0') = false := by rw [beq_eq_false_iff_ne]; omega
          have hte' : ¬ tt = t0' := by omega
          have hle : decide (t0' < tt) = false := decide_eq_false (by omega)
          have hle' : ¬ t0' < tt := by omega
          have hwt : IntKind.i64.wrap (t0' - 1) = t0' - 1 := by rw [IntKind.wrap_i64]; omega
          by_cases hcut : tt = t0' - 1
          · have hc1 : (tt == t0' - 1) = true := by rw [beq_iff_eq]; exact hcut
            have HCE : Hid (tt = t0' - 1) := hcut
            clear hcut h1 h3 h4 h5 h6 HFU HTY HPM ok hc hr hgp HNN hgx
            rename_i Z0 Z1 Z2 Z3 Z4 Z5 Z6 Z7 Z8 Z9
            revert k gs c r n cap w Z0 w1 w2 gc w3 v3 f0 t0 g0 off0 HCL hn2 hn0 l hlen hn0' Z1 Z2 w4 gz wr u2 u12 u13 u14 u15 u16 u17 u73 u74 u75 u76 u77 u78 u79 u80 u81 u82 u83 u84 u85 u86 u87 u88 u89 u90 u91 u92 u93 u94 u95 u96 u97 u98 u99 u100 u101 u102 u103 u104 u105 u106 u107 u108 u109 u110 u111 u112 u113 u114 u115 u116 u117 u118 u119 u120 u121 u122 u123 u124 u125 u126 u127 u128 u129 u130 u131 u132 u133 u134 u135 u136 u137 u138 u139 u140 u141 u142 u143 u144 u145 u146 u147 u148 u149 u150 u151 u152 u153 u154 u155 u156 u157 u158 u159 u160 u161 u162 u163 u164 u165 u166 u167 u168 u169 u170 u171 u172 u173 u174 u175 u176 u177 u178 u179 u180 u181 u182 u183 u184 u185 u186 u187 u188 u189 u190 u191 u192 u193 u194 u195 u196 u197 u198 u199 u200 u201 u202 u203 u204 u205 u206 u207 u208 u209 u210 u211 u212 u213 u214 u215 u216 u217 u218 u219 u220 u221 u222 u223 u224 u225 u226 u227 u228 u229 u230 u231 i g hil hgl hi hi' L f0' t0' frm tt hlt HGG hgn2 htb Z3 Z4 Z5 Z6 Z7 Z8 Z9 w5 HFW5 gp hgi hgi' hgi2 hwl hwn hwg hto q hlx hla hla' HPC5 HLG hge HMS hte hte' hle hle' hwt hc1 HCE
            exact HG2.out
          · have hc1 : (tt == t0' - 1) = false := by rw [beq_eq_false_iff_ne]; exact hcut
            have hq : q = true := HFU.out (h4.resolve_left hcut)
            subst hq
            clear h1 h3 h4 h5 h6 HFU HTY HPM ok hc hr hgp HNN hgx
            rename_i Z0 Z1 Z2 Z3 Z4 Z5 Z6 Z7 Z8 Z9
            revert k gs c r n cap w Z0 w1 w2 gc w3 v3 f0 t0 g0 off0 HCL hn2 hn0 l hlen hn0' Z1 Z2 w4 gz wr u2 u12 u13 u14 u15 u16 u17 u73 u74 u75 u76 u77 u78 u79 u80 u81 u82 u83 u84 u85 u86 u87 u88 u89 u90 u91 u92 u93 u94 u95 u96 u97 u98 u99 u100 u101 u102 u103 u104 u105 u106 u107 u108 u109 u110 u111 u112 u113 u114 u115 u116 u117 u118 u119 u120 u121 u122 u123 u124 u125 u126 u127 u128 u129 u130 u131 u132 u133 u134 u135 u136 u137 u138 u139 u140 u141 u142 u143 u144 u145 u146 u147 u148 u149 u150 u151 u152 u153 u154 u155 u156 u157 u158 u159 u160 u161 u162 u163 u164 u165 u166 u167 u168 u169 u170 u171 u172 u173 u174 u175 u176 u177 u178 u179 u180 u181 u182 u183 u184 u185 u186 u187 u188 u189 u190 u191 u192 u193 u194 u195 u196 u197 u198 u199 u200 u201 u202 u203 u204 u205 u206 u207 u208 u209 u210 u211 u212 u213 u214 u215 u216 u217 u218 u219 u220 u221 u222 u223 u224 u225 u226 u227 u228 u229 u230 u231 i g hil hgl hi hi' L f0' t0' frm tt hlt HGG hgn2 htb Z3 Z4 Z5 Z6 Z7 Z8 Z9 w5 HFW5 gp hgi hgi' hgi2 hwl hwn hwg hto hlx hla hla' HPC5 hge HMS hte hte' hle hle' hwt hcut hc1 HLG
            exact HG3.out
        · have hgx : g + 1 = n := by rw [← HNN.out]; exact h1
          have hlx : l.length ≤ i + 1 := by
            rcases Nat.lt_or_ge (i + 1) l.length with q | q
            · rw [List.drop_eq_getElem_cons q] at h7; cases h7
            · exact q
          have hla : ((i : Int) == (l.length : Int) - 1) = true := by rw [beq_iff_eq]; omega
          have hge'' : ¬ (g : Int) + 1 < (n : Int) := by omega
          have hck : cks ty = true := h3
          have hx1 : ((tt == k.red) == (ty == 1)) = false := h4
          have HMS : Hid (MSt k ck rp gs (l.drop (i + 1)) (g + 1) tt) := h8
          clear h1 h3 h4 h7 h8 HFU HTY HPM ok hc hr hgp HNN hgx hlx
          rename_i Z0 Z1 Z2 Z3 Z4 Z5 Z6 Z7 Z8 Z9
          revert k gs n cap w Z0 w1 w2 gc w3 v3 f0 t0 g0 off0 HCL hn2 hn0 l hlen hn0' Z1 Z2 w4 gz wr u2 u12 u13 u14 u15 u16 u17 u73 u74 u75 u76 u77 u78 u79 u80 u81 u82 u83 u84 u85 u86 u87 u88 u89 u90 u91 u92 u93 u94 u95 u96 u97 u98 u99 u100 u101 u102 u103 u104 u105 u106 u107 u108 u109 u110 u111 u112 u113 u114 u115 u116 u117 u118 u119 u120 u121 u122 u123 u124 u125 u126 u127 u128 u129 u130 u131 u132 u133 u134 u135 u136 u137 u138 u139 u140 u141 u142 u143 u144 u145 u146 u147 u148 u149 u150 u151 u152 u153 u154 u155 u156 u157 u158 u159 u160 u161 u162 u163 u164 u165 u166 u167 u168 u169 u170 u171 u172 u173 u174 u175 u176 u177 u178 u179 u180 u181 u182 u183 u184 u185 u186 u187 u188 u189 u190 u191 u192 u193 u194 u195 u196 u197 u198 u199 u200 u201 u202 u203 u204 u205 u206 u207 u208 u209 u210 u211 u212 u213 u214 u215 u216 u217 u218 u219 u220 u221 u222 u223 u224 u225 u226 u227 u228 u229 u230 u231 i g hil hgl hi hi' L f0' ty frm tt ck rp hlt hgn2 Z3 Z4 Z5 w5 gp HPC5 hgi hgi' hgi2 hwl hwn hwg hto q HLG HGG htb Z6 Z7 Z8 Z9 HFW5 hla hge'' hck hx1 HMS
          exact HG4.out
      · have hi' : ¬ (i : Int) < (l.length : Int) := by omega
        have he : i = l.length := by omega
        subst he
        rw [List.drop_length] at hfs
        have hak := hfs.done
        rw [HNN.out] at hak
        subst hak
        have HFW : Hid (MW k (some ⟨g0, off0, none⟩) g cap c r l (.slice ga l.length gc) w w1.heap.size gz wr) := hfw
        obtain ⟨a0, a1, a2, a3, a4, a5, a6, a7, a8, a9⟩ := gq_cells hfw.ask
        clear hfs hfw
        go_wp2
        go_ret
        exact ⟨rfl, HFW.out.bel⟩
  · have hnil := ag_no hbad
    rw [hnil]
    generalize (ag k gs c r).2 = er at *
    have HE : (er != 0) = true := by simpa using hbad
    clear hbad
    rename_i Z0 Z1 Z2 Z3 Z4
    revert k gs c r a n cap w HT HS HNN hlen Z0 w1 w2 ga gc Z1 Z2 Z3 Z4 w3 v3 HB3 HX3 HO3 hnil er HE
    exact HG5.out
end Go.Proofs.YtfghdhikjhbbgaeDoor
