import Derived.Test.YtlagadpfnkidjacDsa
namespace Go.Proofs.Ytlagadpfnkidjac
open Go.RowKit

theorem Dl.lens {W : World} {base : Nat} {lv : Value} {cs : List Rw} (h : Dl W base lv cs) : ∀ g, lv.ownBlock = some g → base ≤ g ∧ g < W.heap.size := h.row.lt
theorem Dl.lists {W : World} {base : Nat} {lv : Value} {cs : List Rw} (h : Dl W base lv cs) : ∀ (j : Nat) x, cs[j]? = some x → ∀ g, x.1.ownBlock = some g → base ≤ g ∧ g < W.heap.size := fun j x hx => (h.cl.own j x hx).lt

set_option maxHeartbeats 16000000 in
set_option maxRecDepth 100000 in
theorem deals_in (aa : Option Addr) (ca : Nat) (l : List Sp) (most : Int) (w : World) (ha : Ls w (.slice aa l.length ca) l) (ma : l.length ≤ 1048576) :
    Calls Try.prog 5 #[.slice aa l.length ca, .int .i64 most] w fun e w' => e = .returned (.bool true) ∧ Below w.heap.size w w' := by
  obtain ⟨i1, hi', hz0', hz1', hz2'⟩ := info_parts Try.info_spans
  have HA : Hid (∀ W, Below w.heap.size w W → Ls W (.slice aa l.length ca) l) := fun W hW => ha.below hW
  obtain ⟨w0, hw0⟩ : ∃ w0, w0 = w := ⟨w, rfl⟩
  have HW0 : Hid (Below w.heap.size w w0) := by rw [hw0]; exact Below.refl _ _
  rw [← hw0]
  have sz0 : w.heap.size ≤ w0.heap.size := by rw [hw0]; exact Nat.le_refl _
  have HE0 : Hid (w0 = w) := hw0
  clear ha hw0
  go_enter Try.func5, Try.ntmps5
  go_wp2_with fail
  refine (awake_any w0).mono ?_
  rintro e w1 ⟨rfl, hb1⟩
  have HW1 : Hid (Below w.heap.size w w1) := HW0.out.trans (hb1.mono HW0.out.size)
  have sz1 : w0.heap.size ≤ w1.heap.size := hb1.size
  clear hb1
  go_wp2_with fail
  refine (lent_any (HA.out w1 HW1.out) ma).mono ?_
  rintro e w2 ⟨rfl, hs2, hb2⟩
  have HW2 : Hid (Below w.heap.size w w2) := HW1.out.trans (hb2.mono HW1.out.size)
  have OA : Hid (SOwn w2 w1.heap.size (.slice (some ⟨w1.heap.size, 0, none⟩) (l.length + 2) (l.length + 2)) (mkd l)) := hs2
  have pA : w1.heap.size < w2.heap.size := (hs2.lt _ rfl).2
  clear hb2 hs2
  have HX : Hid (∀ W, SOwn W w1.heap.size (.slice (some ⟨w1.heap.size, 0, none⟩) (l.length + 2) (l.length + 2)) (mkd l) → Ls W (.slice (some ⟨w1.heap.size, 0, none⟩) l.length (l.length + 2)) l) := fun W hW => by have := hW.ls_head (n := l.length) (c := l.length + 2) (by omega) (by omega) (by omega); rw [show (mkd l).take l.length = l by simp [mkd]] at this; exact this
  go_wp2_with fail
  refine (refdeal_any aa ca l w2 most (HA.out w2 HW2.out)).mono ?_
  rintro e w3 ⟨v3, ds, er, rfl, hd3, hr3, hb3⟩
  have HW3 : Hid (Below w.heap.size w w3) := HW2.out.trans (hb3.mono HW2.out.size)
  have sz3 : w2.heap.size ≤ w3.heap.size := hb3.size
  replace OA : Hid (SOwn w3 w1.heap.size (.slice (some ⟨w1.heap.size, 0, none⟩) (l.length + 2) (l.length + 2)) (mkd l)) := OA.out.below hb3
  obtain ⟨n, hn⟩ : ∃ n, ds.length = n := ⟨_, rfl⟩
  obtain ⟨a3, c3, hv3⟩ := own_shape hd3.row
  rw [hn] at hv3
  subst hv3
  have HR : Hid (DlR l most (ds.map (·.2)) er) := hr3
  have nb : n ≤ 2000 := by have := hr3.bnd.1; simp at this; omega
  have HD : Hid (Dl w3 w2.heap.size (.slice a3 n c3) ds) := hd3
  clear hb3 hr3 hd3
  go_wp2_with fail
  refine (deal_any _ _ l w3 most (HX.out w3 OA.out)).mono ?_
  rintro e w4 ⟨v4, A, er4, rfl, hd4, hr4, hb4⟩
  have HW4 : Hid (Below w.heap.size w w4) := HW3.out.trans (hb4.mono HW3.out.size)
  have sz4 : w3.heap.size ≤ w4.heap.size := hb4.size
  replace OA : Hid (SOwn w4 w1.heap.size (.slice (some ⟨w1.heap.size, 0, none⟩) (l.length + 2) (l.length + 2)) (mkd l)) := OA.out.below hb4
  replace HD : Hid (Dl w4 w2.heap.size (.slice a3 n c3) ds) := HD.out.below hb4
  have eA : Hid (A.map (·.2) = ds.map (·.2)) := (hr4.uniq HR.out).1
  have e4 := (hr4.uniq HR.out).2.symm
  subst e4
  have nA : Hid (A.length = n) := by have := congrArg List.length eA.out; unfold Hid; simp at this; omega
  obtain ⟨a4, c4, hv4⟩ := own_shape hd4.row
  rw [nA.out] at hv4
  subst hv4
  have HDA : Hid (Dl w4 w3.heap.size (.slice a4 n c4) A) := hd4
  have pa : Hid (∀ g, (Value.slice a4 n c4).ownBlock = some g → w3.heap.size ≤ g ∧ g < w4.heap.size) := hd4.lens
  have pl : Hid (∀ (j : Nat) x, A[j]? = some x → ∀ g, x.1.ownBlock = some g → w3.heap.size ≤ g ∧ g < w4.heap.size) := hd4.lists
  clear hb4 hr4 hd4
  go_wp2_with fail
  refine (deal_any _ _ l w4 most (HX.out w4 OA.out)).mono ?_
  rintro e w5 ⟨v5, B, er5, rfl, hd5, hr5, hb5⟩
  have HW5 : Hid (Below w.heap.size w w5) := HW4.out.trans (hb5.mono HW4.out.size)
  have sz5 : w4.heap.size ≤ w5.heap.size := hb5.size
  replace OA : Hid (SOwn w5 w1.heap.size (.slice (some ⟨w1.heap.size, 0, none⟩) (l.length + 2) (l.length + 2)) (mkd l)) := OA.out.below hb5
  replace HD : Hid (Dl w5 w2.heap.size (.slice a3 n c3) ds) := HD.out.below hb5
  replace HDA : Hid (Dl w5 w3.heap.size (.slice a4 n c4) A) := HDA.out.below hb5
  have eB : Hid (B.map (·.2) = ds.map (·.2)) := (hr5.uniq HR.out).1
  have e5 := (hr5.uniq HR.out).2.symm
  subst e5
  have nB : Hid (B.length = n) := by have := congrArg List.length eB.out; unfold Hid; simp at this; omega
  obtain ⟨a5, c5, hv5⟩ := own_shape hd5.row
  rw [nB.out] at hv5
  subst hv5
  have HDB : Hid (Dl w5 w4.heap.size (.slice a5 n c5) B) := hd5
  have pb : Hid (∀ g, (Value.slice a5 n c5).ownBlock = some g → w4.heap.size ≤ g ∧ g < w5.heap.size) := hd5.lens
  have pm : Hid (∀ (j : Nat) x, B[j]? = some x → ∀ g, x.1.ownBlock = some g → w4.heap.size ≤ g ∧ g < w5.heap.size) := hd5.lists
  clear hb5 hr5 hd5
  have sA : Hid (∀ x ∈ A, 1 ≤ x.2.length ∧ x.2.length ≤ 2000) := fun x hx => HR.out.bnd.2 x.2 (by rw [← eA.out]; exact List.mem_map_of_mem hx)
  have sB : Hid (∀ x ∈ B, 1 ≤ x.2.length ∧ x.2.length ≤ 2000) := fun x hx => HR.out.bnd.2 x.2 (by rw [← eB.out]; exact List.mem_map_of_mem hx)
  have hsa := sameall_eq HDA.out HD.out eA.out (by rw [nA.out]; omega) (fun x hx => by have := sA.out x hx; omega)
  clear hn
  go_wp2_with fail
  refine hsa.mono ?_
  rintro e w6 ⟨rfl, hb6⟩
  have HW6 : Hid (Below w.heap.size w w6) := HW5.out.trans (hb6.mono HW5.out.size)
  have sz6 : w5.heap.size ≤ w6.heap.size := hb6.size
  replace OA : Hid (SOwn w6 w1.heap.size (.slice (some ⟨w1.heap.size, 0, none⟩) (l.length + 2) (l.length + 2)) (mkd l)) := OA.out.below hb6
  replace HD : Hid (Dl w6 w2.heap.size (.slice a3 n c3) ds) := HD.out.below hb6
  replace HDA : Hid (Dl w6 w3.heap.size (.slice a4 n c4) A) := HDA.out.below hb6
  replace HDB : Hid (Dl w6 w4.heap.size (.slice a5 n c5) B) := HDB.out.below hb6
  clear hb6 hsa
  have hsb := sameall_eq HDB.out HD.out eB.out (by rw [nB.out]; omega) (fun x hx => by have := sB.out x hx; omega)
  go_wp2_with fail
  refine hsb.mono ?_
  rintro e w7 ⟨rfl, hb7⟩
  have HW7 : Hid (Below w.heap.size w w7) := HW6.out.trans (hb7.mono HW6.out.size)
  have sz7 : w6.heap.size ≤ w7.heap.size := hb7.size
  replace OA : Hid (SOwn w7 w1.heap.size (.slice (some ⟨w1.heap.size, 0, none⟩) (l.length + 2) (l.length + 2)) (mkd l)) := OA.out.below hb7
  replace HDA : Hid (Dl w7 w3.heap.size (.slice a4 n c4) A) := HDA.out.below hb7
  replace HDB : Hid (Dl w7 w4.heap.size (.slice a5 n c5) B) := HDB.out.below hb7
  clear hb7 hsb HD
  go_wp2_with fail
  refine (lent_any (HA.out w7 HW7.out) ma).mono ?_
  rintro e w8 ⟨rfl, hs8, hb8⟩
  have HW8 : Hid (Below w.heap.size w w8) := HW7.out.trans (hb8.mono HW7.out.size)
  have sz8 : w7.heap.size ≤ w8.heap.size := hb8.size
  replace OA : Hid (SOwn w8 w1.heap.size (.slice (some ⟨w1.heap.size, 0, none⟩) (l.length + 2) (l.length + 2)) (mkd l)) := OA.out.below hb8
  replace HDA : Hid (Dl w8 w3.heap.size (.slice a4 n c4) A) := HDA.out.below hb8
  replace HDB : Hid (Dl w8 w4.heap.size (.slice a5 n c5) B) := HDB.out.below hb8
  have hsm9 := same_ls (OA.out.ls (by rw [mkd_len]; omega)) (hs8.ls (by rw [mkd_len]; omega))
  rw [show eqB (mkd l) (mkd l) = true from decide_eq_true rfl] at hsm9
  clear hb8 hs8
  go_wp2_with fail
  refine hsm9.mono ?_
  rintro e w9 ⟨rfl, hb9⟩
  have HW9 : Hid (Below w.heap.size w w9) := HW8.out.trans (hb9.mono HW8.out.size)
  have sz9 : w8.heap.size ≤ w9.heap.size := hb9.size
  replace OA : Hid (SOwn w9 w1.heap.size (.slice (some ⟨w1.heap.size, 0, none⟩) (l.length + 2) (l.length + 2)) (mkd l)) := OA.out.below hb9
  replace HDA : Hid (Dl w9 w3.heap.size (.slice a4 n c4) A) := HDA.out.below hb9
  replace HDB : Hid (Dl w9 w4.heap.size (.slice a5 n c5) B) := HDB.out.below hb9
  clear hb9 hsm9 HR HW0 HW1 HW2 HW3 HW4 HW5 HW6 HW7 HW8 eA eB
  have HB10 : Hid (Bkp (w9.alloc (.cells #[.slice none 0 0, .slice none 0 0] 30)) w.heap.size w9.heap.size (.slice none 0 0) []) := Bkp.start (by have := HW9.out.size; omega)
  have HL10 : Hid (Below w9.heap.size w9 (w9.alloc (.cells #[.slice none 0 0, .slice none 0 0] 30))) := (Below.refl _ _).alloc (Nat.le_refl _) _
  go_wp2_with fail
  go_loopw [18] (fun i wr => ∃ (k : Nat) (lv : Value), k ≤ n ∧ i = .int .i64 k ∧ Bkp wr w.heap.size w9.heap.size lv (zz A B k) ∧ (∀ g, lv.ownBlock = some g → w9.heap.size < g) ∧ Below w9.heap.size w9 wr ∧ w9.heap.size < wr.heap.size) (fun i _ => n - (intOf i).toNat)
  case atStart => exact ⟨0, _, by omega, rfl, HB10.out, (fun g hg => by cases hg), HL10.out, by simp⟩
  case round =>
    obtain ⟨k, lv, hk, rfl, hbk, hlv, hbe, hsz⟩ := hrel
    have HBk : Hid (Bkp wr w.heap.size w9.heap.size lv (zz A B k)) := hbk
    have HLv : Hid (∀ g, lv.ownBlock = some g → w9.heap.size < g) := hlv
    have HBe : Hid (Below w9.heap.size w9 wr) := hbe
    clear hbk hlv hbe HB10 HL10
    by_cases hkn : k < n
    · have hkn' : (k : Int) < (n : Int) := by omega
      obtain ⟨⟨xv, xl⟩, hx⟩ := get_some A k (by rw [nA.out]; exact hkn)
      obtain ⟨⟨yv, yl⟩, hy⟩ := get_some B k (by rw [nB.out]; exact hkn)
      have dA := HDA.out.below HBe.out
      have dB := HDB.out.below HBe.out
      obtain ⟨La, ca', hLa⟩ := own_some dA.row (by rw [nA.out]; omega)
      obtain ⟨Lb, cb', hLb⟩ := own_some dB.row (by rw [nB.out]; omega)
      simp only [Value.slice.injEq] at hLa hLb
      obtain ⟨rfl, hq1, rfl⟩ := hLa
      clear hq1
      obtain ⟨rfl, hq2, rfl⟩ := hLb
      clear hq2
      have q1 := dA.cellAt nA.out hx
      have oX := dA.cl.own k _ hx
      obtain ⟨ax, cx, hxs⟩ := oX.shape
      obtain ⟨ay, cy, hys⟩ := (dB.cl.own k _ hy).shape
      simp only at q1 hxs hys
      subst hxs
      subst hys
      have fx : Frs wr w.heap.size w9.heap.size lv (zz A B k) (.slice ax xl.length cx, xl) := ⟨oX.base (by omega), (fun g hg => ⟨by have := pl.out k _ hx g hg; omega, fun e => by have := HLv.out g e; have := pl.out k _ hx g hg; omega⟩), (fun j z hz g hg e => by
        obtain ⟨m, hm, q | q⟩ := zz_mem hz
        · exact HDA.out.cl.apt m k z _ (by omega) q hx g e hg
        · have := pm.out m z q g e; have := pl.out k _ hx g hg; omega), by have := sA.out _ (List.mem_of_getElem? hx); simp only at this ⊢; omega⟩
      have hzl : (zz A B k).length = 2 * k := zz_len (by rw [nA.out]; omega) (by rw [nB.out]; omega)
      have hkeep := keep_any HBk.out fx (by omega)
      clear dA dB oX fx
      go_wp2_with fail
      refine hkeep.mono ?_
      rintro e w11 ⟨⟨u11, rfl⟩, lv11, hbk11, hkp11, hl11⟩
      have HBk2 : Hid (Bkp w11 w.heap.size w9.heap.size lv11 (zz A B k ++ [(.slice ax xl.length cx, xl)])) := hbk11
      have HLv2 : Hid (∀ g, lv11.ownBlock = some g → w9.heap.size < g) := fun g hg => by
        rcases hl11 g hg with h | h
        · exact HLv.out g h
        · omega
      have HBe2 : Hid (Below w9.heap.size w9 w11) := HBe.out.trans (hkp11.below (fun g h => by
        rcases h with h | h
        · omega
        · have := HLv.out g h; omega) HBe.out.size)
      have hsz2 : w9.heap.size < w11.heap.size := by have := hkp11.size; omega
      clear hkeep hbk11 hkp11 hl11 HBk HLv HBe q1 hsz
      have dB := HDB.out.below HBe2.out
      have q2 := dB.cellAt nB.out hy
      have oY := dB.cl.own k _ hy
      simp only at q2
      have fy : Frs w11 w.heap.size w9.heap.size lv11 (zz A B k ++ [(.slice ax xl.length cx, xl)]) (.slice ay yl.length cy, yl) := ⟨oY.base (by omega), (fun g hg => ⟨by have := pm.out k _ hy g hg; omega, fun e => by have := HLv2.out g e; have := pm.out k _ hy g hg; omega⟩), (fun j z hz g hg e => by
        rcases List.mem_append.mp (List.mem_of_getElem? hz) with hm | hm
        · obtain ⟨j', hz'⟩ := List.getElem?_of_mem hm
          obtain ⟨m, hm, q | q⟩ := zz_mem hz'
          · have := pl.out m z q g e; have := pm.out k _ hy g hg; omega
          · exact HDB.out.cl.apt m k z _ (by omega) q hy g e hg
        · simp only [List.mem_singleton] at hm
          subst hm
          have := pl.out k _ hx g e; have := pm.out k _ hy g hg; omega), by have := sB.out _ (List.mem_of_getElem? hy); simp only at this ⊢; omega⟩
      have hkeep := keep_any HBk2.out fy (by rw [List.length_append, hzl]; simp; omega)
      clear dB oY fy
      go_wp2_with fail
      refine hkeep.mono ?_
      rintro e w12 ⟨⟨u12, rfl⟩, lv12, hbk12, hkp12, hl12⟩
      rw [zz_next hx hy] at hbk12
      have HBk3 : Hid (Bkp w12 w.heap.size w9.heap.size lv12 (zz A B (k + 1))) := hbk12
      have HLv3 : Hid (∀ g, lv12.ownBlock = some g → w9.heap.size < g) := fun g hg => by
        rcases hl12 g hg with h | h
        · exact HLv2.out g h
        · omega
      have HBe3 : Hid (Below w9.heap.size w9 w12) := HBe2.out.trans (hkp12.below (fun g h => by
        rcases h with h | h
        · omega
        · have := HLv2.out g h; omega) HBe2.out.size)
      have hsz3 : w9.heap.size < w12.heap.size := by have := hkp12.size; omega
      clear hkeep hbk12 hkp12 hl12 HBk2 HLv2 HBe2 q2 hsz2 hx hy hzl
      go_wp2
      go_roundw
      case rel => exact ⟨k + 1, _, by omega, by go_num, HBk3.out, HLv3.out, HBe3.out, hsz3⟩
      case measure => simp [intOf]; omega
    · have hkn' : k = n := by omega
      subst hkn'
      have how := owned_all HBk.out (by rw [zz_len (by rw [nA.out]; omega) (by rw [nB.out]; omega)]; omega)
      have HIn : Hid (∀ g, inC (zz A B k) g → (∃ (m : Nat) (z : Rw), A[m]? = some z ∧ z.1.ownBlock = some g) ∨ (∃ (m : Nat) (z : Rw), B[m]? = some z ∧ z.1.ownBlock = some g)) := fun g ⟨j, z, hz, hg⟩ => by
        obtain ⟨m, hm, q | q⟩ := zz_mem hz
        · exact .inl ⟨m, z, q, hg⟩
        · exact .inr ⟨m, z, q, hg⟩
      have HWr : Hid (Below w.heap.size w wr) := HW9.out.trans (HBe.out.mono HW9.out.size)
      have dA := HDA.out.below HBe.out
      have dB := HDB.out.below HBe.out
      have OWr : Hid (SOwn wr w1.heap.size (.slice (some ⟨w1.heap.size, 0, none⟩) (l.length + 2) (l.length + 2)) (mkd l)) := OA.out.below HBe.out
      have HDa : Hid (Dl wr w3.heap.size (.slice a4 k c4) A) := dA
      have HDb : Hid (Dl wr w4.heap.size (.slice a5 k c5) B) := dB
      clear dA dB HBk HLv HBe HDA HDB OA
      go_wp2_with fail
      refine how.mono ?_
      rintro e w13 ⟨rfl, hk13⟩
      have hnT : ∀ g, (g < w3.heap.size ∨ (Value.slice a4 k c4).ownBlock = some g ∨ (Value.slice a5 k c5).ownBlock = some g) → ¬ (g = w9.heap.size ∨ inC (zz A B k) g) := fun g hg h => by
        rcases h with h | h
        · rcases hg with hg | hg | hg
          · omega
          · have := pa.out g hg; omega
          · have := pb.out g hg; omega
        · rcases HIn.out g h with ⟨m, z, hz, e⟩ | ⟨m, z, hz, e⟩
          · rcases hg with hg | hg | hg
            · have := pl.out m z hz g e; omega
            · exact HDa.out.cl.off m z hz g e hg
            · have := pl.out m z hz g e; have := pb.out g hg; omega
          · rcases hg with hg | hg | hg
            · have := pm.out m z hz g e; omega
            · have := pm.out m z hz g e; have := pa.out g hg; omega
            · exact HDb.out.cl.off m z hz g e hg
      have RA : Hid (w13.ownsRow w3.heap.size 22 1 (.slice a4 k c4) k (A.map (·.1))) := by
        have := own_keep HDa.out.row hk13 (fun g hg => hnT g (.inr (.inl hg)))
        rw [nA.out] at this; exact this
      have RB : Hid (w13.ownsRow w4.heap.size 22 1 (.slice a5 k c5) k (B.map (·.1))) := by
        have := own_keep HDb.out.row hk13 (fun g hg => hnT g (.inr (.inr hg)))
        rw [nB.out] at this; exact this
      have OS : Hid (SOwn w13 w1.heap.size (.slice (some ⟨w1.heap.size, 0, none⟩) (l.length + 2) (l.length + 2)) (mkd l)) := OWr.out.kp hk13 (fun g hg => hnT g (.inl (by simp [Value.ownBlock] at hg; omega)))
      have HW13 : Hid (Below w.heap.size w w13) := HWr.out.trans (hk13.below (fun g h => by
        rcases h with h | h
        · omega
        · rcases HIn.out g h with ⟨m, z, hz, e⟩ | ⟨m, z, hz, e⟩
          · have := pl.out m z hz g e; omega
          · have := pm.out m z hz g e; omega) HWr.out.size)
      have sz13 : wr.heap.size ≤ w13.heap.size := hk13.size
      have HBl : Hid (∀ i, i < k → ∃ a m c, (B.map (·.1))[i]? = some (Value.slice a m c) ∧ 1 ≤ m ∧ m ≤ 2000) := fun i hi => by
        obtain ⟨x, hx⟩ := get_some B i (by rw [nB.out]; exact hi)
        obtain ⟨a, c, hs⟩ := (HDb.out.cl.own i x hx).shape
        have := sB.out x (List.mem_of_getElem? hx)
        exact ⟨a, x.2.length, c, by rw [List.getElem?_map, hx, Option.map_some, hs], this.1, this.2⟩
      clear hk13 how hnT HIn HDa HDb OWr HWr pl pm sA sB
      go_wp2_with fail
      go_loopw [20] (fun i wr' => ∃ (j : Nat) (xs : List Value), j ≤ k ∧ i = .int .i64 j ∧ wr'.ownsRow w3.heap.size 22 1 (.slice a4 k c4) k xs ∧ Kp (fun g => (Value.slice a4 k c4).ownBlock = some g) w13 wr') (fun i _ => k - (intOf i).toNat)
      case atStart => exact ⟨0, _, by omega, rfl, RA.out, Kp.refl _ _⟩
      case round =>
        obtain ⟨j, xs, hj, rfl, hro, hkp⟩ := hrel
        by_cases hjk : j < k
        · have hjk' : (j : Int) < (k : Int) := by omega
          obtain ⟨L, cl, hL⟩ := own_some hro (by omega)
          simp only [Value.slice.injEq, true_and] at hL
          obtain ⟨rfl, rfl⟩ := hL
          have hst := World.ownsRow.stored hro j (.slice none 0 0)
          have HR2 : Hid ((wr.setCell ⟨L, j, none⟩ (.slice none 0 0)).ownsRow w3.heap.size 22 1 (.slice (some ⟨L, 0, none⟩) k c4) k (xs.set j (.slice none 0 0))) := hst.1
          have HK2 : Hid (Kp (fun g => (Value.slice (some ⟨L, 0, none⟩) k c4).ownBlock = some g) w13 (wr.setCell ⟨L, j, none⟩ (.slice none 0 0))) := hkp.grown hst.2 (fun g e => .inl (by simpa [Value.ownBlock] using e))
          have hxl : xs.length = k := by have := hro.1; omega
          obtain ⟨u, hu⟩ : ∃ u, xs[j]? = some u := ⟨_, List.getElem?_eq_getElem (by omega)⟩
          have q1 : wr.cell? ⟨L, j, none⟩ = some u := by rw [hro.cellAt j (by omega), hu]
          have q3 : wr.frozen? ⟨L, j, none⟩ = false := World.ownsRow.frozenAt hro j
          clear hst hro hkp hu RA
          go_wp2
          go_roundw
          case rel => exact ⟨j + 1, _, by omega, by go_num, HR2.out, HK2.out⟩
          case measure => simp [intOf]; omega
        · have hjk' : ¬ (j : Int) < (k : Int) := by omega
          have RA2 : Hid (wr.ownsRow w3.heap.size 22 1 (.slice a4 k c4) k xs) := hro
          have HK2 : Hid (Kp (fun g => (Value.slice a4 k c4).ownBlock = some g) w13 wr) := hkp
          clear hro hkp RA
          go_wp2_with fail
          go_loopw [10, 21] (fun av i wr' => ∃ (q : Nat) (ys : List Value) (a6 : Option Addr) (c6 : Nat), q ≤ 9 ∧ i = .int .i64 q ∧ av = .slice a6 (k + q) c6 ∧ wr'.ownsRow w3.heap.size 22 1 (.slice a6 (k + q) c6) (k + q) ys ∧ (∀ g, (Value.slice a6 (k + q) c6).ownBlock = some g → (Value.slice a4 k c4).ownBlock = some g ∨ w13.heap.size ≤ g) ∧ Kp (fun g => (Value.slice a4 k c4).ownBlock = some g) w13 wr') (fun _ i _ => 9 - (intOf i).toNat)
          case atStart => exact ⟨0, xs, a4, c4, by omega, rfl, rfl, RA2.out, (fun g hg => .inl hg), HK2.out⟩
          case round =>
            obtain ⟨q, ys, a6, c6, hq, rfl, rfl, hro, hpl, hkp⟩ := hrel
            have HRo : Hid (wr.ownsRow w3.heap.size 22 1 (.slice a6 (k + q) c6) (k + q) ys) := hro
            have HPl : Hid (∀ g, (Value.slice a6 (k + q) c6).ownBlock = some g → (Value.slice a4 k c4).ownBlock = some g ∨ w13.heap.size ≤ g) := hpl
            have HK3 : Hid (Kp (fun g => (Value.slice a4 k c4).ownBlock = some g) w13 wr) := hkp
            have s3 : w13.heap.size ≤ wr.heap.size := hkp.size
            clear hro hpl hkp RA2 HK2
            by_cases hq9 : q < 9
            · have hq9' : (q : Int) < 9 := by omega
              go_wp2_with (at_builtin; refine wpList_append_own_at _ rfl _ _ 28 rfl w3.heap.size 22 i1 (.slice none 0 0) 1 24 Try.underlying28 hi' hz0' hz1' hz2' rfl (by decide) _ _ _ rfl ((HRo.out.alloc _).alloc _) ⟨wr.heap.size + 1, 0, none⟩ 1 1 [.slice (some ⟨wr.heap.size, 0, none⟩) 1 1] rfl rfl ?c1 ?c2 ?c3 ?c4 ?c5 ?_)
              case c1 => have := one_val (wr.alloc (.cells #[.int .i64 (-9), .int .i64 0] 24)) (.slice (some ⟨wr.heap.size, 0, none⟩) 1 1) 22; rw [World.size_alloc] at this; exact this
              case c2 => intro u hu; simp at hu; subst hu; rfl
              case c3 => unfold maxLen; omega
              case c4 => omega
              case c5 => simp; omega
              intro v' w14 hown14 hgrow14 _ hat14
              obtain ⟨g', cap', rfl⟩ := ownsRow_succ hown14
              have HR4 : Hid (w14.ownsRow w3.heap.size 22 1 (.slice (some ⟨g', 0, none⟩) (k + (q + 1)) cap') (k + (q + 1)) (ys ++ [.slice (some ⟨wr.heap.size, 0, none⟩) 1 1])) := hown14
              have HP4 : Hid (∀ g, (Value.slice (some ⟨g', 0, none⟩) (k + (q + 1)) cap').ownBlock = some g → (Value.slice a4 k c4).ownBlock = some g ∨ w13.heap.size ≤ g) := fun g hg => by
                rcases hat14 with e | e
                · exact HPl.out g (by rw [← e]; exact hg)
                · have e2 : some g' = some (wr.heap.size + 1 + 1) ∨ True := .inr trivial
                  have hg2 : (Value.slice (some ⟨g', 0, none⟩) (k + q + 1) cap').ownBlock = some g := hg
                  rw [e] at hg2
                  simp at hg2
                  right; omega
              have HK4 : Hid (Kp (fun g => (Value.slice a4 k c4).ownBlock = some g) w13 w14) := ((HK3.out.grown (grown_alloc wr _ none) (fun g e => by cases e)).grown (grown_alloc _ _ none) (fun g e => by cases e)).grown hgrow14 (fun g e => HPl.out g e)
              clear hown14 hgrow14 hat14 HRo HPl HK3
              go_wp2
              go_roundw
              case rel => exact ⟨q + 1, _, _, _, by omega, by go_num, rfl, HR4.out, HP4.out, HK4.out⟩
              case measure => simp [intOf]; omega
            · have hq9' : q = 9 := by omega
              subst hq9'
              have hnb : ∀ g, (g < w3.heap.size ∨ (Value.slice a5 k c5).ownBlock = some g) → ¬ (Value.slice a4 k c4).ownBlock = some g := fun g hg e => by
                have := pa.out g e
                rcases hg with hg | hg
                · omega
                · have := pb.out g hg; omega
              have RB2 : Hid (wr.ownsRow w4.heap.size 22 1 (.slice a5 k c5) k (B.map (·.1))) := own_keep RB.out HK3.out (fun g hg => hnb g (.inr hg))
              have OS2 : Hid (SOwn wr w1.heap.size (.slice (some ⟨w1.heap.size, 0, none⟩) (l.length + 2) (l.length + 2)) (mkd l)) := OS.out.kp HK3.out (fun g hg => hnb g (.inl (by simp [Value.ownBlock] at hg; omega)))
              have HW14 : Hid (Below w.heap.size w wr) := HW13.out.trans (HK3.out.below (fun g h => by have := pa.out g h; omega) HW13.out.size)
              clear hnb HRo HPl HK3 RB OS HW13
              go_wp2_with fail
              go_loop [22, 23] (fun wv i => ∃ (z : Nat), z ≤ k ∧ i = .int .i64 z ∧ wv = .bool true) (fun _ i => k - (intOf i).toNat)
              case atStart => exact ⟨0, by omega, rfl, by first | rfl | simp⟩
              case round =>
                obtain ⟨z, hz, rfl, rfl⟩ := hrel
                by_cases hzk : z < k
                · have hzk' : (z : Int) < (k : Int) := by omega
                  obtain ⟨a, m, c, hb, hm1, hm2⟩ := HBl.out z hzk
                  obtain ⟨L, cl, hL⟩ := own_some RB2.out (by omega)
                  simp only [Value.slice.injEq, true_and] at hL
                  obtain ⟨rfl, rfl⟩ := hL
                  have q1 : wr.cell? ⟨L, z, none⟩ = some (.slice a m c) := by rw [RB2.out.cellAt z (by omega), hb]
                  have hm1' : (0 : Int) < (m : Int) := by omega
                  clear hb
                  go_wp2
                  go_round
                  case rel => exact ⟨z + 1, by omega, by go_num, by first | rfl | (simp; omega)⟩
                  case measure => simp [intOf]; omega
                · have hzk' : ¬ (z : Int) < (k : Int) := by omega
                  have hsm := same_ls (HX.out wr OS2.out) (HA.out wr HW14.out)
                  rw [show eqB l l = true from decide_eq_true rfl] at hsm
                  clear RB2 OS2
                  go_wp2_with fail
                  refine hsm.mono ?_
                  rintro e w15 ⟨rfl, hb15⟩
                  have HW15 : Hid (Below w.heap.size w w15) := HW14.out.trans (hb15.mono HW14.out.size)
                  clear hsm hb15
                  go_wp2
                  go_ret
                  exact ⟨by simp, by have := HW15.out; rw [← HE0.out] at this; exact this⟩

theorem deals_any {va : Value} {a : List Sp} {w : World} (ha : Ls w va a) (most : Int) (ma : a.length ≤ 1048576) (_ : ∀ s ∈ a, (-9223372036854775808 ≤ s.1 ∧ s.1 ≤ 9223372036854775807) ∧ (-9223372036854775808 ≤ s.2 ∧ s.2 ≤ 9223372036854775807)) (_ : -9223372036854775808 ≤ most ∧ most ≤ 9223372036854775807) :
    Calls Try.prog 5 #[va, .int .i64 most] w fun e w' => e = .returned (.bool true) ∧ Below w.heap.size w w' := by
  obtain ⟨a', c', rfl, _⟩ := ha.shape
  exact deals_in a' c' a most w ha ma

end Go.Proofs.Ytlagadpfnkidjac
