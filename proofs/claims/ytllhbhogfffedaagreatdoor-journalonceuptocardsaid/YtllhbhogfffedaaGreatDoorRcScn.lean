import Derived.Test.YtllhbhogfffedaaGreatDoorRcApp
import Derived.Test.YtllhbhogfffedaaGreatDoorRcFst
import Derived.Maps.AppendAt
import Derived.Test.YtllhbhogfffedaaGreatDoorDkFil
import Derived.Test.YtllhbhogfffedaaGreatDoorRcWrd
namespace Go.Proofs.YtllhbhogfffedaaGreatDoor
open Go.RowKit
set_option linter.unusedVariables false
set_option linter.unusedSimpArgs false

/-- What Scan answers. -/
def ScPost (q : List Rc × Nat) (w : World) (e : Ending) (w' : World) : Prop :=
  ∃ v os, e = .returned (.tuple #[v, .int .i64 q.2]) ∧ Rl w' w.heap.size v os ∧ os.map Ro.r = q.1 ∧ Below w.heap.size w w'
theorem Tryz.info_rec : (Tryz.prog.info? 81).map (fun i => (i.zero, i.size, i.bytes)) = some (some (.agg (rcC rz0 (.slice none 0 0) (.slice none 0 0))), 11, 120) := by kernel_rfl
theorem rec_lit (W : World) (r : Rc) (sv dv : Value) : ∀ j u, (rcC r sv dv).toList[j]? = some u → (W.alloc (rcO r sv dv)).cell? ((⟨W.heap.size, 0, none⟩ : Addr).add j) = some u := by
  intro j u hj
  have h1 := cell_of_row _ W.heap.size j _ _ _ (heap_new6 W (rcO r sv dv))
  rw [show (⟨W.heap.size, 0, none⟩ : Addr).add j = ⟨W.heap.size, j, none⟩ from by unfold Addr.add; split <;> simp_all, h1]
  rw [Array.getElem?_toList] at hj
  exact hj
theorem rec_one (r : Rc) (sa da : Option Addr) (ns nd sc dc : Nat) : ∀ u ∈ (rcC r (.slice sa ns sc) (.slice da nd dc)).toList, u.oneCell' = true := by
  intro u hu
  simp at hu
  rcases hu with rfl | rfl | rfl | rfl | rfl | rfl | rfl | rfl | rfl | rfl | rfl <;> rfl

set_option maxRecDepth 100000 in
set_option maxHeartbeats 4000000 in
theorem scan_any (ad : Option Addr) (zs : List Int) (n c : Nat) (w : World) (hT : Tab6 w) (hb : Bytey zs) (hl : zs.length = n) (hnc : n ≤ c) (hc : c ≤ 9223372036854775807) (hm : n ≤ 1099511627776) (hz : Lies .u8 w ad zs) (had : ad = none ∧ c = 0 ∨ ∃ g off, ad = some ⟨g, off, none⟩) :
    Calls Tryz.prog 41 #[.slice ad n c] w (ScPost (scR zs) w) := by
  obtain ⟨i0, hi0, hz0, hy0, hb0⟩ := info_parts Tryz.info_rec
  have HT : Hid (Tab6 w) := hT
  have HBY : Hid (Bytey zs) := hb
  have HL : Hid (zs.length = n) := hl
  have HZ : Hid (Lies .u8 w ad zs) := hz
  clear hT hb hl hz
  go_enter Tryz.func41, Tryz.ntmps41
  go_wp2_with fail
  go_loopw [4, 5] (fun v p wr => ∃ (os : List Ro) (t : Nat), p = .int .i64 t ∧ Scd zs (os.map Ro.r) t ∧ Rl wr w.heap.size v os ∧ Below w.heap.size w wr) (fun _ p _ => n - (intOf p).toNat)
  case atStart => exact ⟨[], 0, rfl, Scd.start _, Rl.start _ _, Below.refl _ _⟩
  case round =>
    obtain ⟨os, t, rfl, hsc, hrl, hbw⟩ := hrel
    have hcnt := hsc.cnt
    have hlen := hsc.len
    rw [List.length_map] at hcnt
    rw [HL.out] at hlen
    have HSC : Hid (Scd zs (os.map Ro.r) t) := hsc
    have HRL : Hid (Rl wr w.heap.size u4 os) := hrl
    have HBW : Hid (Below w.heap.size w wr) := hbw
    obtain ⟨r, k, hq⟩ : ∃ r k, fsR (zs.drop t) = (r, k) := ⟨_, _, rfl⟩
    have HQ1 : Hid (r = (fsR (zs.drop t)).1) := by rw [hq]; rfl
    have HQ2 : Hid (k = (fsR (zs.drop t)).2) := by rw [hq]; rfl
    have hbd := fsR_bd (bytDrop HBY.out t)
    rw [hq, List.length_drop, HL.out] at hbd
    have HKT : Hid (k ≠ 0 → 8 ≤ k ∧ k ≤ n - t) := fun h => by rcases hbd with q | q; exact absurd q h; exact ⟨q.1, by omega⟩
    have HSM : Hid (r.data.length ≤ 65536 ∧ r.spans.length ≤ 500) := by have := fs_small (bytDrop HBY.out t); rw [hq] at this; exact this
    have HFA : Hid (∀ a', Lies .u8 wr a' (zs.drop t) → Calls Tryz.prog 75 #[.slice a' (n - t) (c - t)] wr (RdPost (r, k) wr)) := fun a' ha' => by
      have := first_any a' (zs.drop t) (n - t) (c - t) wr (HT.out.below hbw (tab6_pos HT.out)) (bytDrop HBY.out t) (by rw [List.length_drop, HL.out]) (by omega) (by omega) (by omega) ha'
      rw [hq] at this
      exact this
    have ht1 : (t : Int) ≤ (n : Int) := by omega
    have ht2 : (t : Int) ≤ (c : Int) := by omega
    have HAPP : Hid True := trivial
    have HNEW : Hid True := trivial
    have hLz := HZ.out.below hbw
    clear hsc hrl hbw hq hbd
    rcases had with ⟨rfl, rfl⟩ | ⟨g, off, rfl⟩
    · obtain rfl : n = 0 := by omega
      obtain rfl : t = 0 := by omega
      have HF := HFA.out none (.inl (by rw [List.drop_zero]; exact List.eq_nil_of_length_eq_zero HL.out))
      have HF : Hid (Calls Tryz.prog 75 #[.slice none 0 0] wr (RdPost (r, k) wr)) := HF
      clear HFA hLz
      have h0 : k = 0 := by
        by_cases h : k = 0
        · exact h
        · have := HKT.out h; omega
      have HE : Hid (scR zs = (os.map Ro.r, 0)) := HSC.out.fin (by rw [← HQ2.out]; exact h0)
      clear HAPP HNEW
      go_wp2_with (go_at_call 75; refine HF.out.mono ?_; rintro e w4 ⟨sa, da, sc, dc, rfl, hso, hdo, hpt, hb4⟩)
      refine bodyPost_ret (v := .tuple #[u4, .int .i64 0]) (by simp [results, Tryz.results41, go_sem]) rfl ?_
      show ScPost (scR zs) w _ _
      rw [HE.out]
      exact ⟨_, os, rfl, (HRL.out.keep hb4).keep ((Below.refl _ _).alloc (Nat.le_refl _) _), rfl, (HBW.out.trans (hb4.mono HBW.out.size)).alloc (Nat.le_trans HBW.out.size hb4.size) _⟩
    · by_cases hct : c = t
      · subst hct
        obtain rfl : n = c := by omega
        have HF : Hid (Calls Tryz.prog 75 #[.slice (some ⟨g, off, none⟩) 0 0] wr (RdPost (r, k) wr)) := by have := HFA.out (some ⟨g, off, none⟩) (.inl (List.drop_eq_nil_of_le (by rw [HL.out]; exact Nat.le_refl _))); rw [Nat.sub_self] at this; exact this
        clear HFA hLz
        have h0 : k = 0 := by
          by_cases h : k = 0
          · exact h
          · have := HKT.out h; omega
        have HE : Hid (scR zs = (os.map Ro.r, n)) := HSC.out.fin (by rw [← HQ2.out]; exact h0)
        clear HAPP HNEW
        go_wp2_with (go_at_call 75; refine HF.out.mono ?_; rintro e w4 ⟨sa, da, sc, dc, rfl, hso, hdo, hpt, hb4⟩)
        refine bodyPost_ret (v := .tuple #[u4, .int .i64 n]) (by simp [results, Tryz.results41, go_sem]) rfl ?_
        show ScPost (scR zs) w _ _
        rw [HE.out]
        exact ⟨_, os, rfl, (HRL.out.keep hb4).keep ((Below.refl _ _).alloc (Nat.le_refl _) _), rfl, (HBW.out.trans (hb4.mono HBW.out.size)).alloc (Nat.le_trans HBW.out.size hb4.size) _⟩
      · have HF : Hid (Calls Tryz.prog 75 #[.slice (some ⟨g, off + t, none⟩) (n - t) (c - t)] wr (RdPost (r, k) wr)) := HFA.out (some ⟨g, off + t, none⟩) (by
          rcases hLz with h0 | ⟨g', off', he, hce⟩
          · left; rw [h0]; simp
          · simp only [Option.some.injEq, Addr.mk.injEq, and_true] at he
            obtain ⟨rfl, rfl⟩ := he
            refine .inr ⟨g, off + t, rfl, fun i hi => ?_⟩
            rw [List.length_drop] at hi
            have h1 := hce (t + i) (by omega)
            rw [List.getD_eq_getElem?_getD, List.getElem?_drop, ← List.getD_eq_getElem?_getD, show off + t + i = off + (t + i) by omega]
            exact h1)
        clear HFA hLz
        by_cases h0 : k = 0
        · have HE : Hid (scR zs = (os.map Ro.r, t)) := HSC.out.fin (by rw [← HQ2.out]; exact h0)
          clear HAPP HNEW
          go_wp2_with (go_at_call 75; refine HF.out.mono ?_; rintro e w4 ⟨sa, da, sc, dc, rfl, hso, hdo, hpt, hb4⟩)
          refine bodyPost_ret (v := .tuple #[u4, .int .i64 t]) (by simp [results, Tryz.results41, go_sem]) rfl ?_
          show ScPost (scR zs) w _ _
          rw [HE.out]
          exact ⟨_, os, rfl, (HRL.out.keep hb4).keep ((Below.refl _ _).alloc (Nat.le_refl _) _), rfl, (HBW.out.trans (hb4.mono HBW.out.size)).alloc (Nat.le_trans HBW.out.size hb4.size) _⟩
        · have hkt := HKT.out h0
          go_upto_region 6 with (go_at_call 75; refine HF.out.mono ?_; rintro e w4 ⟨sa, da, sc, dc, rfl, hso, hdo, hpt, hb4⟩)
          have hs4 := hb4.size
          have HX4 : Hid ((w4.alloc (rcO r (.slice sa r.spans.length sc) (.slice da r.data.length dc))).heap[w4.heap.size]? = some (rcO r (.slice sa r.spans.length sc) (.slice da r.data.length dc))) := heap_new6 w4 _
          have HB4 : Hid (Below wr.heap.size wr (w4.alloc (rcO r (.slice sa r.spans.length sc) (.slice da r.data.length dc)))) := hb4.alloc hb4.size _
          have HS4 : Hid (C.SOwn (w4.alloc (rcO r (.slice sa r.spans.length sc) (.slice da r.data.length dc))) wr.heap.size (.slice sa r.spans.length sc) r.spans) := World.ownsRow.alloc hso _
          have HD4 : Hid ((w4.alloc (rcO r (.slice sa r.spans.length sc) (.slice da r.data.length dc))).ownsRow wr.heap.size 5 1 (.slice da r.data.length dc) r.data.length (r.data.map (Value.int .u8))) := hdo.alloc _
          have HPT : Hid (∀ j, (Value.slice sa r.spans.length sc).ownBlock = some j → (Value.slice da r.data.length dc).ownBlock ≠ some j) := hpt
          clear hso hdo hpt hb4 HF
          generalize w4.alloc (rcO r (.slice sa r.spans.length sc) (.slice da r.data.length dc)) = w5 at *
          obtain ⟨x0, x1, x2, x3, x4, x5, x6, x7, x8, x9, x10⟩ := rc_cells HX4.out
          have HR5 : Hid ((w5.alloc (rcO r (.slice sa r.spans.length sc) (.slice da r.data.length dc))).ownsRow w.heap.size 81 11 u4 os.length (rlC os)) := (own_below6 HRL.out.row HB4.out).alloc _
          have HB5 : Hid (Below wr.heap.size wr (w5.alloc (rcO r (.slice sa r.spans.length sc) (.slice da r.data.length dc)))) := HB4.out.alloc HB4.out.size _
          have hsz5 : wr.heap.size ≤ w5.heap.size := HB4.out.size
          have HLO : Hid (w.heap.size ≤ wr.heap.size) := HBW.out.size
          go_wp2_with (at_builtin; refine wpList_append_own_at _ rfl _ _ 34 rfl w.heap.size 81 i0 _ 11 120 Tryz.underlying34 hi0 hz0 hy0 hb0 rfl (by decide) _ _ _ rfl HR5.out ⟨w5.heap.size, 0, none⟩ 1 1 (rcC r (.slice sa r.spans.length sc) (.slice da r.data.length dc)).toList rfl rfl (rec_lit _ _ _ _) (rec_one _ _ _ _ _ _ _) (by unfold maxLen; omega) (by omega) (by have := HLO.out; simp; omega) ?_; intro v6 w6 o6 g6 _ t6)
          have HRN : Hid (Rl w6 w.heap.size v6 (os ++ [⟨r, sa, da, sc, dc⟩])) := HRL.out.push HLO.out HB5.out ⟨r, sa, da, sc, dc⟩ (World.ownsRow.alloc HS4.out _) (HD4.out.alloc _) HPT.out HSM.out g6 o6 (fun j hj => by
            rcases t6 with q | q
            · left; exact q.symm.trans hj
            · right; rw [q] at hj; simp at hj; simp; omega)
          have HBN : Hid (Below w.heap.size w w6) := (HBW.out.trans (HB5.out.mono HLO.out)).grown g6 (by simp; have := HLO.out; omega) (fun j hj => (HRL.out.row.lt j hj).1)
          have HSN : Hid (Scd zs ((os ++ [(⟨r, sa, da, sc, dc⟩ : Ro)]).map Ro.r) (t + k.toNat)) := by
            have := HSC.out.step HBY.out (by rw [← HQ2.out]; exact h0)
            rw [← HQ1.out, ← HQ2.out] at this
            rw [List.map_append]
            exact this
          clear o6 g6 t6 x0 x1 x2 x3 x4 x5 x6 x7 x8 x9 x10
          go_wp2
          go_roundw
          case rel => exact ⟨os ++ [⟨r, sa, da, sc, dc⟩], t + k.toNat, by first | rfl | (congr 1; omega), HSN.out, HRN.out, HBN.out⟩
          case measure => simp [intOf]; omega
end Go.Proofs.YtllhbhogfffedaaGreatDoor

namespace Go.Proofs.YtllhbhogfffedaaGreatDoor.K
open Go.RowKit
set_option linter.unusedVariables false
set_option linter.unusedSimpArgs false

/-- What Open leaves and answers: the disk, the error, the records, how many bytes, how many of them loose. -/
structure Opn where
  d : Dk
  r : Nat
  l : List Rc
  n : Nat
  k : Nat
def opC (D : Dk) (bs : List Int) : Opn :=
  if (scR bs).2 < bs.length then
    if (fileD D jN (fun i => cutF D.fs i ((scR bs).2 : Nat))).2 = 0 then ⟨(fileD D jN (fun i => cutF D.fs i ((scR bs).2 : Nat))).1, 0, (scR bs).1, (scR bs).2, 0⟩
    else ⟨(fileD D jN (fun i => cutF D.fs i ((scR bs).2 : Nat))).1, (fileD D jN (fun i => cutF D.fs i ((scR bs).2 : Nat))).2, [], 0, 0⟩
  else ⟨D, 0, (scR bs).1, (scR bs).2, (scR bs).2⟩
def opB (D : Dk) : Opn := if rmE (rdN D jN) = 0 then opC D (rdB D jN) else ⟨D, rmE (rdN D jN), [], 0, 0⟩
def rmD (D : Dk) : Dk × Nat := fileD D jnN (fun i => D.fs.eraseIdx i)
def opX (D : Dk) : Opn := if rmE (rmD D).2 = 0 then opB (rmD D).1 else ⟨(rmD D).1, rmE (rmD D).2, [], 0, 0⟩
/-! ## The law's disks -/
/-- A disk whose file 'journal' holds these bytes, or the whole frames of them, all safe; perhaps a file 'journal.new' beside it. -/
def Jd (Bs : List Int) (D : Dk) : Prop := ∃ bs, (bs = Bs ∨ bs = Bs.take (scR Bs).2) ∧ (D.fs = [⟨jN, bs, (bs.length : Int)⟩] ∨ ∃ L s, D.fs = [⟨jN, bs, (bs.length : Int)⟩, ⟨jnN, L, s⟩])
theorem isN_of (a b : ByteArray) (bs : List Int) (s : Int) : isN a ⟨b, bs, s⟩ = (b.data.toList == a.data.toList) := by unfold isN; rw [ByteArray.toList_eq, ByteArray.toList_eq]
theorem isN_j (bs : List Int) (s : Int) : isN jN ⟨jN, bs, s⟩ = true := (isN_of ..).trans (by decide)
theorem isN_nj (bs : List Int) (s : Int) : isN jnN ⟨jN, bs, s⟩ = false := (isN_of ..).trans (by decide)
theorem isN_n (bs : List Int) (s : Int) : isN jnN ⟨jnN, bs, s⟩ = true := (isN_of ..).trans (by decide)
theorem fnd_j (bs : List Int) (s : Int) (l : List Fl) : fnd (⟨jN, bs, s⟩ :: l) jN = some 0 := by unfold fnd; rw [List.findIdx?_cons, isN_j]; rfl
theorem fnd_n1 (bs : List Int) (s : Int) : fnd [⟨jN, bs, s⟩] jnN = none := by unfold fnd; rw [List.findIdx?_cons, isN_nj]; rfl
theorem fnd_n2 (bs L : List Int) (s t : Int) : fnd [⟨jN, bs, s⟩, ⟨jnN, L, t⟩] jnN = some 1 := by unfold fnd; rw [List.findIdx?_cons, isN_nj, List.findIdx?_cons, isN_n]; rfl
/-- What the law wants of an Open. -/
structure Jo (Bs : List Int) (D : Dk) (O : Opn) : Prop where
  jd : Jd Bs O.d
  arm : O.d.arm = D.arm
  or : (O.r = 0 ∧ O.l = (scR Bs).1 ∧ O.n = (scR Bs).2 ∧ O.d.fs = [⟨jN, Bs.take (scR Bs).2, ((scR Bs).2 : Int)⟩] ∧ O.d.dw = false) ∨ (O.r = 2 ∧ D.arm = true)
theorem actB_arm {D : Dk} (h : actB D = true) : D.arm = true := by unfold actB at h; simp at h; exact h.1
theorem actD_arm (D : Dk) (fs : List Fl) : (actD D fs).arm = D.arm := by unfold actD; split <;> rfl
/-- The half behind the removal. -/
theorem jo_open {Bs : List Int} (hb : Bytey Bs) {D E : Dk} (hE : E.arm = D.arm) (hd : E.dw = false) {bs : List Int} (h1 : bs = Bs ∨ bs = Bs.take (scR Bs).2) (h2 : E.fs = [⟨jN, bs, (bs.length : Int)⟩]) : Jo Bs D (opB E) := by
  have hl := scR_len hb
  have hsc : scR bs = scR Bs := by rcases h1 with rfl | rfl; rfl; exact scR_take hb
  have htk : bs.take (scR Bs).2 = Bs.take (scR Bs).2 := by
    rcases h1 with rfl | rfl
    · rfl
    · rw [List.take_take, Nat.min_self]
  have hbl : (scR Bs).2 ≤ bs.length := by
    rcases h1 with rfl | rfl
    · exact hl
    · rw [List.length_take]; omega
  have e1 : rdN E jN = 0 := by unfold rdN; rw [hd, h2, fnd_j]; rfl
  have e2 : rdB E jN = bs := by unfold rdB; rw [hd, h2, fnd_j]; rfl
  unfold opB
  rw [e1, e2, if_pos (by decide)]
  unfold opC
  rw [hsc]
  have hf : fileD E jN (fun i => cutF E.fs i ((scR Bs).2 : Nat)) = (actD E (cutF E.fs 0 ((scR Bs).2 : Nat)), actR E) := by
    unfold fileD
    rw [hd, h2, fnd_j]
    rfl
  rw [hf]
  have hcut : cutF E.fs 0 ((scR Bs).2 : Nat) = [⟨jN, Bs.take (scR Bs).2, ((scR Bs).2 : Int)⟩] := by
    have hcn : cutN ⟨jN, bs, (bs.length : Int)⟩ ((scR Bs).2 : Nat) = (scR Bs).2 := by
      unfold cutN
      simp only
      omega
    unfold cutF setF
    rw [h2]
    simp only [List.getElem?_cons_zero, List.set_cons_zero]
    rw [hcn, htk]
  rw [hcut]
  have htl : (Bs.take (scR Bs).2).length = (scR Bs).2 := by rw [List.length_take]; omega
  by_cases hlt : (scR Bs).2 < bs.length
  · rw [if_pos hlt]
    by_cases ha : actB E = true
    · have hr : actR E = 2 := by unfold actR; rw [if_pos ha]
      rw [hr, if_neg (by simp [rmE])]
      refine ⟨?_, (actD_arm _ _).trans hE, .inr ⟨rfl, hE.symm.trans (actB_arm ha)⟩⟩
      show Jd Bs (actD E _)
      unfold actD
      rw [if_pos ha]
      by_cases hdn : E.dn = true
      · rw [if_pos hdn]
        exact ⟨Bs.take (scR Bs).2, .inr rfl, .inl (by rw [htl])⟩
      · rw [if_neg hdn]
        exact ⟨bs, h1, .inl h2⟩
    · have hr : actR E = 0 := by unfold actR; rw [if_neg ha]
      rw [hr, if_pos rfl]
      have e : actD E [⟨jN, Bs.take (scR Bs).2, ((scR Bs).2 : Int)⟩] = { E with fs := [⟨jN, Bs.take (scR Bs).2, ((scR Bs).2 : Int)⟩], acts := if E.arm = true then E.acts - 1 else E.acts } := by unfold actD; rw [if_neg ha]
      rw [e]
      exact ⟨⟨Bs.take (scR Bs).2, .inr rfl, .inl (by rw [htl])⟩, hE, .inl ⟨rfl, rfl, rfl, rfl, hd⟩⟩
  · rw [if_neg hlt]
    have hbb : bs = Bs.take (scR Bs).2 := by rw [← htk, List.take_of_length_le (by omega)]
    refine ⟨⟨bs, h1, .inl h2⟩, hE, .inl ⟨rfl, rfl, rfl, ?_, hd⟩⟩
    show E.fs = _
    rw [h2, hbb, htl]
theorem jd_open {Bs : List Int} (hb : Bytey Bs) {D : Dk} (h : Jd Bs D) (hd : D.dw = false) : Jo Bs D (opX D) := by
  obtain ⟨bs, h1, h2⟩ := h
  unfold opX rmD
  rcases h2 with h2 | ⟨L, s, h2⟩
  · have hf : fileD D jnN (fun i => D.fs.eraseIdx i) = (D, 3) := by
      unfold fileD
      rw [hd, h2, fnd_n1]
      rfl
    rw [hf, if_pos (by simp [rmE])]
    exact jo_open hb rfl hd h1 h2
  · have hf : fileD D jnN (fun i => D.fs.eraseIdx i) = (actD D (D.fs.eraseIdx 1), actR D) := by
      unfold fileD
      rw [hd, h2, fnd_n2]
      rfl
    rw [hf]
    have he : D.fs.eraseIdx 1 = [⟨jN, bs, (bs.length : Int)⟩] := by rw [h2]; rfl
    rw [he]
    by_cases ha : actB D = true
    · have hr : actR D = 2 := by unfold actR; rw [if_pos ha]
      rw [hr, if_neg (by simp [rmE])]
      refine ⟨?_, actD_arm _ _, .inr ⟨rfl, actB_arm ha⟩⟩
      show Jd Bs (actD D _)
      unfold actD
      rw [if_pos ha]
      by_cases hdn : D.dn = true
      · rw [if_pos hdn]
        exact ⟨bs, h1, .inl rfl⟩
      · rw [if_neg hdn]
        exact ⟨bs, h1, .inr ⟨L, s, h2⟩⟩
    · have hr : actR D = 0 := by unfold actR; rw [if_neg ha]
      rw [hr, if_pos (by simp [rmE])]
      have e : actD D [⟨jN, bs, (bs.length : Int)⟩] = { D with fs := [⟨jN, bs, (bs.length : Int)⟩], acts := if D.arm = true then D.acts - 1 else D.acts } := by unfold actD; rw [if_neg ha]
      rw [e]
      exact jo_open hb rfl hd h1 rfl
/-- A loss of power leaves it. -/
theorem jd_crash {Bs : List Int} {D : Dk} (keep : Int) (h : Jd Bs D) : Jd Bs (crD D keep) := by
  obtain ⟨bs, h1, h2⟩ := h
  have hM : 0 ≤ nn0 keep := by unfold nn0; split <;> omega
  have hc : cr1 keep ⟨jN, bs, (bs.length : Int)⟩ = ⟨jN, bs, (bs.length : Int)⟩ := by
    have hq : crQ ⟨jN, bs, (bs.length : Int)⟩ (nn0 keep) = 0 := by unfold crQ; simp only; split <;> omega
    unfold cr1
    rw [hq]
    simp
  refine ⟨bs, h1, ?_⟩
  rcases h2 with h2 | ⟨L, s, h2⟩
  · left
    show D.fs.map (cr1 keep) = _
    rw [h2, List.map_cons, hc]
    rfl
  · right
    refine ⟨(cr1 keep ⟨jnN, L, s⟩).bs, (cr1 keep ⟨jnN, L, s⟩).sf, ?_⟩
    show D.fs.map (cr1 keep) = _
    rw [h2, List.map_cons, hc]
    rfl
end Go.Proofs.YtllhbhogfffedaaGreatDoor.K
