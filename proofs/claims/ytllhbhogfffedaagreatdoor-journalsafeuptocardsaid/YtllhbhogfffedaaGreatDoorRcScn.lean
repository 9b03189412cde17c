import Derived.Test.YtllhbhogfffedaaGreatDoorRcFrM
import Derived.Test.YtllhbhogfffedaaGreatDoorRcFst
import Derived.Maps.AppendAt
import Derived.Test.YtllhbhogfffedaaGreatDoorJkOk
namespace Go.Proofs.YtllhbhogfffedaaGreatDoor
open Go.RowKit
set_option linter.unusedVariables false
set_option linter.unusedSimpArgs false

/-- What Scan answers. -/
def ScPost (q : List Rc × Nat) (w : World) (e : Ending) (w' : World) : Prop :=
  ∃ v os, e = .returned (.tuple #[v, .int .i64 q.2]) ∧ Rl w' w.heap.size v os ∧ os.map Ro.r = q.1 ∧ Below w.heap.size w w'
theorem Tryz.info_rec : (Tryz.prog.info? 81).map (fun i => (i.zero, i.size, i.bytes)) = some (some (.agg (rcC rz0 (.slice none 0 0) (.slice none 0 0))), 11, 120) := by kernel_rfl
theorem rec_lit (W : World) (r : Rc) (sv dv : Value) : ∀ j u, (rcC r sv dv).toList[j]? = some u → (W.alloc (rcO r sv dv)).cell? ((⟨W.heap.size, 0, none⟩ : Addr).add j) = some u := by
  intro j u hj
  have h1 := cell_of_row _ W.heap.size j _ _ _ (heap_new6 W (rcO r sv dv))
  rw [show (⟨W.heap.size, 0, none⟩ : Addr).add j = ⟨W.heap.size, j, none⟩ from by unfold Addr.add; split <;> simp_all, h1]
  rw [Array.getElem?_toList] at hj
  exact hj
theorem rec_one (r : Rc) (sa da : Option Addr) (ns nd sc dc : Nat) : ∀ u ∈ (rcC r (.slice sa ns sc) (.slice da nd dc)).toList, u.oneCell' = true := by
  intro u hu
  simp at hu
  rcases hu with rfl | rfl | rfl | rfl | rfl | rfl | rfl | rfl | rfl | rfl | rfl <;> rfl

set_option maxRecDepth 100000 in
set_option maxHeartbeats 4000000 in
theorem scan_any (ad : Option Addr) (zs : List Int) (n c : Nat) (w : World) (hT : Tab6 w) (hb : Bytey zs) (hl : zs.length = n) (hnc : n ≤ c) (hc : c ≤ 9223372036854775807) (hm : n ≤ 1099511627776) (hz : Lies .u8 w ad zs) (had : ad = none ∧ c = 0 ∨ ∃ g off, ad = some ⟨g, off, none⟩) :
    Calls Tryz.prog 41 #[.slice ad n c] w (ScPost (scR zs) w) := by
  obtain ⟨i0, hi0, hz0, hy0, hb0⟩ := info_parts Tryz.info_rec
  have HT : Hid (Tab6 w) := hT
  have HBY : Hid (Bytey zs) := hb
  have HL : Hid (zs.length = n) := hl
  have HZ : Hid (Lies .u8 w ad zs) := hz
  clear hT hb hl hz
  go_enter Tryz.func41, Tryz.ntmps41
  go_wp2_with fail
  go_loopw [4, 5] (fun v p wr => ∃ (os : List Ro) (t : Nat), p = .int .i64 t ∧ Scd zs (os.map Ro.r) t ∧ Rl wr w.heap.size v os ∧ Below w.heap.size w wr) (fun _ p _ => n - (intOf p).toNat)
  case atStart => exact ⟨[], 0, rfl, Scd.start _, Rl.start _ _, Below.refl _ _⟩
  case round =>
    obtain ⟨os, t, rfl, hsc, hrl, hbw⟩ := hrel
    have hcnt := hsc.cnt
    have hlen := hsc.len
    rw [List.length_map] at hcnt
    rw [HL.out] at hlen
    have HSC : Hid (Scd zs (os.map Ro.r) t) := hsc
    have HRL : Hid (Rl wr w.heap.size u4 os) := hrl
    have HBW : Hid (Below w.heap.size w wr) := hbw
    obtain ⟨r, k, hq⟩ : ∃ r k, fsR (zs.drop t) = (r, k) := ⟨_, _, rfl⟩
    have HQ1 : Hid (r = (fsR (zs.drop t)).1) := by rw [hq]; rfl
    have HQ2 : Hid (k = (fsR (zs.drop t)).2) := by rw [hq]; rfl
    have hbd := fsR_bd (bytDrop HBY.out t)
    rw [hq, List.length_drop, HL.out] at hbd
    have HKT : Hid (k ≠ 0 → 8 ≤ k ∧ k ≤ n - t) := fun h => by rcases hbd with q | q; exact absurd q h; exact ⟨q.1, by omega⟩
    have HSM : Hid (r.data.length ≤ 65536 ∧ r.spans.length ≤ 500) := by have := fs_small (bytDrop HBY.out t); rw [hq] at this; exact this
    have HFA : Hid (∀ a', Lies .u8 wr a' (zs.drop t) → Calls Tryz.prog 75 #[.slice a' (n - t) (c - t)] wr (RdPost (r, k) wr)) := fun a' ha' => by
      have := first_any a' (zs.drop t) (n - t) (c - t) wr (HT.out.below hbw (tab6_pos HT.out)) (bytDrop HBY.out t) (by rw [List.length_drop, HL.out]) (by omega) (by omega) (by omega) ha'
      rw [hq] at this
      exact this
    have ht1 : (t : Int) ≤ (n : Int) := by omega
    have ht2 : (t : Int) ≤ (c : Int) := by omega
    have HAPP : Hid True := trivial
    have HNEW : Hid True := trivial
    have hLz := HZ.out.below hbw
    clear hsc hrl hbw hq hbd
    rcases had with ⟨rfl, rfl⟩ | ⟨g, off, rfl⟩
    · obtain rfl : n = 0 := by omega
      obtain rfl : t = 0 := by omega
      have HF := HFA.out none (.inl (by rw [List.drop_zero]; exact List.eq_nil_of_length_eq_zero HL.out))
      have HF : Hid (Calls Tryz.prog 75 #[.slice none 0 0] wr (RdPost (r, k) wr)) := HF
      clear HFA hLz
      have h0 : k = 0 := by
        by_cases h : k = 0
        · exact h
        · have := HKT.out h; omega
      have HE : Hid (scR zs = (os.map Ro.r, 0)) := HSC.out.fin (by rw [← HQ2.out]; exact h0)
      clear HAPP HNEW
      go_wp2_with (go_at_call 75; refine HF.out.mono ?_; rintro e w4 ⟨sa, da, sc, dc, rfl, hso, hdo, hpt, hb4⟩)
      refine bodyPost_ret (v := .tuple #[u4, .int .i64 0]) (by simp [results, Tryz.results41, go_sem]) rfl ?_
      show ScPost (scR zs) w _ _
      rw [HE.out]
      exact ⟨_, os, rfl, (HRL.out.keep hb4).keep ((Below.refl _ _).alloc (Nat.le_refl _) _), rfl, (HBW.out.trans (hb4.mono HBW.out.size)).alloc (Nat.le_trans HBW.out.size hb4.size) _⟩
    · by_cases hct : c = t
      · subst hct
        obtain rfl : n = c := by omega
        have HF : Hid (Calls Tryz.prog 75 #[.slice (some ⟨g, off, none⟩) 0 0] wr (RdPost (r, k) wr)) := by have := HFA.out (some ⟨g, off, none⟩) (.inl (List.drop_eq_nil_of_le (by rw [HL.out]; exact Nat.le_refl _))); rw [Nat.sub_self] at this; exact this
        clear HFA hLz
        have h0 : k = 0 := by
          by_cases h : k = 0
          · exact h
          · have := HKT.out h; omega
        have HE : Hid (scR zs = (os.map Ro.r, n)) := HSC.out.fin (by rw [← HQ2.out]; exact h0)
        clear HAPP HNEW
        go_wp2_with (go_at_call 75; refine HF.out.mono ?_; rintro e w4 ⟨sa, da, sc, dc, rfl, hso, hdo, hpt, hb4⟩)
        refine bodyPost_ret (v := .tuple #[u4, .int .i64 n]) (by simp [results, Tryz.results41, go_sem]) rfl ?_
        show ScPost (scR zs) w _ _
        rw [HE.out]
        exact ⟨_, os, rfl, (HRL.out.keep hb4).keep ((Below.refl _ _).alloc (Nat.le_refl _) _), rfl, (HBW.out.trans (hb4.mono HBW.out.size)).alloc (Nat.le_trans HBW.out.size hb4.size) _⟩
      · have HF : Hid (Calls Tryz.prog 75 #[.slice (some ⟨g, off + t, none⟩) (n - t) (c - t)] wr (RdPost (r, k) wr)) := HFA.out (some ⟨g, off + t, none⟩) (by
          rcases hLz with h0 | ⟨g', off', he, hce⟩
          · left; rw [h0]; simp
          · simp only [Option.some.injEq, Addr.mk.injEq, and_true] at he
            obtain ⟨rfl, rfl⟩ := he
            refine .inr ⟨g, off + t, rfl, fun i hi => ?_⟩
            rw [List.length_drop] at hi
            have h1 := hce (t + i) (by omega)
            rw [List.getD_eq_getElem?_getD, List.getElem?_drop, ← List.getD_eq_getElem?_getD, show off + t + i = off + (t + i) by omega]
            exact h1)
        clear HFA hLz
        by_cases h0 : k = 0
        · have HE : Hid (scR zs = (os.map Ro.r, t)) := HSC.out.fin (by rw [← HQ2.out]; exact h0)
          clear HAPP HNEW
          go_wp2_with (go_at_call 75; refine HF.out.mono ?_; rintro e w4 ⟨sa, da, sc, dc, rfl, hso, hdo, hpt, hb4⟩)
          refine bodyPost_ret (v := .tuple #[u4, .int .i64 t]) (by simp [results, Tryz.results41, go_sem]) rfl ?_
          show ScPost (scR zs) w _ _
          rw [HE.out]
          exact ⟨_, os, rfl, (HRL.out.keep hb4).keep ((Below.refl _ _).alloc (Nat.le_refl _) _), rfl, (HBW.out.trans (hb4.mono HBW.out.size)).alloc (Nat.le_trans HBW.out.size hb4.size) _⟩
        · have hkt := HKT.out h0
          go_upto_region 6 with (go_at_call 75; refine HF.out.mono ?_; rintro e w4 ⟨sa, da, sc, dc, rfl, hso, hdo, hpt, hb4⟩)
          have hs4 := hb4.size
          have HX4 : Hid ((w4.alloc (rcO r (.slice sa r.spans.length sc) (.slice da r.data.length dc))).heap[w4.heap.size]? = some (rcO r (.slice sa r.spans.length sc) (.slice da r.data.length dc))) := heap_new6 w4 _
          have HB4 : Hid (Below wr.heap.size wr (w4.alloc (rcO r (.slice sa r.spans.length sc) (.slice da r.data.length dc)))) := hb4.alloc hb4.size _
          have HS4 : Hid (C.SOwn (w4.alloc (rcO r (.slice sa r.spans.length sc) (.slice da r.data.length dc))) wr.heap.size (.slice sa r.spans.length sc) r.spans) := World.ownsRow.alloc hso _
          have HD4 : Hid ((w4.alloc (rcO r (.slice sa r.spans.length sc) (.slice da r.data.length dc))).ownsRow wr.heap.size 5 1 (.slice da r.data.length dc) r.data.length (r.data.map (Value.int .u8))) := hdo.alloc _
          have HPT : Hid (∀ j, (Value.slice sa r.spans.length sc).ownBlock = some j → (Value.slice da r.data.length dc).ownBlock ≠ some j) := hpt
          clear hso hdo hpt hb4 HF
          generalize w4.alloc (rcO r (.slice sa r.spans.length sc) (.slice da r.data.length dc)) = w5 at *
          obtain ⟨x0, x1, x2, x3, x4, x5, x6, x7, x8, x9, x10⟩ := rc_cells HX4.out
          have HR5 : Hid ((w5.alloc (rcO r (.slice sa r.spans.length sc) (.slice da r.data.length dc))).ownsRow w.heap.size 81 11 u4 os.length (rlC os)) := (own_below6 HRL.out.row HB4.out).alloc _
          have HB5 : Hid (Below wr.heap.size wr (w5.alloc (rcO r (.slice sa r.spans.length sc) (.slice da r.data.length dc)))) := HB4.out.alloc HB4.out.size _
          have hsz5 : wr.heap.size ≤ w5.heap.size := HB4.out.size
          have HLO : Hid (w.heap.size ≤ wr.heap.size) := HBW.out.size
          go_wp2_with (at_builtin; refine wpList_append_own_at _ rfl _ _ 34 rfl w.heap.size 81 i0 _ 11 120 Tryz.underlying34 hi0 hz0 hy0 hb0 rfl (by decide) _ _ _ rfl HR5.out ⟨w5.heap.size, 0, none⟩ 1 1 (rcC r (.slice sa r.spans.length sc) (.slice da r.data.length dc)).toList rfl rfl (rec_lit _ _ _ _) (rec_one _ _ _ _ _ _ _) (by unfold maxLen; omega) (by omega) (by have := HLO.out; simp; omega) ?_; intro v6 w6 o6 g6 _ t6)
          have HRN : Hid (Rl w6 w.heap.size v6 (os ++ [⟨r, sa, da, sc, dc⟩])) := HRL.out.push HLO.out HB5.out ⟨r, sa, da, sc, dc⟩ (World.ownsRow.alloc HS4.out _) (HD4.out.alloc _) HPT.out HSM.out g6 o6 (fun j hj => by
            rcases t6 with q | q
            · left; exact q.symm.trans hj
            · right; rw [q] at hj; simp at hj; simp; omega)
          have HBN : Hid (Below w.heap.size w w6) := (HBW.out.trans (HB5.out.mono HLO.out)).grown g6 (by simp; have := HLO.out; omega) (fun j hj => (HRL.out.row.lt j hj).1)
          have HSN : Hid (Scd zs ((os ++ [(⟨r, sa, da, sc, dc⟩ : Ro)]).map Ro.r) (t + k.toNat)) := by
            have := HSC.out.step HBY.out (by rw [← HQ2.out]; exact h0)
            rw [← HQ1.out, ← HQ2.out] at this
            rw [List.map_append]
            exact this
          clear o6 g6 t6 x0 x1 x2 x3 x4 x5 x6 x7 x8 x9 x10
          go_wp2
          go_roundw
          case rel => exact ⟨os ++ [⟨r, sa, da, sc, dc⟩], t + k.toNat, by first | rfl | (congr 1; omega), HSN.out, HRN.out, HBN.out⟩
          case measure => simp [intOf]; omega
end Go.Proofs.YtllhbhogfffedaaGreatDoor

namespace Go.Proofs.YtllhbhogfffedaaGreatDoor.K
open Go.RowKit
set_option linter.unusedVariables false
set_option linter.unusedSimpArgs false

/-- What Open leaves and answers: the disk, the error, the records, how many bytes, how many of them loose. -/
structure Opn where
  d : Dk
  r : Nat
  l : List Rc
  n : Nat
  k : Nat
def opC (D : Dk) (bs : List Int) : Opn :=
  if (scR bs).2 < bs.length then
    if (fileD D jN (fun i => cutF D.fs i ((scR bs).2 : Nat))).2 = 0 then ⟨(fileD D jN (fun i => cutF D.fs i ((scR bs).2 : Nat))).1, 0, (scR bs).1, (scR bs).2, 0⟩
    else ⟨(fileD D jN (fun i => cutF D.fs i ((scR bs).2 : Nat))).1, (fileD D jN (fun i => cutF D.fs i ((scR bs).2 : Nat))).2, [], 0, 0⟩
  else ⟨D, 0, (scR bs).1, (scR bs).2, (scR bs).2⟩
def opB (D : Dk) : Opn := if rmE (rdN D jN) = 0 then opC D (rdB D jN) else ⟨D, rmE (rdN D jN), [], 0, 0⟩
def rmD (D : Dk) : Dk × Nat := fileD D jnN (fun i => D.fs.eraseIdx i)
def opX (D : Dk) : Opn := if rmE (rmD D).2 = 0 then opB (rmD D).1 else ⟨(rmD D).1, rmE (rmD D).2, [], 0, 0⟩
/-! ## The law's disks -/
/-- A disk whose file 'journal' holds these bytes, or the whole frames of them, all safe; perhaps a file 'journal.new' beside it. -/
def Jd (Bs : List Int) (D : Dk) : Prop := ∃ bs, (bs = Bs ∨ bs = Bs.take (scR Bs).2) ∧ (D.fs = [⟨jN, bs, (bs.length : Int)⟩] ∨ ∃ L s, D.fs = [⟨jN, bs, (bs.length : Int)⟩, ⟨jnN, L, s⟩])
theorem isN_of (a b : ByteArray) (bs : List Int) (s : Int) : isN a ⟨b, bs, s⟩ = (b.data.toList == a.data.toList) := by unfold isN; rw [ByteArray.toList_eq, ByteArray.toList_eq]
theorem isN_j (bs : List Int) (s : Int) : isN jN ⟨jN, bs, s⟩ = true := (isN_of ..).trans (by decide)
theorem isN_nj (bs : List Int) (s : Int) : isN jnN ⟨jN, bs, s⟩ = false := (isN_of ..).trans (by decide)
theorem isN_n (bs : List Int) (s : Int) : isN jnN ⟨jnN, bs, s⟩ = true := (isN_of ..).trans (by decide)
theorem isN_jn (bs : List Int) (s : Int) : isN jN ⟨jnN, bs, s⟩ = false := (isN_of ..).trans (by decide)
theorem fnd_j (bs : List Int) (s : Int) (l : List Fl) : fnd (⟨jN, bs, s⟩ :: l) jN = some 0 := by unfold fnd; rw [List.findIdx?_cons, isN_j]; rfl
theorem fnd_n1 (bs : List Int) (s : Int) : fnd [⟨jN, bs, s⟩] jnN = none := by unfold fnd; rw [List.findIdx?_cons, isN_nj]; rfl
theorem fnd_n2 (bs L : List Int) (s t : Int) : fnd [⟨jN, bs, s⟩, ⟨jnN, L, t⟩] jnN = some 1 := by unfold fnd; rw [List.findIdx?_cons, isN_nj, List.findIdx?_cons, isN_n]; rfl
/-- What the law wants of an Open. -/
structure Jo (Bs : List Int) (D : Dk) (O : Opn) : Prop where
  jd : Jd Bs O.d
  arm : O.d.arm = D.arm
  or : (O.r = 0 ∧ O.l = (scR Bs).1 ∧ O.n = (scR Bs).2 ∧ O.d.fs = [⟨jN, Bs.take (scR Bs).2, ((scR Bs).2 : Int)⟩] ∧ O.d.dw = false) ∨ (O.r = 2 ∧ D.arm = true)
end Go.Proofs.YtllhbhogfffedaaGreatDoor.K

namespace Go.Proofs.YtllhbhogfffedaaGreatDoor.K
open Go.RowKit
set_option linter.unusedVariables false
set_option linter.unusedSimpArgs false

theorem evD_some {aD aF aN : Addr} {r : Nat} (h : r ≠ 0) : ∃ a, evD aD aF aN r = .iface 218 (.pointer (some a)) := by
  unfold evD
  rw [if_neg h]
  split
  · exact ⟨_, rfl⟩
  · split <;> exact ⟨_, rfl⟩
theorem rd_get {D : Dk} {s : ByteArray} : rdB D s = [] ∨ ∃ (i : Nat) (f : Fl), D.fs[i]? = some f ∧ rdB D s = f.bs := by
  unfold rdB
  split
  · exact .inl rfl
  · split
    · exact .inl rfl
    · rename_i i _
      cases h : D.fs[i]? with
      | none => exact .inl rfl
      | some f => exact .inr ⟨i, f, h, rfl⟩
theorem rd_byt {D : Dk} {B : Nat} (h : D.Ok B) (s : ByteArray) : Bytey (rdB D s) ∧ (rdB D s).length ≤ B := by
  rcases rd_get (D := D) (s := s) with e | ⟨i, f, hf, e⟩
  · rw [e]; exact ⟨fun z hz => (by cases hz), Nat.zero_le _⟩
  · rw [e]
    exact ⟨(h.fs f (List.mem_of_getElem? hf)).byt, Nat.le_trans (usd_get hf) h.used⟩
theorem own_low7 {w : World} {b b' n sz : Nat} {e : TypeId} {v : Value} {xs : List Value} (h : w.ownsRow b e sz v n xs) (hb : b' ≤ b) : w.ownsRow b' e sz v n xs := by
  obtain ⟨h1, h2⟩ := h
  refine ⟨h1, ?_⟩
  rcases h2 with h2 | ⟨g, cap, cur, hv, hg, r⟩
  · exact .inl h2
  · exact .inr ⟨g, cap, cur, hv, by omega, r⟩
theorem rl_keep {w w' : World} {lo lo' : Nat} {v : Value} {os : List Ro} (h : Rl w lo v os) (hl : lo' ≤ lo) (hb : ∀ k, lo ≤ k → k < w.heap.size → w'.heap[k]? = w.heap[k]?) : Rl w' lo' v os :=
  ⟨⟨fun p hp => own_low7 (d_blk (h.fam.own p hp) (fun g hg => hb g (h.lt hp hg).1 (h.lt hp hg).2)) hl, h.fam.sep, h.fam.new⟩, h.sml⟩
/-- The sentinels, with the footprint that a call leaves. -/
theorem Snt.fc {w V : World} {F : Nat → Prop} {aD aF aN : Addr} (h : Snt w F aD aF aN) (hk : Kd F w V) : Snt V (K.fc (up F w) V) aD aF aN := by
  have k : ∀ {a : Addr}, ((∃ (ca : Array Value) (ta : TypeId), w.heap[a.block]? = some (.cells ca ta (0, 0))) ∧ ¬ F a.block) → ((∃ (ca : Array Value) (ta : TypeId), V.heap[a.block]? = some (.cells ca ta (0, 0))) ∧ ¬ K.fc (up F w) V a.block) := fun ⟨⟨ca, ta, hh⟩, hn⟩ => ⟨⟨ca, ta, (hk.same _ (Array.getElem?_eq_some_iff.1 hh).1 hn).trans hh⟩, fun q => q.1.elim hn (fun q => by have := (Array.getElem?_eq_some_iff.1 hh).1; omega)⟩
  have g : ∀ {b : Nat} {v : Value}, w.cell? ⟨b, 0, none⟩ = some v → ¬ F b → ¬ K.fc (up F w) V b := fun hc hn q => q.1.elim hn (fun q => by have := World.block_lt_of_cell? w ⟨_, 0, none⟩ hc; simp only at this; omega)
  exact ⟨h.er.kd hk h.nf, ⟨g h.er.d h.nf.1, g h.er.f h.nf.2.1, g h.er.n h.nf.2.2⟩, h.df, h.dn, h.fn, k h.cD, k h.cF, k h.cN⟩
theorem tab6_kd {w V : World} {F : Nat → Prop} (h : Tab6 w) (hk : Kd F w V) (hn : ¬ F 4) : Tab6 V := fun i hi => hk.cell (h i hi) hn
theorem Kd.next {F G : Nat → Prop} {a b c : World} (h : Kd F a b) (h' : Kd G b c) (hg : ∀ k, G k → F k ∨ a.heap.size ≤ k) : Kd F a c :=
  ⟨h'.os.trans h.os, h'.tape.trans h.tape, h'.output.trans h.output, Nat.le_trans h.size h'.size, fun k hk hn => (h'.same k (Nat.lt_of_lt_of_le hk h.size) (fun q => (hg k q).elim hn (fun q => by omega))).trans (h.same k hk hn)⟩
theorem cell_lt {w : World} {b i : Nat} {v : Value} (h : w.cell? ⟨b, i, none⟩ = some v) : b < w.heap.size := World.block_lt_of_cell? w ⟨b, i, none⟩ h

/-- What Open answers: the journal in a block of its own, the records in memory of their own. -/
structure OpJ (w w' : World) (d : Nat) (F' : Nat → Prop) (O : Opn) (pj v : Value) : Prop where
  no : O.r ≠ 0 → pj = .pointer none ∧ v = .slice none 0 0
  yes : O.r = 0 → ∃ j os, pj = .pointer (some ⟨j, 0, none⟩) ∧ w.heap.size ≤ j ∧ w'.heap[j]? = some (.cells #[.pointer (some ⟨d, 0, none⟩), .int .i64 (O.n : Nat), .int .i64 (O.k : Nat), .bool false] 100) ∧ ¬ F' j ∧ Rl w' w.heap.size v os ∧ os.map Ro.r = O.l ∧ ∀ p k, p < 3 + 2 * os.length → (rlF v os p).v.ownBlock = some k → ¬ F' k ∧ k ≠ j
def OpP (w : World) (d x : Nat) (F : Nat → Prop) (O : Opn) (aD aF aN : Addr) (e : Ending) (w' : World) : Prop :=
  ∃ pj v F', e = .returned (.tuple #[pj, v, evD aD aF aN O.r]) ∧ Dm w' x F' O.d ∧ (∀ k, F' k → F k ∨ w.heap.size ≤ k) ∧ Kd F w w' ∧ OpJ w w' d F' O pj v
theorem OpP.err {w w' : World} {d x : Nat} {F F' : Nat → Prop} {O : Opn} {aD aF aN : Addr} {e : Ending} {ev : Value} {r : Nat} (hr : O.r = r) (hr0 : r ≠ 0) (hev : evD aD aF aN r = ev) (he : e = .returned (.tuple #[.pointer none, .slice none 0 0, ev])) (hD : Dm w' x F' O.d) (hF : ∀ k, F' k → F k ∨ w.heap.size ≤ k) (hK : Kd F w w') : OpP w d x F O aD aF aN e w' :=
  ⟨_, _, F', by rw [hr, hev]; exact he, hD, hF, hK, ⟨fun _ => ⟨rfl, rfl⟩, fun h => absurd (hr.symm.trans h) hr0⟩⟩

set_option maxHeartbeats 8000000 in
set_option maxRecDepth 100000 in
theorem open_any (w : World) (d x : Nat) (F : Nat → Prop) (D : Dk) (B : Nat) (aD aF aN : Addr) (h : Dm w x F D) (hk : D.Ok B) (hB : B ≤ 1099511627776) (hd : w.cell? ⟨d, 0, none⟩ = some (.pointer (some ⟨x, 0, none⟩))) (nd : ¬ F d) (hS : Snt w F aD aF aN) (hT : Tab6 w) (nT : ¬ F 4) :
    Calls Tryz.prog 12 #[.pointer (some ⟨d, 0, none⟩)] w fun e w' => OpP w d x F (opX D) aD aF aN e w' := by
  have HR := removeRest_any w d x F D B aD aF aN h hk hB hd nd hS
  obtain ⟨O, hO⟩ : ∃ O, opX D = O := ⟨_, rfl⟩
  have hok : (rmD D).1.Ok B := ok_file hk (fun i => fsok_erase hk.files)
  have hr3 : (rmD D).2 ≤ 3 := fileD_r ..
  rw [hO]
  obtain ⟨⟨D1, r0⟩, hR⟩ : ∃ R : Dk × Nat, rmD D = R := ⟨_, rfl⟩
  unfold opX at hO
  rw [hR] at hO hok hr3
  rw [show fileD D jnN (fun i => D.fs.eraseIdx i) = (D1, r0) from hR] at HR
  simp only at hO hok hr3 HR
  by_cases hr : rmE r0 = 0
  case neg =>
    rw [if_neg hr] at hO
    have HO : Hid (O.d = D1 ∧ O.r = rmE r0) := by rw [← hO]; exact ⟨rfl, rfl⟩
    obtain ⟨a, hev⟩ := evD_some (aD := aD) (aF := aF) (aN := aN) hr
    have HEV : Hid (evD aD aF aN (rmE r0) = .iface 218 (.pointer (some a)) ∧ rmE r0 ≠ 0) := ⟨hev, hr⟩
    rw [hev] at HR
    clear hev hO hok hr hd hS hT h hk hR hr3
    go_enter Tryz.func12, Tryz.ntmps12
    go_wp2_with (go_at_call 39; refine HR.mono ?_; rintro e w1 ⟨rfl, hD1, hK1⟩; have HW : Hid (Dm w1 x (up F w) D1 ∧ Kd F w w1) := ⟨hD1, hK1⟩; clear hD1 hK1)
    refine bodyPost_ret (v := .tuple #[.pointer none, .slice none 0 0, .iface 218 (.pointer (some a))]) (by simp [results, Tryz.results12, go_sem]) rfl ?_
    exact OpP.err HO.out.2 HEV.out.2 HEV.out.1 rfl (by rw [HO.out.1]; exact HW.out.1) (fun k q => q) HW.out.2
  case pos =>
    rw [if_pos hr] at hO
    rw [hr, show evD aD aF aN 0 = .nilIface from rfl] at HR
    have H0 : Hid (w.cell? ⟨d, 0, none⟩ = some (.pointer (some ⟨x, 0, none⟩)) ∧ ¬ F d ∧ Snt w F aD aF aN ∧ Tab6 w ∧ ¬ F 4 ∧ D1.Ok B) := ⟨hd, nd, hS, hT, nT, hok⟩
    have HO : Hid (opB D1 = O) := hO
    clear hO hok hr hd hS hT h hk hR hr3 nd nT
    go_enter Tryz.func12, Tryz.ntmps12
    go_wp2_with fail
    refine HR.mono ?_
    clear HR
    rintro e w1 ⟨rfl, hDm, hK1⟩
    have hS1 := H0.out.2.2.1.fc hK1
    have hd1 := hK1.cell H0.out.1 H0.out.2.1
    have hT1 := tab6_kd H0.out.2.2.2.1 hK1 H0.out.2.2.2.2.1
    obtain ⟨F1, hF1⟩ : ∃ F1, fc (up F w) w1 = F1 := ⟨_, rfl⟩
    have hDm1 := hDm.fc
    rw [hF1] at hDm1 hS1
    have hw1 := hK1.size
    have nd1 : ¬ F1 d := fun q => by rw [← hF1] at q; exact q.1.elim H0.out.2.1 (fun q => by have := cell_lt H0.out.1; omega)
    have HF1 : Hid (∀ k, F1 k → (F k ∨ w.heap.size ≤ k) ∧ k < w1.heap.size) := fun k q => by rw [← hF1] at q; exact q
    have HA := jread_any w1 d x F1 D1 B aD aF aN hDm1 H0.out.2.2.2.2.2 hB hd1 hS1
    have H1 : Hid (w1.cell? ⟨d, 0, none⟩ = some (.pointer (some ⟨x, 0, none⟩)) ∧ ¬ F1 d ∧ Snt w1 F1 aD aF aN ∧ Tab6 w1 ∧ Dm w1 x F1 D1 ∧ Kd F w w1) := ⟨hd1, nd1, hS1, hT1, hDm1, hK1⟩
    obtain ⟨hby, hbl⟩ := rd_byt H0.out.2.2.2.2.2 jN
    have hO := HO.out
    unfold opB at hO
    unfold JrP at HA
    obtain ⟨bs, hbs⟩ : ∃ bs, rdB D1 jN = bs := ⟨_, rfl⟩
    rw [hbs] at hby hbl HA hO
    clear hDm hK1 hd1 nd1 hS1 hT1 hDm1 hF1 HO
    by_cases hr : rmE (rdN D1 jN) = 0
    case neg =>
      rw [if_neg hr] at hO
      have HO : Hid (O.d = D1 ∧ O.r = rmE (rdN D1 jN)) := by rw [← hO]; exact ⟨rfl, rfl⟩
      obtain ⟨a, hev⟩ := evD_some (aD := aD) (aF := aF) (aN := aN) hr
      have HEV : Hid (evD aD aF aN (rmE (rdN D1 jN)) = .iface 218 (.pointer (some a)) ∧ rmE (rdN D1 jN) ≠ 0) := ⟨hev, hr⟩
      rw [hev] at HA
      clear hev hO hr hby hbl hbs
      go_wp2_with (go_at_call 40; refine HA.mono ?_; rintro e w2 ⟨v2, rfl, ho2, hb2⟩; obtain ⟨a2, c2, hv2⟩ := d_shape ho2; subst hv2; have HW : Hid (Below w1.heap.size w1 w2) := hb2; clear ho2 hb2)
      refine bodyPost_ret (v := .tuple #[.pointer none, .slice none 0 0, .iface 218 (.pointer (some a))]) (by simp [results, Tryz.results12, go_sem]) rfl ?_
      exact OpP.err HO.out.2 HEV.out.2 HEV.out.1 rfl (by rw [HO.out.1]; exact H1.out.2.2.2.2.1.below HW.out) (fun k q => (HF1.out k q).1) (H1.out.2.2.2.2.2.trans (Kd.below HW.out))
    case pos =>
      rw [if_pos hr] at hO
      rw [hr, show evD aD aF aN 0 = .nilIface from rfl] at HA
      have HO : Hid (opC D1 bs = O) := hO
      clear hO hr
      go_wp2_with fail
      refine HA.mono ?_
      clear HA
      rintro e w2 ⟨v2, rfl, ho2, hb2⟩
      obtain ⟨a2, c2, hv2⟩ := d_shape ho2
      subst hv2
      obtain ⟨hz2, hn2, hc2, hl2⟩ := lies_own (own_low7 ho2 (Nat.zero_le _))
      have hcm : c2 ≤ 9223372036854775807 := by
        obtain ⟨_, ⟨e, _⟩ | ⟨g, cap, cur, e, _, _, _, hm, _⟩⟩ := ho2
        · obtain ⟨_, _, e3⟩ := Value.slice.inj e; rw [e3]; omega
        · obtain ⟨_, _, e3⟩ := Value.slice.inj e; rw [e3]; exact hm
      have had : a2 = none ∧ c2 = 0 ∨ ∃ g off, a2 = some ⟨g, off, none⟩ := by
        obtain ⟨_, ⟨e, _⟩ | ⟨g, cap, cur, e, _⟩⟩ := ho2
        · obtain ⟨e1, _, e3⟩ := Value.slice.inj e; exact .inl ⟨e1, e3⟩
        · obtain ⟨e1, _, e3⟩ := Value.slice.inj e; exact .inr ⟨_, _, e1⟩
      have HS := scan_any a2 bs bs.length c2 w2 (H1.out.2.2.2.1.below hb2 (tab6_pos H1.out.2.2.2.1)) hby rfl hc2 hcm (by omega) hz2 had
      have hsl := scR_len hby
      have hw2 := hb2.size
      unfold ScPost at HS
      have H2 : Hid (Below w1.heap.size w1 w2) := hb2
      clear ho2 hb2 hz2 hn2 had hcm
      have hO := HO.out
      unfold opC at hO
      clear HO
      obtain ⟨⟨ql, qn⟩, hq⟩ : ∃ q : List Rc × Nat, scR bs = q := ⟨_, rfl⟩
      rw [hq] at HS hsl hO
      simp only at HS hsl hO
      obtain ⟨m, hm⟩ : ∃ m, bs.length = m := ⟨_, rfl⟩
      rw [hm] at hO hsl hbl hl2 hc2 HS ⊢
      clear hm hq hbs hby
      go_wp2_with fail
      refine HS.mono ?_
      clear HS
      rintro e w3 ⟨v3, os, rfl, hrl, hom, hb3⟩
      obtain ⟨a3, c3, hv3⟩ := d_shape hrl.row
      have hw3 := hb3.size
      have HW3 : Hid (Rl w3 w2.heap.size v3 os ∧ os.map Ro.r = ql ∧ Below w1.heap.size w1 w3) := ⟨hrl, hom, H2.out.trans (hb3.mono hw2)⟩
      clear hrl hom hb3 H2
      by_cases hlt : qn < m
      case neg =>
        rw [if_neg hlt] at hO
        have HO : Hid (O = ⟨D1, 0, ql, qn, qn⟩) := hO.symm
        have hle : ¬ (qn : Int) < (m : Int) := by omega
        clear hO hlt
        obtain ⟨nos, hnos⟩ : ∃ nos, os.length = nos := ⟨_, rfl⟩
        rw [hnos] at hv3
        clear hnos
        have HV3 : Hid (Value.slice a3 nos c3 = v3) := hv3.symm
        rw [hv3]
        clear hv3
        go_wp2
        refine bodyPost_ret (v := .tuple #[.pointer (some ⟨w3.heap.size, 0, none⟩), .slice a3 nos c3, .nilIface]) (by simp [results, Tryz.results12, go_sem]) rfl ?_
        have hb4 : Below w3.heap.size w3 (w3.alloc (.cells #[.pointer (some ⟨d, 0, none⟩), .int .i64 qn, .int .i64 qn, .bool false] 100)) := (Below.refl _ _).alloc (Nat.le_refl _) _
        rw [HO.out]
        refine ⟨_, v3, F1, by rw [HV3.out]; rfl, (H1.out.2.2.2.2.1.below HW3.out.2.2).below hb4, fun k q => (HF1.out k q).1, (H1.out.2.2.2.2.2.trans (Kd.below HW3.out.2.2)).trans (Kd.below hb4), fun h => absurd rfl h, fun _ => ⟨w3.heap.size, os, rfl, by omega, heap_new6 w3 _, fun q => by have := (HF1.out _ q).2; omega, rl_keep HW3.out.1 (by omega) (fun k _ hk => hb4.block k hk), HW3.out.2.1, fun p k hp hk => ?_⟩⟩
        have := HW3.out.1.lt hp hk
        exact ⟨fun q => by have := (HF1.out _ q).2; omega, by omega⟩
      case pos =>
        rw [if_pos hlt] at hO
        have hle : (qn : Int) < (m : Int) := by omega
        have hdm3 : Dm w3 x F1 D1 := H1.out.2.2.2.2.1.below HW3.out.2.2
        have hS3 := H1.out.2.2.1.kd (Kd.below HW3.out.2.2)
        have HC := dCut_any w3 d x F1 D1 jN (qn : Nat) B aD aF aN hdm3 H0.out.2.2.2.2.2 hB (bel_cell HW3.out.2.2 H1.out.1) H1.out.2.1 hS3.er hS3.nf
        obtain ⟨⟨D2, r2⟩, hR2⟩ : ∃ R : Dk × Nat, fileD D1 jN (fun i => cutF D1.fs i (qn : Nat)) = R := ⟨_, rfl⟩
        unfold MP at HC
        rw [hR2] at HC hO
        simp only at HC hO
        unfold jN at HC
        have HR2 : Hid True := trivial
        clear hdm3 hS3 hR2
        obtain ⟨nos, hnos⟩ : ∃ nos, os.length = nos := ⟨_, rfl⟩
        rw [hnos] at hv3
        clear hnos
        have HV3 : Hid (Value.slice a3 nos c3 = v3) := hv3.symm
        rw [hv3]
        clear hv3 hlt
        by_cases hr : r2 = 0
        case neg =>
          rw [if_neg hr] at hO
          have HO : Hid (O.d = D2 ∧ O.r = r2) := by rw [← hO]; exact ⟨rfl, rfl⟩
          obtain ⟨a, hev⟩ := evD_some (aD := aD) (aF := aF) (aN := aN) hr
          have HEV : Hid (evD aD aF aN r2 = .iface 218 (.pointer (some a)) ∧ r2 ≠ 0) := ⟨hev, hr⟩
          rw [hev] at HC
          clear hev hO hr
          go_wp2_with (go_at_call 42; refine HC.mono ?_; rintro e w4 ⟨rfl, hD4, hK4⟩; have HW : Hid (Dm w4 x (up F1 w3) D2 ∧ Kd F1 w3 w4) := ⟨hD4, hK4⟩; clear hD4 hK4)
          refine bodyPost_ret (v := .tuple #[.pointer none, .slice none 0 0, .iface 218 (.pointer (some a))]) (by simp [results, Tryz.results12, go_sem]) rfl ?_
          exact OpP.err HO.out.2 HEV.out.2 HEV.out.1 rfl (by rw [HO.out.1]; exact HW.out.1) (fun k q => Or.elim q (fun q => (HF1.out k q).1) (fun q => .inr (by omega))) (Kd.next (H1.out.2.2.2.2.2.trans (Kd.below HW3.out.2.2)) HW.out.2 (fun k q => (HF1.out k q).1))
        case pos =>
          rw [if_pos hr] at hO
          have HO : Hid (O = ⟨D2, 0, ql, qn, 0⟩) := hO.symm
          rw [hr, show evD aD aF aN 0 = .nilIface from rfl] at HC
          clear hO hr
          go_wp2_with (go_at_call 42; refine HC.mono ?_; rintro e w4 ⟨rfl, hD4, hK4⟩; have HW : Hid (Dm w4 x (up F1 w3) D2 ∧ Kd F1 w3 w4) := ⟨hD4, hK4⟩; clear hD4 hK4)
          refine bodyPost_ret (v := .tuple #[.pointer (some ⟨w4.heap.size, 0, none⟩), .slice a3 nos c3, .nilIface]) (by simp [results, Tryz.results12, go_sem]) rfl ?_
          have hw4 := HW.out.2.size
          have hb5 : Below w4.heap.size w4 (w4.alloc (.cells #[.pointer (some ⟨d, 0, none⟩), .int .i64 qn, .int .i64 0, .bool false] 100)) := (Below.refl _ _).alloc (Nat.le_refl _) _
          rw [HO.out]
          refine ⟨_, v3, fc (up F1 w3) w4, by rw [HV3.out]; rfl, HW.out.1.fc.below hb5, fun k q => Or.elim q.1 (fun q => (HF1.out k q).1) (fun q => .inr (by omega)), (Kd.next (H1.out.2.2.2.2.2.trans (Kd.below HW3.out.2.2)) HW.out.2 (fun k q => (HF1.out k q).1)).trans (Kd.below hb5), fun h => absurd rfl h, fun _ => ⟨w4.heap.size, os, rfl, by omega, heap_new6 w4 _, fun q => by have := q.2; omega, rl_keep HW3.out.1 (by omega) (fun k hk1 hk2 => (hb5.block k (by omega)).trans (HW.out.2.same k hk2 (fun q => by have := (HF1.out _ q).2; omega))), HW3.out.2.1, fun p k hp hk => ?_⟩⟩
          have := HW3.out.1.lt hp hk
          exact ⟨fun q => Or.elim q.1 (fun q => by have := (HF1.out _ q).2; omega) (fun q => by omega), by omega⟩
end Go.Proofs.YtllhbhogfffedaaGreatDoor.K
