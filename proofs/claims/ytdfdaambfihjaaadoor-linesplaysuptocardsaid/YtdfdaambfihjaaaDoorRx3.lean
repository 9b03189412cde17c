import Derived.Test.YtdfdaambfihjaaaDoorRx1
namespace Go.Proofs.YtdfdaambfihjaaaDoor
open Go.RowKit
set_option linter.unusedVariables false
set_option linter.unusedSimpArgs false

theorem one_litb (W : World) (b : Int) : ∀ j u, [Value.int .u8 b][j]? = some u → (W.alloc (.cells #[.int .u8 b] 5)).cell? ((⟨W.heap.size, 0, none⟩ : Addr).add j) = some u := by
  intro j u hj
  rw [add_n5, Nat.zero_add, cell_of_row _ W.heap.size j _ _ _ (al_new W _), ← hj, ← Array.getElem?_toList]
theorem Ly.own1 {w wr : World} {v : Value} {m : Nat} {bs : List Int} (h : Ly w wr v m bs) (o : Obj) : (wr.alloc o).ownsRow w.heap.size 5 1 v m (bs.map (Value.int .u8)) :=
  C.own_blk2 h.own (fun g hg => ((Below.refl wr.heap.size wr).alloc (Nat.le_refl _) o).block g (h.own.lt g hg).2)
/-- What was appended. -/
theorem Ly.app {w wr w' : World} {v v' : Value} {m k : Nat} {bs ds : List Int} (h : Ly w wr v m bs) (hk : ds.length = k) (ho : w'.ownsRow w.heap.size 5 1 v' (m + k) (bs.map (Value.int .u8) ++ ds.map (Value.int .u8))) (hg : wr.grownBy w' v.ownBlock) : ∃ a m' c, v' = .slice a m' c ∧ m' ≤ m + k ∧ Ly w w' (.slice a m' c) m' (bs ++ ds) := by
  have hk2 : ∀ g, g < w.heap.size → w'.heap[g]? = wr.heap[g]? := fun g hgl => hg.block g (by have := h.bel.size; omega) (fun e => by have := (h.own.lt g e.symm).1; omega)
  obtain ⟨a, c, rfl⟩ := own_sl5 ho
  exact ⟨a, _, c, rfl, Nat.le_refl _, by rw [List.length_append, h.len, hk], by rw [List.map_append]; exact ho, ⟨hg.os.trans h.bel.os, hg.tape.trans h.bel.tape, hg.output.trans h.bel.output, Nat.le_trans h.bel.size hg.size, fun g hgl => (hk2 g hgl).trans (h.bel.block g hgl)⟩⟩

/-- Bytes that were laid. -/
def LyP (w : World) (M : Nat) (bs : List Int) (e : Ending) (w' : World) : Prop := ∃ a m c, e = .returned (.slice a m c) ∧ m ≤ M ∧ Ly w w' (.slice a m c) m bs

set_option maxRecDepth 100000 in
set_option maxHeartbeats 8000000 in
theorem rqLayExts_any {w w0 : World} {a0 : Option Addr} {m0 c0 : Nat} {bs : List Int} (h : Ly w w0 (.slice a0 m0 c0) m0 bs) (xv : Value) (xs : List Xr) (hX : XIn w xv xs) (hok : XsIn xs) (hl : xs.length ≤ 15) (hm : m0 ≤ 1000000) :
    Calls Tryd.prog 91 #[.slice a0 m0 c0, xv] w0 (LyP w (m0 + 4500) (bs ++ encXs (xs.map Xr.ex))) := by
  obtain ⟨i0, hi, hz0, hz1, hz2⟩ := info_parts Tryd.info_u8
  have HX : Hid (XIn w xv xs) := hX
  obtain ⟨a, c, rfl, _⟩ := hX.shape
  obtain ⟨n, hn⟩ : ∃ n, xs.length = n := ⟨_, rfl⟩
  have HN : Hid (xs.length = n) := hn
  rw [hn] at hl ⊢
  have HX : Hid (∀ V, Below w.heap.size w V → XIn V (.slice a n c) xs) := fun V hV => by have := HX.out.below hV; rw [hn] at this; exact this
  have HOK : Hid (XsIn xs) := hok
  have HL0 : Hid (Ly w w0 (.slice a0 m0 c0) m0 bs) := h
  obtain ⟨P, hP⟩ : ∃ P, LyP w (m0 + 4500) (bs ++ encXs (xs.map Xr.ex)) = P := ⟨_, rfl⟩
  have HP : Hid (LyP w (m0 + 4500) (bs ++ encXs (xs.map Xr.ex)) = P) := hP
  rw [hP]
  clear hX hn hok h hP
  go_enter Tryd.func91, Tryd.ntmps91
  go_wp2_with fail
  go_loopw [0, 5] (fun b i wv => ∃ (k : Nat) (a : Option Addr) (m c : Nat), k ≤ n ∧ b = .slice a m c ∧ i = .int .i64 k ∧ m ≤ m0 + 300 * k ∧ Hid (Ly w wv (.slice a m c) m (bs ++ encXs ((xs.take k).map Xr.ex)))) (fun _ i _ => n - (intOf i).toNat)
  case atStart => exact ⟨0, a0, m0, c0, by omega, rfl, rfl, by omega, by show Ly _ _ _ _ _; simpa [encXs] using HL0.out⟩
  case round =>
    obtain ⟨k, av, mv, cv, hk, rfl, rfl, hmv, HL⟩ := hrel
    clear HL0
    by_cases hlt : k < n
    · have hlt' : (k : Int) < (n : Int) := by omega
      obtain ⟨x, hx⟩ := get_one xs k (by rw [HN.out]; exact hlt)
      have HT : Hid (encXs ((xs.take (k + 1)).map Xr.ex) = encXs ((xs.take k).map Xr.ex) ++ encX x.ex) := by
        show _ = _
        rw [List.take_add_one, hx, List.map_append]; simp [encXs]
      obtain ⟨pre, hpre⟩ : ∃ l, bs ++ encXs ((xs.take k).map Xr.ex) = l := ⟨_, rfl⟩
      have HPre : Hid (bs ++ encXs ((xs.take k).map Xr.ex) = pre) := hpre
      rw [hpre] at HL
      obtain ⟨t0, t1, t2⟩ := HOK.out x (List.mem_of_getElem? hx)
      have hbX := HX.out wr HL.out.bel
      obtain ⟨g, off, rfl, q1, q2⟩ := hbX.at hx
      obtain ⟨ad, cd, hxv, hlies, hnil, _⟩ := (hbX.data x (List.mem_of_getElem? hx)).shape
      have HXx : Hid (xs[k]? = some x) := hx
      have hwt : x.tag % 256 = x.tag := by omega
      have hwk : IntKind.i64.wrap ((k : Int) + 1) = (k : Int) + 1 := by rw [IntKind.wrap_i64]; omega
      have HCL : Hid (∀ V, Below w.heap.size w V → V.cell? ⟨g, off + k * 2, none⟩ = some (.int .i64 x.tag) ∧ V.cell? ⟨g, off + k * 2 + 1, none⟩ = some (.slice ad x.data.length cd) ∧ Lies .u8 V ad x.data) := fun V hV => by
        have hb2 := HX.out V hV
        obtain ⟨g', off', he, p1, p2⟩ := hb2.at HXx.out
        cases he
        obtain ⟨ad', cd', hxv', hlies', _⟩ := (hb2.data x (List.mem_of_getElem? HXx.out)).shape
        rw [hxv] at hxv' p2
        cases hxv'
        exact ⟨p1, p2, hlies'⟩
      have HNI : Hid (ad = none → x.data.length = 0 ∧ cd = 0) := hnil
      rw [hxv] at q2
      clear hx hbX hxv hlies hnil hpre
      have HR2 := HL.out.own1 (.cells #[.int .u8 x.tag] 5)
      have HR2' : Hid ((wr.alloc (.cells #[.int .u8 x.tag] 5)).ownsRow w.heap.size 5 1 (.slice av mv cv) mv (pre.map (Value.int .u8))) := HR2
      have hwz : w.heap.size ≤ wr.heap.size := HL.out.bel.size
      clear HR2
      go_wp2_with (at_builtin; refine wpList_append_own_at _ rfl _ _ 34 rfl w.heap.size 5 i0 (.int .u8 0) 1 1 Tryd.underlying34 hi hz0 hz1 hz2 rfl (by decide) _ _ _ rfl HR2'.out ⟨wr.heap.size, 0, none⟩ 1 1 [.int .u8 x.tag] rfl rfl (one_litb wr _) (by intro u hu; simp at hu; subst hu; rfl) (by unfold maxLen; omega) (by omega) (by simp; omega) ?_)
      intro v1 w1 o1 g1 _ s1
      obtain ⟨a1, m1, c1, rfl, hm1, hl1⟩ := HL.out.byte o1 g1
      have HL1 : Hid (Ly w w1 (.slice a1 m1 c1) m1 (pre ++ [x.tag])) := hl1
      clear o1 g1 s1 hl1 HL HR2' q1 q2
      obtain ⟨q1, q2, _⟩ := HCL.out w1 HL1.out.bel
      have hX := HL1.out.calls (x.data.length : Int) (by omega) (by omega) (by omega)
      go_wp2_with fail
      refine hX.mono ?_
      rintro e w2 ⟨a2, m2, c2, rfl, hm2, hl2⟩
      obtain ⟨b2, hb2⟩ : ∃ l, pre ++ [x.tag] ++ enc (x.data.length : Int) = l := ⟨_, rfl⟩
      have HB2 : Hid (pre ++ [x.tag] ++ enc (x.data.length : Int) = b2) := hb2
      rw [hb2] at hl2
      have HL2 : Hid (Ly w w2 (.slice a2 m2 c2) m2 b2) := hl2
      clear hb2
      clear hX hl2 HL1 q1 q2
      obtain ⟨q1, q2, q3⟩ := HCL.out w2 HL2.out.bel
      have HLI : Hid (Lies .u8 w2 ad x.data) := q3
      have hwz2 : w.heap.size ≤ w2.heap.size := HL2.out.bel.size
      clear q3
      go_wp2_with (at_builtin; refine append_at _ rfl _ _ 34 rfl w.heap.size 5 i0 (.int .u8 0) 1 Tryd.underlying34 hi hz0 hz1 hz2 rfl _ _ _ rfl HL2.out.own .u8 ad x.data.length cd x.data rfl HNI.out rfl HLI.out (by unfold maxLen; omega) (by omega) hwz2 ?_)
      intro v3 w3 o3 g3 s3
      obtain ⟨a3, m3, c3, rfl, hm3, hl3⟩ := HL2.out.app rfl o3 g3
      have HL3 : Hid (Ly w w3 (.slice a3 m3 c3) m3 (bs ++ encXs ((xs.take (k + 1)).map Xr.ex))) := by
        show Ly _ _ _ _ _
        rw [HT.out, ← List.append_assoc, HPre.out]
        rw [← HB2.out] at hl3
        simpa [encX, Xr.ex] using hl3
      clear o3 g3 s3 hl3 HL2 q1 q2
      go_wp2
      go_roundw
      case rel => exact ⟨k + 1, a3, m3, c3, by omega, rfl, by go_num, by omega, HL3⟩
      case measure => simp [intOf]; omega
    · obtain rfl : k = n := by omega
      have hlt' : ¬ (k : Int) < (k : Int) := by omega
      have HEnd : Hid (P (.returned (.slice av mv cv)) wr) := by
        show P _ _
        rw [← HP.out]
        have h := HL.out
        rw [List.take_of_length_le (by rw [HN.out]; exact Nat.le_refl _)] at h
        exact ⟨av, mv, cv, rfl, by omega, h⟩
      clear HL
      go_wp2
      first | exact HEnd.out | (go_ret; exact HEnd.out)

theorem lay_sh3 (s : Sg) (hx tx : List Xr) (h1 : s.head = hx.map Xr.ex) (h2 : s.tail = tx.map Xr.ex) : layB 3 s = [s.typ] ++ enc s.org ++ enc s.num ++ [16 * (hx.length : Int) + (tx.length : Int)] ++ encXs (hx.map Xr.ex) ++ enc s.srv ++ enc s.off ++ enc (s.data.length : Int) ++ s.data ++ encXs (tx.map Xr.ex) := by
  simp [layB, conB, blkB, repB, jn, h1, h2]
theorem lay_sh7 (s : Sg) (hx tx : List Xr) (h1 : s.head = hx.map Xr.ex) (h2 : s.tail = tx.map Xr.ex) : layB 7 s = [s.typ] ++ enc s.org ++ enc s.num ++ [16 * (hx.length : Int) + (tx.length : Int)] ++ encXs (hx.map Xr.ex) ++ enc s.srv ++ enc s.off ++ enc (s.data.length : Int) ++ enc s.chk ++ enc s.rep ++ s.data ++ encXs (tx.map Xr.ex) := by
  simp [layB, conB, blkB, repB, jn, h1, h2]
theorem lay_sh9 (s : Sg) (hx tx : List Xr) (h1 : s.head = hx.map Xr.ex) (h2 : s.tail = tx.map Xr.ex) : layB 9 s = [s.typ] ++ enc s.org ++ enc s.num ++ [16 * (hx.length : Int) + (tx.length : Int)] ++ encXs (hx.map Xr.ex) ++ enc s.rep ++ enc s.chk ++ enc s.upp ++ enc s.low ++ enc (s.clm.length : Int) ++ clmB s.low s.clm ++ encXs (tx.map Xr.ex) := by
  simp [layB, conB, blkB, repB, jn, h1, h2]
theorem lay_sh17 (s : Sg) (hx tx : List Xr) (h1 : s.head = hx.map Xr.ex) (h2 : s.tail = tx.map Xr.ex) : layB 17 s = [s.typ] ++ enc s.org ++ enc s.num ++ [16 * (hx.length : Int) + (tx.length : Int)] ++ encXs (hx.map Xr.ex) ++ enc s.rep ++ encXs (tx.map Xr.ex) := by
  simp [layB, conB, blkB, repB, jn, h1, h2]
theorem lay_sh33 (s : Sg) (hx tx : List Xr) (h1 : s.head = hx.map Xr.ex) (h2 : s.tail = tx.map Xr.ex) : layB 33 s = [s.typ] ++ enc s.org ++ enc s.num ++ [16 * (hx.length : Int) + (tx.length : Int)] ++ encXs (hx.map Xr.ex) ++ [s.rsn] ++ encXs (tx.map Xr.ex) := by
  simp [layB, conB, blkB, repB, jn, h1, h2]
theorem lay_sh1 (s : Sg) (hx tx : List Xr) (h1 : s.head = hx.map Xr.ex) (h2 : s.tail = tx.map Xr.ex) : layB 1 s = [s.typ] ++ enc s.org ++ enc s.num ++ [16 * (hx.length : Int) + (tx.length : Int)] ++ encXs (hx.map Xr.ex) ++ encXs (tx.map Xr.ex) := by
  simp [layB, conB, blkB, repB, jn, h1, h2]

end Go.Proofs.YtdfdaambfihjaaaDoor

namespace Go.Proofs.YtdfdaambfihjaaaDoor
open Go.RowKit
set_option linter.unusedVariables false
set_option linter.unusedSimpArgs false

set_option maxRecDepth 100000 in
set_option maxHeartbeats 32000000 in
theorem rqL_3 (s : Sg) (ah at2 ad ac : Option Addr) (nh ch nt ct nd cd nc cc : Nat) (hx tx : List Xr) (w : World) (hs : SIn w s (.slice ah nh ch) (.slice at2 nt ct) (.slice ad nd cd) (.slice ac nc cc) hx tx) (hnh : hx.length = nh) (hnt : tx.length = nt) (hnd : s.data.length = nd) (hnc : s.clm.length = nc) (ht : s.typ = 0 ∨ s.typ = 4 ∨ s.typ = 7) (hw : Wr 3 s hx tx) :
    Calls Tryd.prog 72 #[.agg (svC s (.slice ah nh ch) (.slice at2 nt ct) (.slice ad nd cd) (.slice ac nc cc))] w (FormP (layB 3 s) w) := by
  obtain ⟨i0, hi, hz0, hz1, hz2⟩ := info_parts Tryd.info_u8
  obtain ⟨W, hW⟩ : ∃ W, w.alloc (.cells (svC s (.slice ah nh ch) (.slice at2 nt ct) (.slice ad nd cd) (.slice ac nc cc)) 37) = W := ⟨_, rfl⟩
  have HWe : Hid (w.alloc (.cells (svC s (.slice ah nh ch) (.slice at2 nt ct) (.slice ad nd cd) (.slice ac nc cc)) 37) = W) := hW
  have hws : W.heap.size = w.heap.size + 1 := by rw [← hW, World.size_alloc]
  have HWs : Hid (W.heap.size = w.heap.size + 1) := hws
  have hbW : Below w.heap.size w W := by rw [← hW]; exact (Below.refl _ _).alloc (Nat.le_refl _) _
  have HBW : Hid (Below w.heap.size w W) := hbW
  have HR : Hid (∀ V, Below W.heap.size W V → V.heap[w.heap.size]? = some (.cells (svC s (.slice ah nh ch) (.slice at2 nt ct) (.slice ad nd cd) (.slice ac nc cc)) 37 (0, 0))) := fun V hV => by
    have h1 : W.heap[w.heap.size]? = some (.cells (svC s (.slice ah nh ch) (.slice at2 nt ct) (.slice ad nd cd) (.slice ac nc cc)) 37 (0, 0)) := by rw [← hW]; exact al_new _ _
    exact (hV.block _ (Array.getElem?_eq_some_iff.1 h1).1).trans h1
  have HXh : Hid (XIn W (.slice ah nh ch) hx ∧ XsIn hx ∧ hx.length ≤ 15) := ⟨hs.head.below hbW, hw.head, hw.headL⟩
  have HXt : Hid (XIn W (.slice at2 nt ct) tx ∧ XsIn tx ∧ tx.length ≤ 15) := ⟨hs.tail.below hbW, hw.tail, hw.tailL⟩
  have HDt : Hid (∀ V, Below W.heap.size W V → BIn V (.slice ad nd cd) s.data) := fun V hV => (hs.data.below hbW).below hV
  have HCt : Hid (∀ V, Below W.heap.size W V → CIn V (.slice ac nc cc) s.clm) := fun V hV => (hs.clm.below hbW).below hV
  have HNs : Hid (hx.length = nh ∧ tx.length = nt ∧ s.data.length = nd ∧ s.clm.length = nc) := ⟨hnh, hnt, hnd, hnc⟩
  have HBd : Hid ((0 ≤ s.org ∧ s.org ≤ 4611686018427387903) ∧ (0 ≤ s.num ∧ s.num ≤ 4611686018427387903) ∧ (0 ≤ s.srv ∧ s.srv ≤ 4611686018427387903) ∧ (0 ≤ s.off ∧ s.off ≤ 4611686018427387903) ∧ (0 ≤ s.chk ∧ s.chk ≤ 4611686018427387903) ∧ (0 ≤ s.rep ∧ s.rep ≤ 4611686018427387903) ∧ (0 ≤ s.upp ∧ s.upp ≤ 65536) ∧ (0 ≤ s.low ∧ s.low ≤ 65536)) := ⟨hw.org, hw.num, hw.srv, hw.off, hw.chk, hw.rep, hw.upp, hw.low⟩
  have hnd7 : nd ≤ 70000 := by rw [← hnd]; exact hw.data
  have hnc1 : nc ≤ 1000 := by rw [← hnc]; exact hw.clm
  have hnh1 : nh ≤ 15 := by rw [← hnh]; exact hw.headL
  have hnt1 : nt ≤ 15 := by rw [← hnt]; exact hw.tailL
  have hD : ∀ V, Calls Tryd.prog 85 #[.int .i64 s.typ] V fun e w' => e = .returned (.bool true) ∧ V = w' := fun V => by
    rcases ht with h | h | h <;> rw [h]
    · exact rqDa_1 _ V (by omega) (by omega)
    · exact rqDa_1 _ V (by omega) (by omega)
    · exact rqDa_3 _ V (by omega) (by omega)
  have hK : ∀ V, Calls Tryd.prog 86 #[.int .i64 s.typ] V fun e w' => e = .returned (.bool false) ∧ V = w' := fun V => by
    rcases ht with h | h | h <;> rw [h]
    · exact rqCh_0 _ V (by omega)
    · exact rqCh_2 _ V (by omega)
    · exact rqCh_2 _ V (by omega)
  have t8 : (s.typ == 8) = false := by simp; omega
  have t9 : (s.typ == 9) = false := by simp; omega
  have t12 : (s.typ == 12) = false := by simp; omega
  have t14 : (s.typ == 14) = false := by simp; omega
  have hwt : s.typ % 256 = s.typ := by omega
  have hw16 : IntKind.i64.wrap (16 * (nh : Int)) = 16 * (nh : Int) := by rw [IntKind.wrap_i64]; omega
  have hwsm : IntKind.i64.wrap (16 * (nh : Int) + (nt : Int)) = 16 * (nh : Int) + (nt : Int) := by rw [IntKind.wrap_i64]; omega
  have hwb : (16 * (nh : Int) + (nt : Int)) % 256 = 16 * (nh : Int) + (nt : Int) := by omega
  have HLay : Hid (layB 3 s = [s.typ] ++ enc s.org ++ enc s.num ++ [16 * (nh : Int) + (nt : Int)] ++ encXs (hx.map Xr.ex) ++ enc s.srv ++ enc s.off ++ enc (nd : Int) ++ s.data ++ encXs (tx.map Xr.ex)) := by show _ = _; rw [lay_sh3 s hx tx hs.headEq hs.tailEq, hnh, hnt, hnd]
  obtain ⟨P, hP⟩ : ∃ P, FormP (layB 3 s) w = P := ⟨_, rfl⟩
  have HP : Hid (FormP (layB 3 s) w = P) := hP
  have HL0 : Hid (Ly W (W.alloc (.cells #[.int .u8 s.typ] 5)) (.slice (some ⟨w.heap.size + 1, 0, none⟩) 1 1) 1 [s.typ]) := by
    refine ⟨rfl, ⟨rfl, .inr ⟨w.heap.size + 1, 1, #[.int .u8 s.typ], rfl, by omega, ?_, Nat.le_refl _, by unfold maxLen; omega, rfl, rfl⟩⟩, (Below.refl _ _).alloc (Nat.le_refl _) _⟩
    rw [← hws]
    exact al_new _ _
  rw [hP]
  obtain ⟨y0, y1, y2, y3, y4, y5, y6, y7, y8, y9, y10, y11, y12, y13⟩ := s14_cells (HR.out W (Below.refl _ _))
  clear hW hbW hs hw hnh hnt hnd hnc hP hws ht
  go_enter Tryd.func72, Tryd.ntmps72
  have hX := HL0.out.calls s.org (by have := HBd.out; omega) (by have := HBd.out; omega) (by omega)
  go_wp2_with fail
  rw [HWe.out]
  refine hX.mono ?_
  rintro e w1 ⟨a1, m1, c1, rfl, hm1, hl1⟩
  clear hX
  obtain ⟨b1, hb1⟩ : ∃ l, [s.typ] ++ enc s.org = l := ⟨_, rfl⟩
  rw [hb1] at hl1
  have HE1 : Hid ([s.typ] ++ enc s.org = b1) := hb1
  have HL1 : Hid (Ly W w1 (.slice a1 m1 c1) m1 b1) := hl1
  clear y0 y1 y2 y3 y4 y5 y6 y7 y8 y9 y10 y11 y12 y13
  obtain ⟨y0, y1, y2, y3, y4, y5, y6, y7, y8, y9, y10, y11, y12, y13⟩ := s14_cells (HR.out w1 hl1.bel)
  clear hl1 hb1 HL0
  have hX := HL1.out.calls s.num (by have := HBd.out; omega) (by have := HBd.out; omega) (by omega)
  go_wp2_with fail
  refine hX.mono ?_
  rintro e w2 ⟨a2, m2, c2, rfl, hm2, hl2⟩
  clear hX
  obtain ⟨b2, hb2⟩ : ∃ l, b1 ++ enc s.num = l := ⟨_, rfl⟩
  rw [hb2] at hl2
  have HE2 : Hid (b1 ++ enc s.num = b2) := hb2
  have HL2 : Hid (Ly W w2 (.slice a2 m2 c2) m2 b2) := hl2
  clear y0 y1 y2 y3 y4 y5 y6 y7 y8 y9 y10 y11 y12 y13
  obtain ⟨y0, y1, y2, y3, y4, y5, y6, y7, y8, y9, y10, y11, y12, y13⟩ := s14_cells (HR.out w2 hl2.bel)
  clear hl2 hb2 HL1
  have HO3 : Hid ((w2.alloc (.cells #[.int .u8 (16 * (nh : Int) + (nt : Int))] 5)).ownsRow W.heap.size 5 1 (.slice a2 m2 c2) m2 (b2.map (Value.int .u8))) := HL2.out.own1 _
  have hwz : W.heap.size ≤ w2.heap.size := HL2.out.bel.size
  go_wp2_with (at_builtin; refine wpList_append_own_at _ rfl _ _ 34 rfl W.heap.size 5 i0 (.int .u8 0) 1 1 Tryd.underlying34 hi hz0 hz1 hz2 rfl (by decide) _ _ _ rfl HO3.out ⟨w2.heap.size, 0, none⟩ 1 1 [.int .u8 (16 * (nh : Int) + (nt : Int))] rfl rfl (one_litb w2 _) (by intro u hu; simp at hu; subst hu; rfl) (by unfold maxLen; omega) (by omega) (by simp; omega) ?_; intro v3 w3 o3 g3 _ t3; obtain ⟨a3, m3, c3, rfl, hm3, hl3⟩ := HL2.out.byte o3 g3; clear o3 g3 t3 hwz HO3 y0 y1 y2 y3 y4 y5 y6 y7 y8 y9 y10 y11 y12 y13; obtain ⟨y0, y1, y2, y3, y4, y5, y6, y7, y8, y9, y10, y11, y12, y13⟩ := s14_cells (HR.out w3 hl3.bel))
  obtain ⟨b3, hb3⟩ : ∃ l, b2 ++ [16 * (nh : Int) + (nt : Int)] = l := ⟨_, rfl⟩
  rw [hb3] at hl3
  have HE3 : Hid (b2 ++ [16 * (nh : Int) + (nt : Int)] = b3) := hb3
  have HL3 : Hid (Ly W w3 (.slice a3 m3 c3) m3 b3) := hl3
  clear y0 y1 y2 y3 y4 y5 y6 y7 y8 y9 y10 y11 y12 y13
  obtain ⟨y0, y1, y2, y3, y4, y5, y6, y7, y8, y9, y10, y11, y12, y13⟩ := s14_cells (HR.out w3 hl3.bel)
  clear hl3 hb3 HL2
  have hX := rqLayExts_any HL3.out (.slice ah nh ch) hx HXh.out.1 HXh.out.2.1 HXh.out.2.2 (by omega)
  go_wp2_with fail
  refine hX.mono ?_
  rintro e w4 ⟨a4, m4, c4, rfl, hm4, hl4⟩
  clear hX
  obtain ⟨b4, hb4⟩ : ∃ l, b3 ++ encXs (hx.map Xr.ex) = l := ⟨_, rfl⟩
  rw [hb4] at hl4
  have HE4 : Hid (b3 ++ encXs (hx.map Xr.ex) = b4) := hb4
  have HL4 : Hid (Ly W w4 (.slice a4 m4 c4) m4 b4) := hl4
  clear y0 y1 y2 y3 y4 y5 y6 y7 y8 y9 y10 y11 y12 y13
  obtain ⟨y0, y1, y2, y3, y4, y5, y6, y7, y8, y9, y10, y11, y12, y13⟩ := s14_cells (HR.out w4 hl4.bel)
  clear hl4 hb4 HL3
  go_wp2_with fail
  refine (hD _).mono ?_
  rintro e w' ⟨rfl, hw1⟩
  subst hw1
  go_wp2_with fail
  refine (hK _).mono ?_
  rintro e w' ⟨rfl, hw1⟩
  subst hw1
  have hX := HL4.out.calls s.srv (by have := HBd.out; omega) (by have := HBd.out; omega) (by omega)
  go_wp2_with fail
  refine hX.mono ?_
  rintro e w5 ⟨a5, m5, c5, rfl, hm5, hl5⟩
  clear hX
  obtain ⟨b5, hb5⟩ : ∃ l, b4 ++ enc s.srv = l := ⟨_, rfl⟩
  rw [hb5] at hl5
  have HE5 : Hid (b4 ++ enc s.srv = b5) := hb5
  have HL5 : Hid (Ly W w5 (.slice a5 m5 c5) m5 b5) := hl5
  clear y0 y1 y2 y3 y4 y5 y6 y7 y8 y9 y10 y11 y12 y13
  obtain ⟨y0, y1, y2, y3, y4, y5, y6, y7, y8, y9, y10, y11, y12, y13⟩ := s14_cells (HR.out w5 hl5.bel)
  clear hl5 hb5 HL4
  have hX := HL5.out.calls s.off (by have := HBd.out; omega) (by have := HBd.out; omega) (by omega)
  go_wp2_with fail
  refine hX.mono ?_
  rintro e w6 ⟨a6, m6, c6, rfl, hm6, hl6⟩
  clear hX
  obtain ⟨b6, hb6⟩ : ∃ l, b5 ++ enc s.off = l := ⟨_, rfl⟩
  rw [hb6] at hl6
  have HE6 : Hid (b5 ++ enc s.off = b6) := hb6
  have HL6 : Hid (Ly W w6 (.slice a6 m6 c6) m6 b6) := hl6
  clear y0 y1 y2 y3 y4 y5 y6 y7 y8 y9 y10 y11 y12 y13
  obtain ⟨y0, y1, y2, y3, y4, y5, y6, y7, y8, y9, y10, y11, y12, y13⟩ := s14_cells (HR.out w6 hl6.bel)
  clear hl6 hb6 HL5
  have hX := HL6.out.calls (nd : Int) (by omega) (by omega) (by omega)
  go_wp2_with fail
  refine hX.mono ?_
  rintro e w7 ⟨a7, m7, c7, rfl, hm7, hl7⟩
  clear hX
  obtain ⟨b7, hb7⟩ : ∃ l, b6 ++ enc (nd : Int) = l := ⟨_, rfl⟩
  rw [hb7] at hl7
  have HE7 : Hid (b6 ++ enc (nd : Int) = b7) := hb7
  have HL7 : Hid (Ly W w7 (.slice a7 m7 c7) m7 b7) := hl7
  clear y0 y1 y2 y3 y4 y5 y6 y7 y8 y9 y10 y11 y12 y13
  obtain ⟨y0, y1, y2, y3, y4, y5, y6, y7, y8, y9, y10, y11, y12, y13⟩ := s14_cells (HR.out w7 hl7.bel)
  clear hl7 hb7 HL6
  obtain ⟨ad2, cd2, hdv, hli, hni, _⟩ := (HDt.out w7 HL7.out.bel).shape
  have HNI : Hid ((ad = none → s.data.length = 0 ∧ cd = 0) ∧ Lies .u8 w7 ad s.data) := by simp only [Value.slice.injEq] at hdv; obtain ⟨rfl, _, rfl⟩ := hdv; exact ⟨hni, hli⟩
  have HNd : Hid (s.data.length = nd) := HNs.out.2.2.1
  have hwz : W.heap.size ≤ w7.heap.size := HL7.out.bel.size
  clear hdv hli hni
  go_wp2_with (at_builtin; refine append_at _ rfl _ _ 34 rfl W.heap.size 5 i0 (.int .u8 0) 1 Tryd.underlying34 hi hz0 hz1 hz2 rfl _ _ _ rfl HL7.out.own .u8 ad nd cd s.data rfl (fun e => by have := HNI.out.1 e; rw [HNd.out] at this; exact this) HNd.out HNI.out.2 (by unfold maxLen; omega) (by omega) hwz ?_; intro v8 w8 o8 g8 t8; obtain ⟨a8, m8, c8, rfl, hm8, hl8⟩ := HL7.out.app HNd.out o8 g8; clear o8 g8 t8 hwz y0 y1 y2 y3 y4 y5 y6 y7 y8 y9 y10 y11 y12 y13; obtain ⟨y0, y1, y2, y3, y4, y5, y6, y7, y8, y9, y10, y11, y12, y13⟩ := s14_cells (HR.out w8 hl8.bel))
  obtain ⟨b8, hb8⟩ : ∃ l, b7 ++ s.data = l := ⟨_, rfl⟩
  rw [hb8] at hl8
  have HE8 : Hid (b7 ++ s.data = b8) := hb8
  have HL8 : Hid (Ly W w8 (.slice a8 m8 c8) m8 b8) := hl8
  clear y0 y1 y2 y3 y4 y5 y6 y7 y8 y9 y10 y11 y12 y13
  obtain ⟨y0, y1, y2, y3, y4, y5, y6, y7, y8, y9, y10, y11, y12, y13⟩ := s14_cells (HR.out w8 hl8.bel)
  clear hl8 hb8 HL7
  have hX := rqLayExts_any HL8.out (.slice at2 nt ct) tx HXt.out.1 HXt.out.2.1 HXt.out.2.2 (by omega)
  go_wp2_with fail
  refine hX.mono ?_
  rintro e w9 ⟨a9, m9, c9, rfl, hm9, hl9⟩
  clear hX
  obtain ⟨b9, hb9⟩ : ∃ l, b8 ++ encXs (tx.map Xr.ex) = l := ⟨_, rfl⟩
  rw [hb9] at hl9
  have HE9 : Hid (b8 ++ encXs (tx.map Xr.ex) = b9) := hb9
  have HL9 : Hid (Ly W w9 (.slice a9 m9 c9) m9 b9) := hl9
  clear y0 y1 y2 y3 y4 y5 y6 y7 y8 y9 y10 y11 y12 y13
  obtain ⟨y0, y1, y2, y3, y4, y5, y6, y7, y8, y9, y10, y11, y12, y13⟩ := s14_cells (HR.out w9 hl9.bel)
  clear hl9 hb9 HL8
  have HEnd : Hid (P (.returned (.slice a9 m9 c9)) w9) := by
    show P _ _
    rw [← HP.out]
    have hlz := HL9.out
    have he : b9 = layB 3 s := by rw [HLay.out, ← HE9.out, ← HE8.out, ← HE7.out, ← HE6.out, ← HE5.out, ← HE4.out, ← HE3.out, ← HE2.out, ← HE1.out]
    rw [he] at hlz
    have hlen := hlz.len
    refine ⟨_, rfl, ?_, HBW.out.trans (hlz.bel.mono HBW.out.size)⟩
    rw [hlen]
    exact own_low5 hlz.own (by rw [HWs.out]; omega)
  go_wp2
  first | exact HEnd.out | (go_ret; exact HEnd.out)

end Go.Proofs.YtdfdaambfihjaaaDoor
