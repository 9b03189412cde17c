import Derived.Test.YthbkabehjeidjabDoorRx1
namespace Go.Proofs.YthbkabehjeidjabDoor
open Go.RowKit
set_option linter.unusedVariables false
set_option linter.unusedSimpArgs false

theorem one_litb (W : World) (b : Int) : ∀ j u, [Value.int .u8 b][j]? = some u → (W.alloc (.cells #[.int .u8 b] 5)).cell? ((⟨W.heap.size, 0, none⟩ : Addr).add j) = some u := by
  intro j u hj
  rw [add_n5, Nat.zero_add, cell_of_row _ W.heap.size j _ _ _ (al_new W _), ← hj, ← Array.getElem?_toList]
theorem Ly.own1 {w wr : World} {v : Value} {m : Nat} {bs : List Int} (h : Ly w wr v m bs) (o : Obj) : (wr.alloc o).ownsRow w.heap.size 5 1 v m (bs.map (Value.int .u8)) :=
  C.own_blk2 h.own (fun g hg => ((Below.refl wr.heap.size wr).alloc (Nat.le_refl _) o).block g (h.own.lt g hg).2)
/-- What was appended. -/
theorem Ly.app {w wr w' : World} {v v' : Value} {m k : Nat} {bs ds : List Int} (h : Ly w wr v m bs) (hk : ds.length = k) (ho : w'.ownsRow w.heap.size 5 1 v' (m + k) (bs.map (Value.int .u8) ++ ds.map (Value.int .u8))) (hg : wr.grownBy w' v.ownBlock) : ∃ a m' c, v' = .slice a m' c ∧ m' ≤ m + k ∧ Ly w w' (.slice a m' c) m' (bs ++ ds) := by
  have hk2 : ∀ g, g < w.heap.size → w'.heap[g]? = wr.heap[g]? := fun g hgl => hg.block g (by have := h.bel.size; omega) (fun e => by have := (h.own.lt g e.symm).1; omega)
  obtain ⟨a, c, rfl⟩ := own_sl5 ho
  exact ⟨a, _, c, rfl, Nat.le_refl _, by rw [List.length_append, h.len, hk], by rw [List.map_append]; exact ho, ⟨hg.os.trans h.bel.os, hg.tape.trans h.bel.tape, hg.output.trans h.bel.output, Nat.le_trans h.bel.size hg.size, fun g hgl => (hk2 g hgl).trans (h.bel.block g hgl)⟩⟩

/-- Bytes that were laid. -/
def LyP (w : World) (M : Nat) (bs : List Int) (e : Ending) (w' : World) : Prop := ∃ a m c, e = .returned (.slice a m c) ∧ m ≤ M ∧ Ly w w' (.slice a m c) m bs

set_option maxRecDepth 100000 in
set_option maxHeartbeats 8000000 in
theorem rqLayExts_any {w w0 : World} {a0 : Option Addr} {m0 c0 : Nat} {bs : List Int} (h : Ly w w0 (.slice a0 m0 c0) m0 bs) (xv : Value) (xs : List Xr) (hX : XIn w xv xs) (hok : XsIn xs) (hl : xs.length ≤ 15) (hm : m0 ≤ 1000000) :
    Calls Tryd.prog 55 #[.slice a0 m0 c0, xv] w0 (LyP w (m0 + 4500) (bs ++ encXs (xs.map Xr.ex))) := by
  obtain ⟨i0, hi, hz0, hz1, hz2⟩ := info_parts Tryd.info_u8
  have HX : Hid (XIn w xv xs) := hX
  obtain ⟨a, c, rfl, _⟩ := hX.shape
  obtain ⟨n, hn⟩ : ∃ n, xs.length = n := ⟨_, rfl⟩
  have HN : Hid (xs.length = n) := hn
  rw [hn] at hl ⊢
  have HX : Hid (∀ V, Below w.heap.size w V → XIn V (.slice a n c) xs) := fun V hV => by have := HX.out.below hV; rw [hn] at this; exact this
  have HOK : Hid (XsIn xs) := hok
  have HL0 : Hid (Ly w w0 (.slice a0 m0 c0) m0 bs) := h
  obtain ⟨P, hP⟩ : ∃ P, LyP w (m0 + 4500) (bs ++ encXs (xs.map Xr.ex)) = P := ⟨_, rfl⟩
  have HP : Hid (LyP w (m0 + 4500) (bs ++ encXs (xs.map Xr.ex)) = P) := hP
  rw [hP]
  clear hX hn hok h hP
  go_enter Tryd.func55, Tryd.ntmps55
  go_wp2_with fail
  go_loopw [0, 5] (fun b i wv => ∃ (k : Nat) (a : Option Addr) (m c : Nat), k ≤ n ∧ b = .slice a m c ∧ i = .int .i64 k ∧ m ≤ m0 + 300 * k ∧ Hid (Ly w wv (.slice a m c) m (bs ++ encXs ((xs.take k).map Xr.ex)))) (fun _ i _ => n - (intOf i).toNat)
  case atStart => exact ⟨0, a0, m0, c0, by omega, rfl, rfl, by omega, by show Ly _ _ _ _ _; simpa [encXs] using HL0.out⟩
  case round =>
    obtain ⟨k, av, mv, cv, hk, rfl, rfl, hmv, HL⟩ := hrel
    clear HL0
    by_cases hlt : k < n
    · have hlt' : (k : Int) < (n : Int) := by omega
      obtain ⟨x, hx⟩ := get_one xs k (by rw [HN.out]; exact hlt)
      have HT : Hid (encXs ((xs.take (k + 1)).map Xr.ex) = encXs ((xs.take k).map Xr.ex) ++ encX x.ex) := by
        show _ = _
        rw [List.take_add_one, hx, List.map_append]; simp [encXs]
      obtain ⟨pre, hpre⟩ : ∃ l, bs ++ encXs ((xs.take k).map Xr.ex) = l := ⟨_, rfl⟩
      have HPre : Hid (bs ++ encXs ((xs.take k).map Xr.ex) = pre) := hpre
      rw [hpre] at HL
      obtain ⟨t0, t1, t2⟩ := HOK.out x (List.mem_of_getElem? hx)
      have hbX := HX.out wr HL.out.bel
      obtain ⟨g, off, rfl, q1, q2⟩ := hbX.at hx
      obtain ⟨ad, cd, hxv, hlies, hnil, _⟩ := (hbX.data x (List.mem_of_getElem? hx)).shape
      have HXx : Hid (xs[k]? = some x) := hx
      have hwt : x.tag % 256 = x.tag := by omega
      have hwk : IntKind.i64.wrap ((k : Int) + 1) = (k : Int) + 1 := by rw [IntKind.wrap_i64]; omega
      have HCL : Hid (∀ V, Below w.heap.size w V → V.cell? ⟨g, off + k * 2, none⟩ = some (.int .i64 x.tag) ∧ V.cell? ⟨g, off + k * 2 + 1, none⟩ = some (.slice ad x.data.length cd) ∧ Lies .u8 V ad x.data) := fun V hV => by
        have hb2 := HX.out V hV
        obtain ⟨g', off', he, p1, p2⟩ := hb2.at HXx.out
        cases he
        obtain ⟨ad', cd', hxv', hlies', _⟩ := (hb2.data x (List.mem_of_getElem? HXx.out)).shape
        rw [hxv] at hxv' p2
        cases hxv'
        exact ⟨p1, p2, hlies'⟩
      have HNI : Hid (ad = none → x.data.length = 0 ∧ cd = 0) := hnil
      rw [hxv] at q2
      clear hx hbX hxv hlies hnil hpre
      have HR2 := HL.out.own1 (.cells #[.int .u8 x.tag] 5)
      have HR2' : Hid ((wr.alloc (.cells #[.int .u8 x.tag] 5)).ownsRow w.heap.size 5 1 (.slice av mv cv) mv (pre.map (Value.int .u8))) := HR2
      have hwz : w.heap.size ≤ wr.heap.size := HL.out.bel.size
      clear HR2
      go_wp2_with (at_builtin; refine wpList_append_own_at _ rfl _ _ 25 rfl w.heap.size 5 i0 (.int .u8 0) 1 1 Tryd.underlying25 hi hz0 hz1 hz2 rfl (by decide) _ _ _ rfl HR2'.out ⟨wr.heap.size, 0, none⟩ 1 1 [.int .u8 x.tag] rfl rfl (one_litb wr _) (by intro u hu; simp at hu; subst hu; rfl) (by unfold maxLen; omega) (by omega) (by simp; omega) ?_)
      intro v1 w1 o1 g1 _ s1
      obtain ⟨a1, m1, c1, rfl, hm1, hl1⟩ := HL.out.byte o1 g1
      have HL1 : Hid (Ly w w1 (.slice a1 m1 c1) m1 (pre ++ [x.tag])) := hl1
      clear o1 g1 s1 hl1 HL HR2' q1 q2
      obtain ⟨q1, q2, _⟩ := HCL.out w1 HL1.out.bel
      have hX := HL1.out.calls (x.data.length : Int) (by omega) (by omega) (by omega)
      go_wp2_with fail
      refine hX.mono ?_
      rintro e w2 ⟨a2, m2, c2, rfl, hm2, hl2⟩
      obtain ⟨b2, hb2⟩ : ∃ l, pre ++ [x.tag] ++ enc (x.data.length : Int) = l := ⟨_, rfl⟩
      have HB2 : Hid (pre ++ [x.tag] ++ enc (x.data.length : Int) = b2) := hb2
      rw [hb2] at hl2
      have HL2 : Hid (Ly w w2 (.slice a2 m2 c2) m2 b2) := hl2
      clear hb2
      clear hX hl2 HL1 q1 q2
      obtain ⟨q1, q2, q3⟩ := HCL.out w2 HL2.out.bel
      have HLI : Hid (Lies .u8 w2 ad x.data) := q3
      have hwz2 : w.heap.size ≤ w2.heap.size := HL2.out.bel.size
      clear q3
      go_wp2_with (at_builtin; refine append_at _ rfl _ _ 25 rfl w.heap.size 5 i0 (.int .u8 0) 1 Tryd.underlying25 hi hz0 hz1 hz2 rfl _ _ _ rfl HL2.out.own .u8 ad x.data.length cd x.data rfl HNI.out rfl HLI.out (by unfold maxLen; omega) (by omega) hwz2 ?_)
      intro v3 w3 o3 g3 s3
      obtain ⟨a3, m3, c3, rfl, hm3, hl3⟩ := HL2.out.app rfl o3 g3
      have HL3 : Hid (Ly w w3 (.slice a3 m3 c3) m3 (bs ++ encXs ((xs.take (k + 1)).map Xr.ex))) := by
        show Ly _ _ _ _ _
        rw [HT.out, ← List.append_assoc, HPre.out]
        rw [← HB2.out] at hl3
        simpa [encX, Xr.ex] using hl3
      clear o3 g3 s3 hl3 HL2 q1 q2
      go_wp2
      go_roundw
      case rel => exact ⟨k + 1, a3, m3, c3, by omega, rfl, by go_num, by omega, HL3⟩
      case measure => simp [intOf]; omega
    · obtain rfl : k = n := by omega
      have hlt' : ¬ (k : Int) < (k : Int) := by omega
      have HEnd : Hid (P (.returned (.slice av mv cv)) wr) := by
        show P _ _
        rw [← HP.out]
        have h := HL.out
        rw [List.take_of_length_le (by rw [HN.out]; exact Nat.le_refl _)] at h
        exact ⟨av, mv, cv, rfl, by omega, h⟩
      clear HL
      go_wp2
      first | exact HEnd.out | (go_ret; exact HEnd.out)

theorem lay_sh3 (s : Sg) (hx tx : List Xr) (h1 : s.head = hx.map Xr.ex) (h2 : s.tail = tx.map Xr.ex) : layB 3 s = [s.typ] ++ enc s.org ++ enc s.num ++ [16 * (hx.length : Int) + (tx.length : Int)] ++ encXs (hx.map Xr.ex) ++ enc s.srv ++ enc s.off ++ enc (s.data.length : Int) ++ s.data ++ encXs (tx.map Xr.ex) := by
  simp [layB, conB, blkB, repB, jn, h1, h2]
theorem lay_sh7 (s : Sg) (hx tx : List Xr) (h1 : s.head = hx.map Xr.ex) (h2 : s.tail = tx.map Xr.ex) : layB 7 s = [s.typ] ++ enc s.org ++ enc s.num ++ [16 * (hx.length : Int) + (tx.length : Int)] ++ encXs (hx.map Xr.ex) ++ enc s.srv ++ enc s.off ++ enc (s.data.length : Int) ++ enc s.chk ++ enc s.rep ++ s.data ++ encXs (tx.map Xr.ex) := by
  simp [layB, conB, blkB, repB, jn, h1, h2]
theorem lay_sh9 (s : Sg) (hx tx : List Xr) (h1 : s.head = hx.map Xr.ex) (h2 : s.tail = tx.map Xr.ex) : layB 9 s = [s.typ] ++ enc s.org ++ enc s.num ++ [16 * (hx.length : Int) + (tx.length : Int)] ++ encXs (hx.map Xr.ex) ++ enc s.rep ++ enc s.chk ++ enc s.upp ++ enc s.low ++ enc (s.clm.length : Int) ++ clmB s.low s.clm ++ encXs (tx.map Xr.ex) := by
  simp [layB, conB, blkB, repB, jn, h1, h2]
theorem lay_sh17 (s : Sg) (hx tx : List Xr) (h1 : s.head = hx.map Xr.ex) (h2 : s.tail = tx.map Xr.ex) : layB 17 s = [s.typ] ++ enc s.org ++ enc s.num ++ [16 * (hx.length : Int) + (tx.length : Int)] ++ encXs (hx.map Xr.ex) ++ enc s.rep ++ encXs (tx.map Xr.ex) := by
  simp [layB, conB, blkB, repB, jn, h1, h2]
theorem lay_sh33 (s : Sg) (hx tx : List Xr) (h1 : s.head = hx.map Xr.ex) (h2 : s.tail = tx.map Xr.ex) : layB 33 s = [s.typ] ++ enc s.org ++ enc s.num ++ [16 * (hx.length : Int) + (tx.length : Int)] ++ encXs (hx.map Xr.ex) ++ [s.rsn] ++ encXs (tx.map Xr.ex) := by
  simp [layB, conB, blkB, repB, jn, h1, h2]
theorem lay_sh1 (s : Sg) (hx tx : List Xr) (h1 : s.head = hx.map Xr.ex) (h2 : s.tail = tx.map Xr.ex) : layB 1 s = [s.typ] ++ enc s.org ++ enc s.num ++ [16 * (hx.length : Int) + (tx.length : Int)] ++ encXs (hx.map Xr.ex) ++ encXs (tx.map Xr.ex) := by
  simp [layB, conB, blkB, repB, jn, h1, h2]

end Go.Proofs.YthbkabehjeidjabDoor
