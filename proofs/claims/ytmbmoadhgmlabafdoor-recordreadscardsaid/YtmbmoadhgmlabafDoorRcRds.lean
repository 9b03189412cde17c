import Derived.Test.YtmbmoadhgmlabafDoorRcOwn
import Derived.Test.YtmbmoadhgmlabafDoorRcR28
import Derived.Test.YtmbmoadhgmlabafDoorRcSby
import Derived.Test.YtmbmoadhgmlabafDoorCards
import Derived.Test.YtmbmoadhgmlabafDoorTie
import Derived.Test.YtmbmoadhgmlabafDoorGiven
import Derived.WalkKit
import Derived.ProofKit
import Derived.OpenShut
import Derived.ShutString
import Derived.Below
import Derived.JoinedCond
import Derived.Deep.DeepHandedRow
import Derived.Lib.LaidTab
namespace Go.Proofs.YtmbmoadhgmlabafDoor
open Go.RowKit
set_option linter.unusedVariables false
set_option linter.unusedSimpArgs false

theorem two_lit (W : World) (x y : Value) (t : TypeId) : ∀ j u, [x, y][j]? = some u → (W.alloc (.cells #[x, y] t)).cell? ((⟨W.heap.size, 0, none⟩ : Addr).add j) = some u := by
  intro j u hj
  match j, hj with
  | 0, hj => simp at hj; subst hj; simp [Addr.add]
  | 1, hj => simp at hj; subst hj; simp [Addr.add]
  | j + 2, hj => simp at hj

theorem two_cs {r s : Rc} {sa da sb db : Option Addr} {sc dc tc ec : Nat} : ∀ i, i < 2 → ∀ j u, (rcC (twoO ⟨r, sa, da, sc, dc⟩ ⟨s, sb, db, tc, ec⟩ i).r (twoO ⟨r, sa, da, sc, dc⟩ ⟨s, sb, db, tc, ec⟩ i).sv (twoO ⟨r, sa, da, sc, dc⟩ ⟨s, sb, db, tc, ec⟩ i).dv)[j]? = some u → (rcC r (.slice sa r.spans.length sc) (.slice da r.data.length dc) ++ rcC s (.slice sb s.spans.length tc) (.slice db s.data.length ec)).toList[i * 11 + j]? = some u := by
  intro i hi j u hj
  have : i = 0 ∨ i = 1 := by omega
  rcases this with rfl | rfl
  · have hj2 : j < 11 := (Array.getElem?_eq_some_iff.mp hj).1
    rw [Array.getElem?_toList, Array.getElem?_append_left (by simpa using hj2), show 0 * 11 + j = j by omega]; exact hj
  · rw [Array.getElem?_toList, Array.getElem?_append_right (by simp), show 1 * 11 + j - (rcC r (.slice sa r.spans.length sc) (.slice da r.data.length dc)).size = j by simp]; exact hj
/-- Owned of the two. -/
theorem owned_two {W : World} {base l1 h1 b1 l2 h2 b2 : Nat} {r s : Rc} {sa da sb db : Option Addr} {sc dc tc ec : Nat} (hr : RAt W l1 h1 b1 r sa da sc dc) (hs : RAt W l2 h2 b2 s sb db tc ec) (q1 : base ≤ l1) (q2 : h1 ≤ l2) (q3 : h2 ≤ W.heap.size) (q4 : l1 ≤ h1) (q5 : l2 ≤ h2) (mr : r.data.length ≤ 65536 ∧ r.spans.length ≤ 500) (ms : s.data.length ≤ 65536 ∧ s.spans.length ≤ 500) :
    Calls Tryd.prog 26 #[.slice (some ⟨W.heap.size, 0, none⟩) 2 2] (W.alloc (.cells (rcC r (.slice sa r.spans.length sc) (.slice da r.data.length dc) ++ rcC s (.slice sb s.spans.length tc) (.slice db s.data.length ec)) 41)) fun e w' => e = .returned (.bool true) ∧ Kps (fun g => (l1 ≤ g ∧ g < h1) ∨ (l2 ≤ g ∧ g < h2)) W w' := by
  have hb : Below W.heap.size W (W.alloc (.cells (rcC r (.slice sa r.spans.length sc) (.slice da r.data.length dc) ++ rcC s (.slice sb s.spans.length tc) (.slice db s.data.length ec)) 41)) := (Below.refl _ _).alloc (Nat.le_refl _) _
  have hl := World.ownsRow_lit (base := W.heap.size) (e := 41) (size := 11) W (rcC r (.slice sa r.spans.length sc) (.slice da r.data.length dc) ++ rcC s (.slice sb s.spans.length tc) (.slice db s.data.length ec)) 2 (Nat.le_refl _) (by unfold maxLen; omega) (by simp)
  refine (owned6_any _ _ base 2 2 _ _ _ _ (two_fam (base := base) (hr.below hb) (hs.below hb) hl q1 q2 q3 q4 q5) (by simp; omega) (by omega) (fun i hi => ?_) two_cs).mono ?_
  · have : i = 0 ∨ i = 1 := by omega
    rcases this with rfl | rfl
    · exact ⟨by have := mr.1; show r.data.length ≤ _; omega, by have := mr.2; show r.spans.length ≤ _; omega⟩
    · exact ⟨by have := ms.1; show s.data.length ≤ _; omega, by have := ms.2; show s.spans.length ≤ _; omega⟩
  · rintro e w' ⟨rfl, hk⟩
    have := hb.size
    have := hk.size
    exact ⟨rfl, hk.os, hk.tape, hk.output, by omega, fun g hg hS => (hk.block g (by omega) (fun h => by rcases h with h | h | h; exact hS (.inl h); exact hS (.inr h); omega)).trans (hb.block g hg)⟩

set_option maxRecDepth 100000 in
set_option maxHeartbeats 8000000 in
theorem reads6_walk (a : Option Addr) (zs : List Int) (len cap : Nat) (i to' : Int) (w : World) (hT : Tab6 w) (hb : Bytey zs) (hl : zs.length = len) (hlc : len ≤ cap) (hm : cap ≤ 140737488351232)
    (hc : Lies .u8 w a zs) (hn : a = none → len = 0 ∧ cap = 0) (hi : -9223372036854775808 ≤ i ∧ i ≤ 9223372036854775807) (ht : 0 ≤ to' ∧ to' ≤ 255) :
    Calls Tryd.prog 5 #[.slice a len cap, .int .i64 i, .int .u8 to'] w fun e w' => e = .returned (.bool true) ∧ Below w.heap.size w w' := by
  have HTB : Hid (∀ W, Below w.heap.size w W → Tab6 W) := fun W hW => hT.below hW (tab6_pos hT)
  have HLZ : Hid (∀ W, Below w.heap.size w W → Lies .u8 W a zs) := fun W hW => hc.below hW
  obtain ⟨i0, hinf, hz0, hz1, hz2⟩ := info_parts Tryd.info_u8
  have HBZ : Hid (Bytey zs) := hb
  have HLE : Hid (zs.length = len) := hl
  have HN : Hid (a = none → len = 0 ∧ cap = 0) := hn
  have HSM : Hid ((rdR zs).1.data.length ≤ 65536 ∧ (rdR zs).1.spans.length ≤ 500) := rd_small hb
  have HRF : Hid (∀ W, Below w.heap.size w W → Calls Tryd.prog 24 #[.slice a len cap] W (RdPost (rdR zs) W)) := fun W hW => read2_any a zs len cap W HBZ.out HLE.out hlc (by omega) (HLZ.out W hW)
  have HRP : Hid (∀ W b c, Below w.heap.size w W → len ≤ c → c ≤ 9223372036854775807 → Lies .u8 W b zs → Calls Tryd.prog 25 #[.slice b len c] W (RdPost (rdR zs) W)) := fun W b c hW h1 h2 h3 => rread_any b zs len c W (HTB.out W hW) HBZ.out HLE.out h1 h2 h3
  clear hT hc hb hl hn
  obtain ⟨hi0, hi1⟩ := hi
  obtain ⟨ht0, ht1⟩ := ht
  generalize rdR zs = P at *
  obtain ⟨r, ec⟩ := P
  simp only at HSM
  go_enter Tryd.func5, Tryd.ntmps5
  go_upto_region 3 with (first
    | (go_at_call 14; refine (awake6_any _ (HTB.out _ (Below.refl _ _))).mono ?_; rintro e w1 ⟨rfl, hb1⟩; have HB1 : Hid (Below w.heap.size w w1) := hb1; clear hb1)
    | (go_at_call 24; refine (HRF.out _ HB1.out).mono ?_; rintro e w2 ⟨sw, dw, cw, xw, rfl, hso, hdo, hne, hb2⟩; have HW3 := rat_read (P := (r, ec)) hso hdo hne))
  have hs1 := HB1.out.size
  have hs2 := hb2.size
  have hb3 : Below w2.heap.size w2 (w2.alloc (rcO r (.slice sw r.spans.length cw) (.slice dw r.data.length xw))) := (Below.refl _ _).alloc (Nat.le_refl _) _
  have hs3 : (w2.alloc (rcO r (.slice sw r.spans.length cw) (.slice dw r.data.length xw))).heap.size = w2.heap.size + 1 := by simp
  have HR3 : Hid (RAt (w2.alloc (rcO r (.slice sw r.spans.length cw) (.slice dw r.data.length xw))) w1.heap.size w2.heap.size w2.heap.size r sw dw cw xw) := HW3
  generalize w2.alloc (rcO r (.slice sw r.spans.length cw) (.slice dw r.data.length xw)) = w3 at *
  have HB3 : Hid (Below w.heap.size w w3) := HB1.out.trans ((hb2.mono hs1).trans (hb3.mono (by omega)))
  clear hso hdo hne hb2 hb3 HW3 HRF
  go_upto_region 5 with (at_builtin; refine append_at _ rfl _ _ 39 rfl w3.heap.size 5 i0 (.int .u8 0) 1 Tryd.underlying39 hinf hz0 hz1 hz2 rfl _ 0 [] rfl (World.ownsRow_nil _ _ _ _) .u8 _ _ _ zs rfl HN.out HLE.out (HLZ.out _ HB3.out) (by unfold maxLen; omega) (by omega) (Nat.le_refl _) ?_; intro v4 w4 ho4 hg4 hf4)
  rw [Nat.zero_add, List.nil_append] at ho4
  have hs4 := hg4.size
  have hb4 : Below w3.heap.size w3 w4 := ⟨hg4.os, hg4.tape, hg4.output, hg4.size, fun k hk => hg4.block k hk (fun e => by cases e)⟩
  have HO4 : Hid (∀ o, (w4.alloc o).ownsRow w3.heap.size 5 1 v4 len (zs.map (Value.int .u8))) := fun o => ho4.alloc o
  have HV4 : Hid (∀ k, v4.ownBlock = some k → w3.heap.size ≤ k) := fun k hk => (ho4.lt k hk).1
  have HB4 : Hid (∀ o, Below w3.heap.size w3 (w4.alloc o)) := fun o => hb4.alloc hs4 o
  clear ho4 hg4 hf4 hb4
  go_upto_region 6 with (at_builtin; refine wpList_append_own_at _ rfl _ _ 39 rfl w3.heap.size 5 i0 (.int .u8 0) 1 1 Tryd.underlying39 hinf hz0 hz1 hz2 rfl (by decide) _ _ _ rfl (HO4.out _) ⟨w4.heap.size, 0, none⟩ 2 2 [.int .u8 177, .int .u8 178] rfl rfl (two_lit _ _ _ _) (by intro u hu; simp at hu; rcases hu with rfl | rfl <;> rfl) (by unfold maxLen; omega) (by omega) (by simp; omega) ?_; intro v5 w5 ho5 hg5 _ _; have hb5 := (HB4.out _).grown hg5 (by simp; omega) (by intro k hk; exact HV4.out k hk))
  obtain ⟨go, co, rfl⟩ := C.own_some ho5 (by omega)
  have HO5 : Hid (w5.ownsRow w3.heap.size 5 1 (.slice (some ⟨go, 0, none⟩) (len + 2) co) (len + 2) ((zs ++ [177, 178]).map (Value.int .u8))) := by unfold Hid; rw [List.map_append]; exact ho5
  obtain ⟨hgo1, hgo2⟩ := ho5.lt go rfl
  have hco : len + 2 ≤ co ∧ co ≤ 9223372036854775807 := by
    obtain ⟨_, ⟨h, _⟩ | ⟨g', cap', cur, h, _, _, h1, h2, _⟩⟩ := ho5
    · cases h
    · simp only [Value.slice.injEq] at h
      obtain ⟨_, _, rfl⟩ := h
      unfold maxLen at h2
      omega
  have hs5 := hb5.size
  have HR5 : Hid (RAt w5 w1.heap.size w2.heap.size w2.heap.size r sw dw cw xw) := HR3.out.same (fun g hg _ => hb5.block g (by omega))
  have HB5 : Hid (Below w.heap.size w w5) := HB3.out.trans (hb5.mono (by omega))
  have HLI : Hid (Lies .u8 w5 (some ⟨go, 0, none⟩) zs) := (marks_lies HO5.out HLE.out).1
  obtain ⟨hco1, hco2⟩ := hco
  clear hb5 ho5 hg5 HO4 HV4 HB4 HR3 HB3
  go_upto_region 8 with (go_at_call 25; refine (HRP.out _ _ co HB5.out (by omega) (by omega) HLI.out).mono ?_; rintro e w6 ⟨sr, dr, cr, xr, rfl, hso, hdo, hne, hb6⟩; have HW7 := rat_read (P := (r, ec)) hso hdo hne)
  have hs6 := hb6.size
  have hb7 : Below w6.heap.size w6 (w6.alloc (rcO r (.slice sr r.spans.length cr) (.slice dr r.data.length xr))) := (Below.refl _ _).alloc (Nat.le_refl _) _
  have hs7 : (w6.alloc (rcO r (.slice sr r.spans.length cr) (.slice dr r.data.length xr))).heap.size = w6.heap.size + 1 := by simp
  have HA7 : Hid (RAt (w6.alloc (rcO r (.slice sr r.spans.length cr) (.slice dr r.data.length xr))) w5.heap.size w6.heap.size w6.heap.size r sr dr cr xr) := HW7
  generalize w6.alloc (rcO r (.slice sr r.spans.length cr) (.slice dr r.data.length xr)) = w7 at *
  have hb57 : Below w5.heap.size w5 w7 := hb6.trans (hb7.mono hs6)
  have HB7 : Hid (Below w.heap.size w w7) := HB5.out.trans (hb57.mono HB5.out.size)
  have HR7 : Hid (RAt w7 w1.heap.size w2.heap.size w2.heap.size r sw dw cw xw) := HR5.out.below hb57
  have HO7 : Hid (w7.ownsRow w3.heap.size 5 1 (.slice (some ⟨go, 0, none⟩) (len + 2) co) (len + 2) ((zs ++ [177, 178]).map (Value.int .u8))) := own_below6 HO5.out hb57
  have HLI7 : Hid (Lies .u8 w7 (some ⟨go, 0, none⟩) zs) := (marks_lies HO7.out HLE.out).1
  clear hso hdo hne hb6 hb7 HW7 hb57 HO5 HR5 HLI HB5
  go_upto_region 9 with (go_at_call 25; refine (HRP.out _ _ co HB7.out (by omega) (by omega) HLI7.out).mono ?_; rintro e w8 ⟨sq, dq, cq, xq, rfl, hso, hdo, hne, hb8⟩; have HW9 := rat_read (P := (r, ec)) hso hdo hne)
  have hs8 := hb8.size
  have hb9 : Below w8.heap.size w8 (w8.alloc (rcO r (.slice sq r.spans.length cq) (.slice dq r.data.length xq))) := (Below.refl _ _).alloc (Nat.le_refl _) _
  have hs9 : (w8.alloc (rcO r (.slice sq r.spans.length cq) (.slice dq r.data.length xq))).heap.size = w8.heap.size + 1 := by simp
  have HQ9 : Hid (RAt (w8.alloc (rcO r (.slice sq r.spans.length cq) (.slice dq r.data.length xq))) w7.heap.size w8.heap.size w8.heap.size r sq dq cq xq) := HW9
  generalize w8.alloc (rcO r (.slice sq r.spans.length cq) (.slice dq r.data.length xq)) = w9 at *
  have hb79 : Below w7.heap.size w7 w9 := hb8.trans (hb9.mono hs8)
  have HB9 : Hid (Below w.heap.size w w9) := HB7.out.trans (hb79.mono HB7.out.size)
  have HR9 : Hid (RAt w9 w1.heap.size w2.heap.size w2.heap.size r sw dw cw xw) := HR7.out.below hb79
  have HA9 : Hid (RAt w9 w5.heap.size w6.heap.size w6.heap.size r sr dr cr xr) := HA7.out.below hb79
  have HO9 : Hid (w9.ownsRow w3.heap.size 5 1 (.slice (some ⟨go, 0, none⟩) (len + 2) co) (len + 2) ((zs ++ [177, 178]).map (Value.int .u8))) := own_below6 HO7.out hb79
  clear hso hdo hne hb8 hb9 HW9 hb79 HO7 HR7 HA7 HLI7 HB7 HRP
  have HSD : Hid (r.data.length ≤ 65536) := HSM.out.1
  obtain ⟨a0, a1, a2, a3, a4, a5, a6, a7, a8, a9, a10⟩ := rc_cells HR9.out.box
  obtain ⟨b0, b1, b2, b3, b4, b5, b6, b7, b8, b9, b10⟩ := rc_cells HA9.out.box
  go_upto_region 10 with (go_at_call 21; refine (same6_eq r sr dr sw dw _ _ cr xr cw xw _ (HA9.out.rin HSD.out) (HR9.out.rin HSD.out)).mono ?_; rintro e w10 ⟨rfl, hb10⟩)
  clear a0 a1 a2 a3 a4 a5 a6 a7 a8 a9 a10 b0 b1 b2 b3 b4 b5 b6 b7 b8 b9 b10
  have hs10 := hb10.size
  have HB10 : Hid (Below w.heap.size w w10) := HB9.out.trans (hb10.mono HB9.out.size)
  have HR10 : Hid (RAt w10 w1.heap.size w2.heap.size w2.heap.size r sw dw cw xw) := HR9.out.below hb10
  have HA10 : Hid (RAt w10 w5.heap.size w6.heap.size w6.heap.size r sr dr cr xr) := HA9.out.below hb10
  have HQ10 : Hid (RAt w10 w7.heap.size w8.heap.size w8.heap.size r sq dq cq xq) := HQ9.out.below hb10
  have HO10 : Hid (w10.ownsRow w3.heap.size 5 1 (.slice (some ⟨go, 0, none⟩) (len + 2) co) (len + 2) ((zs ++ [177, 178]).map (Value.int .u8))) := own_below6 HO9.out hb10
  clear hb10 HB9 HR9 HA9 HQ9 HO9
  obtain ⟨a0, a1, a2, a3, a4, a5, a6, a7, a8, a9, a10⟩ := rc_cells HR10.out.box
  obtain ⟨b0, b1, b2, b3, b4, b5, b6, b7, b8, b9, b10⟩ := rc_cells HQ10.out.box
  go_upto_region 11 with (go_at_call 21; refine (same6_eq r sq dq sw dw _ _ cq xq cw xw _ (HQ10.out.rin HSD.out) (HR10.out.rin HSD.out)).mono ?_; rintro e w11 ⟨rfl, hb11⟩)
  clear a0 a1 a2 a3 a4 a5 a6 a7 a8 a9 a10 b0 b1 b2 b3 b4 b5 b6 b7 b8 b9 b10
  have hs11 := hb11.size
  have HB11 : Hid (Below w.heap.size w w11) := HB10.out.trans (hb11.mono HB10.out.size)
  have HO11 : Hid (w11.ownsRow w3.heap.size 5 1 (.slice (some ⟨go, 0, none⟩) (len + 2) co) (len + 2) ((zs ++ [177, 178]).map (Value.int .u8))) := own_below6 HO10.out hb11
  have HL11 : Hid (Lies .u8 w11 (some ⟨go, 0, none⟩) zs) := (marks_lies HO11.out HLE.out).1
  go_upto_region 12 with (go_at_call 20; refine (sameBytes_eq _ a zs len co cap _ HLE.out (by omega) HL11.out (HLZ.out _ HB11.out)).mono ?_; rintro e w12 ⟨rfl, hb12⟩)
  have hs12 := hb12.size
  have hb02 : Below w10.heap.size w10 w12 := hb11.trans (hb12.mono hs11)
  have HB12 : Hid (Below w.heap.size w w12) := HB11.out.trans (hb12.mono HB11.out.size)
  have HR12 : Hid (RAt w12 w1.heap.size w2.heap.size w2.heap.size r sw dw cw xw) := HR10.out.below hb02
  have HA12 : Hid (RAt w12 w5.heap.size w6.heap.size w6.heap.size r sr dr cr xr) := HA10.out.below hb02
  have HQ12 : Hid (RAt w12 w7.heap.size w8.heap.size w8.heap.size r sq dq cq xq) := HQ10.out.below hb02
  have HO12 : Hid (w12.ownsRow w3.heap.size 5 1 (.slice (some ⟨go, 0, none⟩) (len + 2) co) (len + 2) ((zs ++ [177, 178]).map (Value.int .u8))) := own_below6 HO11.out hb12
  clear hb11 hb12 hb02 HB10 HB11 HR10 HA10 HQ10 HO10 HO11 HL11
  obtain ⟨_, k1, k2⟩ := marks_lies HO12.out HLE.out
  go_upto_region 14 with fail
  by_cases h0 : 0 < len ∧ 0 ≤ i
  · obtain ⟨hl0, hi2⟩ := h0
    have hlp : (0 : Int) < len := by omega
    have h0' : ¬ (len : Int) = 0 := by omega
    obtain ⟨k, hk⟩ : ∃ k : Nat, i.tmod len = (k : Int) := ⟨(i.tmod len).toNat, by rw [Int.toNat_of_nonneg (Int.tmod_nonneg _ (by omega))]⟩
    have hkl : k < len := by have := Int.tmod_lt_of_pos i hlp; omega
    have hkm : Int.tmod i len = k := hk
    have hfr := HO12.out.frozenAt k
    have hex : ∃ y, zs[k]? = some y := ⟨_, List.getElem?_eq_getElem (by rw [HLE.out]; exact hkl)⟩
    obtain ⟨y, hy⟩ := hex
    have hce : w12.cell? ⟨go, k, none⟩ = some (.int .u8 y) := by
      rw [HO12.out.cellAt k (by omega), List.getElem?_map, List.getElem?_append_left (by rw [HLE.out]; exact hkl), hy]; rfl
    clear hy
    go_upto_region 16 with fail
    obtain ⟨ys, hys⟩ : ∃ ys, ys = zs.set k to' := ⟨_, rfl⟩
    have HYB : Hid (Bytey ys) := fun z hz => by
      rw [hys] at hz
      rcases List.mem_or_eq_of_mem_set hz with h | h
      · exact HBZ.out z h
      · subst h; exact ⟨ht0, ht1⟩
    have HYE : Hid (ys.length = len) := by unfold Hid; rw [hys, List.length_set]; exact HLE.out
    have hst : ∀ g, g ≠ go → (w12.setCell ⟨go, k, none⟩ (.int .u8 to')).heap[g]? = w12.heap[g]? := fun g hg => heap_setCell_other w12 ⟨go, k, none⟩ g _ hg
    have hsz : (w12.setCell ⟨go, k, none⟩ (.int .u8 to')).heap.size = w12.heap.size := by simp
    have HB13 : Hid (Below w.heap.size w (w12.setCell ⟨go, k, none⟩ (.int .u8 to'))) := HB12.out.setCell (p := ⟨go, k, none⟩) (by show w.heap.size ≤ go; omega) _
    have HR13 : Hid (RAt (w12.setCell ⟨go, k, none⟩ (.int .u8 to')) w1.heap.size w2.heap.size w2.heap.size r sw dw cw xw) := HR12.out.same (fun g hg _ => hst g (by omega))
    have HA13 : Hid (RAt (w12.setCell ⟨go, k, none⟩ (.int .u8 to')) w5.heap.size w6.heap.size w6.heap.size r sr dr cr xr) := HA12.out.same (fun g hg _ => hst g (by omega))
    have HQ13 : Hid (RAt (w12.setCell ⟨go, k, none⟩ (.int .u8 to')) w7.heap.size w8.heap.size w8.heap.size r sq dq cq xq) := HQ12.out.same (fun g hg _ => hst g (by omega))
    have HO13 : Hid ((w12.setCell ⟨go, k, none⟩ (.int .u8 to')).ownsRow w3.heap.size 5 1 (.slice (some ⟨go, 0, none⟩) (len + 2) co) (len + 2) ((ys ++ [177, 178]).map (Value.int .u8))) := by unfold Hid; rw [hys]; exact marks_set HO12.out (by rw [HLE.out]; exact hkl)
    generalize w12.setCell ⟨go, k, none⟩ (.int .u8 to') = w13 at *
    clear hys hst hce hfr k1 k2 hkm hk HB12 HR12 HA12 HQ12 HO12
    have hs13 := HB13.out.size
    obtain ⟨a0, a1, a2, a3, a4, a5, a6, a7, a8, a9, a10⟩ := rc_cells HR13.out.box
    obtain ⟨b0, b1, b2, b3, b4, b5, b6, b7, b8, b9, b10⟩ := rc_cells HA13.out.box
    go_upto_region 17 with (go_at_call 21; refine (same6_eq r sr dr sw dw _ _ cr xr cw xw _ (HA13.out.rin HSD.out) (HR13.out.rin HSD.out)).mono ?_; rintro e w14 ⟨rfl, hb14⟩)
    clear a0 a1 a2 a3 a4 a5 a6 a7 a8 a9 a10 b0 b1 b2 b3 b4 b5 b6 b7 b8 b9 b10
    have hs14 := hb14.size
    have HB14 : Hid (Below w.heap.size w w14) := HB13.out.trans (hb14.mono HB13.out.size)
    have HR14 : Hid (RAt w14 w1.heap.size w2.heap.size w2.heap.size r sw dw cw xw) := HR13.out.below hb14
    have HA14 : Hid (RAt w14 w5.heap.size w6.heap.size w6.heap.size r sr dr cr xr) := HA13.out.below hb14
    have HQ14 : Hid (RAt w14 w7.heap.size w8.heap.size w8.heap.size r sq dq cq xq) := HQ13.out.below hb14
    have HO14 : Hid (w14.ownsRow w3.heap.size 5 1 (.slice (some ⟨go, 0, none⟩) (len + 2) co) (len + 2) ((ys ++ [177, 178]).map (Value.int .u8))) := own_below6 HO13.out hb14
    have HL14 : Hid (Lies .u8 w14 (some ⟨go, 0, none⟩) ys) := (marks_lies HO14.out HYE.out).1
    clear hb14 HB13 HR13 HA13 HQ13 HO13
    go_upto_region 19 with (at_builtin; refine append_at _ rfl _ _ 39 rfl w14.heap.size 5 i0 (.int .u8 0) 1 Tryd.underlying39 hinf hz0 hz1 hz2 rfl _ 0 [] rfl (World.ownsRow_nil _ _ _ _) .u8 _ _ _ ys rfl (fun h => by cases h) HYE.out HL14.out (by unfold maxLen; omega) (by omega) (Nat.le_refl _) ?_; intro v15 w15 ho15 hg15 hf15)
    rw [Nat.zero_add, List.nil_append] at ho15
    have hs15 := hg15.size
    have hb15 : Below w14.heap.size w14 w15 := ⟨hg15.os, hg15.tape, hg15.output, hg15.size, fun k hk => hg15.block k hk (fun e => by cases e)⟩
    obtain ⟨ao, co2, rfl, hlo, _, hc1, hc2⟩ := row_sh2 ho15
    have HOO15 : Hid (w15.ownsRow w14.heap.size 5 1 (.slice ao len co2) len (ys.map (Value.int .u8))) := ho15
    have HLO15 : Hid (Lies .u8 w15 ao ys) := hlo
    have HB15 : Hid (Below w.heap.size w w15) := HB14.out.trans (hb15.mono HB14.out.size)
    have HR15 : Hid (RAt w15 w1.heap.size w2.heap.size w2.heap.size r sw dw cw xw) := HR14.out.below hb15
    have HA15 : Hid (RAt w15 w5.heap.size w6.heap.size w6.heap.size r sr dr cr xr) := HA14.out.below hb15
    have HQ15 : Hid (RAt w15 w7.heap.size w8.heap.size w8.heap.size r sq dq cq xq) := HQ14.out.below hb15
    have HO15 : Hid (w15.ownsRow w3.heap.size 5 1 (.slice (some ⟨go, 0, none⟩) (len + 2) co) (len + 2) ((ys ++ [177, 178]).map (Value.int .u8))) := own_below6 HO14.out hb15
    clear hlo ho15 hg15 hf15 hb15 HB14 HR14 HA14 HQ14 HO14 HL14
    have HSY : Hid ((rdR ys).1.data.length ≤ 65536 ∧ (rdR ys).1.spans.length ≤ 500) := rd_small HYB.out
    have HNF : Hid (∀ W b c, len ≤ c → c ≤ 9223372036854775807 → Lies .u8 W b ys → Calls Tryd.prog 24 #[.slice b len c] W (RdPost (rdR ys) W)) := fun W b c h1 h2 h3 => read2_any b ys len c W HYB.out HYE.out h1 h2 h3
    have HNP : Hid (∀ W b c, Below w.heap.size w W → len ≤ c → c ≤ 9223372036854775807 → Lies .u8 W b ys → Calls Tryd.prog 25 #[.slice b len c] W (RdPost (rdR ys) W)) := fun W b c hW h1 h2 h3 => rread_any b ys len c W (HTB.out W hW) HYB.out HYE.out h1 h2 h3
    generalize rdR ys = PY at *
    obtain ⟨s, es⟩ := PY
    simp only at HSY
    go_upto_region 20 with (go_at_call 24; refine (HNF.out _ ao co2 hc1 hc2 HLO15.out).mono ?_; rintro e w16 ⟨sn, dn, cn, xn, rfl, hso, hdo, hne, hb16⟩; have HW17 := rat_read (P := (s, es)) hso hdo hne)
    have hs16 := hb16.size
    have hb17 : Below w16.heap.size w16 (w16.alloc (rcO s (.slice sn s.spans.length cn) (.slice dn s.data.length xn))) := (Below.refl _ _).alloc (Nat.le_refl _) _
    have hs17 : (w16.alloc (rcO s (.slice sn s.spans.length cn) (.slice dn s.data.length xn))).heap.size = w16.heap.size + 1 := by simp
    have HN17 : Hid (RAt (w16.alloc (rcO s (.slice sn s.spans.length cn) (.slice dn s.data.length xn))) w15.heap.size w16.heap.size w16.heap.size s sn dn cn xn) := HW17
    generalize w16.alloc (rcO s (.slice sn s.spans.length cn) (.slice dn s.data.length xn)) = w17 at *
    have hb57 : Below w15.heap.size w15 w17 := hb16.trans (hb17.mono hs16)
    have HB17 : Hid (Below w.heap.size w w17) := HB15.out.trans (hb57.mono HB15.out.size)
    have HR17 : Hid (RAt w17 w1.heap.size w2.heap.size w2.heap.size r sw dw cw xw) := HR15.out.below hb57
    have HA17 : Hid (RAt w17 w5.heap.size w6.heap.size w6.heap.size r sr dr cr xr) := HA15.out.below hb57
    have HQ17 : Hid (RAt w17 w7.heap.size w8.heap.size w8.heap.size r sq dq cq xq) := HQ15.out.below hb57
    have HO17 : Hid (w17.ownsRow w3.heap.size 5 1 (.slice (some ⟨go, 0, none⟩) (len + 2) co) (len + 2) ((ys ++ [177, 178]).map (Value.int .u8))) := own_below6 HO15.out hb57
    have HOO17 : Hid (w17.ownsRow w14.heap.size 5 1 (.slice ao len co2) len (ys.map (Value.int .u8))) := own_below6 HOO15.out hb57
    have HOT : Hid (∀ k, (Value.slice ao len co2).ownBlock = some k → k < w15.heap.size) := fun k hk => (HOO15.out.lt k hk).2
    have HLI17 : Hid (Lies .u8 w17 (some ⟨go, 0, none⟩) ys) := (marks_lies HO17.out HYE.out).1
    clear hso hdo hne hb16 hb17 HW17 hb57 HB15 HR15 HA15 HQ15 HO15 HOO15 HLO15 HNF
    go_upto_region 21 with (go_at_call 25; refine (HNP.out _ _ co HB17.out (by omega) (by omega) HLI17.out).mono ?_; rintro e w18 ⟨ss, ds, cs, xs, rfl, hso, hdo, hne, hb18⟩; have HW19 := rat_read (P := (s, es)) hso hdo hne)
    have hs18 := hb18.size
    have hb19 : Below w18.heap.size w18 (w18.alloc (rcO s (.slice ss s.spans.length cs) (.slice ds s.data.length xs))) := (Below.refl _ _).alloc (Nat.le_refl _) _
    have hs19 : (w18.alloc (rcO s (.slice ss s.spans.length cs) (.slice ds s.data.length xs))).heap.size = w18.heap.size + 1 := by simp
    have HS19 : Hid (RAt (w18.alloc (rcO s (.slice ss s.spans.length cs) (.slice ds s.data.length xs))) w17.heap.size w18.heap.size w18.heap.size s ss ds cs xs) := HW19
    generalize w18.alloc (rcO s (.slice ss s.spans.length cs) (.slice ds s.data.length xs)) = w19 at *
    have hb79 : Below w17.heap.size w17 w19 := hb18.trans (hb19.mono hs18)
    have HB19 : Hid (Below w.heap.size w w19) := HB17.out.trans (hb79.mono HB17.out.size)
    have HR19 : Hid (RAt w19 w1.heap.size w2.heap.size w2.heap.size r sw dw cw xw) := HR17.out.below hb79
    have HA19 : Hid (RAt w19 w5.heap.size w6.heap.size w6.heap.size r sr dr cr xr) := HA17.out.below hb79
    have HQ19 : Hid (RAt w19 w7.heap.size w8.heap.size w8.heap.size r sq dq cq xq) := HQ17.out.below hb79
    have HN19 : Hid (RAt w19 w15.heap.size w16.heap.size w16.heap.size s sn dn cn xn) := HN17.out.below hb79
    have HO19 : Hid (w19.ownsRow w3.heap.size 5 1 (.slice (some ⟨go, 0, none⟩) (len + 2) co) (len + 2) ((ys ++ [177, 178]).map (Value.int .u8))) := own_below6 HO17.out hb79
    have HOO19 : Hid (w19.ownsRow w14.heap.size 5 1 (.slice ao len co2) len (ys.map (Value.int .u8))) := own_below6 HOO17.out hb79
    clear hso hdo hne hb18 hb19 HW19 hb79 HB17 HR17 HA17 HQ17 HN17 HO17 HOO17 HLI17 HNP
    have HYD : Hid (s.data.length ≤ 65536) := HSY.out.1
    obtain ⟨a0, a1, a2, a3, a4, a5, a6, a7, a8, a9, a10⟩ := rc_cells HN19.out.box
    obtain ⟨b0, b1, b2, b3, b4, b5, b6, b7, b8, b9, b10⟩ := rc_cells HS19.out.box
    go_upto_region 22 with (go_at_call 21; refine (same6_eq s ss ds sn dn _ _ cs xs cn xn _ (HS19.out.rin HYD.out) (HN19.out.rin HYD.out)).mono ?_; rintro e w20 ⟨rfl, hb20⟩)
    clear a0 a1 a2 a3 a4 a5 a6 a7 a8 a9 a10 b0 b1 b2 b3 b4 b5 b6 b7 b8 b9 b10
    have hs20 := hb20.size
    have HB20 : Hid (Below w.heap.size w w20) := HB19.out.trans (hb20.mono HB19.out.size)
    have HR20 : Hid (RAt w20 w1.heap.size w2.heap.size w2.heap.size r sw dw cw xw) := HR19.out.below hb20
    have HA20 : Hid (RAt w20 w5.heap.size w6.heap.size w6.heap.size r sr dr cr xr) := HA19.out.below hb20
    have HQ20 : Hid (RAt w20 w7.heap.size w8.heap.size w8.heap.size r sq dq cq xq) := HQ19.out.below hb20
    have HS20 : Hid (RAt w20 w17.heap.size w18.heap.size w18.heap.size s ss ds cs xs) := HS19.out.below hb20
    have HO20 : Hid (w20.ownsRow w3.heap.size 5 1 (.slice (some ⟨go, 0, none⟩) (len + 2) co) (len + 2) ((ys ++ [177, 178]).map (Value.int .u8))) := own_below6 HO19.out hb20
    have HOO20 : Hid (w20.ownsRow w14.heap.size 5 1 (.slice ao len co2) len (ys.map (Value.int .u8))) := own_below6 HOO19.out hb20
    clear hb20 HB19 HR19 HA19 HQ19 HN19 HS19 HO19 HOO19
    obtain ⟨a0, a1, a2, a3, a4, a5, a6, a7, a8, a9, a10⟩ := rc_cells HA20.out.box
    obtain ⟨b0, b1, b2, b3, b4, b5, b6, b7, b8, b9, b10⟩ := rc_cells HS20.out.box
    have HOW := owned_two (W := w20) HA20.out HS20.out (base := w5.heap.size) (Nat.le_refl _) (by omega) (by omega) (by omega) (by omega) HSM.out HSY.out
    go_upto_region 23 with (go_at_call 26; refine HOW.mono ?_; rintro e w22 ⟨rfl, hk22⟩)
    clear a0 a1 a2 a3 a4 a5 a6 a7 a8 a9 a10 b0 b1 b2 b3 b4 b5 b6 b7 b8 b9 b10
    have hs22 := hk22.size
    have HB22 : Hid (Below w.heap.size w w22) := HB20.out.trans ⟨hk22.os, hk22.tape, hk22.output, hk22.size, fun g hg => hk22.block g (by omega) (by omega)⟩
    have HR22 : Hid (RAt w22 w1.heap.size w2.heap.size w2.heap.size r sw dw cw xw) := HR20.out.same (fun g hg hl => hk22.block g hl (by omega))
    have HQ22 : Hid (RAt w22 w7.heap.size w8.heap.size w8.heap.size r sq dq cq xq) := HQ20.out.same (fun g hg hl => hk22.block g hl (by omega))
    have HO22 : Hid (w22.ownsRow w3.heap.size 5 1 (.slice (some ⟨go, 0, none⟩) (len + 2) co) (len + 2) ((ys ++ [177, 178]).map (Value.int .u8))) := own_same HO20.out (fun k hk => hk22.block k (HO20.out.lt k hk).2 (by have h : some go = some k := hk; simp at h; omega))
    have HOO22 : Hid (w22.ownsRow w14.heap.size 5 1 (.slice ao len co2) len (ys.map (Value.int .u8))) := own_same HOO20.out (fun k hk => hk22.block k (HOO20.out.lt k hk).2 (by have h1 := HOT.out k hk; have h2 := (HOO20.out.lt k hk).1; omega))
    clear hk22 HOW HB20 HR20 HA20 HQ20 HS20 HO20 HOO20
    obtain ⟨a0, a1, a2, a3, a4, a5, a6, a7, a8, a9, a10⟩ := rc_cells HR22.out.box
    obtain ⟨b0, b1, b2, b3, b4, b5, b6, b7, b8, b9, b10⟩ := rc_cells HQ22.out.box
    go_upto_region 24 with (go_at_call 21; refine (same6_eq r sq dq sw dw _ _ cq xq cw xw _ (HQ22.out.rin HSD.out) (HR22.out.rin HSD.out)).mono ?_; rintro e w23 ⟨rfl, hb23⟩)
    clear a0 a1 a2 a3 a4 a5 a6 a7 a8 a9 a10 b0 b1 b2 b3 b4 b5 b6 b7 b8 b9 b10
    have hs23 := hb23.size
    have HB23 : Hid (Below w.heap.size w w23) := HB22.out.trans (hb23.mono HB22.out.size)
    have HL23 : Hid (Lies .u8 w23 (some ⟨go, 0, none⟩) ys) := (marks_lies (own_below6 HO22.out hb23) HYE.out).1
    have HM23 : Hid (Lies .u8 w23 ao ys) := (own_lies (own_below6 HOO22.out hb23)).1
    clear hb23 HB22 HR22 HQ22 HO22 HOO22
    go_wp2_with (go_at_call 20; refine (sameBytes_eq _ ao ys len co co2 _ HYE.out (by omega) HL23.out HM23.out).mono ?_; rintro e w24 ⟨rfl, hb24⟩)
    go_ret
    exact ⟨rfl, HB23.out.trans (hb24.mono HB23.out.size)⟩
  · by_cases hl0 : len = 0
    · have hlz : (len : Int) < 1 := by omega
      clear hl0 h0
      go_upto_region 16 with fail
      obtain ⟨ys, hys⟩ : ∃ ys, ys = zs := ⟨_, rfl⟩
      have HYB : Hid (Bytey ys) := by unfold Hid; rw [hys]; exact HBZ.out
      have HYE : Hid (ys.length = len) := by unfold Hid; rw [hys]; exact HLE.out
      have HB13 : Hid (Below w.heap.size w w12) := HB12.out
      have HR13 : Hid (RAt w12 w1.heap.size w2.heap.size w2.heap.size r sw dw cw xw) := HR12.out
      have HA13 : Hid (RAt w12 w5.heap.size w6.heap.size w6.heap.size r sr dr cr xr) := HA12.out
      have HQ13 : Hid (RAt w12 w7.heap.size w8.heap.size w8.heap.size r sq dq cq xq) := HQ12.out
      have HO13 : Hid (w12.ownsRow w3.heap.size 5 1 (.slice (some ⟨go, 0, none⟩) (len + 2) co) (len + 2) ((ys ++ [177, 178]).map (Value.int .u8))) := by unfold Hid; rw [hys]; exact HO12.out
      clear hys k1 k2 HB12 HR12 HA12 HQ12 HO12
      clear hlz
      have hs13 := HB13.out.size
      obtain ⟨a0, a1, a2, a3, a4, a5, a6, a7, a8, a9, a10⟩ := rc_cells HR13.out.box
      obtain ⟨b0, b1, b2, b3, b4, b5, b6, b7, b8, b9, b10⟩ := rc_cells HA13.out.box
      go_upto_region 17 with (go_at_call 21; refine (same6_eq r sr dr sw dw _ _ cr xr cw xw _ (HA13.out.rin HSD.out) (HR13.out.rin HSD.out)).mono ?_; rintro e w14 ⟨rfl, hb14⟩)
      clear a0 a1 a2 a3 a4 a5 a6 a7 a8 a9 a10 b0 b1 b2 b3 b4 b5 b6 b7 b8 b9 b10
      have hs14 := hb14.size
      have HB14 : Hid (Below w.heap.size w w14) := HB13.out.trans (hb14.mono HB13.out.size)
      have HR14 : Hid (RAt w14 w1.heap.size w2.heap.size w2.heap.size r sw dw cw xw) := HR13.out.below hb14
      have HA14 : Hid (RAt w14 w5.heap.size w6.heap.size w6.heap.size r sr dr cr xr) := HA13.out.below hb14
      have HQ14 : Hid (RAt w14 w7.heap.size w8.heap.size w8.heap.size r sq dq cq xq) := HQ13.out.below hb14
      have HO14 : Hid (w14.ownsRow w3.heap.size 5 1 (.slice (some ⟨go, 0, none⟩) (len + 2) co) (len + 2) ((ys ++ [177, 178]).map (Value.int .u8))) := own_below6 HO13.out hb14
      have HL14 : Hid (Lies .u8 w14 (some ⟨go, 0, none⟩) ys) := (marks_lies HO14.out HYE.out).1
      clear hb14 HB13 HR13 HA13 HQ13 HO13
      go_upto_region 19 with (at_builtin; refine append_at _ rfl _ _ 39 rfl w14.heap.size 5 i0 (.int .u8 0) 1 Tryd.underlying39 hinf hz0 hz1 hz2 rfl _ 0 [] rfl (World.ownsRow_nil _ _ _ _) .u8 _ _ _ ys rfl (fun h => by cases h) HYE.out HL14.out (by unfold maxLen; omega) (by omega) (Nat.le_refl _) ?_; intro v15 w15 ho15 hg15 hf15)
      rw [Nat.zero_add, List.nil_append] at ho15
      have hs15 := hg15.size
      have hb15 : Below w14.heap.size w14 w15 := ⟨hg15.os, hg15.tape, hg15.output, hg15.size, fun k hk => hg15.block k hk (fun e => by cases e)⟩
      obtain ⟨ao, co2, rfl, hlo, _, hc1, hc2⟩ := row_sh2 ho15
      have HOO15 : Hid (w15.ownsRow w14.heap.size 5 1 (.slice ao len co2) len (ys.map (Value.int .u8))) := ho15
      have HLO15 : Hid (Lies .u8 w15 ao ys) := hlo
      have HB15 : Hid (Below w.heap.size w w15) := HB14.out.trans (hb15.mono HB14.out.size)
      have HR15 : Hid (RAt w15 w1.heap.size w2.heap.size w2.heap.size r sw dw cw xw) := HR14.out.below hb15
      have HA15 : Hid (RAt w15 w5.heap.size w6.heap.size w6.heap.size r sr dr cr xr) := HA14.out.below hb15
      have HQ15 : Hid (RAt w15 w7.heap.size w8.heap.size w8.heap.size r sq dq cq xq) := HQ14.out.below hb15
      have HO15 : Hid (w15.ownsRow w3.heap.size 5 1 (.slice (some ⟨go, 0, none⟩) (len + 2) co) (len + 2) ((ys ++ [177, 178]).map (Value.int .u8))) := own_below6 HO14.out hb15
      clear hlo ho15 hg15 hf15 hb15 HB14 HR14 HA14 HQ14 HO14 HL14
      have HSY : Hid ((rdR ys).1.data.length ≤ 65536 ∧ (rdR ys).1.spans.length ≤ 500) := rd_small HYB.out
      have HNF : Hid (∀ W b c, len ≤ c → c ≤ 9223372036854775807 → Lies .u8 W b ys → Calls Tryd.prog 24 #[.slice b len c] W (RdPost (rdR ys) W)) := fun W b c h1 h2 h3 => read2_any b ys len c W HYB.out HYE.out h1 h2 h3
      have HNP : Hid (∀ W b c, Below w.heap.size w W → len ≤ c → c ≤ 9223372036854775807 → Lies .u8 W b ys → Calls Tryd.prog 25 #[.slice b len c] W (RdPost (rdR ys) W)) := fun W b c hW h1 h2 h3 => rread_any b ys len c W (HTB.out W hW) HYB.out HYE.out h1 h2 h3
      generalize rdR ys = PY at *
      obtain ⟨s, es⟩ := PY
      simp only at HSY
      go_upto_region 20 with (go_at_call 24; refine (HNF.out _ ao co2 hc1 hc2 HLO15.out).mono ?_; rintro e w16 ⟨sn, dn, cn, xn, rfl, hso, hdo, hne, hb16⟩; have HW17 := rat_read (P := (s, es)) hso hdo hne)
      have hs16 := hb16.size
      have hb17 : Below w16.heap.size w16 (w16.alloc (rcO s (.slice sn s.spans.length cn) (.slice dn s.data.length xn))) := (Below.refl _ _).alloc (Nat.le_refl _) _
      have hs17 : (w16.alloc (rcO s (.slice sn s.spans.length cn) (.slice dn s.data.length xn))).heap.size = w16.heap.size + 1 := by simp
      have HN17 : Hid (RAt (w16.alloc (rcO s (.slice sn s.spans.length cn) (.slice dn s.data.length xn))) w15.heap.size w16.heap.size w16.heap.size s sn dn cn xn) := HW17
      generalize w16.alloc (rcO s (.slice sn s.spans.length cn) (.slice dn s.data.length xn)) = w17 at *
      have hb57 : Below w15.heap.size w15 w17 := hb16.trans (hb17.mono hs16)
      have HB17 : Hid (Below w.heap.size w w17) := HB15.out.trans (hb57.mono HB15.out.size)
      have HR17 : Hid (RAt w17 w1.heap.size w2.heap.size w2.heap.size r sw dw cw xw) := HR15.out.below hb57
      have HA17 : Hid (RAt w17 w5.heap.size w6.heap.size w6.heap.size r sr dr cr xr) := HA15.out.below hb57
      have HQ17 : Hid (RAt w17 w7.heap.size w8.heap.size w8.heap.size r sq dq cq xq) := HQ15.out.below hb57
      have HO17 : Hid (w17.ownsRow w3.heap.size 5 1 (.slice (some ⟨go, 0, none⟩) (len + 2) co) (len + 2) ((ys ++ [177, 178]).map (Value.int .u8))) := own_below6 HO15.out hb57
      have HOO17 : Hid (w17.ownsRow w14.heap.size 5 1 (.slice ao len co2) len (ys.map (Value.int .u8))) := own_below6 HOO15.out hb57
      have HOT : Hid (∀ k, (Value.slice ao len co2).ownBlock = some k → k < w15.heap.size) := fun k hk => (HOO15.out.lt k hk).2
      have HLI17 : Hid (Lies .u8 w17 (some ⟨go, 0, none⟩) ys) := (marks_lies HO17.out HYE.out).1
      clear hso hdo hne hb16 hb17 HW17 hb57 HB15 HR15 HA15 HQ15 HO15 HOO15 HLO15 HNF
      go_upto_region 21 with (go_at_call 25; refine (HNP.out _ _ co HB17.out (by omega) (by omega) HLI17.out).mono ?_; rintro e w18 ⟨ss, ds, cs, xs, rfl, hso, hdo, hne, hb18⟩; have HW19 := rat_read (P := (s, es)) hso hdo hne)
      have hs18 := hb18.size
      have hb19 : Below w18.heap.size w18 (w18.alloc (rcO s (.slice ss s.spans.length cs) (.slice ds s.data.length xs))) := (Below.refl _ _).alloc (Nat.le_refl _) _
      have hs19 : (w18.alloc (rcO s (.slice ss s.spans.length cs) (.slice ds s.data.length xs))).heap.size = w18.heap.size + 1 := by simp
      have HS19 : Hid (RAt (w18.alloc (rcO s (.slice ss s.spans.length cs) (.slice ds s.data.length xs))) w17.heap.size w18.heap.size w18.heap.size s ss ds cs xs) := HW19
      generalize w18.alloc (rcO s (.slice ss s.spans.length cs) (.slice ds s.data.length xs)) = w19 at *
      have hb79 : Below w17.heap.size w17 w19 := hb18.trans (hb19.mono hs18)
      have HB19 : Hid (Below w.heap.size w w19) := HB17.out.trans (hb79.mono HB17.out.size)
      have HR19 : Hid (RAt w19 w1.heap.size w2.heap.size w2.heap.size r sw dw cw xw) := HR17.out.below hb79
      have HA19 : Hid (RAt w19 w5.heap.size w6.heap.size w6.heap.size r sr dr cr xr) := HA17.out.below hb79
      have HQ19 : Hid (RAt w19 w7.heap.size w8.heap.size w8.heap.size r sq dq cq xq) := HQ17.out.below hb79
      have HN19 : Hid (RAt w19 w15.heap.size w16.heap.size w16.heap.size s sn dn cn xn) := HN17.out.below hb79
      have HO19 : Hid (w19.ownsRow w3.heap.size 5 1 (.slice (some ⟨go, 0, none⟩) (len + 2) co) (len + 2) ((ys ++ [177, 178]).map (Value.int .u8))) := own_below6 HO17.out hb79
      have HOO19 : Hid (w19.ownsRow w14.heap.size 5 1 (.slice ao len co2) len (ys.map (Value.int .u8))) := own_below6 HOO17.out hb79
      clear hso hdo hne hb18 hb19 HW19 hb79 HB17 HR17 HA17 HQ17 HN17 HO17 HOO17 HLI17 HNP
      have HYD : Hid (s.data.length ≤ 65536) := HSY.out.1
      obtain ⟨a0, a1, a2, a3, a4, a5, a6, a7, a8, a9, a10⟩ := rc_cells HN19.out.box
      obtain ⟨b0, b1, b2, b3, b4, b5, b6, b7, b8, b9, b10⟩ := rc_cells HS19.out.box
      go_upto_region 22 with (go_at_call 21; refine (same6_eq s ss ds sn dn _ _ cs xs cn xn _ (HS19.out.rin HYD.out) (HN19.out.rin HYD.out)).mono ?_; rintro e w20 ⟨rfl, hb20⟩)
      clear a0 a1 a2 a3 a4 a5 a6 a7 a8 a9 a10 b0 b1 b2 b3 b4 b5 b6 b7 b8 b9 b10
      have hs20 := hb20.size
      have HB20 : Hid (Below w.heap.size w w20) := HB19.out.trans (hb20.mono HB19.out.size)
      have HR20 : Hid (RAt w20 w1.heap.size w2.heap.size w2.heap.size r sw dw cw xw) := HR19.out.below hb20
      have HA20 : Hid (RAt w20 w5.heap.size w6.heap.size w6.heap.size r sr dr cr xr) := HA19.out.below hb20
      have HQ20 : Hid (RAt w20 w7.heap.size w8.heap.size w8.heap.size r sq dq cq xq) := HQ19.out.below hb20
      have HS20 : Hid (RAt w20 w17.heap.size w18.heap.size w18.heap.size s ss ds cs xs) := HS19.out.below hb20
      have HO20 : Hid (w20.ownsRow w3.heap.size 5 1 (.slice (some ⟨go, 0, none⟩) (len + 2) co) (len + 2) ((ys ++ [177, 178]).map (Value.int .u8))) := own_below6 HO19.out hb20
      have HOO20 : Hid (w20.ownsRow w14.heap.size 5 1 (.slice ao len co2) len (ys.map (Value.int .u8))) := own_below6 HOO19.out hb20
      clear hb20 HB19 HR19 HA19 HQ19 HN19 HS19 HO19 HOO19
      obtain ⟨a0, a1, a2, a3, a4, a5, a6, a7, a8, a9, a10⟩ := rc_cells HA20.out.box
      obtain ⟨b0, b1, b2, b3, b4, b5, b6, b7, b8, b9, b10⟩ := rc_cells HS20.out.box
      have HOW := owned_two (W := w20) HA20.out HS20.out (base := w5.heap.size) (Nat.le_refl _) (by omega) (by omega) (by omega) (by omega) HSM.out HSY.out
      go_upto_region 23 with (go_at_call 26; refine HOW.mono ?_; rintro e w22 ⟨rfl, hk22⟩)
      clear a0 a1 a2 a3 a4 a5 a6 a7 a8 a9 a10 b0 b1 b2 b3 b4 b5 b6 b7 b8 b9 b10
      have hs22 := hk22.size
      have HB22 : Hid (Below w.heap.size w w22) := HB20.out.trans ⟨hk22.os, hk22.tape, hk22.output, hk22.size, fun g hg => hk22.block g (by omega) (by omega)⟩
      have HR22 : Hid (RAt w22 w1.heap.size w2.heap.size w2.heap.size r sw dw cw xw) := HR20.out.same (fun g hg hl => hk22.block g hl (by omega))
      have HQ22 : Hid (RAt w22 w7.heap.size w8.heap.size w8.heap.size r sq dq cq xq) := HQ20.out.same (fun g hg hl => hk22.block g hl (by omega))
      have HO22 : Hid (w22.ownsRow w3.heap.size 5 1 (.slice (some ⟨go, 0, none⟩) (len + 2) co) (len + 2) ((ys ++ [177, 178]).map (Value.int .u8))) := own_same HO20.out (fun k hk => hk22.block k (HO20.out.lt k hk).2 (by have h : some go = some k := hk; simp at h; omega))
      have HOO22 : Hid (w22.ownsRow w14.heap.size 5 1 (.slice ao len co2) len (ys.map (Value.int .u8))) := own_same HOO20.out (fun k hk => hk22.block k (HOO20.out.lt k hk).2 (by have h1 := HOT.out k hk; have h2 := (HOO20.out.lt k hk).1; omega))
      clear hk22 HOW HB20 HR20 HA20 HQ20 HS20 HO20 HOO20
      obtain ⟨a0, a1, a2, a3, a4, a5, a6, a7, a8, a9, a10⟩ := rc_cells HR22.out.box
      obtain ⟨b0, b1, b2, b3, b4, b5, b6, b7, b8, b9, b10⟩ := rc_cells HQ22.out.box
      go_upto_region 24 with (go_at_call 21; refine (same6_eq r sq dq sw dw _ _ cq xq cw xw _ (HQ22.out.rin HSD.out) (HR22.out.rin HSD.out)).mono ?_; rintro e w23 ⟨rfl, hb23⟩)
      clear a0 a1 a2 a3 a4 a5 a6 a7 a8 a9 a10 b0 b1 b2 b3 b4 b5 b6 b7 b8 b9 b10
      have hs23 := hb23.size
      have HB23 : Hid (Below w.heap.size w w23) := HB22.out.trans (hb23.mono HB22.out.size)
      have HL23 : Hid (Lies .u8 w23 (some ⟨go, 0, none⟩) ys) := (marks_lies (own_below6 HO22.out hb23) HYE.out).1
      have HM23 : Hid (Lies .u8 w23 ao ys) := (own_lies (own_below6 HOO22.out hb23)).1
      clear hb23 HB22 HR22 HQ22 HO22 HOO22
      go_wp2_with (go_at_call 20; refine (sameBytes_eq _ ao ys len co co2 _ HYE.out (by omega) HL23.out HM23.out).mono ?_; rintro e w24 ⟨rfl, hb24⟩)
      go_ret
      exact ⟨rfl, HB23.out.trans (hb24.mono HB23.out.size)⟩
    · have hlp : (0 : Int) < len := by omega
      have hneg : i < 0 := by omega
      clear h0
      go_upto_region 16 with fail
      obtain ⟨ys, hys⟩ : ∃ ys, ys = zs := ⟨_, rfl⟩
      have HYB : Hid (Bytey ys) := by unfold Hid; rw [hys]; exact HBZ.out
      have HYE : Hid (ys.length = len) := by unfold Hid; rw [hys]; exact HLE.out
      have HB13 : Hid (Below w.heap.size w w12) := HB12.out
      have HR13 : Hid (RAt w12 w1.heap.size w2.heap.size w2.heap.size r sw dw cw xw) := HR12.out
      have HA13 : Hid (RAt w12 w5.heap.size w6.heap.size w6.heap.size r sr dr cr xr) := HA12.out
      have HQ13 : Hid (RAt w12 w7.heap.size w8.heap.size w8.heap.size r sq dq cq xq) := HQ12.out
      have HO13 : Hid (w12.ownsRow w3.heap.size 5 1 (.slice (some ⟨go, 0, none⟩) (len + 2) co) (len + 2) ((ys ++ [177, 178]).map (Value.int .u8))) := by unfold Hid; rw [hys]; exact HO12.out
      clear hys k1 k2 HB12 HR12 HA12 HQ12 HO12
      clear hneg hl0
      have hs13 := HB13.out.size
      obtain ⟨a0, a1, a2, a3, a4, a5, a6, a7, a8, a9, a10⟩ := rc_cells HR13.out.box
      obtain ⟨b0, b1, b2, b3, b4, b5, b6, b7, b8, b9, b10⟩ := rc_cells HA13.out.box
      go_upto_region 17 with (go_at_call 21; refine (same6_eq r sr dr sw dw _ _ cr xr cw xw _ (HA13.out.rin HSD.out) (HR13.out.rin HSD.out)).mono ?_; rintro e w14 ⟨rfl, hb14⟩)
      clear a0 a1 a2 a3 a4 a5 a6 a7 a8 a9 a10 b0 b1 b2 b3 b4 b5 b6 b7 b8 b9 b10
      have hs14 := hb14.size
      have HB14 : Hid (Below w.heap.size w w14) := HB13.out.trans (hb14.mono HB13.out.size)
      have HR14 : Hid (RAt w14 w1.heap.size w2.heap.size w2.heap.size r sw dw cw xw) := HR13.out.below hb14
      have HA14 : Hid (RAt w14 w5.heap.size w6.heap.size w6.heap.size r sr dr cr xr) := HA13.out.below hb14
      have HQ14 : Hid (RAt w14 w7.heap.size w8.heap.size w8.heap.size r sq dq cq xq) := HQ13.out.below hb14
      have HO14 : Hid (w14.ownsRow w3.heap.size 5 1 (.slice (some ⟨go, 0, none⟩) (len + 2) co) (len + 2) ((ys ++ [177, 178]).map (Value.int .u8))) := own_below6 HO13.out hb14
      have HL14 : Hid (Lies .u8 w14 (some ⟨go, 0, none⟩) ys) := (marks_lies HO14.out HYE.out).1
      clear hb14 HB13 HR13 HA13 HQ13 HO13
      go_upto_region 19 with (at_builtin; refine append_at _ rfl _ _ 39 rfl w14.heap.size 5 i0 (.int .u8 0) 1 Tryd.underlying39 hinf hz0 hz1 hz2 rfl _ 0 [] rfl (World.ownsRow_nil _ _ _ _) .u8 _ _ _ ys rfl (fun h => by cases h) HYE.out HL14.out (by unfold maxLen; omega) (by omega) (Nat.le_refl _) ?_; intro v15 w15 ho15 hg15 hf15)
      rw [Nat.zero_add, List.nil_append] at ho15
      have hs15 := hg15.size
      have hb15 : Below w14.heap.size w14 w15 := ⟨hg15.os, hg15.tape, hg15.output, hg15.size, fun k hk => hg15.block k hk (fun e => by cases e)⟩
      obtain ⟨ao, co2, rfl, hlo, _, hc1, hc2⟩ := row_sh2 ho15
      have HOO15 : Hid (w15.ownsRow w14.heap.size 5 1 (.slice ao len co2) len (ys.map (Value.int .u8))) := ho15
      have HLO15 : Hid (Lies .u8 w15 ao ys) := hlo
      have HB15 : Hid (Below w.heap.size w w15) := HB14.out.trans (hb15.mono HB14.out.size)
      have HR15 : Hid (RAt w15 w1.heap.size w2.heap.size w2.heap.size r sw dw cw xw) := HR14.out.below hb15
      have HA15 : Hid (RAt w15 w5.heap.size w6.heap.size w6.heap.size r sr dr cr xr) := HA14.out.below hb15
      have HQ15 : Hid (RAt w15 w7.heap.size w8.heap.size w8.heap.size r sq dq cq xq) := HQ14.out.below hb15
      have HO15 : Hid (w15.ownsRow w3.heap.size 5 1 (.slice (some ⟨go, 0, none⟩) (len + 2) co) (len + 2) ((ys ++ [177, 178]).map (Value.int .u8))) := own_below6 HO14.out hb15
      clear hlo ho15 hg15 hf15 hb15 HB14 HR14 HA14 HQ14 HO14 HL14
      have HSY : Hid ((rdR ys).1.data.length ≤ 65536 ∧ (rdR ys).1.spans.length ≤ 500) := rd_small HYB.out
      have HNF : Hid (∀ W b c, len ≤ c → c ≤ 9223372036854775807 → Lies .u8 W b ys → Calls Tryd.prog 24 #[.slice b len c] W (RdPost (rdR ys) W)) := fun W b c h1 h2 h3 => read2_any b ys len c W HYB.out HYE.out h1 h2 h3
      have HNP : Hid (∀ W b c, Below w.heap.size w W → len ≤ c → c ≤ 9223372036854775807 → Lies .u8 W b ys → Calls Tryd.prog 25 #[.slice b len c] W (RdPost (rdR ys) W)) := fun W b c hW h1 h2 h3 => rread_any b ys len c W (HTB.out W hW) HYB.out HYE.out h1 h2 h3
      generalize rdR ys = PY at *
      obtain ⟨s, es⟩ := PY
      simp only at HSY
      go_upto_region 20 with (go_at_call 24; refine (HNF.out _ ao co2 hc1 hc2 HLO15.out).mono ?_; rintro e w16 ⟨sn, dn, cn, xn, rfl, hso, hdo, hne, hb16⟩; have HW17 := rat_read (P := (s, es)) hso hdo hne)
      have hs16 := hb16.size
      have hb17 : Below w16.heap.size w16 (w16.alloc (rcO s (.slice sn s.spans.length cn) (.slice dn s.data.length xn))) := (Below.refl _ _).alloc (Nat.le_refl _) _
      have hs17 : (w16.alloc (rcO s (.slice sn s.spans.length cn) (.slice dn s.data.length xn))).heap.size = w16.heap.size + 1 := by simp
      have HN17 : Hid (RAt (w16.alloc (rcO s (.slice sn s.spans.length cn) (.slice dn s.data.length xn))) w15.heap.size w16.heap.size w16.heap.size s sn dn cn xn) := HW17
      generalize w16.alloc (rcO s (.slice sn s.spans.length cn) (.slice dn s.data.length xn)) = w17 at *
      have hb57 : Below w15.heap.size w15 w17 := hb16.trans (hb17.mono hs16)
      have HB17 : Hid (Below w.heap.size w w17) := HB15.out.trans (hb57.mono HB15.out.size)
      have HR17 : Hid (RAt w17 w1.heap.size w2.heap.size w2.heap.size r sw dw cw xw) := HR15.out.below hb57
      have HA17 : Hid (RAt w17 w5.heap.size w6.heap.size w6.heap.size r sr dr cr xr) := HA15.out.below hb57
      have HQ17 : Hid (RAt w17 w7.heap.size w8.heap.size w8.heap.size r sq dq cq xq) := HQ15.out.below hb57
      have HO17 : Hid (w17.ownsRow w3.heap.size 5 1 (.slice (some ⟨go, 0, none⟩) (len + 2) co) (len + 2) ((ys ++ [177, 178]).map (Value.int .u8))) := own_below6 HO15.out hb57
      have HOO17 : Hid (w17.ownsRow w14.heap.size 5 1 (.slice ao len co2) len (ys.map (Value.int .u8))) := own_below6 HOO15.out hb57
      have HOT : Hid (∀ k, (Value.slice ao len co2).ownBlock = some k → k < w15.heap.size) := fun k hk => (HOO15.out.lt k hk).2
      have HLI17 : Hid (Lies .u8 w17 (some ⟨go, 0, none⟩) ys) := (marks_lies HO17.out HYE.out).1
      clear hso hdo hne hb16 hb17 HW17 hb57 HB15 HR15 HA15 HQ15 HO15 HOO15 HLO15 HNF
      go_upto_region 21 with (go_at_call 25; refine (HNP.out _ _ co HB17.out (by omega) (by omega) HLI17.out).mono ?_; rintro e w18 ⟨ss, ds, cs, xs, rfl, hso, hdo, hne, hb18⟩; have HW19 := rat_read (P := (s, es)) hso hdo hne)
      have hs18 := hb18.size
      have hb19 : Below w18.heap.size w18 (w18.alloc (rcO s (.slice ss s.spans.length cs) (.slice ds s.data.length xs))) := (Below.refl _ _).alloc (Nat.le_refl _) _
      have hs19 : (w18.alloc (rcO s (.slice ss s.spans.length cs) (.slice ds s.data.length xs))).heap.size = w18.heap.size + 1 := by simp
      have HS19 : Hid (RAt (w18.alloc (rcO s (.slice ss s.spans.length cs) (.slice ds s.data.length xs))) w17.heap.size w18.heap.size w18.heap.size s ss ds cs xs) := HW19
      generalize w18.alloc (rcO s (.slice ss s.spans.length cs) (.slice ds s.data.length xs)) = w19 at *
      have hb79 : Below w17.heap.size w17 w19 := hb18.trans (hb19.mono hs18)
      have HB19 : Hid (Below w.heap.size w w19) := HB17.out.trans (hb79.mono HB17.out.size)
      have HR19 : Hid (RAt w19 w1.heap.size w2.heap.size w2.heap.size r sw dw cw xw) := HR17.out.below hb79
      have HA19 : Hid (RAt w19 w5.heap.size w6.heap.size w6.heap.size r sr dr cr xr) := HA17.out.below hb79
      have HQ19 : Hid (RAt w19 w7.heap.size w8.heap.size w8.heap.size r sq dq cq xq) := HQ17.out.below hb79
      have HN19 : Hid (RAt w19 w15.heap.size w16.heap.size w16.heap.size s sn dn cn xn) := HN17.out.below hb79
      have HO19 : Hid (w19.ownsRow w3.heap.size 5 1 (.slice (some ⟨go, 0, none⟩) (len + 2) co) (len + 2) ((ys ++ [177, 178]).map (Value.int .u8))) := own_below6 HO17.out hb79
      have HOO19 : Hid (w19.ownsRow w14.heap.size 5 1 (.slice ao len co2) len (ys.map (Value.int .u8))) := own_below6 HOO17.out hb79
      clear hso hdo hne hb18 hb19 HW19 hb79 HB17 HR17 HA17 HQ17 HN17 HO17 HOO17 HLI17 HNP
      have HYD : Hid (s.data.length ≤ 65536) := HSY.out.1
      obtain ⟨a0, a1, a2, a3, a4, a5, a6, a7, a8, a9, a10⟩ := rc_cells HN19.out.box
      obtain ⟨b0, b1, b2, b3, b4, b5, b6, b7, b8, b9, b10⟩ := rc_cells HS19.out.box
      go_upto_region 22 with (go_at_call 21; refine (same6_eq s ss ds sn dn _ _ cs xs cn xn _ (HS19.out.rin HYD.out) (HN19.out.rin HYD.out)).mono ?_; rintro e w20 ⟨rfl, hb20⟩)
      clear a0 a1 a2 a3 a4 a5 a6 a7 a8 a9 a10 b0 b1 b2 b3 b4 b5 b6 b7 b8 b9 b10
      have hs20 := hb20.size
      have HB20 : Hid (Below w.heap.size w w20) := HB19.out.trans (hb20.mono HB19.out.size)
      have HR20 : Hid (RAt w20 w1.heap.size w2.heap.size w2.heap.size r sw dw cw xw) := HR19.out.below hb20
      have HA20 : Hid (RAt w20 w5.heap.size w6.heap.size w6.heap.size r sr dr cr xr) := HA19.out.below hb20
      have HQ20 : Hid (RAt w20 w7.heap.size w8.heap.size w8.heap.size r sq dq cq xq) := HQ19.out.below hb20
      have HS20 : Hid (RAt w20 w17.heap.size w18.heap.size w18.heap.size s ss ds cs xs) := HS19.out.below hb20
      have HO20 : Hid (w20.ownsRow w3.heap.size 5 1 (.slice (some ⟨go, 0, none⟩) (len + 2) co) (len + 2) ((ys ++ [177, 178]).map (Value.int .u8))) := own_below6 HO19.out hb20
      have HOO20 : Hid (w20.ownsRow w14.heap.size 5 1 (.slice ao len co2) len (ys.map (Value.int .u8))) := own_below6 HOO19.out hb20
      clear hb20 HB19 HR19 HA19 HQ19 HN19 HS19 HO19 HOO19
      obtain ⟨a0, a1, a2, a3, a4, a5, a6, a7, a8, a9, a10⟩ := rc_cells HA20.out.box
      obtain ⟨b0, b1, b2, b3, b4, b5, b6, b7, b8, b9, b10⟩ := rc_cells HS20.out.box
      have HOW := owned_two (W := w20) HA20.out HS20.out (base := w5.heap.size) (Nat.le_refl _) (by omega) (by omega) (by omega) (by omega) HSM.out HSY.out
      go_upto_region 23 with (go_at_call 26; refine HOW.mono ?_; rintro e w22 ⟨rfl, hk22⟩)
      clear a0 a1 a2 a3 a4 a5 a6 a7 a8 a9 a10 b0 b1 b2 b3 b4 b5 b6 b7 b8 b9 b10
      have hs22 := hk22.size
      have HB22 : Hid (Below w.heap.size w w22) := HB20.out.trans ⟨hk22.os, hk22.tape, hk22.output, hk22.size, fun g hg => hk22.block g (by omega) (by omega)⟩
      have HR22 : Hid (RAt w22 w1.heap.size w2.heap.size w2.heap.size r sw dw cw xw) := HR20.out.same (fun g hg hl => hk22.block g hl (by omega))
      have HQ22 : Hid (RAt w22 w7.heap.size w8.heap.size w8.heap.size r sq dq cq xq) := HQ20.out.same (fun g hg hl => hk22.block g hl (by omega))
      have HO22 : Hid (w22.ownsRow w3.heap.size 5 1 (.slice (some ⟨go, 0, none⟩) (len + 2) co) (len + 2) ((ys ++ [177, 178]).map (Value.int .u8))) := own_same HO20.out (fun k hk => hk22.block k (HO20.out.lt k hk).2 (by have h : some go = some k := hk; simp at h; omega))
      have HOO22 : Hid (w22.ownsRow w14.heap.size 5 1 (.slice ao len co2) len (ys.map (Value.int .u8))) := own_same HOO20.out (fun k hk => hk22.block k (HOO20.out.lt k hk).2 (by have h1 := HOT.out k hk; have h2 := (HOO20.out.lt k hk).1; omega))
      clear hk22 HOW HB20 HR20 HA20 HQ20 HS20 HO20 HOO20
      obtain ⟨a0, a1, a2, a3, a4, a5, a6, a7, a8, a9, a10⟩ := rc_cells HR22.out.box
      obtain ⟨b0, b1, b2, b3, b4, b5, b6, b7, b8, b9, b10⟩ := rc_cells HQ22.out.box
      go_upto_region 24 with (go_at_call 21; refine (same6_eq r sq dq sw dw _ _ cq xq cw xw _ (HQ22.out.rin HSD.out) (HR22.out.rin HSD.out)).mono ?_; rintro e w23 ⟨rfl, hb23⟩)
      clear a0 a1 a2 a3 a4 a5 a6 a7 a8 a9 a10 b0 b1 b2 b3 b4 b5 b6 b7 b8 b9 b10
      have hs23 := hb23.size
      have HB23 : Hid (Below w.heap.size w w23) := HB22.out.trans (hb23.mono HB22.out.size)
      have HL23 : Hid (Lies .u8 w23 (some ⟨go, 0, none⟩) ys) := (marks_lies (own_below6 HO22.out hb23) HYE.out).1
      have HM23 : Hid (Lies .u8 w23 ao ys) := (own_lies (own_below6 HOO22.out hb23)).1
      clear hb23 HB22 HR22 HQ22 HO22 HOO22
      go_wp2_with (go_at_call 20; refine (sameBytes_eq _ ao ys len co co2 _ HYE.out (by omega) HL23.out HM23.out).mono ?_; rintro e w24 ⟨rfl, hb24⟩)
      go_ret
      exact ⟨rfl, HB23.out.trans (hb24.mono HB23.out.size)⟩
end Go.Proofs.YtmbmoadhgmlabafDoor

namespace Go.Proofs.YtmbmoadhgmlabafDoor.recordReads
open Go.ChangeShapes Go.WideShapes Go.ChangeAt Go.RowKit
set_option linter.unusedVariables false

theorem gTab : Tryd.prog.globalNamed "lantern/record.kinds" = some 0 := by kernel_rfl
theorem gTabType : (Tryd.prog.globals[0]?).map (·.type) = some 118 := by kernel_rfl
theorem cellsTab : Tryd.prog.cellsOf 118 = 13 := by kernel_rfl
theorem cellsParts : Tryd.prog.cellsOf 98 = 1 := by kernel_rfl

/-- What the row's list gives: the table's cells hold its numbers. -/
theorem table {W : World} (h : laidMetH Tryd.prog Rows.recordReadsRow.laid W) : Tab6 W := by
  have h1 : Lib.TabIs Tryd.prog W "lantern/record.kinds" .u16 kiT :=
    Lib.tabIs_of_head (rest := []) gTab gTabType Tryd.underlying118 Tryd.underlying98 cellsParts cellsTab h
  exact fun i hi => h1.cell gTab i hi

/-- A world for the witness: the table holds what its initialiser lays. -/
def laidWorld (P : Program) (os : Os) : World :=
  { World.holding P os ⟨#[], #[], []⟩ with heap := (World.holding P os ⟨#[], #[], []⟩).heap.modify 0 fun
      | .cells _ t frozen => .cells #[.int .u16 0, .int .u16 65, .int .u16 64, .int .u16 623, .int .u16 131, .int .u16 3, .int .u16 635, .int .u16 3, .int .u16 131, .int .u16 3, .int .u16 3, .int .u16 320, .int .u16 107] t frozen
      | o => o }
theorem laid_met (os : Os) : laidMet Tryd.prog Rows.recordReadsRow.laid ((laidWorld Tryd.prog os).forCall (fun _ _ => 0) ⟨#[], #[.slice none 0 0, .int .i64 0, .int .u8 0], []⟩).memory :=
  laidMet_of_run' 8 (by kernel_rfl) (by kernel_rfl)
theorem reads (os : Os) {H : Type} (enc : TypeId × Value → H) : ∃ places, DataW.whole enc Tryd.prog ((laidWorld Tryd.prog os).forCall (fun _ _ => 0) ⟨#[], #[.slice none 0 0, .int .i64 0, .int .u8 0], []⟩).memory Tryd.f5.params.toList Rows.recordReadsSpec.vars false (#[.slice none 0 0, .int .i64 0, .int .u8 0] : Array Value).toList 8 = some ([.nil, .lit (.int .i64 0), .lit (.int .u8 0)], [], places) :=
  ⟨[], by kernel_rfl⟩

set_option maxRecDepth 100000 in
theorem lifted (os : Os) (started : os.Started) (H : Type) (enc : TypeId × Value → H) (F : Stop.Interp) :
    ReturnsInHanded {} Tryd.checked os 5 .any ((OpenSpec.ofChange Rows.recordReadsSpec).preRow enc Tryd.prog Tryd.f5 Rows.recordReadsRow.domain false Rows.recordReadsRow.laid) (((OpenSpec.ofChange Rows.recordReadsSpec).at F).post enc Tryd.prog Tryd.f5 false true false false) := by
  obtain ⟨places, hx⟩ := reads os enc
  refine returnsInHanded_of_row (C := Tryd.checked) (s := OpenSpec.ofChange Rows.recordReadsSpec) own started (by kernel_rfl) Tryd.func5
    (witness_row_at (enc := enc) (C := Tryd.checked) false (laidWorld Tryd.prog os) #[.slice none 0 0, .int .i64 0, .int .u8 0] rfl (by kernel_rfl) (by kernel_rfl) (by kernel_rfl)
      (OpenSpec.preRow_of_cond 8 hx (by kernel_rfl) (fun k hk => by cases hk) (by kernel_rfl) (laid_met os))) ?_
  intro W base args ds gs before hval0 hW _ hk0 hsz0 hL _ _
  have hsz : (DataW.weightsEach Tryd.prog (Tryd.f5.params.toList ++ (OpenSpec.ofChange Rows.recordReadsSpec).bare.plain.varTypes Tryd.prog) (ds ++ gs)).all (· ≤ reachBytes) = true := hsz0
  have hval : ∀ (j : Nat) t v, Tryd.f5.params[j]? = some t → args[j]? = some v → Value.okWide Tryd.prog W .any base t v := hval0
  have hW' := hW
  obtain ⟨p, q, hA0, hV, rfl, hfz, hnd⟩ := hW
  have hA : DataW.TrodAll enc Tryd.prog W 0 (fun _ => true) true Tryd.f5.params.toList args.toList ds p := hA0
  rw [Tryd.params5] at hA hval hsz
  obtain ⟨v0, vs0, d0, ds0, p0, q0, hargs, rfl, rfl, h0, r0⟩ := trodAll_cons hA
  obtain ⟨v1, vs1, d1, ds1, p1, q1, rfl, rfl, rfl, h1, r1⟩ := trodAll_cons r0
  obtain ⟨v2, vs2, d2, ds2, p2, q2, rfl, rfl, rfl, h2, r2⟩ := trodAll_cons r1
  obtain ⟨rfl, rfl, rfl⟩ := trodAll_nil r2
  obtain rfl : args = #[v0, v1, v2] := by cases args; simp_all
  obtain ⟨rfl, rfl⟩ := trodVars_none hV
  have lt0 : ∀ x ∈ p0, x.block < W.heap.size := by obtain ⟨m, hm⟩ := h0; exact DataW.trod_lt m _ _ _ hm
  obtain ⟨a0, len0, cap0, rfl⟩ := okWide_slice Tryd.underlying39 (hval 0 39 v0 rfl rfl)
  obtain ⟨z0, l0, c0, b0, e0, n0⟩ := given_ints Tryd.underlying39 Tryd.underlying5 (by kernel_rfl) h0
  obtain ⟨n1, rfl, rfl, rfl, w1⟩ := open_int Tryd.underlying3 (hval 1 3 v1 rfl rfl) h1
  obtain ⟨n2, rfl, rfl, rfl, w2⟩ := open_int Tryd.underlying5 (hval 2 5 v2 rfl rfl) h2
  have m0 := reach_bytes hsz (j := 0) rfl rfl l0 e0
  have bn1 := bounds_i64 w1
  have bn2 := bounds_u8 w2
  clear hA0 hval0
  refine (reads6_walk a0 z0 len0 cap0 n1 n2 W (table hL) (bytey_of b0) l0 m0.1 (by omega) c0 n0 (by omega) (by omega)).mono fun e W' ⟨he, bel⟩ => ?_
  subst he
  exact ⟨_, rfl, _, _, _, [], _, [], hW', trodAll_mk1 (shut_bool Tryd.underlying4 _), (trodAll_cons_mk (Below.trod laidOut (by kernel_rfl) (of_decide_eq_true (by kernel_rfl)) h0 bel lt0) (trodAll_cons_mk (shut_int Tryd.underlying3 w1) (trodAll_cons_mk (shut_int Tryd.underlying5 w2) trodAll_mk0))), rfl, bel.frame _, fun h => by cases h⟩

theorem plain (f : FuncId) (fn : Func) (hf : Tryd.pinned.checked.prog.funcNamed "lantern/lanternlaw06.RecordReads" = some f) (hfn : Tryd.pinned.checked.prog.funcs[f]? = some fn) :
    false = Tryd.pinned.checked.prog.looks [] ∧ ∀ (j : Nat) t, fn.params[j]? = some t → Tryd.pinned.checked.prog.wantsStandIn t = false := by
  obtain rfl : f = 5 := Option.some.inj ((show Tryd.prog.funcNamed "lantern/lanternlaw06.RecordReads" = some 5 by kernel_rfl).symm.trans hf) |>.symm
  obtain rfl : fn = Tryd.f5 := (Option.some.inj (Tryd.func5.symm.trans hfn)).symm
  refine ⟨by kernel_rfl, fun j t ht => ?_⟩
  rw [Tryd.params5] at ht
  have hm : t = 39 ∨ t = 3 ∨ t = 5 := by simpa using Array.mem_of_getElem? ht
  rcases hm with rfl | rfl | rfl
  · exact (show Tryd.prog.wantsStandIn 39 = false by kernel_rfl)
  · exact (show Tryd.prog.wantsStandIn 3 = false by kernel_rfl)
  · exact (show Tryd.prog.wantsStandIn 5 = false by kernel_rfl)

end Go.Proofs.YtmbmoadhgmlabafDoor.recordReads

namespace Go.Proofs.YtmbmoadhgmlabafDoor

theorem recordReads_said : Rows.RecordReadsSaid :=
  OpenClaim.holds_of_cond 5 Tryd.f5 rfl rfl rfl rfl rfl rfl rfl ⟨rfl, rfl, rfl, rfl, rfl⟩ rfl rfl rfl rfl rfl (by kernel_rfl) Tryd.func5 (by kernel_rfl)
    (of_decide_eq_true (by kernel_rfl)) (by unfold Func.isWrapper; first | (rw [if_pos (by decide +kernel)]; kernel_rfl) | (rw [if_neg (by decide +kernel)]; exact ⟨rfl, rfl⟩))
    (fun os started H enc _ F => by rw [OpenClaim.pre_eq_preRow]; exact recordReads.lifted os started H enc F)

theorem recordReads_card : Rows.RecordReadsCardSaid :=
  Claim7.holds_tied_plain_at .later [] _ _ _ _ recordReads_said (fun _ h => by cases h) (by kernel_rfl) (fun _ h => by cases h) recordReads_row_tie rfl ⟨rfl, rfl⟩ (by kernel_rfl) rfl recordReads.plain (by kernel_rfl)
#print axioms recordReads_card

end Go.Proofs.YtmbmoadhgmlabafDoor
