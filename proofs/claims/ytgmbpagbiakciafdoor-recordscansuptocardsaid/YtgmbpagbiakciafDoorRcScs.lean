import Derived.Test.YtgmbpagbiakciafDoorRcSc2
import Derived.Test.YtgmbpagbiakciafDoorRcFst
import Derived.Test.YtgmbpagbiakciafDoorRcSby
import Derived.Test.YtgmbpagbiakciafDoorRows
import Derived.Test.YtgmbpagbiakciafDoorRead
import Derived.ProofKit
import Derived.OpenShut
import Derived.ShutString
import Derived.ChangeOld
import Derived.SizedLaws
import Derived.Test.YtgmbpagbiakciafDoorCards
import Derived.Test.YtgmbpagbiakciafDoorTie
import Derived.WalkKit
import Derived.Below
import Derived.JoinedCond
import Derived.Deep.DeepHandedRow
import Derived.Lib.LaidTab
namespace Go.Proofs.YtgmbpagbiakciafDoor
open Go.RowKit
set_option linter.unusedVariables false
set_option linter.unusedSimpArgs false

theorem two_lit6 (W : World) (x y : Value) (t : TypeId) : ∀ j u, [x, y][j]? = some u → (W.alloc (.cells #[x, y] t)).cell? ((⟨W.heap.size, 0, none⟩ : Addr).add j) = some u := by
  intro j u hj
  match j, hj with
  | 0, hj => simp at hj; subst hj; simp [Addr.add]
  | 1, hj => simp at hj; subst hj; simp [Addr.add]
  | j + 2, hj => simp at hj

set_option maxRecDepth 100000 in
set_option maxHeartbeats 8000000 in
theorem scans_any (a : Option Addr) (zs : List Int) (len cap : Nat) (w : World) (hT : Tab6 w) (hb : Bytey zs) (hl : zs.length = len) (hlc : len ≤ cap) (hcp : cap ≤ 9223372036854775807) (hm : len ≤ 1099511627776)
    (hc : Lies .u8 w a zs) (hn : a = none → len = 0 ∧ cap = 0) :
    Calls Tryd.prog 30 #[.slice a len cap] w fun e w' => e = .returned (.bool true) ∧ Below w.heap.size w w' := by
  have HTB : Hid (∀ W, Below w.heap.size w W → Tab6 W) := fun W hW => hT.below hW (tab6_pos hT)
  have HLZ : Hid (∀ W, Below w.heap.size w W → Lies .u8 W a zs) := fun W hW => hc.below hW
  obtain ⟨i0, hinf, hz0, hz1, hz2⟩ := info_parts Tryd.info_u8
  obtain ⟨i1, hinf1, hy0, hy1, hy2⟩ := info_parts Tryd.info_rec
  have HBZ : Hid (Bytey zs) := hb
  have HLE : Hid (zs.length = len) := hl
  have HN : Hid (a = none → len = 0 ∧ cap = 0) := hn
  have HRF : Hid (Calls Tryd.prog 58 #[.slice a len cap] w (ScPost (scR zs) w)) := scan2_any a zs len cap w hb hl hlc hcp hm hc
  have HRP : Hid (∀ W g c, Below w.heap.size w W → len ≤ c → c ≤ 9223372036854775807 → Lies .u8 W (some ⟨g, 0, none⟩) zs → Calls Tryd.prog 59 #[.slice (some ⟨g, 0, none⟩) len c] W (ScPost (scR zs) W)) := fun W g c hW h1 h2 h3 => scan_any _ zs len c W (HTB.out W hW) HBZ.out HLE.out h1 h2 hm h3 (.inr ⟨g, 0, rfl⟩)
  obtain ⟨L, N, hq⟩ : ∃ L N, scR zs = (L, N) := ⟨_, _, rfl⟩
  rw [hq] at HRF HRP
  have hL8 : L.length ≤ 1099511627776 := by
    have := scR_small zs hb
    rw [hq] at this
    simp only at this
    omega
  clear hT hc hb hl hn hq
  generalize hR : L.length = R at *
  have HR : Hid (L.length = R) := hR
  have hRi : (R : Int) ≤ 1099511627776 := by omega
  clear hR
  go_enter Tryd.func30, Tryd.ntmps30
  go_upto_region 3 with (go_at_call 58; refine HRF.out.mono ?_; intro e w1 hp1; obtain ⟨aw, cw, rfl, hr1, hb1⟩ := sc_rh hp1; clear hp1)
  have hs1 := hb1.size
  have HR1 : Hid (Rh w1 w.heap.size w1.heap.size aw cw L) := hr1
  have HB1 : Hid (Below w.heap.size w w1) := hb1
  clear hr1 hb1 HRF
  rw [HR.out]
  go_upto_region 4 with (at_builtin; refine append_at _ rfl _ _ 39 rfl w1.heap.size 5 i0 (.int .u8 0) 1 Tryd.underlying39 hinf hz0 hz1 hz2 rfl _ 0 [] rfl (World.ownsRow_nil _ _ _ _) .u8 _ _ _ zs rfl HN.out HLE.out (HLZ.out _ HB1.out) (by unfold maxLen; omega) (by omega) (Nat.le_refl _) ?_; intro v4 w4 ho4 hg4 hf4)
  rw [Nat.zero_add, List.nil_append] at ho4
  have hs4 := hg4.size
  have hb4 : Below w1.heap.size w1 w4 := ⟨hg4.os, hg4.tape, hg4.output, hg4.size, fun k hk => hg4.block k hk (fun e => by cases e)⟩
  have HO4 : Hid (∀ o, (w4.alloc o).ownsRow w1.heap.size 5 1 v4 len (zs.map (Value.int .u8))) := fun o => ho4.alloc o
  have HV4 : Hid (∀ k, v4.ownBlock = some k → w1.heap.size ≤ k) := fun k hk => (ho4.lt k hk).1
  have HB4 : Hid (∀ o, Below w1.heap.size w1 (w4.alloc o)) := fun o => hb4.alloc hs4 o
  clear ho4 hg4 hf4 hb4
  go_upto_region 5 with (at_builtin; refine wpList_append_own_at _ rfl _ _ 39 rfl w1.heap.size 5 i0 (.int .u8 0) 1 1 Tryd.underlying39 hinf hz0 hz1 hz2 rfl (by decide) _ _ _ rfl (HO4.out _) ⟨w4.heap.size, 0, none⟩ 2 2 [.int .u8 177, .int .u8 178] rfl rfl (two_lit6 _ _ _ _) (by intro u hu; simp at hu; rcases hu with rfl | rfl <;> rfl) (by unfold maxLen; omega) (by omega) (by simp; omega) ?_; intro v5 w5 ho5 hg5 _ _; have hb5 := (HB4.out _).grown hg5 (by simp; omega) (by intro k hk; exact HV4.out k hk))
  obtain ⟨go, co, rfl⟩ := C.own_some ho5 (by omega)
  have HO5 : Hid (w5.ownsRow w1.heap.size 5 1 (.slice (some ⟨go, 0, none⟩) (len + 2) co) (len + 2) ((zs ++ [177, 178]).map (Value.int .u8))) := by unfold Hid; rw [List.map_append]; exact ho5
  obtain ⟨hgo1, hgo2⟩ := ho5.lt go rfl
  have hco : len + 2 ≤ co ∧ co ≤ 9223372036854775807 := by
    obtain ⟨_, ⟨h, _⟩ | ⟨g', cap', cur, h, _, _, h1, h2, _⟩⟩ := ho5
    · cases h
    · simp only [Value.slice.injEq] at h
      obtain ⟨_, _, rfl⟩ := h
      unfold maxLen at h2
      omega
  have hs5 := hb5.size
  have HR5 : Hid (Rh w5 w.heap.size w1.heap.size aw cw L) := HR1.out.same (fun g _ hg _ => hb5.block g hg)
  have HB5 : Hid (Below w.heap.size w w5) := HB1.out.trans (hb5.mono (by omega))
  have HLI : Hid (Lies .u8 w5 (some ⟨go, 0, none⟩) zs) := (marks_lies HO5.out HLE.out).1
  obtain ⟨hco1, hco2⟩ := hco
  clear hb5 ho5 hg5 HO4 HV4 HB4 HR1 HB1
  go_upto_region 6 with (go_at_call 59; refine (HRP.out _ go co HB5.out (by omega) (by omega) HLI.out).mono ?_; intro e w6 hp6; obtain ⟨al, cl, rfl, hr6, hb6⟩ := sc_rh hp6; clear hp6)
  have hs6 := hb6.size
  have HL6 : Hid (Rh w6 w5.heap.size w6.heap.size al cl L) := hr6
  have HR6 : Hid (Rh w6 w.heap.size w1.heap.size aw cw L) := HR5.out.below hb6
  have HB6 : Hid (Below w.heap.size w w6) := HB5.out.trans (hb6.mono HB5.out.size)
  have HO6 : Hid (w6.ownsRow w1.heap.size 5 1 (.slice (some ⟨go, 0, none⟩) (len + 2) co) (len + 2) ((zs ++ [177, 178]).map (Value.int .u8))) := own_below6 HO5.out hb6
  have HLI6 : Hid (Lies .u8 w6 (some ⟨go, 0, none⟩) zs) := (marks_lies HO6.out HLE.out).1
  clear hr6 hb6 HO5 HR5 HB5 HLI
  rw [HR.out]
  go_upto_region 7 with (go_at_call 59; refine (HRP.out _ go co HB6.out (by omega) (by omega) HLI6.out).mono ?_; intro e w7 hp7; obtain ⟨ak, ck, rfl, hr7, hb7⟩ := sc_rh hp7; clear hp7)
  have hs7 := hb7.size
  have HK7 : Hid (Rh w7 w6.heap.size w7.heap.size ak ck L) := hr7
  have HL7 : Hid (Rh w7 w5.heap.size w6.heap.size al cl L) := HL6.out.below hb7
  have HR7 : Hid (Rh w7 w.heap.size w1.heap.size aw cw L) := HR6.out.below hb7
  have HB7 : Hid (Below w.heap.size w w7) := HB6.out.trans (hb7.mono HB6.out.size)
  have HO7 : Hid (w7.ownsRow w1.heap.size 5 1 (.slice (some ⟨go, 0, none⟩) (len + 2) co) (len + 2) ((zs ++ [177, 178]).map (Value.int .u8))) := own_below6 HO6.out hb7
  clear hr7 hb7 HO6 HR6 HL6 HB6 HLI6 HRP
  rw [HR.out]
  go_upto_region 8 with (go_at_call 29; refine (sameAll_eq L al aw R cl cw _ HR.out (by omega) HL7.out.lin HR7.out.lin).mono ?_; rintro e w8 ⟨rfl, hb8⟩)
  go_upto_region 9 with (go_at_call 29; refine (sameAll_eq L ak aw R ck cw _ HR.out (by omega) (HK7.out.below hb8).lin (HR7.out.below hb8).lin).mono ?_; rintro e w9 ⟨rfl, hb9⟩)
  have hb79 : Below w7.heap.size w7 w9 := hb8.trans (hb9.mono hb8.size)
  have HL9 : Hid (Lies .u8 w9 (some ⟨go, 0, none⟩) zs) := (marks_lies (own_below6 HO7.out hb79) HLE.out).1
  have HZ9 : Hid (Lies .u8 w9 a zs) := HLZ.out _ (HB7.out.trans (hb79.mono HB7.out.size))
  clear hb8 hb9
  go_upto_region 10 with (go_at_call 20; refine (sameBytes_eq _ a zs len co cap _ HLE.out (by omega) HL9.out HZ9.out).mono ?_; rintro e w10 ⟨rfl, hb10⟩)
  have hbt : Below w7.heap.size w7 w10 := hb79.trans (hb10.mono hb79.size)
  have hs10 := hbt.size
  have HK10 : Hid (Rh w10 w6.heap.size w7.heap.size ak ck L) := HK7.out.below hbt
  have HL10 : Hid (Rh w10 w5.heap.size w6.heap.size al cl L) := HL7.out.below hbt
  have HR10 : Hid (Rh w10 w.heap.size w1.heap.size aw cw L) := HR7.out.below hbt
  have HB10 : Hid (Below w.heap.size w w10) := HB7.out.trans (hbt.mono HB7.out.size)
  have HO10 : Hid (w10.ownsRow w1.heap.size 5 1 (.slice (some ⟨go, 0, none⟩) (len + 2) co) (len + 2) ((zs ++ [177, 178]).map (Value.int .u8))) := own_below6 HO7.out hbt
  obtain ⟨_, m0, m1⟩ := marks_lies HO10.out HLE.out
  clear hb79 hb10 hbt HK7 HL7 HR7 HB7 HO7 HL9 HZ9 HLZ
  go_upto_region 12 with fail
  clear m0 m1
  have hzl : (zs ++ ([177, 178] : List Int)).length = len + 2 := by have := HLE.out; simp; omega
  have HD10 : Hid (∃ ys : List Int, ys.length = len + 2 ∧ DOwn w10 w1.heap.size (.slice (some ⟨go, 0, none⟩) (len + 2) co) ys) := ⟨zs ++ [177, 178], hzl, by unfold DOwn; rw [hzl]; exact HO10.out⟩
  clear hzl
  clear HO10
  go_wp2
  go_loopw [13] (fun i wr => ∃ (k : Nat) (ys : List Int), k ≤ len + 2 ∧ i = .int .i64 k ∧ w10.grownBy wr (some go) ∧ ys.length = len + 2 ∧ DOwn wr w1.heap.size (.slice (some ⟨go, 0, none⟩) (len + 2) co) ys) (fun i _ => len + 2 - (intOf i).toNat)
  case atStart => obtain ⟨ys, h1, h2⟩ := HD10.out; exact ⟨0, ys, Nat.zero_le _, rfl, World.grownBy.refl _ _, h1, h2⟩
  case round =>
    obtain ⟨k, ys, hk, rfl, hg, hyl, hd⟩ := hrel
    by_cases hlt : k < len + 2
    · have hlt' : (k : Int) < (len : Int) + 2 := by omega
      obtain ⟨y, hy⟩ : ∃ y, ys[k]? = some y := ⟨_, List.getElem?_eq_getElem (by omega)⟩
      obtain ⟨c1, f1⟩ := hd.cells (k := k) (x := y) hy
      have HN1 : Hid (∃ ys', w10.grownBy (wr.setCell ⟨go, k, none⟩ (.int .u8 201)) (some go) ∧ ys'.length = len + 2 ∧ DOwn (wr.setCell ⟨go, k, none⟩ (.int .u8 201)) w1.heap.size (.slice (some ⟨go, 0, none⟩) (len + 2) co) ys') := ⟨ys.set k 201, C.grown_trans hg (grown_set _ _ _ _), by rw [List.length_set]; exact hyl, hd.put k 201⟩
      clear hg hd hyl hy
      go_wp2
      go_roundw
      case rel => obtain ⟨ys', q1, q2, q3⟩ := HN1.out; exact ⟨k + 1, ys', by omega, by go_num, q1, q2, q3⟩
      case measure => simp [intOf]; omega
    · have hlt' : (len : Int) + 2 ≤ (k : Int) := by omega
      obtain ⟨w11, h11⟩ : ∃ x, x = wr := ⟨_, rfl⟩
      subst h11
      have hs11 := hg.size
      have HK11 : Hid (Rh w11 w6.heap.size w7.heap.size ak ck L) := HK10.out.same (fun g h1 h2 h3 => hg.block g h3 (by simp; omega))
      have HL11 : Hid (Rh w11 w5.heap.size w6.heap.size al cl L) := HL10.out.same (fun g h1 h2 h3 => hg.block g h3 (by simp; omega))
      have HR11 : Hid (Rh w11 w.heap.size w1.heap.size aw cw L) := HR10.out.same (fun g h1 h2 h3 => hg.block g h3 (by simp; omega))
      have HB11 : Hid (Below w.heap.size w w11) := HB10.out.grown hg HB10.out.size (by simp; omega)
      clear hg hyl hd HK10 HL10 HR10 HB10 HD10
      go_upto_region 17 with (go_at_call 29; refine (sameAll_eq L al aw R cl cw _ HR.out (by omega) HL11.out.lin HR11.out.lin).mono ?_; rintro e w12 ⟨rfl, hb12⟩)
      have hs12 := hb12.size
      have HK12 : Hid (Rh w12 w6.heap.size w7.heap.size ak ck L) := HK11.out.below hb12
      have HL12 : Hid (Rh w12 w5.heap.size w6.heap.size al cl L) := HL11.out.below hb12
      have HR12 : Hid (Rh w12 w.heap.size w1.heap.size aw cw L) := HR11.out.below hb12
      have HB12 : Hid (Below w.heap.size w w12) := HB11.out.trans (hb12.mono HB11.out.size)
      have HOW := HL12.out.owned (by omega) (by have := HR.out; omega)
      have HLB : Hid (∀ k, (Value.slice al L.length cl).ownBlock = some k → w5.heap.size ≤ k ∧ k < w6.heap.size) := fun k hk => by obtain ⟨cs, h1, h2⟩ := HL12.out.row; exact ⟨(h1.lt k hk).1, h2 k hk⟩
      rw [HR.out] at HOW HLB
      clear hb12 HK11 HL11 HR11 HB11
      go_upto_region 18 with (go_at_call 26; refine HOW.mono ?_; rintro e w13 ⟨rfl, hk13, cs13, hc13⟩)
      have hs13 := hk13.size
      have HK13 : Hid (Rh w13 w6.heap.size w7.heap.size ak ck L) := HK12.out.same (fun g h1 h2 h3 => hk13.block g h3 (by omega))
      have HR13 : Hid (Rh w13 w.heap.size w1.heap.size aw cw L) := HR12.out.same (fun g h1 h2 h3 => hk13.block g h3 (by omega))
      have HB13 : Hid (Below w.heap.size w w13) := ⟨hk13.os.trans HB12.out.os, hk13.tape.trans HB12.out.tape, hk13.output.trans HB12.out.output, by have := HB12.out.size; omega, fun g hg => (hk13.block g (by have := HB12.out.size; omega) (by omega)).trans (HB12.out.block g hg)⟩
      have HC13 : Hid (w13.ownsRow w5.heap.size 41 11 (.slice al R cl) R cs13) := hc13
      clear hk13 hc13 HOW HK12 HL12 HR12 HB12
      go_upto_region 19 with (go_at_call 29; refine (sameAll_eq L ak aw R ck cw _ HR.out (by omega) HK13.out.lin HR13.out.lin).mono ?_; rintro e w14 ⟨rfl, hb14⟩)
      have hs14 := hb14.size
      have HK14 : Hid (Rh w14 w6.heap.size w7.heap.size ak ck L) := HK13.out.below hb14
      have HR14 : Hid (Rh w14 w.heap.size w1.heap.size aw cw L) := HR13.out.below hb14
      have HB14 : Hid (Below w.heap.size w w14) := HB13.out.trans (hb14.mono HB13.out.size)
      have HC14 : Hid (∃ cs, w14.ownsRow w5.heap.size 41 11 (.slice al R cl) R cs) := ⟨_, own_below6 HC13.out hb14⟩
      clear hb14 HK13 HR13 HB13 HC13
      go_wp2
      go_loopw [17] (fun i wr => ∃ (k : Nat) (cs : List Value), k ≤ R ∧ i = .int .i64 k ∧ Kps (fun g => w5.heap.size ≤ g ∧ g < w6.heap.size) w14 wr ∧ wr.ownsRow w5.heap.size 41 11 (.slice al R cl) R cs) (fun i _ => R - (intOf i).toNat)
      case atStart => obtain ⟨cs, h⟩ := HC14.out; exact ⟨0, cs, Nat.zero_le _, rfl, Kps.refl _ _, h⟩
      case round =>
        obtain ⟨k2, cs, hk2, rfl, hkp, hrow⟩ := hrel
        by_cases hlt2 : k2 < R
        · have hlt2' : (k2 : Int) < (R : Int) := by omega
          obtain ⟨gl, cl', hv⟩ := C.own_some hrow (by omega)
          simp only [Value.slice.injEq] at hv
          obtain ⟨rfl, _, rfl⟩ := hv
          have hcl := row_cells hrow hlt2
          obtain ⟨⟨v0, x0⟩, f0⟩ := hcl 0 (by omega)
          obtain ⟨⟨v1, x1⟩, f1⟩ := hcl 1 (by omega)
          obtain ⟨⟨v2, x2⟩, f2⟩ := hcl 2 (by omega)
          obtain ⟨⟨v3, x3⟩, f3⟩ := hcl 3 (by omega)
          obtain ⟨⟨v4', x4⟩, f4⟩ := hcl 4 (by omega)
          obtain ⟨⟨v5', x5⟩, f5⟩ := hcl 5 (by omega)
          obtain ⟨⟨v6, x6⟩, f6⟩ := hcl 6 (by omega)
          obtain ⟨⟨v7, x7⟩, f7⟩ := hcl 7 (by omega)
          obtain ⟨⟨v8, x8⟩, f8⟩ := hcl 8 (by omega)
          obtain ⟨⟨v9, x9⟩, f9⟩ := hcl 9 (by omega)
          obtain ⟨⟨v10, x10⟩, f10⟩ := hcl 10 (by omega)
          simp only [Nat.add_zero] at x0 f0
          have hp := row_put (i := k2) hrow ⟨-1, 0, 0, 0, 0, 0, 0, 0, 0, [], []⟩ (.slice none 0 0) (.slice none 0 0)
          have HP1 := hidMk hp.1
          have HP2 := hidMk (hkp.grown hp.2 (fun k hk => by simp only [Option.some.injEq] at hk; subst hk; exact .inl (HLB.out gl rfl)))
          clear hp hcl hkp hrow
          go_wp2
          go_roundw
          case rel => obtain ⟨cs', q⟩ := HP1.out; exact ⟨k2 + 1, cs', by omega, by go_num, HP2.out, q⟩
          case measure => simp [intOf]; omega
        · have hlt2' : (R : Int) ≤ (k2 : Int) := by omega
          obtain ⟨w15, h15⟩ : ∃ x, x = wr := ⟨_, rfl⟩
          subst h15
          have HKP : Hid (Kps (fun g => w5.heap.size ≤ g ∧ g < w6.heap.size) w14 w15) := hkp
          have HRW : Hid (w15.ownsRow w5.heap.size 41 11 (.slice al R cl) R cs) := hrow
          clear hkp hrow HC14
          go_wp2
          go_loopw [6, 18] (fun v i wr => ∃ (k : Nat) (cs : List Value), k ≤ 5 ∧ i = .int .i64 k ∧ Kps (fun g => w5.heap.size ≤ g ∧ g < w6.heap.size) w14 wr ∧ wr.ownsRow w5.heap.size 41 11 v (R + k) cs ∧ ∀ j, v.ownBlock = some j → (w5.heap.size ≤ j ∧ j < w6.heap.size) ∨ w14.heap.size ≤ j) (fun _ i _ => 5 - (intOf i).toNat)
          case atStart => exact ⟨0, cs, by omega, rfl, HKP.out, HRW.out, fun j hj => .inl (HLB.out j hj)⟩
          case round =>
            obtain ⟨k3, cs3, hk3, rfl, hkp, hrow, hpl⟩ := hrel
            have hsw := hkp.size
            by_cases hlt3 : k3 < 5
            · have hlt3' : (k3 : Int) < 5 := by omega
              have HKA : Hid (∀ o, Kps (fun g => w5.heap.size ≤ g ∧ g < w6.heap.size) w14 (wr.alloc o)) := fun o => hkp.after ((Below.refl _ _).alloc (Nat.le_refl _) _)
              have HRA : Hid (∀ o, (wr.alloc o).ownsRow w5.heap.size 41 11 u6 (R + k3) cs3) := fun o => hrow.alloc o
              have HPL : Hid (∀ j, u6.ownBlock = some j → (w5.heap.size ≤ j ∧ j < w6.heap.size) ∨ w14.heap.size ≤ j) := hpl
              clear hkp hrow hpl
              go_wp2_with (at_builtin; refine wpList_append_own_at _ rfl _ _ 53 rfl w5.heap.size 41 i1 _ 11 120 Tryd.underlying53 hinf1 hy0 hy1 hy2 rfl (by decide) _ _ _ rfl (HRA.out _) ⟨wr.heap.size, 0, none⟩ 1 1 (rcC ⟨-2, 0, 0, 0, 0, 0, 0, 0, 0, [], []⟩ (.slice none 0 0) (.slice none 0 0)).toList rfl rfl (rec_lit _ ⟨-2, 0, 0, 0, 0, 0, 0, 0, 0, [], []⟩ _ _) (rec_one _ _ _ _ _ _ _) (by unfold maxLen; omega) (by omega) (by simp; omega) ?_; intro v16 w16 o16 g16 _ t16)
              have HKN : Hid (Kps (fun g => w5.heap.size ≤ g ∧ g < w6.heap.size) w14 w16) := (HKA.out _).grown g16 (fun k hk => HPL.out k hk)
              have HRN : Hid (∃ cs', w16.ownsRow w5.heap.size 41 11 v16 (R + (k3 + 1)) cs') := ⟨_, o16⟩
              have HPN : Hid (∀ j, v16.ownBlock = some j → (w5.heap.size ≤ j ∧ j < w6.heap.size) ∨ w14.heap.size ≤ j) := fun j hj => by
                rcases t16 with q | q
                · exact HPL.out j (q.symm.trans hj)
                · right; rw [q] at hj; simp at hj; omega
              clear o16 g16 t16
              go_wp2
              go_roundw
              case rel => obtain ⟨cs', q⟩ := HRN.out; exact ⟨k3 + 1, cs', by omega, by go_num, HKN.out, q, HPN.out⟩
              case measure => simp [intOf]; omega
            · obtain rfl : k3 = 5 := by omega
              obtain ⟨a6, c6, rfl⟩ := own_sl hrow
              have HK17 : Hid (Rh wr w6.heap.size w7.heap.size ak ck L) := HK14.out.same (fun g h1 h2 h3 => hkp.block g h3 (by omega))
              have HR17 : Hid (Rh wr w.heap.size w1.heap.size aw cw L) := HR14.out.same (fun g h1 h2 h3 => hkp.block g h3 (by omega))
              have HB17 : Hid (Below w.heap.size w wr) := ⟨hkp.os.trans HB14.out.os, hkp.tape.trans HB14.out.tape, hkp.output.trans HB14.out.output, by have := HB14.out.size; omega, fun g hg => (hkp.block g (by have := HB14.out.size; omega) (by omega)).trans (HB14.out.block g hg)⟩
              clear hkp hrow hpl
              go_wp2_with (go_at_call 29; refine (sameAll_eq L ak aw R ck cw _ HR.out (by omega) HK17.out.lin HR17.out.lin).mono ?_; rintro e w18 ⟨rfl, hb18⟩)
              go_ret
              exact ⟨by first | rfl | simp | (congr 1; simp), HB17.out.trans (hb18.mono HB17.out.size)⟩
end Go.Proofs.YtgmbpagbiakciafDoor

namespace Go.Proofs.YtgmbpagbiakciafDoor
open Go.ChangeShapes Go.WideShapes Go.ChangeAt Go.RowKit

theorem own : ownKnob Tryd.prog.godebug = none := by kernel_rfl
theorem laidOut : laidOutB Tryd.prog = true := by kernel_rfl

theorem lies_of {k : IntKind} {W : World} {x : Addr} {zs : List Int} {len : Nat} (hl : len ≤ zs.length) (hcell : ∀ i, i < zs.length → W.cell? (x.add i) = some (.int k (zs.getD i 0))) : Lies k W (some x) (zs.take len) := by
  by_cases h0 : len = 0
  · subst h0; exact .inl rfl
  · obtain ⟨b, off, spot⟩ := x
    have hc := hcell 0 (by omega)
    have hspot : spot = none := by simpa [Addr.add] using World.cell?_spot hc
    subst hspot
    refine .inr ⟨b, off, rfl, fun i hi => ?_⟩
    have hi' : i < len ∧ i < zs.length := by simp at hi; omega
    have := hcell i hi'.2
    rw [show (⟨b, off, none⟩ : Addr).add i = ⟨b, off + i, none⟩ from by unfold Addr.add; split <;> simp_all] at this
    rw [this]
    simp [List.getD_eq_getElem?_getD, hi'.1]

/-- A list of numbers that came in. -/
theorem given_ints {H : Type} {enc : TypeId × Value → H} {W : World} {k : IntKind} {t e : TypeId} {a : Option Addr} {len cap : Nat} {d : DataW H} {p : List MemPlace}
    (ht : Tryd.prog.underlying t = some (.slice e)) (he : Tryd.prog.underlying e = some (.int k)) (hc : Tryd.prog.cellsOf e = 1) (h : DataW.Trod enc Tryd.prog W 0 (fun _ => true) true t (.slice a len cap) d p) :
    ∃ zs : List Int, zs.length = len ∧ Lies k W a zs ∧ (∀ n ∈ zs, (Lit.int k n).wf = true) ∧ ((d = .nil ∧ len = 0 ∧ cap = 0) ∨ ∃ sp, d = .slice (lits k zs) sp ∧ len + sp.length = cap) ∧ (a = none → len = 0 ∧ cap = 0) := by
  obtain ⟨fuel, hf⟩ := h
  rcases open_ints ht he hc hf with ⟨hcs, hx⟩ | ⟨x, l, c, zs, hcs, _, hl, hm, hz, hx, hcell, hwz⟩
  · simp [Value.cells] at hcs
    obtain ⟨rfl, rfl, rfl⟩ := hcs
    simp only [Prod.mk.injEq] at hx
    exact ⟨[], rfl, .inl rfl, (fun _ h => by cases h), .inl ⟨hx.1, rfl, rfl⟩, fun _ => ⟨rfl, rfl⟩⟩
  · simp [Value.cells] at hcs
    obtain ⟨rfl, rfl, rfl⟩ := hcs
    simp only [Prod.mk.injEq] at hx
    simp only [if_true] at hz
    exact ⟨zs.take len, by simp; omega, lies_of (by omega) hcell, fun n hn => hwz n (List.mem_of_mem_take hn), .inr ⟨_, hx.1, by simp [lits]; omega⟩, fun h => by cases h⟩

theorem bytey_of {zs : List Int} (h : ∀ n ∈ zs, (Lit.int .u8 n).wf = true) : Bytey zs := fun z hz => by
  have := bounds_u8 (h z hz); omega

theorem nums_of {l : List Int} (h : ∀ n ∈ l, (Lit.int .u64 n).wf = true) : ∀ n ∈ l, 0 ≤ n ∧ n ≤ 18446744073709551615 := fun n hn => bounds_u64 (h n hn)

theorem bytes_u8 : Tryd.prog.bytesOf 5 = 1 := by kernel_rfl

theorem reach_bytes {H : Type} {ts : List TypeId} {ds : List (DataW H)} (hsz : (DataW.weightsEach Tryd.prog ts ds).all (· ≤ reachBytes) = true) {j : Nat} {d : DataW H} {zs : List Int} {len cap : Nat} (ht : ts[j]? = some 39) (hd : ds[j]? = some d) (hl : zs.length = len) (h : (d = .nil ∧ len = 0 ∧ cap = 0) ∨ ∃ sp, d = .slice (lits .u8 zs) sp ∧ len + sp.length = cap) : len ≤ cap ∧ cap ≤ 140737488351232 := by
  rcases h with ⟨_, h, h'⟩ | ⟨sp, h, hc⟩
  · omega
  · subst h
    have := sized_slice hsz ht hd Tryd.underlying39
    rw [bytes_u8] at this
    simp only [lits, List.length_map, reachBytes] at this
    omega

theorem bulk_one {H : Type} (d : DataW H) : 1 ≤ Rows.uptoBulk d := by
  cases d with
  | lit l => cases l <;> simp [Rows.uptoBulk]
  | _ => simp [Rows.uptoBulk]

theorem bulk_length {H : Type} : ∀ l : List (DataW H), l.length ≤ Rows.uptoBulkAll l
  | [] => by simp [Rows.uptoBulkAll]
  | x :: r => by have := bulk_one x; have := bulk_length r; simp only [Rows.uptoBulkAll, List.length_cons]; omega

theorem bulk_ints {H : Type} {k : IntKind} {d : DataW H} {zs : List Int} {len cap : Nat} (hl : zs.length = len) (h : (d = .nil ∧ len = 0 ∧ cap = 0) ∨ ∃ sp, d = .slice (lits k zs) sp ∧ len + sp.length = cap) : len ≤ cap ∧ cap ≤ Rows.uptoBulk d := by
  rcases h with ⟨_, h, h'⟩ | ⟨sp, h, hc⟩
  · omega
  · subst h
    have := bulk_length (lits (H := H) k zs)
    have := bulk_length sp
    simp only [Rows.uptoBulk]
    simp only [lits, List.length_map] at *
    omega

end Go.Proofs.YtgmbpagbiakciafDoor

namespace Go.Proofs.YtgmbpagbiakciafDoor
open Go.RowKit
set_option maxRecDepth 100000 in
set_option maxHeartbeats 1000000 in
theorem scans6_walk (a : Option Addr) (zs : List Int) (len cap : Nat) (w : World) (hT : Tab6 w) (hb : Bytey zs) (hl : zs.length = len) (hlc : len ≤ cap) (hm : cap ≤ 1048576) (hc : Lies .u8 w a zs) (hn : a = none → len = 0 ∧ cap = 0) :
    Calls Tryd.prog 7 #[.slice a len cap] w fun e w' => e = .returned (.bool true) ∧ Below w.heap.size w w' := by
  have HTB : Hid (∀ W, Below w.heap.size w W → Tab6 W) := fun W hW => hT.below hW (tab6_pos hT)
  have HSC : Hid (∀ W, Below w.heap.size w W → Calls Tryd.prog 30 #[.slice a len cap] W fun e w' => e = .returned (.bool true) ∧ Below W.heap.size W w') := fun W hW => scans_any a zs len cap W (HTB.out W hW) hb hl hlc (by omega) (by omega) (hc.below hW) hn
  clear hT hb hl hlc hm hc hn
  go_enter Tryd.func7, Tryd.ntmps7
  go_wp2_with (first
    | (go_at_call 14; refine (awake6_any _ (HTB.out _ (Below.refl _ _))).mono ?_; rintro e w1 ⟨rfl, hb1⟩)
    | (go_at_call 30; refine (HSC.out _ hb1).mono ?_; rintro e w2 ⟨rfl, hb2⟩))
  go_ret
  exact ⟨rfl, hb1.trans (hb2.mono hb1.size)⟩
end Go.Proofs.YtgmbpagbiakciafDoor
namespace Go.Proofs.YtgmbpagbiakciafDoor.recordScansUpto
open Go.ChangeShapes Go.WideShapes Go.ChangeAt Go.RowKit
set_option linter.unusedVariables false

theorem gTab : Tryd.prog.globalNamed "lantern/record.kinds" = some 0 := by kernel_rfl
theorem gTabType : (Tryd.prog.globals[0]?).map (·.type) = some 118 := by kernel_rfl
theorem cellsTab : Tryd.prog.cellsOf 118 = 13 := by kernel_rfl
theorem cellsParts : Tryd.prog.cellsOf 98 = 1 := by kernel_rfl

/-- What the row's list gives: the table's cells hold its numbers. -/
theorem table {W : World} (h : laidMetH Tryd.prog Rows.recordScansUptoRow.laid W) : Tab6 W := by
  have h1 : Lib.TabIs Tryd.prog W "lantern/record.kinds" .u16 kiT :=
    Lib.tabIs_of_head (rest := []) gTab gTabType Tryd.underlying118 Tryd.underlying98 cellsParts cellsTab h
  exact fun i hi => h1.cell gTab i hi

/-- A world for the witness: the table holds what its initialiser lays. -/
def laidWorld (P : Program) (os : Os) : World :=
  { World.holding P os ⟨#[], #[], []⟩ with heap := (World.holding P os ⟨#[], #[], []⟩).heap.modify 0 fun
      | .cells _ t frozen => .cells #[.int .u16 0, .int .u16 65, .int .u16 64, .int .u16 623, .int .u16 131, .int .u16 3, .int .u16 635, .int .u16 3, .int .u16 131, .int .u16 3, .int .u16 3, .int .u16 320, .int .u16 107] t frozen
      | o => o }
theorem laid_met (os : Os) : laidMet Tryd.prog Rows.recordScansUptoRow.laid ((laidWorld Tryd.prog os).forCall (fun _ _ => 0) ⟨#[], #[.slice none 0 0], []⟩).memory :=
  laidMet_of_run' 8 (by kernel_rfl) (by kernel_rfl)
theorem reads (os : Os) {H : Type} (enc : TypeId × Value → H) : ∃ places, DataW.whole enc Tryd.prog ((laidWorld Tryd.prog os).forCall (fun _ _ => 0) ⟨#[], #[.slice none 0 0], []⟩).memory Tryd.f7.params.toList Rows.recordScansSpec.vars false (#[.slice none 0 0] : Array Value).toList 8 = some ([.nil], [], places) :=
  ⟨[], by kernel_rfl⟩

set_option maxRecDepth 100000 in
theorem lifted (os : Os) (started : os.Started) (H : Type) (enc : TypeId × Value → H) (F : Stop.Interp) :
    ReturnsInHanded {} Tryd.checked os 7 .any ((Rows.OpenSpec.upto Rows.recordScansSpec).preRow enc Tryd.prog Tryd.f7 Rows.recordScansUptoRow.domain false Rows.recordScansUptoRow.laid) (((Rows.OpenSpec.upto Rows.recordScansSpec).at F).post enc Tryd.prog Tryd.f7 false true false false) := by
  obtain ⟨places, hx⟩ := reads os enc
  refine returnsInHanded_of_row (C := Tryd.checked) (s := Rows.OpenSpec.upto Rows.recordScansSpec) own started (by kernel_rfl) Tryd.func7
    (witness_row_at (enc := enc) (C := Tryd.checked) false (laidWorld Tryd.prog os) #[.slice none 0 0] rfl (by kernel_rfl) (by kernel_rfl) (by kernel_rfl)
      (OpenSpec.preRow_of_cond 8 hx (by kernel_rfl) (fun k hk => by cases hk; kernel_rfl) (by kernel_rfl) (laid_met os))) ?_
  intro W base args ds gs before hval0 hW _ hk0 _ hL _ _
  have hval : ∀ (j : Nat) t v, Tryd.f7.params[j]? = some t → args[j]? = some v → Value.okWide Tryd.prog W .any base t v := hval0
  have hW' := hW
  obtain ⟨p, q, hA0, hV, rfl, hfz, hnd⟩ := hW
  have hA : DataW.TrodAll enc Tryd.prog W 0 (fun _ => true) true Tryd.f7.params.toList args.toList ds p := hA0
  rw [Tryd.params7] at hA hval
  obtain ⟨v0, vs0, d0, ds0, p0, q0, hargs, rfl, rfl, h0, r0⟩ := trodAll_cons hA
  obtain ⟨rfl, rfl, rfl⟩ := trodAll_nil r0
  obtain rfl : args = #[v0] := by cases args; simp_all
  obtain ⟨rfl, rfl⟩ := trodVars_none hV
  have lt0 : ∀ x ∈ p0, x.block < W.heap.size := by obtain ⟨m, hm⟩ := h0; exact DataW.trod_lt m _ _ _ hm
  have hk : Rows.uptoBulkAll [d0] ≤ 1048576 := by have h := of_decide_eq_true (hk0 _ rfl); simpa only [List.append_nil] using h
  simp only [Rows.uptoBulkAll] at hk
  obtain ⟨a0, len0, cap0, rfl⟩ := okWide_slice Tryd.underlying39 (hval 0 39 v0 rfl rfl)
  obtain ⟨z0, l0, c0, b0, e0, n0⟩ := given_ints Tryd.underlying39 Tryd.underlying5 (by kernel_rfl) h0
  have m0 := bulk_ints l0 e0
  clear hA0 hval0
  refine (scans6_walk a0 z0 len0 cap0 W (table hL) (bytey_of b0) l0 m0.1 (by omega) c0 n0).mono fun e W' ⟨he, bel⟩ => ?_
  subst he
  exact ⟨_, rfl, _, _, _, [], _, [], hW', trodAll_mk1 (shut_bool Tryd.underlying4 _), (trodAll_cons_mk (Below.trod laidOut (by kernel_rfl) (of_decide_eq_true (by kernel_rfl)) h0 bel lt0) trodAll_mk0), rfl, bel.frame _, fun h => by cases h⟩

theorem plain (f : FuncId) (fn : Func) (hf : Tryd.pinned.checked.prog.funcNamed "lantern/lanternlaw06.RecordScans" = some f) (hfn : Tryd.pinned.checked.prog.funcs[f]? = some fn) :
    false = Tryd.pinned.checked.prog.looks [] ∧ ∀ (j : Nat) t, fn.params[j]? = some t → Tryd.pinned.checked.prog.wantsStandIn t = false := by
  obtain rfl : f = 7 := Option.some.inj ((show Tryd.prog.funcNamed "lantern/lanternlaw06.RecordScans" = some 7 by kernel_rfl).symm.trans hf) |>.symm
  obtain rfl : fn = Tryd.f7 := (Option.some.inj (Tryd.func7.symm.trans hfn)).symm
  refine ⟨by kernel_rfl, fun j t ht => ?_⟩
  rw [Tryd.params7] at ht
  have hm : t = 39 := by simpa using Array.mem_of_getElem? ht
  subst hm
  exact (show Tryd.prog.wantsStandIn 39 = false by kernel_rfl)

end Go.Proofs.YtgmbpagbiakciafDoor.recordScansUpto

namespace Go.Proofs.YtgmbpagbiakciafDoor

theorem recordScans_said : Rows.RecordScansUptoSaid :=
  OpenClaim.holds_of_cond 7 Tryd.f7 rfl rfl rfl rfl rfl rfl rfl ⟨rfl, rfl, rfl, rfl, rfl⟩ rfl rfl rfl rfl rfl (by kernel_rfl) Tryd.func7 (by kernel_rfl)
    (of_decide_eq_true (by kernel_rfl)) (by unfold Func.isWrapper; first | (rw [if_pos (by decide +kernel)]; kernel_rfl) | (rw [if_neg (by decide +kernel)]; exact ⟨rfl, rfl⟩))
    (fun os started H enc _ F => by rw [OpenClaim.pre_eq_preRow]; exact recordScansUpto.lifted os started H enc F)

theorem recordScans_upto : Rows.RecordScansUptoCardSaid :=
  Claim7.holds_tied_plain_at .later [] _ _ _ _ recordScans_said (fun _ h => by cases h) (by kernel_rfl) (fun _ h => by cases h) recordScansUpto_row_tie rfl ⟨rfl, rfl⟩ (by kernel_rfl) rfl recordScansUpto.plain (by kernel_rfl)
#print axioms recordScans_upto

end Go.Proofs.YtgmbpagbiakciafDoor
