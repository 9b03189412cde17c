import Derived.Test.YtllhbhogfffedaaGreatDoorRcRd5
import Derived.Deep.RegionWith
import Derived.BigQuiet
import Derived.Maps.AppendAt
import Derived.Test.YtllhbhogfffedaaGreatDoorDkCr
import Derived.WalkSmall
set_option maxHeartbeats 8000000
set_option maxRecDepth 100000
namespace Go.Proofs.YtllhbhogfffedaaGreatDoor
open Go.RowKit
set_option linter.unusedVariables false
set_option linter.unusedSimpArgs false
theorem fsR_short {zs:List Int} (h:zs.length < 8):fsR zs=(rz0,0):=by unfold fsR;rw[if_pos h]
theorem fsR_long {zs:List Int} (h:¬zs.length < 8) (h1:131072 < vl4 zs∨(zs.length:Int) - 8 < vl4 zs):fsR zs=(rz0,0):=by unfold fsR;rw[if_neg h,if_pos h1]
theorem fsR_sum {zs:List Int} {k:Nat} (h:¬zs.length < 8) (h1:¬(131072 < vl4 zs∨(zs.length:Int) - 8 < vl4 zs)) (hk:vl4 zs=k) (h2:((crs ((zs.drop 8).take k):Nat):Int)≠vl4 (zs.drop 4)):fsR zs=(rz0,0):=by
 unfold fsR;rw[if_neg h,if_neg h1,if_pos (by rw[hk];exact h2)]
theorem fsR_none {zs:List Int} {k:Nat} (hk:vl4 zs=k) (h3:readP ((zs.drop 8).take k)=none):fsR zs=(rz0,0):=by
 unfold fsR
 split
 ·rfl
 split
 ·rfl
 split
 ·rfl
 rw[hk,Int.toNat_natCast,h3]
theorem fsR_some {zs:List Int} {k:Nat} {r:Rc} (h:¬zs.length < 8) (h1:¬(131072 < vl4 zs∨(zs.length:Int) - 8 < vl4 zs)) (hk:vl4 zs=k) (h2:((crs ((zs.drop 8).take k):Nat):Int)=vl4 (zs.drop 4)) (h3:readP ((zs.drop 8).take k)=some r):fsR zs=(r,8+(k:Int)):=by
 unfold fsR
 rw[if_neg h,if_neg h1,hk,Int.toNat_natCast,if_neg (by rw[h2];simp),h3]
theorem word_at (g off n c:Nat) (zs:List Int) (w:World) (hb:Bytey zs) (hn:4<= n) (h4:4<= zs.length) (hz:∀i,i < zs.length-> w.cell? ⟨g,off+i,none⟩=some (.int .u8 (zs.getD i 0))):
 Calls Tryz.prog 102 #[.slice (some ⟨g,off,none⟩) n c] w λe w'=>e=.returned (.int .u32 (vl4 zs))/\ Below w.heap.size w w':=
 word_any g off n c (zs.getD 0 0) (zs.getD 1 0) (zs.getD 2 0) (zs.getD 3 0) w hn (bytAt hb 0) (bytAt hb 1) (bytAt hb 2) (bytAt hb 3) (hz 0 (by omega)) (hz 1 (by omega)) (hz 2 (by omega)) (hz 3 (by omega))
theorem first_short (a:Option Addr) (zs:List Int) (n c:Nat) (w:World) (hl:zs.length=n) (hn:n < 8):
 Calls Tryz.prog 75 #[.slice a n c] w (RdPost (fsR zs) w):=by
 rw[fsR_short (by omega)]
 have hn':(n:Int) < 8:=by omega
 go_enter Tryz.func75,Tryz.ntmps75
 go_wp2_with fail
 refine bodyPost_ret (v:=.tuple #[.agg (rcC rz0 (.slice none 0 0) (.slice none 0 0)),.int .i64 0]) (by simp[results,Tryz.results75,go_sem,rcC]) rfl ?_
 exact⟨none,none,0,0,rfl,C.SOwn.nil _ _,World.ownsRow_nil _ _ _ _,λj hj=>by simp[Value.ownBlock] at hj,(Below.refl _ _).alloc (aqH _) _⟩
theorem first_long (g off:Nat) (zs:List Int) (n c:Nat) (w:World) (hT:Tab6 w) (hb:Bytey zs) (hl:zs.length=n) (hnc:n<= c) (hc:c<= 9223372036854775807) (hn:8<= n) (hm:n<= 1099511627776) (hz:∀i,i < zs.length-> w.cell? ⟨g,off+i,none⟩=some (.int .u8 (zs.getD i 0))):
 Calls Tryz.prog 75 #[.slice (some ⟨g,off,none⟩) n c] w (RdPost (fsR zs) w):=by
 have hn8:¬(n:Int) < 8:=by omega
 have hc4:¬c=4:=by omega
 have HB1:Hid (Below w.heap.size w (w.alloc (rcO rz0 (.slice none 0 0) (.slice none 0 0)))):=(Below.refl _ _).alloc (aqH _) _
 have HZ1:Hid ((w.alloc (rcO rz0 (.slice none 0 0) (.slice none 0 0))).heap[w.heap.size]?=some (rcO rz0 (.slice none 0 0) (.slice none 0 0))):=heap_new6 w _
 have HW1:Hid (∀W,Below w.heap.size w W-> Calls Tryz.prog 102 #[.slice (some ⟨g,off,none⟩) n c] W λe w'=>e=.returned (.int .u32 (vl4 zs))/\ Below W.heap.size W w'):=λW hW=>word_at g off n c zs W hb (by omega) (by omega) (λi hi=>C.cell_below (hz i hi) hW)
 have HW2:Hid (∀W,Below w.heap.size w W-> Calls Tryz.prog 102 #[.slice (some ⟨g,off+4,none⟩) (n - 4) (c - 4)] W λe w'=>e=.returned (.int .u32 (vl4 (zs.drop 4)))/\ Below W.heap.size W w'):=λW hW=>word_at g (off+4) (n - 4) (c - 4) (zs.drop 4) W (bytDrop hb 4) (by omega) (by rw[List.length_drop];omega) (λi hi=>by
  rw[List.length_drop] at hi
  have h1:=C.cell_below (hz (4+i) (by omega)) hW
  rw[List.getD_eq_getElem?_getD,List.getElem?_drop,←List.getD_eq_getElem?_getD,show off+4+i=off+(4+i) by omega]
  exact h1)
 obtain⟨V,hV⟩:∃V:Nat,vl4 zs=V:=⟨(vl4 zs).toNat,by have:=vl4_bd hb;omega⟩
 have hVb:V < 4294967296:=by have:=vl4_bd hb;omega
 obtain⟨U,hU⟩:∃U:Int,vl4 (zs.drop 4)=U:=⟨_,rfl⟩
 rw[hV] at HW1
 rw[hU] at HW2
 have hwV:IntKind.i64.wrap (V:Int)=V:=by simp[IntKind.wrap,IntKind.bits,IntKind.signed];omega
 obtain⟨m,hmn⟩:∃m,m=n - 8:=⟨_,rfl⟩
 obtain⟨d,hdc⟩:∃d,d=c - 8:=⟨_,rfl⟩
 have HZZ:Hid (∀W,Below w.heap.size w W-> V<= m-> Lies .u8 W (some ⟨g,off+8,none⟩) ((zs.drop 8).take V)):=λW hW hVm=>.inr ⟨g,off+8,rfl,λi hi=>by
  rw[List.length_take,List.length_drop] at hi
  have h1:=C.cell_below (hz (8+i) (by omega)) hW
  rw[List.getD_eq_getElem?_getD,List.getElem?_take_of_lt (by omega),List.getElem?_drop,←List.getD_eq_getElem?_getD,show off+8+i=off+(8+i) by omega]
  exact h1⟩
 have HMN:Hid (m=n - 8):=hmn
 have HDC:Hid (d=c - 8):=hdc
 have HV:Hid (vl4 zs=V):=hV
 have HU:Hid (vl4 (zs.drop 4)=U):=hU
 have HT:Hid (Tab6 w):=hT
 have HBY:Hid (Bytey ((zs.drop 8).take V)):=bytTake (bytDrop hb 8) V
 have HLN:Hid (V<= m-> ((zs.drop 8).take V).length=V):=λh=>by rw[List.length_take,List.length_drop];omega
 have HNL:Hid (¬zs.length < 8/\ (zs.length:Int) - 8=(m:Int)):=by constructor<;>omega
 have hmb:m<= 1099511627776:=by omega
 have hmd:m<= d:=by omega
 have hdb:d<= 9223372036854775807:=by omega
 clear hmn hdc hV hU hT hz hb hl
 go_enter Tryz.func75,Tryz.ntmps75
 go_upto_region 3 with fail
 go_cut [4,5,6] from 13 to 20 (λq4 q5 q6 wx=>q4=.int .i64 V/\ q5=.int .u32 U/\ (∃a',q6=.slice a' m d/\ Hid (∀W,Below w.heap.size w W-> V<= m-> Lies .u8 W a' ((zs.drop 8).take V)))/\ Hid (Below w.heap.size w wx)/\ Hid (wx.heap[w.heap.size]?=some (rcO rz0 (.slice none 0 0) (.slice none 0 0))))
 case first=>
  by_cases hc8:c=8
  ·subst hc8
   obtain rfl:n=8:=by omega
   go_region_with (first
    |(go_at_call_of 102 (Value.slice (some ⟨g,off,none⟩) 8 8);refine(HW1.out _ (by first|exact HB1.out|exact HB1.out.drew)).mono ?_;rintro e w1 ⟨rfl,hb1⟩;have HB2:Hid (Below w.heap.size w w1):=(by first|exact HB1.out.trans (hb1.mono HB1.out.size)|exact HB1.out.drew.trans (hb1.mono HB1.out.size));have HZ2:Hid (w1.heap[w.heap.size]?=some (rcO rz0 (.slice none 0 0) (.slice none 0 0))):=(hb1.block _ (by simp)).trans HZ1.out;clear hb1)
    |(go_at_call 102;refine(HW2.out _ HB2.out).mono ?_;rintro e w2 ⟨rfl,hb2⟩;have HB3:Hid (Below w.heap.size w w2):=HB2.out.trans (hb2.mono HB2.out.size);have HZ3:Hid (w2.heap[w.heap.size]?=some (rcO rz0 (.slice none 0 0) (.slice none 0 0))):=(hb2.block _ (Array.getElem?_eq_some_iff.mp HZ2.out).1).trans HZ2.out;clear hb2))
   all_goals
    go_wp2_with fail
    go_meet
    refine⟨?_,rfl,⟨some ⟨g,off,none⟩,?_,λW hW hVm=>?_⟩,HB3,HZ3⟩
    rotate_left 2
    ·left
     have:V=0:=by have:=HMN.out;omega
     rw[this];rfl
    ·first|rfl|exact congrArg (Value.int .i64) hwV
    ·rw[HMN.out,HDC.out]
  ·skip
   go_region_with (first
    |(go_at_call_of 102 (Value.slice (some ⟨g,off,none⟩) n c);refine(HW1.out _ (by first|exact HB1.out|exact HB1.out.drew)).mono ?_;rintro e w1 ⟨rfl,hb1⟩;have HB2:Hid (Below w.heap.size w w1):=(by first|exact HB1.out.trans (hb1.mono HB1.out.size)|exact HB1.out.drew.trans (hb1.mono HB1.out.size));have HZ2:Hid (w1.heap[w.heap.size]?=some (rcO rz0 (.slice none 0 0) (.slice none 0 0))):=(hb1.block _ (by simp)).trans HZ1.out;clear hb1)
    |(go_at_call 102;refine(HW2.out _ HB2.out).mono ?_;rintro e w2 ⟨rfl,hb2⟩;have HB3:Hid (Below w.heap.size w w2):=HB2.out.trans (hb2.mono HB2.out.size);have HZ3:Hid (w2.heap[w.heap.size]?=some (rcO rz0 (.slice none 0 0) (.slice none 0 0))):=(hb2.block _ (Array.getElem?_eq_some_iff.mp HZ2.out).1).trans HZ2.out;clear hb2))
   all_goals
    go_wp2_with fail
    go_meet
    refine⟨?_,rfl,⟨_,?_,HZZ⟩,HB3,HZ3⟩
    ·first|rfl|exact congrArg (Value.int .i64) hwV
    ·rw[HMN.out,HDC.out]
 case rest=>
  obtain⟨rfl,rfl,⟨a',rfl,HZ⟩,HB3,HZ3⟩:=hcut
  clear HW1 HW2 HB1 HZ1 HZZ hn8 hc4 hwV hnc hc hn hm
  by_cases h1:(131072:Int) < (V:Int)
  ·have HQ:Hid (fsR zs=(rz0,0)):=fsR_long HNL.out.1 (.inl (by rw[HV.out];exact h1))
   obtain⟨y0,y1,y2,y3,y4,y5,y6,y7,y8,y9,y10⟩:=rc_cells HZ3.out
   have fz:=rc_frozen HZ3.out
   go_wp2_with fail
   change bodyPost _ _ _ _ _ (rS wc w.heap.size rz0 (.slice none 0 0) (.slice none 0 0))
   have hlv:=λj=>cell_of_row _ w.heap.size j _ _ _ (rS_heap wc w.heap.size rz0 rz0 (.slice none 0 0) (.slice none 0 0) _ _ HZ3.out)
   have hrg:=rS_grown wc w.heap.size rz0 (.slice none 0 0) (.slice none 0 0)
   generalize rS wc w.heap.size rz0 (.slice none 0 0) (.slice none 0 0)=WF at*
   clear y0 y1 y2 y3 y4 y5 y6 y7 y8 y9 y10 fz
   refine bodyPost_ret (v:=.tuple #[.agg (rcC rz0 (.slice none 0 0) (.slice none 0 0)),.int .i64 0]) (by simp[results,Tryz.results75,go_sem,rcC,hlv]) rfl ?_
   show RdPost (fsR zs) w _ _
   rw[HQ.out]
   exact⟨none,none,0,0,rfl,C.SOwn.nil _ _,World.ownsRow_nil _ _ _ _,λj hj=>by simp[Value.ownBlock] at hj,HB3.out.grown hrg HB3.out.size (by simp)⟩
  ·by_cases h2:(m:Int) < (V:Int)
   ·have HQ:Hid (fsR zs=(rz0,0)):=fsR_long HNL.out.1 (.inr (by rw[HV.out,HNL.out.2];exact h2))
    obtain⟨y0,y1,y2,y3,y4,y5,y6,y7,y8,y9,y10⟩:=rc_cells HZ3.out
    have fz:=rc_frozen HZ3.out
    go_wp2_with fail
    change bodyPost _ _ _ _ _ (rS wc w.heap.size rz0 (.slice none 0 0) (.slice none 0 0))
    have hlv:=λj=>cell_of_row _ w.heap.size j _ _ _ (rS_heap wc w.heap.size rz0 rz0 (.slice none 0 0) (.slice none 0 0) _ _ HZ3.out)
    have hrg:=rS_grown wc w.heap.size rz0 (.slice none 0 0) (.slice none 0 0)
    generalize rS wc w.heap.size rz0 (.slice none 0 0) (.slice none 0 0)=WF at*
    clear y0 y1 y2 y3 y4 y5 y6 y7 y8 y9 y10 fz
    refine bodyPost_ret (v:=.tuple #[.agg (rcC rz0 (.slice none 0 0) (.slice none 0 0)),.int .i64 0]) (by simp[results,Tryz.results75,go_sem,rcC,hlv]) rfl ?_
    show RdPost (fsR zs) w _ _
    rw[HQ.out]
    exact⟨none,none,0,0,rfl,C.SOwn.nil _ _,World.ownsRow_nil _ _ _ _,λj hj=>by simp[Value.ownBlock] at hj,HB3.out.grown hrg HB3.out.size (by simp)⟩
   ·have HVM:Hid (V<= m):=by unfold Hid;omega
    have hVd:(V:Int)<= (d:Int):=by omega
    have HSU:=λW hW=>sum_any a' ((zs.drop 8).take V) V d W HBY.out (HLN.out HVM.out) (by omega) (HZ.out W hW HVM.out)
    have HSUM:Hid (∀W,Below w.heap.size w W-> Calls Tryz.prog 103 #[.slice a' V d] W λe w'=>e=.returned (.int .u32 (crs ((zs.drop 8).take V):Nat))/\ W=w'):=HSU
    clear HSU
    obtain⟨X,hX⟩:∃X:Int,X=((crs ((zs.drop 8).take V):Nat):Int):=⟨_,rfl⟩
    have HX:Hid (X=((crs ((zs.drop 8).take V):Nat):Int)):=hX
    rw[←hX] at HSUM
    clear hX
    have hNL:¬(131072 < vl4 zs∨(zs.length:Int) - 8 < vl4 zs):=by rw[HV.out,HNL.out.2];omega
    have HNX:Hid (¬(131072 < vl4 zs∨(zs.length:Int) - 8 < vl4 zs)):=hNL
    clear hNL
    by_cases h3:X=U
    ·have HRD:=rread_any a' ((zs.drop 8).take V) V d wc (HT.out.below HB3.out (tab6_pos HT.out)) HBY.out (HLN.out HVM.out) (by omega) hdb (HZ.out wc HB3.out HVM.out)
     subst h3
     cases hq:readP ((zs.drop 8).take V) with
     |none=>
      have HQ:Hid (fsR zs=(rz0,0)):=fsR_none HV.out hq
      have HQ2:Hid (rdR ((zs.drop 8).take V)=(rz0,61)):=by unfold Hid rdR;rw[if_neg (by rw[HLN.out HVM.out];omega),hq]
      rw[HQ2.out] at HRD
      clear HQ2 hq
      go_upto_region 7 with (first|(go_at_call 103;refine(HSUM.out _ HB3.out).mono ?_;rintro e w' ⟨rfl,rfl⟩)|(go_at_call 104;refine HRD.mono ?_;rintro e w4 ⟨sa,da,sc,dc,rfl,hso,hdo,hpt,hb4⟩))
      have HB4:Hid (Below w.heap.size w (w4.alloc (rcO rz0 (.slice sa 0 sc) (.slice da 0 dc)))):=(HB3.out.trans (hb4.mono HB3.out.size)).alloc (Nat.le_trans HB3.out.size hb4.size) _
      have HZ4:Hid ((w4.alloc (rcO rz0 (.slice sa 0 sc) (.slice da 0 dc))).heap[w.heap.size]?=some (rcO rz0 (.slice none 0 0) (.slice none 0 0))):=(((Below.refl _ _).alloc (aqH _) _).block _ (by have:=(Array.getElem?_eq_some_iff.mp HZ3.out).1;have:=hb4.size;omega)).trans ((hb4.block _ (Array.getElem?_eq_some_iff.mp HZ3.out).1).trans HZ3.out)
      clear hso hdo hpt hb4 HSUM HRD
      generalize w4.alloc (rcO rz0 (.slice sa 0 sc) (.slice da 0 dc))=w5 at*
      obtain⟨y0,y1,y2,y3,y4,y5,y6,y7,y8,y9,y10⟩:=rc_cells HZ4.out
      have fz:=rc_frozen HZ4.out
      go_wp2_with fail
      change bodyPost _ _ _ _ _ (rS w5 w.heap.size rz0 (.slice none 0 0) (.slice none 0 0))
      have hlv:=λj=>cell_of_row _ w.heap.size j _ _ _ (rS_heap w5 w.heap.size rz0 rz0 (.slice none 0 0) (.slice none 0 0) _ _ HZ4.out)
      have hrg:=rS_grown w5 w.heap.size rz0 (.slice none 0 0) (.slice none 0 0)
      generalize rS w5 w.heap.size rz0 (.slice none 0 0) (.slice none 0 0)=WF at*
      clear y0 y1 y2 y3 y4 y5 y6 y7 y8 y9 y10 fz
      refine bodyPost_ret (v:=.tuple #[.agg (rcC rz0 (.slice none 0 0) (.slice none 0 0)),.int .i64 0]) (by simp[results,Tryz.results75,go_sem,rcC,hlv]) rfl ?_
      show RdPost (fsR zs) w _ _
      rw[HQ.out]
      exact⟨none,none,0,0,rfl,C.SOwn.nil _ _,World.ownsRow_nil _ _ _ _,λj hj=>by simp[Value.ownBlock] at hj,HB4.out.grown hrg HB4.out.size (by simp)⟩
     |some r=>
      have HQ:Hid (fsR zs=(r,8+(V:Int))):=fsR_some HNL.out.1 HNX.out HV.out (by rw[HU.out];exact HX.out.symm) hq
      have HQ2:Hid (rdR ((zs.drop 8).take V)=(r,0)):=by unfold Hid rdR;rw[if_neg (by rw[HLN.out HVM.out];omega),hq]
      rw[HQ2.out] at HRD
      clear HQ2 hq
      go_upto_region 7 with (first|(go_at_call 103;refine(HSUM.out _ HB3.out).mono ?_;rintro e w' ⟨rfl,rfl⟩)|(go_at_call 104;refine HRD.mono ?_;rintro e w4 ⟨sa,da,sc,dc,rfl,hso,hdo,hpt,hb4⟩))
      have hz3l:=(Array.getElem?_eq_some_iff.mp HZ3.out).1
      have hs4:=hb4.size
      have HX4:Hid ((w4.alloc (rcO r (.slice sa r.spans.length sc) (.slice da r.data.length dc))).heap[w4.heap.size]?=some (rcO r (.slice sa r.spans.length sc) (.slice da r.data.length dc))):=heap_new6 w4 _
      have HB4:Hid (Below w.heap.size w (w4.alloc (rcO r (.slice sa r.spans.length sc) (.slice da r.data.length dc)))):=(HB3.out.trans (hb4.mono HB3.out.size)).alloc (Nat.le_trans HB3.out.size hs4) _
      have HZ4:Hid ((w4.alloc (rcO r (.slice sa r.spans.length sc) (.slice da r.data.length dc))).heap[w.heap.size]?=some (rcO rz0 (.slice none 0 0) (.slice none 0 0))):=(((Below.refl _ _).alloc (aqH _) _).block _ (by omega)).trans ((hb4.block _ hz3l).trans HZ3.out)
      have HS4:Hid (C.SOwn (w4.alloc (rcO r (.slice sa r.spans.length sc) (.slice da r.data.length dc))) wc.heap.size (.slice sa r.spans.length sc) r.spans):=World.ownsRow.alloc hso _
      have HD4:Hid ((w4.alloc (rcO r (.slice sa r.spans.length sc) (.slice da r.data.length dc))).ownsRow wc.heap.size 5 1 (.slice da r.data.length dc) r.data.length (r.data.map (Value.int .u8))):=hdo.alloc _
      have HPT:Hid (∀j,(Value.slice sa r.spans.length sc).ownBlock=some j-> (Value.slice da r.data.length dc).ownBlock≠some j):=hpt
      clear hso hdo hpt hb4 HSUM HRD
      generalize w4.alloc (rcO r (.slice sa r.spans.length sc) (.slice da r.data.length dc))=w5 at*
      obtain⟨x0,x1,x2,x3,x4,x5,x6,x7,x8,x9,x10⟩:=rc_cells HX4.out
      obtain⟨y0,y1,y2,y3,y4,y5,y6,y7,y8,y9,y10⟩:=rc_cells HZ4.out
      have fz:=rc_frozen HZ4.out
      go_wp2_with fail
      change bodyPost _ _ _ _ _ (rS w5 w.heap.size r (.slice sa r.spans.length sc) (.slice da r.data.length dc))
      have hlv:=λj=>cell_of_row _ w.heap.size j _ _ _ (rS_heap w5 w.heap.size r rz0 (.slice sa r.spans.length sc) (.slice da r.data.length dc) _ _ HZ4.out)
      have hrg:=rS_grown w5 w.heap.size r (.slice sa r.spans.length sc) (.slice da r.data.length dc)
      generalize rS w5 w.heap.size r (.slice sa r.spans.length sc) (.slice da r.data.length dc)=WF at*
      clear x0 x1 x2 x3 x4 x5 x6 x7 x8 x9 x10 y0 y1 y2 y3 y4 y5 y6 y7 y8 y9 y10 fz
      refine bodyPost_ret (v:=.tuple #[.agg (rcC r (.slice sa r.spans.length sc) (.slice da r.data.length dc)),.int .i64 (8+(V:Int))]) (by simp[results,Tryz.results75,go_sem,rcC,hlv];try omega) rfl ?_
      show RdPost (fsR zs) w _ _
      rw[HQ.out]
      exact⟨sa,da,sc,dc,rfl,own_base6 (own_keep6 HS4.out hrg (by intro j hj;have:=(HS4.out.lt j hj).1;simp;omega)) HB3.out.size,own_base6 (own_keep6 HD4.out hrg (by intro j hj;have:=(HD4.out.lt j hj).1;simp;omega)) HB3.out.size,HPT.out,HB4.out.grown hrg HB4.out.size (by simp)⟩
    ·have HQ:Hid (fsR zs=(rz0,0)):=fsR_sum HNL.out.1 HNX.out HV.out (by rw[HU.out];intro e;exact h3 (HX.out.trans e))
     go_upto_region 5 with (go_at_call 103;refine(HSUM.out _ HB3.out).mono ?_;rintro e w' ⟨rfl,rfl⟩)
     obtain⟨y0,y1,y2,y3,y4,y5,y6,y7,y8,y9,y10⟩:=rc_cells HZ3.out
     have fz:=rc_frozen HZ3.out
     go_wp2_with fail
     change bodyPost _ _ _ _ _ (rS wc w.heap.size rz0 (.slice none 0 0) (.slice none 0 0))
     have hlv:=λj=>cell_of_row _ w.heap.size j _ _ _ (rS_heap wc w.heap.size rz0 rz0 (.slice none 0 0) (.slice none 0 0) _ _ HZ3.out)
     have hrg:=rS_grown wc w.heap.size rz0 (.slice none 0 0) (.slice none 0 0)
     generalize rS wc w.heap.size rz0 (.slice none 0 0) (.slice none 0 0)=WF at*
     clear y0 y1 y2 y3 y4 y5 y6 y7 y8 y9 y10 fz
     refine bodyPost_ret (v:=.tuple #[.agg (rcC rz0 (.slice none 0 0) (.slice none 0 0)),.int .i64 0]) (by simp[results,Tryz.results75,go_sem,rcC,hlv]) rfl ?_
     show RdPost (fsR zs) w _ _
     rw[HQ.out]
     exact⟨none,none,0,0,rfl,C.SOwn.nil _ _,World.ownsRow_nil _ _ _ _,λj hj=>by simp[Value.ownBlock] at hj,HB3.out.grown hrg HB3.out.size (by simp)⟩
theorem first_any (a:Option Addr) (zs:List Int) (n c:Nat) (w:World) (hT:Tab6 w) (hb:Bytey zs) (hl:zs.length=n) (hnc:n<= c) (hc:c<= 9223372036854775807) (hm:n<= 1099511627776) (hz:Lies .u8 w a zs):
 Calls Tryz.prog 75 #[.slice a n c] w (RdPost (fsR zs) w):=by
 by_cases h8:n < 8
 ·exact first_short a zs n c w hl h8
 ·rcases hz with h0|⟨g,off,rfl,hz⟩
  ·rw[h0] at hl;simp at hl;omega
  ·exact first_long g off zs n c w hT hb hl hnc hc (by omega) hm hz
def ScPost (q:List Rc×Nat) (w:World) (e:Ending) (w':World):Prop:=
 ∃v os,e=.returned (.tuple #[v,.int .i64 q.2])/\ Rl w' w.heap.size v os/\ os.map Ro.r=q.1/\ Below w.heap.size w w'
theorem Tryz.info_rec:(Tryz.prog.info? 81).map (λi=>(i.zero,i.size,i.bytes))=some (some (.agg (rcC rz0 (.slice none 0 0) (.slice none 0 0))),11,120):=by kernel_rfl
theorem rec_lit (W:World) (r:Rc) (sv dv:Value):∀j u,(rcC r sv dv).toList[j]?=some u-> (W.alloc (rcO r sv dv)).cell? ((⟨W.heap.size,0,none⟩:Addr).add j)=some u:=by
 intro j u hj
 have h1:=cell_of_row _ W.heap.size j _ _ _ (heap_new6 W (rcO r sv dv))
 rw[show (⟨W.heap.size,0,none⟩:Addr).add j=⟨W.heap.size,j,none⟩ from by unfold Addr.add;split<;>simp_all,h1]
 rw[Array.getElem?_toList] at hj
 exact hj
theorem rec_one (r:Rc) (sa da:Option Addr) (ns nd sc dc:Nat):∀u∈(rcC r (.slice sa ns sc) (.slice da nd dc)).toList,u.oneCell'=true:=by
 intro u hu
 simp at hu
 rcases hu with rfl|rfl|rfl|rfl|rfl|rfl|rfl|rfl|rfl|rfl|rfl<;>rfl
theorem scan_any (ad:Option Addr) (zs:List Int) (n c:Nat) (w:World) (hT:Tab6 w) (hb:Bytey zs) (hl:zs.length=n) (hnc:n<= c) (hc:c<= 9223372036854775807) (hm:n<= 1099511627776) (hz:Lies .u8 w ad zs) (had:ad=none/\ c=0∨∃g off,ad=some ⟨g,off,none⟩):
 Calls Tryz.prog 41 #[.slice ad n c] w (ScPost (scR zs) w):=by
 obtain⟨i0,hi0,hz0,hy0,hb0⟩:=info_parts Tryz.info_rec
 have HT:Hid (Tab6 w):=hT
 have HBY:Hid (Bytey zs):=hb
 have HL:Hid (zs.length=n):=hl
 have HZ:Hid (Lies .u8 w ad zs):=hz
 clear hT hb hl hz
 go_enter Tryz.func41,Tryz.ntmps41
 go_wp2_with fail
 go_loopw [4,5] (λv p wr=>∃(os:List Ro) (t:Nat),p=.int .i64 t/\ Scd zs (os.map Ro.r) t/\ Rl wr w.heap.size v os/\ Below w.heap.size w wr) (λ_ p _=>n - (intOf p).toNat)
 case atStart=>exact⟨[],0,rfl,Scd.start _,Rl.start _ _,Below.refl _ _⟩
 case round=>
  obtain⟨os,t,rfl,hsc,hrl,hbw⟩:=hrel
  have hcnt:=hsc.cnt
  have hlen:=hsc.len
  rw[List.length_map] at hcnt
  rw[HL.out] at hlen
  have HSC:Hid (Scd zs (os.map Ro.r) t):=hsc
  have HRL:Hid (Rl wr w.heap.size u4 os):=hrl
  have HBW:Hid (Below w.heap.size w wr):=hbw
  obtain⟨r,k,hq⟩:∃r k,fsR (zs.drop t)=(r,k):=⟨_,_,rfl⟩
  have HQ1:Hid (r=(fsR (zs.drop t)).1):=by rw[hq];rfl
  have HQ2:Hid (k=(fsR (zs.drop t)).2):=by rw[hq];rfl
  have hbd:=fsR_bd (bytDrop HBY.out t)
  rw[hq,List.length_drop,HL.out] at hbd
  have HKT:Hid (k≠0-> 8<= k/\ k<= n - t):=λh=>by rcases hbd with q|q;exact absurd q h;exact⟨q.1,by omega⟩
  have HSM:Hid (r.data.length<= 65536/\ r.spans.length<= 500):=by have:=fs_small (bytDrop HBY.out t);rw[hq] at this;exact this
  have HFA:Hid (∀a',Lies .u8 wr a' (zs.drop t)-> Calls Tryz.prog 75 #[.slice a' (n - t) (c - t)] wr (RdPost (r,k) wr)):=λa' ha'=>by
   have:=first_any a' (zs.drop t) (n - t) (c - t) wr (HT.out.below hbw (tab6_pos HT.out)) (bytDrop HBY.out t) (by rw[List.length_drop,HL.out]) (by omega) (by omega) (by omega) ha'
   rw[hq] at this
   exact this
  have ht1:(t:Int)<= (n:Int):=by omega
  have ht2:(t:Int)<= (c:Int):=by omega
  have HAPP:Hid True:=trivial
  have HNEW:Hid True:=trivial
  have hLz:=HZ.out.below hbw
  clear hsc hrl hbw hq hbd
  rcases had with ⟨rfl,rfl⟩|⟨g,off,rfl⟩
  ·obtain rfl:n=0:=by omega
   obtain rfl:t=0:=by omega
   have HF:=HFA.out none (.inl (by rw[List.drop_zero];exact List.eq_nil_of_length_eq_zero HL.out))
   have HF:Hid (Calls Tryz.prog 75 #[.slice none 0 0] wr (RdPost (r,k) wr)):=HF
   clear HFA hLz
   have h0:k=0:=by
    by_cases h:k=0
    ·exact h
    ·have:=HKT.out h;omega
   have HE:Hid (scR zs=(os.map Ro.r,0)):=HSC.out.fin (by rw[←HQ2.out];exact h0)
   clear HAPP HNEW
   go_wp2_with (go_at_call 75;refine HF.out.mono ?_;rintro e w4 ⟨sa,da,sc,dc,rfl,hso,hdo,hpt,hb4⟩)
   refine bodyPost_ret (v:=.tuple #[u4,.int .i64 0]) (by simp[results,Tryz.results41,go_sem]) rfl ?_
   show ScPost (scR zs) w _ _
   rw[HE.out]
   exact⟨_,os,rfl,(HRL.out.keep hb4).keep ((Below.refl _ _).alloc (aqH _) _),rfl,(HBW.out.trans (hb4.mono HBW.out.size)).alloc (Nat.le_trans HBW.out.size hb4.size) _⟩
  ·by_cases hct:c=t
   ·subst hct
    obtain rfl:n=c:=by omega
    have HF:Hid (Calls Tryz.prog 75 #[.slice (some ⟨g,off,none⟩) 0 0] wr (RdPost (r,k) wr)):=by have:=HFA.out (some ⟨g,off,none⟩) (.inl (List.drop_eq_nil_of_le (by rw[HL.out];exact aqH _)));rw[Nat.sub_self] at this;exact this
    clear HFA hLz
    have h0:k=0:=by
     by_cases h:k=0
     ·exact h
     ·have:=HKT.out h;omega
    have HE:Hid (scR zs=(os.map Ro.r,n)):=HSC.out.fin (by rw[←HQ2.out];exact h0)
    clear HAPP HNEW
    go_wp2_with (go_at_call 75;refine HF.out.mono ?_;rintro e w4 ⟨sa,da,sc,dc,rfl,hso,hdo,hpt,hb4⟩)
    refine bodyPost_ret (v:=.tuple #[u4,.int .i64 n]) (by simp[results,Tryz.results41,go_sem]) rfl ?_
    show ScPost (scR zs) w _ _
    rw[HE.out]
    exact⟨_,os,rfl,(HRL.out.keep hb4).keep ((Below.refl _ _).alloc (aqH _) _),rfl,(HBW.out.trans (hb4.mono HBW.out.size)).alloc (Nat.le_trans HBW.out.size hb4.size) _⟩
   ·have HF:Hid (Calls Tryz.prog 75 #[.slice (some ⟨g,off+t,none⟩) (n - t) (c - t)] wr (RdPost (r,k) wr)):=HFA.out (some ⟨g,off+t,none⟩) (by
     rcases hLz with h0|⟨g',off',he,hce⟩
     ·left;rw[h0];simp
     ·simp only[aqG,Addr.mk.injEq,and_true] at he
      obtain⟨rfl,rfl⟩:=he
      refine .inr ⟨g,off+t,rfl,λi hi=>?_⟩
      rw[List.length_drop] at hi
      have h1:=hce (t+i) (by omega)
      rw[List.getD_eq_getElem?_getD,List.getElem?_drop,←List.getD_eq_getElem?_getD,show off+t+i=off+(t+i) by omega]
      exact h1)
    clear HFA hLz
    by_cases h0:k=0
    ·have HE:Hid (scR zs=(os.map Ro.r,t)):=HSC.out.fin (by rw[←HQ2.out];exact h0)
     clear HAPP HNEW
     go_wp2_with (go_at_call 75;refine HF.out.mono ?_;rintro e w4 ⟨sa,da,sc,dc,rfl,hso,hdo,hpt,hb4⟩)
     refine bodyPost_ret (v:=.tuple #[u4,.int .i64 t]) (by simp[results,Tryz.results41,go_sem]) rfl ?_
     show ScPost (scR zs) w _ _
     rw[HE.out]
     exact⟨_,os,rfl,(HRL.out.keep hb4).keep ((Below.refl _ _).alloc (aqH _) _),rfl,(HBW.out.trans (hb4.mono HBW.out.size)).alloc (Nat.le_trans HBW.out.size hb4.size) _⟩
    ·have hkt:=HKT.out h0
     go_upto_region 6 with (go_at_call 75;refine HF.out.mono ?_;rintro e w4 ⟨sa,da,sc,dc,rfl,hso,hdo,hpt,hb4⟩)
     have hs4:=hb4.size
     have HX4:Hid ((w4.alloc (rcO r (.slice sa r.spans.length sc) (.slice da r.data.length dc))).heap[w4.heap.size]?=some (rcO r (.slice sa r.spans.length sc) (.slice da r.data.length dc))):=heap_new6 w4 _
     have HB4:Hid (Below wr.heap.size wr (w4.alloc (rcO r (.slice sa r.spans.length sc) (.slice da r.data.length dc)))):=hb4.alloc hb4.size _
     have HS4:Hid (C.SOwn (w4.alloc (rcO r (.slice sa r.spans.length sc) (.slice da r.data.length dc))) wr.heap.size (.slice sa r.spans.length sc) r.spans):=World.ownsRow.alloc hso _
     have HD4:Hid ((w4.alloc (rcO r (.slice sa r.spans.length sc) (.slice da r.data.length dc))).ownsRow wr.heap.size 5 1 (.slice da r.data.length dc) r.data.length (r.data.map (Value.int .u8))):=hdo.alloc _
     have HPT:Hid (∀j,(Value.slice sa r.spans.length sc).ownBlock=some j-> (Value.slice da r.data.length dc).ownBlock≠some j):=hpt
     clear hso hdo hpt hb4 HF
     generalize w4.alloc (rcO r (.slice sa r.spans.length sc) (.slice da r.data.length dc))=w5 at*
     obtain⟨x0,x1,x2,x3,x4,x5,x6,x7,x8,x9,x10⟩:=rc_cells HX4.out
     have HR5:Hid ((w5.alloc (rcO r (.slice sa r.spans.length sc) (.slice da r.data.length dc))).ownsRow w.heap.size 81 11 u4 os.length (rlC os)):=(own_below6 HRL.out.row HB4.out).alloc _
     have HB5:Hid (Below wr.heap.size wr (w5.alloc (rcO r (.slice sa r.spans.length sc) (.slice da r.data.length dc)))):=HB4.out.alloc HB4.out.size _
     have hsz5:wr.heap.size<= w5.heap.size:=HB4.out.size
     have HLO:Hid (w.heap.size<= wr.heap.size):=HBW.out.size
     go_wp2_with (at_builtin;refine wpList_append_own_at _ rfl _ _ 34 rfl w.heap.size 81 i0 _ 11 120 Tryz.underlying34 hi0 hz0 hy0 hb0 rfl (by decide) _ _ _ rfl HR5.out ⟨w5.heap.size,0,none⟩ 1 1 (rcC r (.slice sa r.spans.length sc) (.slice da r.data.length dc)).toList rfl rfl (rec_lit _ _ _ _) (rec_one _ _ _ _ _ _ _) (by unfold maxLen;omega) (by omega) (by have:=HLO.out;simp;omega) ?_;intro v6 w6 o6 g6 _ t6)
     have HRN:Hid (Rl w6 w.heap.size v6 (os++[⟨r,sa,da,sc,dc⟩])):=HRL.out.push HLO.out HB5.out ⟨r,sa,da,sc,dc⟩ (World.ownsRow.alloc HS4.out _) (HD4.out.alloc _) HPT.out HSM.out g6 o6 (λj hj=>by
      rcases t6 with q|q
      ·left;exact q.symm.trans hj
      ·right;rw[q] at hj;simp at hj;simp;omega)
     have HBN:Hid (Below w.heap.size w w6):=(HBW.out.trans (HB5.out.mono HLO.out)).grown g6 (by simp;have:=HLO.out;omega) (λj hj=>(HRL.out.row.lt j hj).1)
     have HSN:Hid (Scd zs ((os++[(⟨r,sa,da,sc,dc⟩:Ro)]).map Ro.r) (t+k.toNat)):=by
      have:=HSC.out.step HBY.out (by rw[←HQ2.out];exact h0)
      rw[←HQ1.out,←HQ2.out] at this
      rw[List.map_append]
      exact this
     clear o6 g6 t6 x0 x1 x2 x3 x4 x5 x6 x7 x8 x9 x10
     go_wp2
     go_roundw
     case rel=>exact⟨os++[⟨r,sa,da,sc,dc⟩],t+k.toNat,by first|rfl|(congr 1;omega),HSN.out,HRN.out,HBN.out⟩
     case measure=>simp[intOf];omega
end Go.Proofs.YtllhbhogfffedaaGreatDoor
namespace Go.Proofs.YtllhbhogfffedaaGreatDoor.K
open Go.RowKit
set_option linter.unusedVariables false
set_option linter.unusedSimpArgs false
structure Opn where
 d:Dk
 r:Nat
 l:List Rc
 n:Nat
 k:Nat
def opC (D:Dk) (bs:List Int):Opn:=
 if (scR bs).2 < bs.length then
  if (fileD D jN (λi=>cutF D.fs i ((scR bs).2:Nat))).2=0 then ⟨(fileD D jN (λi=>cutF D.fs i ((scR bs).2:Nat))).1,0,(scR bs).1,(scR bs).2,0⟩
  else ⟨(fileD D jN (λi=>cutF D.fs i ((scR bs).2:Nat))).1,(fileD D jN (λi=>cutF D.fs i ((scR bs).2:Nat))).2,[],0,0⟩
 else ⟨D,0,(scR bs).1,(scR bs).2,(scR bs).2⟩
def opB (D:Dk):Opn:=if rmE (rdN D jN)=0 then opC D (rdB D jN) else ⟨D,rmE (rdN D jN),[],0,0⟩
def rmD (D:Dk):Dk×Nat:=fileD D jnN (λi=>D.fs.eraseIdx i)
def opX (D:Dk):Opn:=if rmE (rmD D).2=0 then opB (rmD D).1 else ⟨(rmD D).1,rmE (rmD D).2,[],0,0⟩
theorem rmE_le {r:Nat} (h:r<= 3):rmE r<= 2:=by unfold rmE;split<;>omega
theorem opX_r (D:Dk):(opX D).r<= 3:=by
 unfold opX
 split
 ·unfold opB
  split
  ·unfold opC
   split
   ·split
    ·exact Nat.zero_le _
    ·exact fileD_r ..
   ·exact Nat.zero_le _
  ·exact Nat.le_trans (rmE_le (rdN_r ..)) (by omega)
 ·exact Nat.le_trans (rmE_le (fileD_r ..)) (by omega)
def Jd (Bs:List Int) (D:Dk):Prop:=∃bs,(bs=Bs∨bs=Bs.take (scR Bs).2)/\ (D.fs=[⟨jN,bs,(bs.length:Int)⟩]∨∃L s,D.fs=[⟨jN,bs,(bs.length:Int)⟩,⟨jnN,L,s⟩])
structure Jo (Bs:List Int) (D:Dk) (O:Opn):Prop where
 jd:Jd Bs O.d
 arm:O.d.arm=D.arm
 or:(O.r=0/\ O.l=(scR Bs).1/\ O.n=(scR Bs).2/\ O.d.fs=[⟨jN,Bs.take (scR Bs).2,((scR Bs).2:Int)⟩]/\ O.d.dw=false)∨(O.r=2/\ D.arm=true)
theorem evD_some {aD aF aN:Addr} {r:Nat} (h:r≠0):∃a,evD aD aF aN r=.iface 218 (.pointer (some a)):=by
 unfold evD
 rw[if_neg h]
 split
 ·exact⟨_,rfl⟩
 ·split<;>exact⟨_,rfl⟩
theorem rd_get {D:Dk} {s:ByteArray}:rdB D s=[]∨∃(i:Nat) (f:Fl),D.fs[i]?=some f/\ rdB D s=f.bs:=by
 unfold rdB
 split
 ·exact .inl rfl
 ·split
  ·exact .inl rfl
  ·rename_i i _
   cases h:D.fs[i]? with
   |none=>exact .inl rfl
   |some f=>exact .inr ⟨i,f,h,rfl⟩
theorem rd_byt {D:Dk} {B:Nat} (h:D.Ok B) (s:ByteArray):Bytey (rdB D s)/\ (rdB D s).length<= B:=by
 rcases rd_get (D:=D) (s:=s) with e|⟨i,f,hf,e⟩
 ·rw[e];exact⟨λz hz=>(by cases hz),Nat.zero_le _⟩
 ·rw[e]
  exact⟨(h.fs f (List.mem_of_getElem? hf)).byt,Nat.le_trans (usd_get hf) h.used⟩
theorem own_low7 {w:World} {b b' n sz:Nat} {e:TypeId} {v:Value} {xs:List Value} (h:w.ownsRow b e sz v n xs) (hb:b'<= b):w.ownsRow b' e sz v n xs:=by
 obtain⟨h1,h2⟩:=h
 refine⟨h1,?_⟩
 rcases h2 with h2|⟨g,cap,cur,hv,hg,r⟩
 ·exact .inl h2
 ·exact .inr ⟨g,cap,cur,hv,by omega,r⟩
theorem rl_keep {w w':World} {lo lo':Nat} {v:Value} {os:List Ro} (h:Rl w lo v os) (hl:lo'<= lo) (hb:∀k,lo<= k-> k < w.heap.size-> w'.heap[k]?=w.heap[k]?):Rl w' lo' v os:=
 ⟨⟨λp hp=>own_low7 (d_blk (h.fam.own p hp) (λg hg=>hb g (h.lt hp hg).1 (h.lt hp hg).2)) hl,h.fam.sep,h.fam.new⟩,h.sml⟩
theorem Snt.fc {w V:World} {F:Nat-> Prop} {aD aF aN:Addr} (h:Snt w F aD aF aN) (hk:Kd F w V):Snt V (K.fc (up F w) V) aD aF aN:=by
 have k:∀{a:Addr},((∃(ca:Array Value) (ta:TypeId),w.heap[a.block]?=some (.cells ca ta (0,0)))/\ ¬F a.block)-> ((∃(ca:Array Value) (ta:TypeId),V.heap[a.block]?=some (.cells ca ta (0,0)))/\ ¬K.fc (up F w) V a.block):=λ⟨⟨ca,ta,hh⟩,hn⟩=>⟨⟨ca,ta,(hk.same _ (Array.getElem?_eq_some_iff.1 hh).1 hn).trans hh⟩,λq=>q.1.elim hn (λq=>by have:=(Array.getElem?_eq_some_iff.1 hh).1;omega)⟩
 have g:∀{b:Nat} {v:Value},w.cell? ⟨b,0,none⟩=some v-> ¬F b-> ¬K.fc (up F w) V b:=λhc hn q=>q.1.elim hn (λq=>by have:=World.block_lt_of_cell? w ⟨_,0,none⟩ hc;simp only at this;omega)
 exact⟨h.er.kd hk h.nf,⟨g h.er.d h.nf.1,g h.er.f h.nf.2.1,g h.er.n h.nf.2.2⟩,h.df,h.dn,h.fn,k h.cD,k h.cF,k h.cN⟩
theorem tab6_kd {w V:World} {F:Nat-> Prop} (h:Tab6 w) (hk:Kd F w V) (hn:¬F 4):Tab6 V:=λi hi=>hk.cell (h i hi) hn
theorem Kd.next {F G:Nat-> Prop} {a b c:World} (h:Kd F a b) (h':Kd G b c) (hg:∀k,G k-> F k∨a.heap.size<= k):Kd F a c:=
 ⟨h'.os.trans h.os,h'.tape.trans h.tape,h'.output.trans h.output,Nat.le_trans h.size h'.size,λk hk hn=>(h'.same k (Nat.lt_of_lt_of_le hk h.size) (λq=>(hg k q).elim hn (λq=>by omega))).trans (h.same k hk hn)⟩
theorem cell_lt {w:World} {b i:Nat} {v:Value} (h:w.cell? ⟨b,i,none⟩=some v):b < w.heap.size:=World.block_lt_of_cell? w ⟨b,i,none⟩ h
structure OpJ (w w':World) (d:Nat) (F':Nat-> Prop) (O:Opn) (pj v:Value):Prop where
 no:O.r≠0-> pj=.pointer none/\ v=.slice none 0 0
 yes:O.r=0-> ∃j os,pj=.pointer (some ⟨j,0,none⟩)/\ w.heap.size<= j/\ w'.heap[j]?=some (.cells #[.pointer (some ⟨d,0,none⟩),.int .i64 (O.n:Nat),.int .i64 (O.k:Nat),.bool false] 100)/\ ¬F' j/\ Rl w' w.heap.size v os/\ os.map Ro.r=O.l/\ ∀p k,p < 3+2*os.length-> (rlF v os p).v.ownBlock=some k-> ¬F' k/\ k≠j
def OpP (w:World) (d x:Nat) (F:Nat-> Prop) (O:Opn) (aD aF aN:Addr) (e:Ending) (w':World):Prop:=
 ∃pj v F',e=.returned (.tuple #[pj,v,evD aD aF aN O.r])/\ Dm w' x F' O.d/\ (∀k,F' k-> F k∨w.heap.size<= k)/\ Kd F w w'/\ OpJ w w' d F' O pj v
theorem OpP.err {w w':World} {d x:Nat} {F F':Nat-> Prop} {O:Opn} {aD aF aN:Addr} {e:Ending} {ev:Value} {r:Nat} (hr:O.r=r) (hr0:r≠0) (hev:evD aD aF aN r=ev) (he:e=.returned (.tuple #[.pointer none,.slice none 0 0,ev])) (hD:Dm w' x F' O.d) (hF:∀k,F' k-> F k∨w.heap.size<= k) (hK:Kd F w w'):OpP w d x F O aD aF aN e w':=
 ⟨_,_,F',by rw[hr,hev];exact he,hD,hF,hK,⟨λ_=>⟨rfl,rfl⟩,λh=>absurd (hr.symm.trans h) hr0⟩⟩
theorem open_any (w:World) (d x:Nat) (F:Nat-> Prop) (D:Dk) (B:Nat) (aD aF aN:Addr) (h:Dm w x F D) (hk:D.Ok B) (hB:B<= 1099511627776) (hd:w.cell? ⟨d,0,none⟩=some (.pointer (some ⟨x,0,none⟩))) (nd:¬F d) (hS:Snt w F aD aF aN) (hT:Tab6 w) (nT:¬F 4):
 Calls Tryz.prog 12 #[.pointer (some ⟨d,0,none⟩)] w λe w'=>OpP w d x F (opX D) aD aF aN e w':=by
 have HR:=removeRest_any w d x F D B aD aF aN h hk hB hd nd hS
 obtain⟨O,hO⟩:∃O,opX D=O:=⟨_,rfl⟩
 have hok:(rmD D).1.Ok B:=ok_file hk (λi=>fsok_erase hk.files)
 have hr3:(rmD D).2<= 3:=fileD_r ..
 rw[hO]
 obtain⟨⟨D1,r0⟩,hR⟩:∃R:Dk×Nat,rmD D=R:=⟨_,rfl⟩
 unfold opX at hO
 rw[hR] at hO hok hr3
 rw[show fileD D jnN (λi=>D.fs.eraseIdx i)=(D1,r0) from hR] at HR
 simp only at hO hok hr3 HR
 by_cases hr:rmE r0=0
 case neg=>
  rw[if_neg hr] at hO
  have HO:Hid (O.d=D1/\ O.r=rmE r0):=by rw[←hO];exact⟨rfl,rfl⟩
  obtain⟨a,hev⟩:=evD_some (aD:=aD) (aF:=aF) (aN:=aN) hr
  have HEV:Hid (evD aD aF aN (rmE r0)=.iface 218 (.pointer (some a))/\ rmE r0≠0):=⟨hev,hr⟩
  rw[hev] at HR
  clear hev hO hok hr hd hS hT h hk hR hr3
  go_enter Tryz.func12,Tryz.ntmps12
  go_wp2_with (go_at_call 39;refine HR.mono ?_;rintro e w1 ⟨rfl,hD1,hK1⟩;have HW:Hid (Dm w1 x (up F w) D1/\ Kd F w w1):=⟨hD1,hK1⟩;clear hD1 hK1)
  refine bodyPost_ret (v:=.tuple #[.pointer none,.slice none 0 0,.iface 218 (.pointer (some a))]) (by simp[results,Tryz.results12,go_sem]) rfl ?_
  exact OpP.err HO.out.2 HEV.out.2 HEV.out.1 rfl (by rw[HO.out.1];exact HW.out.1) (λk q=>q) HW.out.2
 case pos=>
  rw[if_pos hr] at hO
  rw[hr,show evD aD aF aN 0=.nilIface from rfl] at HR
  have H0:Hid (w.cell? ⟨d,0,none⟩=some (.pointer (some ⟨x,0,none⟩))/\ ¬F d/\ Snt w F aD aF aN/\ Tab6 w/\ ¬F 4/\ D1.Ok B):=⟨hd,nd,hS,hT,nT,hok⟩
  have HO:Hid (opB D1=O):=hO
  clear hO hok hr hd hS hT h hk hR hr3 nd nT
  go_enter Tryz.func12,Tryz.ntmps12
  go_wp2_with fail
  refine HR.mono ?_
  clear HR
  rintro e w1 ⟨rfl,hDm,hK1⟩
  have hS1:=H0.out.2.2.1.fc hK1
  have hd1:=hK1.cell H0.out.1 H0.out.2.1
  have hT1:=tab6_kd H0.out.2.2.2.1 hK1 H0.out.2.2.2.2.1
  obtain⟨F1,hF1⟩:∃F1,fc (up F w) w1=F1:=⟨_,rfl⟩
  have hDm1:=hDm.fc
  rw[hF1] at hDm1 hS1
  have hw1:=hK1.size
  have nd1:¬F1 d:=λq=>by rw[←hF1] at q;exact q.1.elim H0.out.2.1 (λq=>by have:=cell_lt H0.out.1;omega)
  have HF1:Hid (∀k,F1 k-> (F k∨w.heap.size<= k)/\ k < w1.heap.size):=λk q=>by rw[←hF1] at q;exact q
  have HA:=jread_any w1 d x F1 D1 B aD aF aN hDm1 H0.out.2.2.2.2.2 hB hd1 hS1
  have H1:Hid (w1.cell? ⟨d,0,none⟩=some (.pointer (some ⟨x,0,none⟩))/\ ¬F1 d/\ Snt w1 F1 aD aF aN/\ Tab6 w1/\ Dm w1 x F1 D1/\ Kd F w w1):=⟨hd1,nd1,hS1,hT1,hDm1,hK1⟩
  obtain⟨hby,hbl⟩:=rd_byt H0.out.2.2.2.2.2 jN
  have hO:=HO.out
  unfold opB at hO
  unfold JrP at HA
  obtain⟨bs,hbs⟩:∃bs,rdB D1 jN=bs:=⟨_,rfl⟩
  rw[hbs] at hby hbl HA hO
  clear hDm hK1 hd1 nd1 hS1 hT1 hDm1 hF1 HO
  by_cases hr:rmE (rdN D1 jN)=0
  case neg=>
   rw[if_neg hr] at hO
   have HO:Hid (O.d=D1/\ O.r=rmE (rdN D1 jN)):=by rw[←hO];exact⟨rfl,rfl⟩
   obtain⟨a,hev⟩:=evD_some (aD:=aD) (aF:=aF) (aN:=aN) hr
   have HEV:Hid (evD aD aF aN (rmE (rdN D1 jN))=.iface 218 (.pointer (some a))/\ rmE (rdN D1 jN)≠0):=⟨hev,hr⟩
   rw[hev] at HA
   clear hev hO hr hby hbl hbs
   go_wp2_with (go_at_call 40;refine HA.mono ?_;rintro e w2 ⟨v2,rfl,ho2,hb2⟩;obtain⟨a2,c2,hv2⟩:=d_shape ho2;subst hv2;have HW:Hid (Below w1.heap.size w1 w2):=hb2;clear ho2 hb2)
   refine bodyPost_ret (v:=.tuple #[.pointer none,.slice none 0 0,.iface 218 (.pointer (some a))]) (by simp[results,Tryz.results12,go_sem]) rfl ?_
   exact OpP.err HO.out.2 HEV.out.2 HEV.out.1 rfl (by rw[HO.out.1];exact H1.out.2.2.2.2.1.below HW.out) (λk q=>(HF1.out k q).1) (H1.out.2.2.2.2.2.trans (Kd.below HW.out))
  case pos=>
   rw[if_pos hr] at hO
   rw[hr,show evD aD aF aN 0=.nilIface from rfl] at HA
   have HO:Hid (opC D1 bs=O):=hO
   clear hO hr
   go_wp2_with fail
   refine HA.mono ?_
   clear HA
   rintro e w2 ⟨v2,rfl,ho2,hb2⟩
   obtain⟨a2,c2,hv2⟩:=d_shape ho2
   subst hv2
   obtain⟨hz2,hn2,hc2,hl2⟩:=lies_own (own_low7 ho2 (Nat.zero_le _))
   have hcm:c2<= 9223372036854775807:=by
    obtain⟨_,⟨e,_⟩|⟨g,cap,cur,e,_,_,_,hm,_⟩⟩:=ho2
    ·obtain⟨_,_,e3⟩:=Value.slice.inj e;rw[e3];omega
    ·obtain⟨_,_,e3⟩:=Value.slice.inj e;rw[e3];exact hm
   have had:a2=none/\ c2=0∨∃g off,a2=some ⟨g,off,none⟩:=by
    obtain⟨_,⟨e,_⟩|⟨g,cap,cur,e,_⟩⟩:=ho2
    ·obtain⟨e1,_,e3⟩:=Value.slice.inj e;exact .inl ⟨e1,e3⟩
    ·obtain⟨e1,_,e3⟩:=Value.slice.inj e;exact .inr ⟨_,_,e1⟩
   have HS:=scan_any a2 bs bs.length c2 w2 (H1.out.2.2.2.1.below hb2 (tab6_pos H1.out.2.2.2.1)) hby rfl hc2 hcm (by omega) hz2 had
   have hsl:=scR_len hby
   have hw2:=hb2.size
   unfold ScPost at HS
   have H2:Hid (Below w1.heap.size w1 w2):=hb2
   clear ho2 hb2 hz2 hn2 had hcm
   have hO:=HO.out
   unfold opC at hO
   clear HO
   obtain⟨⟨ql,qn⟩,hq⟩:∃q:List Rc×Nat,scR bs=q:=⟨_,rfl⟩
   rw[hq] at HS hsl hO
   simp only at HS hsl hO
   obtain⟨m,hm⟩:∃m,bs.length=m:=⟨_,rfl⟩
   rw[hm] at hO hsl hbl hl2 hc2 HS ⊢
   clear hm hq hbs hby
   go_wp2_with fail
   refine HS.mono ?_
   clear HS
   rintro e w3 ⟨v3,os,rfl,hrl,hom,hb3⟩
   obtain⟨a3,c3,hv3⟩:=d_shape hrl.row
   have hw3:=hb3.size
   have HW3:Hid (Rl w3 w2.heap.size v3 os/\ os.map Ro.r=ql/\ Below w1.heap.size w1 w3):=⟨hrl,hom,H2.out.trans (hb3.mono hw2)⟩
   clear hrl hom hb3 H2
   by_cases hlt:qn < m
   case neg=>
    rw[if_neg hlt] at hO
    have HO:Hid (O=⟨D1,0,ql,qn,qn⟩):=hO.symm
    have hle:¬(qn:Int) < (m:Int):=by omega
    clear hO hlt
    obtain⟨nos,hnos⟩:∃nos,os.length=nos:=⟨_,rfl⟩
    rw[hnos] at hv3
    clear hnos
    have HV3:Hid (Value.slice a3 nos c3=v3):=hv3.symm
    rw[hv3]
    clear hv3
    go_wp2
    refine bodyPost_ret (v:=.tuple #[.pointer (some ⟨w3.heap.size,0,none⟩),.slice a3 nos c3,.nilIface]) (by simp[results,Tryz.results12,go_sem]) rfl ?_
    have hb4:Below w3.heap.size w3 (w3.alloc (.cells #[.pointer (some ⟨d,0,none⟩),.int .i64 qn,.int .i64 qn,.bool false] 100)):=(Below.refl _ _).alloc (aqH _) _
    rw[HO.out]
    refine⟨_,v3,F1,by rw[HV3.out];rfl,(H1.out.2.2.2.2.1.below HW3.out.2.2).below hb4,λk q=>(HF1.out k q).1,(H1.out.2.2.2.2.2.trans (Kd.below HW3.out.2.2)).trans (Kd.below hb4),λh=>absurd rfl h,λ_=>⟨w3.heap.size,os,rfl,by omega,heap_new6 w3 _,λq=>by have:=(HF1.out _ q).2;omega,rl_keep HW3.out.1 (by omega) (λk _ hk=>hb4.block k hk),HW3.out.2.1,λp k hp hk=>?_⟩⟩
    have:=HW3.out.1.lt hp hk
    exact⟨λq=>by have:=(HF1.out _ q).2;omega,by omega⟩
   case pos=>
    rw[if_pos hlt] at hO
    have hle:(qn:Int) < (m:Int):=by omega
    have hdm3:Dm w3 x F1 D1:=H1.out.2.2.2.2.1.below HW3.out.2.2
    have hS3:=H1.out.2.2.1.kd (Kd.below HW3.out.2.2)
    have HC:=dCut_any w3 d x F1 D1 jN (qn:Nat) B aD aF aN hdm3 H0.out.2.2.2.2.2 hB (bel_cell HW3.out.2.2 H1.out.1) H1.out.2.1 hS3.er hS3.nf
    obtain⟨⟨D2,r2⟩,hR2⟩:∃R:Dk×Nat,fileD D1 jN (λi=>cutF D1.fs i (qn:Nat))=R:=⟨_,rfl⟩
    unfold MP at HC
    rw[hR2] at HC hO
    simp only at HC hO
    unfold jN at HC
    have HR2:Hid True:=trivial
    clear hdm3 hS3 hR2
    obtain⟨nos,hnos⟩:∃nos,os.length=nos:=⟨_,rfl⟩
    rw[hnos] at hv3
    clear hnos
    have HV3:Hid (Value.slice a3 nos c3=v3):=hv3.symm
    rw[hv3]
    clear hv3 hlt
    by_cases hr:r2=0
    case neg=>
     rw[if_neg hr] at hO
     have HO:Hid (O.d=D2/\ O.r=r2):=by rw[←hO];exact⟨rfl,rfl⟩
     obtain⟨a,hev⟩:=evD_some (aD:=aD) (aF:=aF) (aN:=aN) hr
     have HEV:Hid (evD aD aF aN r2=.iface 218 (.pointer (some a))/\ r2≠0):=⟨hev,hr⟩
     rw[hev] at HC
     clear hev hO hr
     go_wp2_with (go_at_call 42;refine HC.mono ?_;rintro e w4 ⟨rfl,hD4,hK4⟩;have HW:Hid (Dm w4 x (up F1 w3) D2/\ Kd F1 w3 w4):=⟨hD4,hK4⟩;clear hD4 hK4)
     refine bodyPost_ret (v:=.tuple #[.pointer none,.slice none 0 0,.iface 218 (.pointer (some a))]) (by simp[results,Tryz.results12,go_sem]) rfl ?_
     exact OpP.err HO.out.2 HEV.out.2 HEV.out.1 rfl (by rw[HO.out.1];exact HW.out.1) (λk q=>Or.elim q (λq=>(HF1.out k q).1) (λq=>.inr (by omega))) (Kd.next (H1.out.2.2.2.2.2.trans (Kd.below HW3.out.2.2)) HW.out.2 (λk q=>(HF1.out k q).1))
    case pos=>
     rw[if_pos hr] at hO
     have HO:Hid (O=⟨D2,0,ql,qn,0⟩):=hO.symm
     rw[hr,show evD aD aF aN 0=.nilIface from rfl] at HC
     clear hO hr
     go_wp2_with (go_at_call 42;refine HC.mono ?_;rintro e w4 ⟨rfl,hD4,hK4⟩;have HW:Hid (Dm w4 x (up F1 w3) D2/\ Kd F1 w3 w4):=⟨hD4,hK4⟩;clear hD4 hK4)
     refine bodyPost_ret (v:=.tuple #[.pointer (some ⟨w4.heap.size,0,none⟩),.slice a3 nos c3,.nilIface]) (by simp[results,Tryz.results12,go_sem]) rfl ?_
     have hw4:=HW.out.2.size
     have hb5:Below w4.heap.size w4 (w4.alloc (.cells #[.pointer (some ⟨d,0,none⟩),.int .i64 qn,.int .i64 0,.bool false] 100)):=(Below.refl _ _).alloc (aqH _) _
     rw[HO.out]
     refine⟨_,v3,fc (up F1 w3) w4,by rw[HV3.out];rfl,HW.out.1.fc.below hb5,λk q=>Or.elim q.1 (λq=>(HF1.out k q).1) (λq=>.inr (by omega)),(Kd.next (H1.out.2.2.2.2.2.trans (Kd.below HW3.out.2.2)) HW.out.2 (λk q=>(HF1.out k q).1)).trans (Kd.below hb5),λh=>absurd rfl h,λ_=>⟨w4.heap.size,os,rfl,by omega,heap_new6 w4 _,λq=>by have:=q.2;omega,rl_keep HW3.out.1 (by omega) (λk hk1 hk2=>(hb5.block k (by omega)).trans (HW.out.2.same k hk2 (λq=>by have:=(HF1.out _ q).2;omega))),HW3.out.2.1,λp k hp hk=>?_⟩⟩
     have:=HW3.out.1.lt hp hk
     exact⟨λq=>Or.elim q.1 (λq=>by have:=(HF1.out _ q).2;omega) (λq=>by omega),by omega⟩
end Go.Proofs.YtllhbhogfffedaaGreatDoor.K
namespace Go.Proofs.YtllhbhogfffedaaGreatDoor.C
open Go.RowKit Go.Shelf
set_option linter.unusedVariables false
set_option linter.unusedSimpArgs false
theorem Spa.drewN7 {w:World} {a:Option Addr} {l:List Sp} (h:Spa w a l) (n:Nat):Spa (w.drewN n) a l:=h
def Lp57 (Z:World) (N:Nat) (v:Value) (w:World):Prop:=∃p nd:Nat,v=.int .i64 p/\ p<= N/\ w=Z.drewN nd
theorem lp57 {Z:World} {N p nd:Nat} {v:Value} (hv:v=.int .i64 p) (h:p<= N):Lp57 Z N v (Z.drewN nd):=⟨p,nd,hv,h,rfl⟩
theorem sameSpans7_eq (a b:Option Addr) (c d n:Nat) (l:List Sp) (w:World) (hn:l.length=n) (hm:n<= 4611686018427387903) (h:Spa w a l) (h':Spa w b l):
 Calls Tryz.prog 89 #[.slice a n c,.slice b n d] w λe w'=>e=.returned (.bool true)/\ ∃nd,w'=w.drewN nd:=by
 have HN:Hid (l.length=n):=hn
 have HS:Hid (Spa w a l):=h
 have HS':Hid (Spa w b l):=h'
 clear hn h h'
 go_enter Tryz.func89,Tryz.ntmps89
 obtain⟨Z,hZ⟩:∃Z,w=Z:=⟨_,rfl⟩
 rw[hZ] at HS HS' ⊢
 clear hZ
 go_wp2_with fail
 go_loopw [5] (λv wr=>Lp57 Z n v wr) (λv _=>n - (intOf v).toNat)
 case atStart=>exact lp57 (nd:=0) (p:=0) rfl (by omega)
 case round=>
  obtain⟨k,nd,rfl,hk,hwr⟩:=hrel
  have HW:Hid (wr=Z.drewN nd):=hwr
  have HA:Hid (Spa wr a l):=by show Spa _ _ _;rw[hwr];exact HS.out.drewN7 _
  have HA':Hid (Spa wr b l):=by show Spa _ _ _;rw[hwr];exact HS'.out.drewN7 _
  clear hwr
  by_cases hlt:k=n
  ·subst hlt
   have hz:¬(k:Int) < (k:Int):=by omega
   go_wp2
   go_ret
   exact⟨rfl,_,HW.out⟩
  ·have hlt':(k:Int) < (n:Int):=by omega
   have hwk:IntKind.i64.wrap ((k:Int)+1)=(k:Int)+1:=by rw[IntKind.wrap_i64];omega
   obtain⟨⟨p1,p2⟩,hp⟩:∃p,l[k]?=some p:=⟨_,List.getElem?_eq_getElem (by rw[HN.out];omega)⟩
   obtain⟨g,off,rfl,q1,q2⟩:=HA.out.at hp
   obtain⟨g',off',rfl,r1,r2⟩:=HA'.out.at hp
   simp only at q1 q2 r1 r2
   clear hp
   go_wp2_with fail
   go_quiet (fail)
   go_wp2
   exact⟨by rw[HW.out,World.drewN_drewN];exact lp57 (p:=k+1) (by simp) (by omega),by simp[intOf];omega⟩
end Go.Proofs.YtllhbhogfffedaaGreatDoor.C
namespace Go.Proofs.YtllhbhogfffedaaGreatDoor
open Go.RowKit
set_option linter.unusedVariables false
set_option linter.unusedSimpArgs false
theorem conv7 (W:World) (a:Option Addr) (n cap:Nat) (xs:List Int) (hl:xs.length=n) (hc:Lies .u8 W a xs):
 (convert 35 9 (.slice a n cap)).run Tryz.prog W=.ok (.string (strOfNums xs)) W:=by
 rcases hc with rfl|⟨b,off,rfl,h⟩
 ·obtain rfl:n=0:=by simpa using hl.symm
  cases a with
  |none=>exact run_convert_bytes_nil (P:=Tryz.prog) W 35 5 Tryz.underlying35 Tryz.underlying5 0 cap 9 Tryz.underlying9
  |some x=>
   have hl0:=run_loadCells_list (P:=Tryz.prog) W x ([].map (Value.int .u8)) (λj v hj=>by simp at hj)
   rw[run_convert_bytes_string W 35 9 5 _ 0 cap Tryz.underlying35 Tryz.underlying5 Tryz.underlying9,run_bytesToString W x 0 cap [] hl0]
   rfl
 ·exact run_convert_bytes_arg (P:=Tryz.prog) W 35 5 Tryz.underlying35 Tryz.underlying5 b off n cap xs hl (λi hi=>h i (by omega)) 9 Tryz.underlying9
theorem sameRec7_eq (r:Rc) (sa da sb db:Option Addr) (ns nd sc dc tc ec:Nat) (w:World) (ha:RIn w r sa da ns nd sc dc) (hb:RIn w r sb db ns nd tc ec) (hns:ns<= 4611686018427387903):
 Calls Tryz.prog 55 #[.agg (rcC r (.slice sa ns sc) (.slice da nd dc)),.agg (rcC r (.slice sb ns tc) (.slice db nd ec))] w λe w'=>e=.returned (.bool true)/\ Below w.heap.size w w':=by
 have HB:Hid (Below w.heap.size w ((w.alloc (rcO r (.slice sa ns sc) (.slice da nd dc))).alloc (rcO r (.slice sb ns tc) (.slice db nd ec)))):=((Below.refl _ _).alloc (aqH _) _).alloc (by simp) _
 have HX:Hid (((w.alloc (rcO r (.slice sa ns sc) (.slice da nd dc))).alloc (rcO r (.slice sb ns tc) (.slice db nd ec))).heap[w.heap.size]?=some (rcO r (.slice sa ns sc) (.slice da nd dc))):=(((Below.refl _ _).alloc (aqH _) _).block _ (by simp)).trans (heap_new6 w _)
 have HY:Hid (((w.alloc (rcO r (.slice sa ns sc) (.slice da nd dc))).alloc (rcO r (.slice sb ns tc) (.slice db nd ec))).heap[w.heap.size+1]?=some (rcO r (.slice sb ns tc) (.slice db nd ec))):=by
  unfold Hid
  have:=heap_new6 (w.alloc (rcO r (.slice sa ns sc) (.slice da nd dc))) (rcO r (.slice sb ns tc) (.slice db nd ec))
  simpa using this
 have HRA:Hid (RIn w r sa da ns nd sc dc):=ha
 have HRB:Hid (RIn w r sb db ns nd tc ec):=hb
 clear ha hb
 go_enter Tryz.func55,Tryz.ntmps55
 go_wp2_with fail
 generalize (w.alloc (rcO r (.slice sa ns sc) (.slice da nd dc))).alloc (rcO r (.slice sb ns tc) (.slice db nd ec))=w1 at*
 have HSS:=C.sameSpans7_eq sa sb sc tc ns r.spans w1 HRA.out.spn (by omega) (HRA.out.spin w1 HB.out) (HRB.out.spin w1 HB.out)
 have hx:=rc_cells HX.out
 have hy:=rc_cells HY.out
 obtain⟨c0,c1,c2,c3,c4,c5,c6,c7,c8,c9,c10⟩:=hx
 obtain⟨d0,d1,d2,d3,d4,d5,d6,d7,d8,d9,d10⟩:=hy
 refine HSS.mono ?_
 rintro e w2 ⟨rfl,nd2,hw2⟩
 have HB2:Hid (Below w.heap.size w w2):=by rw[hw2];exact⟨HB.out.os,HB.out.tape,HB.out.output,HB.out.size,HB.out.block⟩
 have HX2:Hid (w2.heap[w.heap.size]?=some (rcO r (.slice sa ns sc) (.slice da nd dc))):=by rw[hw2];exact HX.out
 have HY2:Hid (w2.heap[w.heap.size+1]?=some (rcO r (.slice sb ns tc) (.slice db nd ec))):=by rw[hw2];exact HY.out
 clear hw2 c0 c1 c2 c3 c4 c5 c6 c7 c8 c9 c10 d0 d1 d2 d3 d4 d5 d6 d7 d8 d9 d10
 obtain⟨c0,c1,c2,c3,c4,c5,c6,c7,c8,c9,c10⟩:=rc_cells HX2.out
 obtain⟨d0,d1,d2,d3,d4,d5,d6,d7,d8,d9,d10⟩:=rc_cells HY2.out
 have k1:=conv7 w2 da nd dc r.data HRA.out.dat (HRA.out.lie.below HB2.out)
 have k2:=conv7 w2 db nd ec r.data HRB.out.dat (HRB.out.lie.below HB2.out)
 generalize strOfNums r.data=S at*
 try simp only[List.append_eq,List.cons_append,List.nil_append]
 go_wp2
 go_ret
 exact⟨rfl,HB2.out⟩
theorem same7_eq (l:List Rc) (a b:Option Addr) (n ca cb:Nat) (w:World) (hn:l.length=n) (hm:n<= 140737488355328) (ha:RLin w a l) (hb:RLin w b l) (hsp:∀r∈l,r.spans.length<= 4611686018427387903):
 Calls Tryz.prog 24 #[.slice a n ca,.slice b n cb] w λe w'=>e=.returned (.bool true)/\ Below w.heap.size w w':=by
 have HA:Hid (RLin w a l):=ha
 have HB:Hid (RLin w b l):=hb
 have HN:Hid (l.length=n):=hn
 have HSP:Hid (∀r∈l,r.spans.length<= 4611686018427387903):=hsp
 clear ha hb hn hsp
 go_enter Tryz.func24,Tryz.ntmps24
 go_wp2_with fail
 go_loopw [5] (λi wr=>∃k:Nat,k<= n/\ i=.int .i64 k/\ Below w.heap.size w wr) (λi _=>n - (intOf i).toNat)
 case atStart=>exact⟨0,Nat.zero_le _,rfl,Below.refl _ _⟩
 case round=>
  obtain⟨k,hk,rfl,hbw⟩:=hrel
  have HBW:Hid (Below w.heap.size w wr):=hbw
  by_cases hlt:k < n
  ·have hkl:k < l.length:=by rw[HN.out];exact hlt
   obtain⟨r,hr⟩:∃r,l[k]?=some r:=⟨l[k],List.getElem?_eq_getElem hkl⟩
   obtain⟨g,off,sa,da,sc,dc,rfl,hc,hri⟩:=(HA.out.below hbw).at hr
   obtain⟨g',off',sb,db,tc,ec,rfl,hc',hri'⟩:=(HB.out.below hbw).at hr
   have c0:=hc 0 _ rfl
   have c1:=hc 1 _ rfl
   have c2:=hc 2 _ rfl
   have c3:=hc 3 _ rfl
   have c4:=hc 4 _ rfl
   have c5:=hc 5 _ rfl
   have c6:=hc 6 _ rfl
   have c7:=hc 7 _ rfl
   have c8:=hc 8 _ rfl
   have c9:=hc 9 _ rfl
   have c10:=hc 10 _ rfl
   have d0:=hc' 0 _ rfl
   have d1:=hc' 1 _ rfl
   have d2:=hc' 2 _ rfl
   have d3:=hc' 3 _ rfl
   have d4:=hc' 4 _ rfl
   have d5:=hc' 5 _ rfl
   have d6:=hc' 6 _ rfl
   have d7:=hc' 7 _ rfl
   have d8:=hc' 8 _ rfl
   have d9:=hc' 9 _ rfl
   have d10:=hc' 10 _ rfl
   simp only[Nat.add_zero] at c0 d0
   have hsr:=HSP.out r (List.mem_of_getElem? hr)
   have HS:Hid (∀W,Below wr.heap.size wr W-> Calls Tryz.prog 55 #[.agg (rcC r (.slice sa r.spans.length sc) (.slice da r.data.length dc)),.agg (rcC r (.slice sb r.spans.length tc) (.slice db r.data.length ec))] W λe w'=>e=.returned (.bool true)/\ Below W.heap.size W w'):=λW hW=>sameRec7_eq r sa da sb db _ _ sc dc tc ec W (hri.below hW) (hri'.below hW) hsr
   have HBN:Hid (∀W W',Below wr.heap.size wr W-> Below W.heap.size W W'-> Below w.heap.size w W'):=λW W' h1 h2=>(HBW.out.trans (h1.mono HBW.out.size)).trans (h2.mono (by have:=HBW.out.size;have:=h1.size;omega))
   have hlt':(k:Int) < (n:Int):=by omega
   clear hc hc' hri hri' hbw hr hsr
   generalize r.spans.length=ns at*
   generalize r.data.length=nd at*
   go_upto_region 6 with fail
   go_region_with (go_at_call 55;refine(HS.out _ (by first|exact Below.refl _ _|exact⟨rfl,rfl,rfl,aqH _,λ_ _=>rfl⟩)).mono ?_;rintro e w2 ⟨rfl,hb2⟩;have HB2:Hid (Below w.heap.size w w2):=HBN.out _ _ (by first|exact Below.refl _ _|exact⟨rfl,rfl,rfl,aqH _,λ_ _=>rfl⟩) hb2;clear hb2)
   all_goals
    clear c0 c1 c2 c3 c4 c5 c6 c7 c8 c9 c10 d0 d1 d2 d3 d4 d5 d6 d7 d8 d9 d10 HS HBN
    go_wp2
    go_roundw
    case rel=>exact⟨k+1,by omega,by go_num,HB2.out⟩
    case measure=>simp[intOf];omega
  ·have hlt':¬(k:Int) < (n:Int):=by omega
   clear hbw
   go_wp2
   go_ret
   exact⟨rfl,HBW.out⟩
end Go.Proofs.YtllhbhogfffedaaGreatDoor
