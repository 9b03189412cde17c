import Derived.Test.YtllhbhogfffedaaGreatDoorRcR21
import Derived.Test.YtllhbhogfffedaaGreatDoorRcFst
import Derived.Test.YtllhbhogfffedaaGreatDoorRcRd5
import Derived.Test.YtllhbhogfffedaaGreatDoorRcRf1
import Derived.Deep.RegionWith
import Derived.Deep.RegionHeld3
set_option maxHeartbeats 8000000
set_option maxRecDepth 100000
namespace Go.Proofs.YtllhbhogfffedaaGreatDoor
open Go.RowKit
set_option linter.unusedVariables false
set_option linter.unusedSimpArgs false
theorem run_snoc {s:Rc×Option (List Int)} {fs:List UInt8} {k:Nat} {c:UInt8} (h:fs[k]?=some c):runL s (fs.take (k+1))=upL (runL s (fs.take k)) c:=by
 unfold runL
 rw[List.take_add_one,h,List.foldl_append]
 rfl
theorem read2_any (a:Option Addr) (zs:List Int) (n c:Nat) (w:World) (hb:Bytey zs) (hl:zs.length=n) (hnc:n<= c) (hc:c<= 9223372036854775807) (hz:Lies .u8 w a zs):
 Calls Tryz.prog 62 #[.slice a n c] w (RdPost (rdR zs) w):=by
 have hb0:Below w.heap.size w (w.alloc (rcO rz0 (.slice none 0 0) (.slice none 0 0))):=(Below.refl _ _).alloc (aqH _) _
 have hz0:(w.alloc (rcO rz0 (.slice none 0 0) (.slice none 0 0))).heap[w.heap.size]?=some (rcO rz0 (.slice none 0 0) (.slice none 0 0)):=heap_new6 w _
 by_cases hlong:131072 < n
 ·have HQ:Hid (rdR zs=(rz0,2)):=by unfold Hid rdR;rw[if_pos (by omega)]
  have hlong':(131072:Int) < (n:Int):=by omega
  rw[HQ.out]
  go_enter Tryz.func62,Tryz.ntmps62
  go_wp2
  refine bodyPost_ret (v:=.tuple #[.agg (rcC rz0 (.slice none 0 0) (.slice none 0 0)),.int .i64 2]) (by simp[results,Tryz.results62,go_sem,rcC]) rfl ?_
  exact⟨none,none,0,0,rfl,C.SOwn.nil _ _,World.ownsRow_nil _ _ _ _,λj hj=>by simp[Value.ownBlock] at hj,hb0⟩
 ·have hlong':¬(131072:Int) < (n:Int):=by omega
  cases zs with
  |nil=>
   obtain rfl:n=0:=by simpa using hl.symm
   have HQ:Hid (rdR []=(rz0,61)):=rfl
   rw[HQ.out]
   go_enter Tryz.func62,Tryz.ntmps62
   go_wp2
   refine bodyPost_ret (v:=.tuple #[.agg (rcC rz0 (.slice none 0 0) (.slice none 0 0)),.int .i64 61]) (by simp[results,Tryz.results62,go_sem,rcC]) rfl ?_
   exact⟨none,none,0,0,rfl,C.SOwn.nil _ _,World.ownsRow_nil _ _ _ _,λj hj=>by simp[Value.ownBlock] at hj,hb0⟩
  |cons kd t0=>
   rcases hz with hz|⟨g,off,rfl,hcell⟩
   ·cases hz
   have hn1:1<= n:=by simp at hl;omega
   have hkd:=hb kd (by simp)
   have hgl:g < w.heap.size:=Lies.block (off:=off) hcell (by simp)
   have HR2E:Hid (r2R (runL (mkR kd [],some t0) (fsB kd))=rdR (kd::t0)):=r2_eq hb (by omega)
   have hck:∀W,Below w.heap.size w W-> W.cell? ⟨g,off,none⟩=some (.int .u8 kd):=λW hW=>C.cell_below (hcell 0 (by simp)) hW
   have q0:=hck _ hb0
   have hnz:¬(n:Int)=0:=by omega
   have hkw:IntKind.i64.wrap kd=kd:=by rw[IntKind.wrap_i64];omega
   have HFS:Hid (∀W,Calls Tryz.prog 86 #[.int .i64 kd] W λe w'=>e=.returned (.string ⟨(fsB kd).toArray⟩)/\ W=w'):=λW=>fields2_any kd W
   have HLC:Hid (∀c∈fsB kd,isL c):=fs_isL kd
   have hfl:(fsB kd).length<= 10:=by
    by_cases h:kf kd=0
    ·rw[no_letters h];simp
    ·exact(letters h).2.2.2.2
   have HBZ:Hid (Bytey (kd::t0)):=hb
   have HLE:Hid ((kd::t0).length=n):=hl
   generalize rdR (kd::t0)=Q at*
   generalize hfs:fsB kd=fs at*
   obtain⟨W1,hW1⟩:∃W1,W1=(w.alloc (rcO rz0 (.slice none 0 0) (.slice none 0 0))).alloc (rcO (mkR kd []) (.slice none 0 0) (.slice none 0 0)):=⟨_,rfl⟩
   have hb1:Below w.heap.size w W1:=by rw[hW1];exact hb0.alloc (by simp) _
   have hx1:W1.heap[w.heap.size+1]?=some (rcO (mkR kd []) (.slice none 0 0) (.slice none 0 0)):=by
    rw[hW1]
    have:=heap_new6 (w.alloc (rcO rz0 (.slice none 0 0) (.slice none 0 0))) (rcO (mkR kd []) (.slice none 0 0) (.slice none 0 0))
    simpa using this
   have hs1:W1.heap.size=w.heap.size+2:=by rw[hW1];simp
   have hzz1:W1.heap[w.heap.size]?=some (rcO rz0 (.slice none 0 0) (.slice none 0 0)):=by rw[hW1];exact(((Below.refl _ _).alloc (aqH _) _).block _ (by simp)).trans hz0
   obtain⟨W2,hW2⟩:∃W2,W2=W1.alloc (r2O (.slice (some ⟨g,off,none⟩) n c) 1 false):=⟨_,rfl⟩
   have hb2:Below W1.heap.size W1 W2:=by rw[hW2];exact(Below.refl _ _).alloc (aqH _) _
   have hr2:W2.heap[w.heap.size+2]?=some (r2O (.slice (some ⟨g,off,none⟩) n c) 1 false):=by
    rw[hW2,←hs1];exact heap_new6 W1 _
   have hs2:W2.heap.size=w.heap.size+3:=by rw[hW2];simp;omega
   have HBW2:Hid (Below w.heap.size w W2):=hb1.trans (hb2.mono hb1.size)
   have HX2:Hid (W2.heap[w.heap.size+1]?=some (rcO (mkR kd []) (.slice none 0 0) (.slice none 0 0))):=(hb2.block _ (by omega)).trans hx1
   have HZ2:Hid (W2.heap[w.heap.size]?=some (rcO rz0 (.slice none 0 0) (.slice none 0 0))):=(hb2.block _ (by omega)).trans hzz1
   have HI0:Hid (Rd2 W2 w (w.heap.size+3) (w.heap.size+1) (w.heap.size+1+1) g off n c (kd::t0) (runL (mkR kd [],some t0) (fs.take 0))):=by
    refine⟨⟨none,none,0,0,HX2.out,C.SOwn.nil _ _,World.ownsRow_nil _ _ _ _,λj hj=>by simp[Value.ownBlock] at hj⟩,⟨?_,λi hi=>C.cell_below (hcell i (by omega)) HBW2.out,hl,hnc,⟨by omega,hc⟩,by omega,λt ht=>?_⟩,HBW2.out,HZ2.out,by simp[runL,mkR],by omega⟩
    ·show W2.heap[w.heap.size+2]?=some (r2O _ (n - t0.length) false)
     rw[show n - t0.length=1 by simp at hl;omega]
     exact hr2
    ·have:t0=t:=by simpa[runL] using ht
     subst this
     refine⟨by simp at hl;omega,?_⟩
     rw[show n - t0.length=1 by simp at hl;omega]
     rfl
   clear hb hcell hck hl hz0
   go_enter Tryz.func62,Tryz.ntmps62
   go_upto_region 7 with fail
   change Code.wp _ _ _ _ (((w.alloc (rcO rz0 (.slice none 0 0) (.slice none 0 0))).alloc (rcO (mkR kd []) (.slice none 0 0) (.slice none 0 0))).alloc (r2O (.slice (some ⟨g,off,none⟩) n c) 1 false))
   rw[←hW1,←hW2]
   have x0:W2.cell? ⟨w.heap.size+1,0,none⟩=some (.int .i64 kd):=(rc_cells HX2.out).1
   clear hW1 hW2 hb0 hb1 hx1 hs1 hzz1 hb2 hr2 q0
   go_wp2_with (go_at_call 86;refine(HFS.out _).mono ?_;rintro e w' ⟨rfl,rfl⟩)
   clear x0
   go_loopw [7] (λi wr=>∃k:Nat,k<= fs.length/\ i=.int .i64 k/\ Rd2 wr w (w.heap.size+3) (w.heap.size+1) (w.heap.size+1+1) g off n c (kd::t0) (runL (mkR kd [],some t0) (fs.take k))) (λi _=>fs.length - (intOf i).toNat)
   case atStart=>exact⟨0,Nat.zero_le _,rfl,HI0.out⟩
   case round=>
    obtain⟨k,hk,rfl,hrd⟩:=hrel
    clear HI0
    by_cases hlt:k < fs.length
    ·have hlt':(k:Int) < (fs.length:Int):=by omega
     have hck:fs[k]?=some fs[k]:=List.getElem?_eq_getElem hlt
     have HSN:Hid (runL (mkR kd [],some t0) (fs.take (k+1))=upL (runL (mkR kd [],some t0) (fs.take k)) fs[k]):=run_snoc hck
     have hlc:=HLC.out fs[k] (List.getElem_mem hlt)
     generalize runL (mkR kd [],some t0) (fs.take k)=st at*
     obtain⟨r,q⟩:=st
     obtain⟨⟨sa,da,sc,dc,hxr,hso,hdo,hpt⟩,hrr,hbe,hzh,hdl,hsz⟩:=hrd
     simp only at hxr hso hdo hpt hrr hdl
     have HX:Hid (wr.heap[w.heap.size+1]?=some (rcO r (.slice sa r.spans.length sc) (.slice da r.data.length dc))):=hxr
     have HSO:Hid (C.SOwn wr (w.heap.size+3) (.slice sa r.spans.length sc) r.spans):=hso
     have HDO:Hid (wr.ownsRow (w.heap.size+3) 5 1 (.slice da r.data.length dc) r.data.length (r.data.map (Value.int .u8))):=hdo
     have HPT:Hid (∀j,(Value.slice sa r.spans.length sc).ownBlock=some j-> (Value.slice da r.data.length dc).ownBlock≠some j):=hpt
     have HRR:Hid (R2 wr (w.heap.size+1+1) g off n c (kd::t0) q):=hrr
     have HBE:Hid (Below w.heap.size w wr):=hbe
     have HZH:Hid (wr.heap[w.heap.size]?=some (rcO rz0 (.slice none 0 0) (.slice none 0 0))):=hzh
     have hbq:∀t,q=some t-> Bytey t:=λt ht=>by rw[←(hrr.tl t ht).2];exact bytey_drop HBZ.out _
     have hlq:∀t,q=some t-> t.length<= n:=λt ht=>(hrr.tl t ht).1
     clear hxr hso hdo hpt hrr hbe hzh
     rcases hlc with hc|hc|⟨j,hj,hc⟩
     ·have hcv:((({data:=fs.toArray}:ByteArray)[k]'(show k < fs.toArray.size by simpa using hlt)).toNat:Int)=68:=by show (((fs.toArray[k]'(by simpa using hlt)).toNat:Nat):Int)=68;simp[hc]
      rw[hc,upL68] at HSN
      simp only at HSN
      have hbl:=byt2_len hbq hlq
      have HBY:=bytes2_all (w.heap.size+1+1) g off n c (kd::t0) q wr HBZ.out HRR.out (by omega)
      clear hbq hlq
      generalize byt2P q=bq at*
      obtain⟨d,q'⟩:=bq
      simp only at HSN hbl HBY
      go_wp2_with (go_at_call 90;refine HBY.mono ?_;rintro e w2 ⟨⟨v2,rfl,ho2⟩,hr2,hg2⟩;obtain⟨da2,dc2,rfl⟩:=own_sl ho2;have HX2':Hid (w2.heap[w.heap.size+1]?=some (rcO r (.slice sa r.spans.length sc) (.slice da r.data.length dc))):=(hg2.block _ (by omega) (by simp)).trans HX.out;obtain⟨x0,x1,x2,x3,x4,x5,x6,x7,x8,x9,x10⟩:=rc_cells HX2'.out;have fx:=rc_frozen HX2'.out)
      have hgx:=grown_set w2 (w.heap.size+1) 10 (.slice da2 d.length dc2)
      have hg2s:=hg2.size
      have HN:Hid (Rd2 (w2.setCell ⟨w.heap.size+1,10,none⟩ (.slice da2 d.length dc2)) w (w.heap.size+3) (w.heap.size+1) (w.heap.size+1+1) g off n c (kd::t0) ({r with data:=d},q')):=by
       refine⟨⟨sa,da2,sc,dc2,?_,?_,?_,?_⟩,hr2.keep hgx (by simp) (by simp;omega),(HBE.out.grown hg2 HBE.out.size (by simp;omega)).grown hgx (by have:=HBE.out.size;omega) (by simp),(hgx.block _ (by omega) (by simp)).trans ((hg2.block _ (by omega) (by simp<;>omega)).trans HZH.out),hbl,by have:=hgx.size;omega⟩
       ·show _=some (rcO r (.slice sa r.spans.length sc) (.slice da2 d.length dc2))
        simp[World.setCell,Array.getElem?_modify,HX2'.out]
       ·exact own_keep6 (own_keep6 HSO.out hg2 (by intro j hj;have:=(HSO.out.lt j hj).1;simp;omega)) hgx (by intro j hj;have:=(HSO.out.lt j hj).1;simp;omega)
       ·exact own_base6 (own_keep6 ho2 hgx (by intro j hj;have:=(ho2.lt j hj).1;simp;omega)) hsz
       ·intro j hj hj2
        have h1:=(HSO.out.lt j hj).2
        have h2:=(ho2.lt j hj2).1
        omega
      clear x0 x1 x2 x3 x4 x5 x6 x7 x8 x9 x10
      clear fx
      go_roundw
      case rel=>exact⟨k+1,by omega,by go_num,by rw[HSN.out];exact HN.out⟩
      case measure=>simp[intOf];omega
     ·have hcv:((({data:=fs.toArray}:ByteArray)[k]'(show k < fs.toArray.size by simpa using hlt)).toNat:Int)=83:=by show (((fs.toArray[k]'(by simpa using hlt)).toNat:Nat):Int)=83;simp[hc]
      rw[hc,upL83] at HSN
      simp only at HSN
      have HBY:=spans2_all (w.heap.size+1+1) g off n c (kd::t0) q wr HBZ.out HRR.out (by omega)
      clear hbq hlq
      generalize sps2P q=bq at*
      obtain⟨d,q'⟩:=bq
      simp only at HSN HBY
      go_wp2_with (go_at_call 91;refine HBY.mono ?_;rintro e w2 ⟨⟨v2,rfl,ho2⟩,hr2,hg2⟩;obtain⟨sa2,sc2,rfl⟩:=own_sl ho2;have HX2':Hid (w2.heap[w.heap.size+1]?=some (rcO r (.slice sa r.spans.length sc) (.slice da r.data.length dc))):=(hg2.block _ (by omega) (by simp)).trans HX.out;obtain⟨x0,x1,x2,x3,x4,x5,x6,x7,x8,x9,x10⟩:=rc_cells HX2'.out;have fx:=rc_frozen HX2'.out)
      have hgx:=grown_set w2 (w.heap.size+1) 9 (.slice sa2 d.length sc2)
      have hg2s:=hg2.size
      have HN:Hid (Rd2 (w2.setCell ⟨w.heap.size+1,9,none⟩ (.slice sa2 d.length sc2)) w (w.heap.size+3) (w.heap.size+1) (w.heap.size+1+1) g off n c (kd::t0) ({r with spans:=d},q')):=by
       refine⟨⟨sa2,da,sc2,dc,?_,?_,?_,?_⟩,hr2.keep hgx (by simp) (by simp;omega),(HBE.out.grown hg2 HBE.out.size (by simp;omega)).grown hgx (by have:=HBE.out.size;omega) (by simp),(hgx.block _ (by omega) (by simp)).trans ((hg2.block _ (by omega) (by simp<;>omega)).trans HZH.out),hdl,by have:=hgx.size;omega⟩
       ·show _=some (rcO r (.slice sa2 d.length sc2) (.slice da r.data.length dc))
        simp[World.setCell,Array.getElem?_modify,HX2'.out]
       ·exact own_base6 (own_keep6 ho2 hgx (by intro j hj;have:=(ho2.lt j hj).1;simp;omega)) hsz
       ·exact own_keep6 (own_keep6 HDO.out hg2 (by intro j hj;have:=(HDO.out.lt j hj).1;simp;omega)) hgx (by intro j hj;have:=(HDO.out.lt j hj).1;simp;omega)
       ·intro j hj hj2
        have h1:=(HDO.out.lt j hj2).2
        have h2:=(ho2.lt j hj).1
        omega
      clear x0 x1 x2 x3 x4 x5 x6 x7 x8 x9 x10
      clear fx
      go_roundw
      case rel=>exact⟨k+1,by omega,by go_num,by rw[HSN.out];exact HN.out⟩
      case measure=>simp[intOf];omega
     ·have hcv:((({data:=fs.toArray}:ByteArray)[k]'(show k < fs.toArray.size by simpa using hlt)).toNat:Int)=((ltL.getD j 0).toNat:Int):=by show (((fs.toArray[k]'(by simpa using hlt)).toNat:Nat):Int)=((ltL.getD j 0).toNat:Int);simp[hc]
      rw[hc,upLn _ j hj] at HSN
      simp only at HSN
      have HNU:=num2_all (w.heap.size+1+1) g off n c (kd::t0) q wr HBZ.out HRR.out
      have HWT:Hid (∀v W,Calls Tryz.prog 93 #[.agg (rcC r (.slice sa r.spans.length sc) (.slice da r.data.length dc)),.int .u8 (ltL.getD j 0).toNat,.int .i64 v] W λe w'=>e=.returned (.agg (rcC (setN r j v) (.slice sa r.spans.length sc) (.slice da r.data.length dc)))/\ Below W.heap.size W w'):=λv W=>with2_any r sa da _ _ sc dc j hj v W
      have hy1:¬((ltL.getD j 0).toNat:Int)=68:=by
       have:j=0∨j=1∨j=2∨j=3∨j=4∨j=5∨j=6∨j=7:=by omega
       rcases this with rfl|rfl|rfl|rfl|rfl|rfl|rfl|rfl<;>decide
      have hy2:¬((ltL.getD j 0).toNat:Int)=83:=by
       have:j=0∨j=1∨j=2∨j=3∨j=4∨j=5∨j=6∨j=7:=by omega
       rcases this with rfl|rfl|rfl|rfl|rfl|rfl|rfl|rfl<;>decide
      generalize ((ltL.getD j 0).toNat:Int)=y at*
      clear hbq hlq
      generalize num2P q=bq at*
      obtain⟨v,q'⟩:=bq
      simp only at HSN HNU
      go_upto_region 13 with (go_at_call 92;refine HNU.mono ?_;rintro e w2 ⟨rfl,hr2,hg2⟩)
      have hg2s:=hg2.size
      have HX2':Hid (w2.heap[w.heap.size+1]?=some (rcO r (.slice sa r.spans.length sc) (.slice da r.data.length dc))):=(hg2.block _ (by omega) (by simp)).trans HX.out
      have HR2':Hid (R2 w2 (w.heap.size+1+1) g off n c (kd::t0) q'):=hr2
      have HG2':Hid (wr.grownBy w2 (some (w.heap.size+1+1))):=hg2
      obtain⟨x0,x1,x2,x3,x4,x5,x6,x7,x8,x9,x10⟩:=rc_cells HX2'.out
      clear hr2 hg2 HNU
      go_region_with (go_at_call 93;refine(HWT.out v _).mono ?_;rintro e w3 ⟨rfl,hb3⟩;have HX3:Hid (w3.heap[w.heap.size+1]?=some (rcO r (.slice sa r.spans.length sc) (.slice da r.data.length dc))):=(hb3.block _ (Array.getElem?_eq_some_iff.mp HX2'.out).1).trans HX2'.out;clear x0 x1 x2 x3 x4 x5 x6 x7 x8 x9 x10;obtain⟨y0,y1,y2,y3,y4,y5,y6,y7,y8,y9,y10⟩:=rc_cells HX3.out;have fy:=rc_frozen HX3.out)
      all_goals (
       have hb3':Below w2.heap.size w2 w3:=⟨hb3.os,hb3.tape,hb3.output,hb3.size,hb3.block⟩
       have hgx:=rS_grown w3 (w.heap.size+1) (setN r j v) (.slice sa r.spans.length sc) (.slice da r.data.length dc)
       have HXN:=rS_heap w3 (w.heap.size+1) (setN r j v) r (.slice sa r.spans.length sc) (.slice da r.data.length dc) _ _ HX3.out
       have hls:=setN_lists r j v
       have HN:Hid (Rd2 (rS w3 (w.heap.size+1) (setN r j v) (.slice sa r.spans.length sc) (.slice da r.data.length dc)) w (w.heap.size+3) (w.heap.size+1) (w.heap.size+1+1) g off n c (kd::t0) (setN r j v,q')):=by
        have hw3:=hb3'.size
        refine⟨⟨sa,da,sc,dc,?_,?_,?_,?_⟩,(HR2'.out.below hb3').keep hgx (by simp) (by simp;omega),((HBE.out.grown HG2'.out HBE.out.size (by simp;omega)).trans (hb3'.mono (by have:=HBE.out.size;omega))).grown hgx (by have:=HBE.out.size;omega) (by simp),(hgx.block _ (by omega) (by simp)).trans ((hb3'.block _ (by omega)).trans ((HG2'.out.block _ (by omega) (by simp<;>omega)).trans HZH.out)),?_,by have:=hgx.size;omega⟩
        ·simp only[hls.1,hls.2.1];exact HXN
        ·simp only[hls.1];exact own_keep6 (own_below6 (own_keep6 HSO.out HG2'.out (by intro j hj;have:=(HSO.out.lt j hj).1;simp;omega)) hb3') hgx (by intro j hj;have:=(HSO.out.lt j hj).1;simp;omega)
        ·simp only[hls.2.1];exact own_keep6 (own_below6 (own_keep6 HDO.out HG2'.out (by intro j hj;have:=(HDO.out.lt j hj).1;simp;omega)) hb3') hgx (by intro j hj;have:=(HDO.out.lt j hj).1;simp;omega)
        ·simp only[hls.1,hls.2.1];exact HPT.out
        ·simp only[hls.2.1];exact hdl
       clear y0 y1 y2 y3 y4 y5 y6 y7 y8 y9 y10
       clear fy hb3 hb3' hgx HXN
       change Exit.inBlock 2 (Exit.inBlock 1 _) Exit.normal _ (rS w3 (w.heap.size+1) (setN r j v) (.slice sa r.spans.length sc) (.slice da r.data.length dc))
       generalize rS w3 (w.heap.size+1) (setN r j v) (.slice sa r.spans.length sc) (.slice da r.data.length dc)=WF at*
       go_wp2
       go_roundw
       case rel=>exact⟨k+1,by omega,by go_num,by rw[HSN.out];exact HN.out⟩
       case measure=>simp[intOf];omega)
    ·obtain rfl:k=fs.length:=by omega
     rw[List.take_length] at hrd
     generalize runL (mkR kd [],some t0) fs=st at*
     obtain⟨r,q⟩:=st
     obtain⟨⟨sa,da,sc,dc,hxr,hso,hdo,hpt⟩,hrr,hbe,hzh,hdl,hsz⟩:=hrd
     simp only at hxr hso hdo hpt hrr hdl
     have HRI:Hid (RIn wr r sa da r.spans.length r.data.length sc dc):=own_rin hso hdo (by omega)
     have HX:Hid (wr.heap[w.heap.size+1]?=some (rcO r (.slice sa r.spans.length sc) (.slice da r.data.length dc))):=hxr
     have HRG:=right2_any r sa da r.spans.length r.data.length sc dc wr HRI.out
     obtain⟨x0,x1,x2,x3,x4,x5,x6,x7,x8,x9,x10⟩:=rc_cells hxr
     go_upto_region 19 with (go_at_call 85;refine HRG.mono ?_;rintro e w2 ⟨rfl,hb2⟩)
     have hs2':=hb2.size
     have HX2':Hid (w2.heap[w.heap.size+1]?=some (rcO r (.slice sa r.spans.length sc) (.slice da r.data.length dc))):=(hb2.block _ (by omega)).trans hxr
     have HZ2':Hid (w2.heap[w.heap.size]?=some (rcO rz0 (.slice none 0 0) (.slice none 0 0))):=(hb2.block _ (by omega)).trans hzh
     have HB2':Hid (Below w.heap.size w w2):=hbe.trans (hb2.mono hbe.size)
     have HRR2:Hid (R2 w2 (w.heap.size+1+1) g off n c (kd::t0) q):=hrr.below hb2
     have HSO2:Hid (C.SOwn w2 (w.heap.size+3) (.slice sa r.spans.length sc) r.spans):=own_below6 hso hb2
     have HDO2:Hid (w2.ownsRow (w.heap.size+3) 5 1 (.slice da r.data.length dc) r.data.length (r.data.map (Value.int .u8))):=own_below6 hdo hb2
     have HPT:Hid (∀j,(Value.slice sa r.spans.length sc).ownBlock=some j-> (Value.slice da r.data.length dc).ownBlock≠some j):=hpt
     have HPR:Hid ((prR r).2=if mayB6 r then 0 else 60):=by unfold Hid prR;split<;>rfl
     clear x0 x1 x2 x3 x4 x5 x6 x7 x8 x9 x10
     clear hxr hso hdo hpt hrr hbe hzh hb2 HRG HX HRI
     obtain⟨x0,x1,x2,x3,x4,x5,x6,x7,x8,x9,x10⟩:=rc_cells HX2'.out
     obtain⟨y0,y1,y2,y3,y4,y5,y6,y7,y8,y9,y10⟩:=rc_cells HZ2'.out
     have fy:=rc_frozen HZ2'.out
     have HBADR:Hid (Q=(rz0,61)-> RdPost Q w (.returned (.tuple #[.agg (rcC rz0 (.slice none 0 0) (.slice none 0 0)),.int .i64 61])) (rS w2 w.heap.size rz0 (.slice none 0 0) (.slice none 0 0))):=λhQ=>by
      rw[hQ]
      exact⟨none,none,0,0,rfl,C.SOwn.nil _ _,World.ownsRow_nil _ _ _ _,λj hj=>by simp[Value.ownBlock] at hj,HB2'.out.grown (rS_grown _ _ _ _ _) HB2'.out.size (by simp)⟩
     have hlvz:=λj=>cell_of_row _ w.heap.size j _ _ _ (rS_heap w2 w.heap.size rz0 rz0 (.slice none 0 0) (.slice none 0 0) _ _ HZ2'.out)
     generalize (prR r).2=er at*
     cases q with
     |none=>
      have HQ:Hid (Q=(rz0,61)):=HR2E.out.symm
      obtain⟨kk,_,hhb⟩:=HRR2.out.hp
      obtain⟨s0,s1,s2,_⟩:=r2_cells hhb
      clear hhb s0 s1
      go_wp2
      change bodyPost _ _ _ _ _ (rS w2 w.heap.size rz0 (.slice none 0 0) (.slice none 0 0))
      refine bodyPost_ret (v:=.tuple #[.agg (rcC rz0 (.slice none 0 0) (.slice none 0 0)),.int .i64 61]) (by simp[results,Tryz.results62,go_sem,rcC,hlvz]) rfl ?_
      exact HBADR.out HQ.out
     |some t=>
      have hhb:w2.heap[w.heap.size+1+1]?=some (r2O (.slice (some ⟨g,off,none⟩) n c) (n - t.length) false):=HRR2.out.hp
      obtain⟨hl1,_⟩:=HRR2.out.tl t rfl
      obtain⟨s0,s1,s2,_⟩:=r2_cells hhb
      obtain⟨a,ha⟩:∃a:Int,a=((n - t.length:Nat):Int):=⟨_,rfl⟩
      rw[←ha] at s1
      clear hhb s0
      cases t with
      |cons z tz=>
       have HQ:Hid (Q=(rz0,61)):=HR2E.out.symm
       have ha1:a < (n:Int):=by simp at ha hl1;omega
       clear ha
       go_wp2
       change bodyPost _ _ _ _ _ (rS w2 w.heap.size rz0 (.slice none 0 0) (.slice none 0 0))
       refine bodyPost_ret (v:=.tuple #[.agg (rcC rz0 (.slice none 0 0) (.slice none 0 0)),.int .i64 61]) (by simp[results,Tryz.results62,go_sem,rcC,hlvz]) rfl ?_
       exact HBADR.out HQ.out
      |nil=>
       have ha1:¬a < (n:Int):=by simp at ha;omega
       clear ha
       cases hm:mayB6 r with
       |false=>
        have HQ:Hid (Q=(rz0,61)):=by unfold Hid;rw[←HR2E.out];unfold r2R;simp only[hm];rfl
        have her:er=60:=by rw[HPR.out,hm];rfl
        subst her
        go_wp2
        change bodyPost _ _ _ _ _ (rS w2 w.heap.size rz0 (.slice none 0 0) (.slice none 0 0))
        refine bodyPost_ret (v:=.tuple #[.agg (rcC rz0 (.slice none 0 0) (.slice none 0 0)),.int .i64 61]) (by simp[results,Tryz.results62,go_sem,rcC,hlvz]) rfl ?_
        exact HBADR.out HQ.out
       |true=>
        have HQ:Hid (Q=(r,0)):=by unfold Hid;rw[←HR2E.out];unfold r2R;simp only[hm,if_true]
        have her:er=0:=by rw[HPR.out,hm];rfl
        subst her
        go_wp2
        change bodyPost _ _ _ _ _ (rS w2 w.heap.size r (.slice sa r.spans.length sc) (.slice da r.data.length dc))
        have hrg:=rS_grown w2 w.heap.size r (.slice sa r.spans.length sc) (.slice da r.data.length dc)
        have hlv:=λj=>cell_of_row _ w.heap.size j _ _ _ (rS_heap w2 w.heap.size r rz0 (.slice sa r.spans.length sc) (.slice da r.data.length dc) _ _ HZ2'.out)
        generalize rS w2 w.heap.size r (.slice sa r.spans.length sc) (.slice da r.data.length dc)=WF at*
        refine bodyPost_ret (v:=.tuple #[.agg (rcC r (.slice sa r.spans.length sc) (.slice da r.data.length dc)),.int .i64 0]) (by simp[results,Tryz.results62,go_sem,rcC,hlv]) rfl ?_
        rw[HQ.out]
        exact⟨sa,da,sc,dc,rfl,own_base6 (own_keep6 HSO2.out hrg (by intro j hj;have:=(HSO2.out.lt j hj).1;simp;omega)) (by omega),own_base6 (own_keep6 HDO2.out hrg (by intro j hj;have:=(HDO2.out.lt j hj).1;simp;omega)) (by omega),HPT.out,HB2'.out.grown hrg HB2'.out.size (by simp)⟩
theorem value2_any (g off n c:Nat) (x0 x1 x2 x3:Int) (w:World) (hn:4<= n) (h0:0<= x0/\ x0<= 255) (h1:0<= x1/\ x1<= 255) (h2:0<= x2/\ x2<= 255) (h3:0<= x3/\ x3<= 255)
 (c0:w.cell? ⟨g,off,none⟩=some (.int .u8 x0)) (c1:w.cell? ⟨g,off+1,none⟩=some (.int .u8 x1)) (c2:w.cell? ⟨g,off+2,none⟩=some (.int .u8 x2)) (c3:w.cell? ⟨g,off+3,none⟩=some (.int .u8 x3)):
 Calls Tryz.prog 61 #[.slice (some ⟨g,off,none⟩) n c] w λe w'=>e=.returned (.int .i64 (x0*16777216+x1*65536+x2*256+x3))/\ Below w.heap.size w w':=by
 have hn':(4:Int)<= n:=by omega
 go_enter Tryz.func61,Tryz.ntmps61
 go_wp2
 go_quiet (fail)
 go_wp2
 go_ret
 exact⟨rfl,⟨rfl,rfl,rfl,aqH _,λ_ _=>rfl⟩⟩
theorem value2_at (g off n c:Nat) (zs:List Int) (w:World) (hb:Bytey zs) (hn:4<= n) (h4:4<= zs.length) (hz:∀i,i < zs.length-> w.cell? ⟨g,off+i,none⟩=some (.int .u8 (zs.getD i 0))):
 Calls Tryz.prog 61 #[.slice (some ⟨g,off,none⟩) n c] w λe w'=>e=.returned (.int .i64 (vl4 zs))/\ Below w.heap.size w w':=
 value2_any g off n c (zs.getD 0 0) (zs.getD 1 0) (zs.getD 2 0) (zs.getD 3 0) w hn (bytAt hb 0) (bytAt hb 1) (bytAt hb 2) (bytAt hb 3) (hz 0 (by omega)) (hz 1 (by omega)) (hz 2 (by omega)) (hz 3 (by omega))
theorem scan2_any (ad:Option Addr) (zs:List Int) (n c:Nat) (w:World) (hb:Bytey zs) (hl:zs.length=n) (hnc:n<= c) (hc:c<= 9223372036854775807) (hm:n<= 1099511627776) (hz:Lies .u8 w ad zs):
 Calls Tryz.prog 27 #[.slice ad n c] w (ScPost (scR zs) w):=by
 obtain⟨i0,hi0,hz0,hy0,hb0⟩:=info_parts Tryz.info_rec
 have HBY:Hid (Bytey zs):=hb
 have HL:Hid (zs.length=n):=hl
 have HZ:Hid (Lies .u8 w ad zs):=hz
 clear hb hl hz
 go_enter Tryz.func27,Tryz.ntmps27
 go_wp2_with fail
 go_loopw [4,5] (λv p wr=>∃(os:List Ro) (t:Nat),p=.int .i64 t/\ Scd zs (os.map Ro.r) t/\ Rl wr w.heap.size v os/\ Below w.heap.size w wr) (λ_ p _=>n - (intOf p).toNat)
 case atStart=>exact⟨[],0,rfl,Scd.start _,Rl.start _ _,Below.refl _ _⟩
 case round=>
  obtain⟨os,t,rfl,hsc,hrl,hbw⟩:=hrel
  have hcnt:=hsc.cnt
  have hlen:=hsc.len
  rw[List.length_map] at hcnt
  rw[HL.out] at hlen
  have HSC:Hid (Scd zs (os.map Ro.r) t):=hsc
  have HRL:Hid (Rl wr w.heap.size u4 os):=hrl
  have HBW:Hid (Below w.heap.size w wr):=hbw
  have HLD:Hid ((zs.drop t).length=n - t):=by unfold Hid;rw[List.length_drop,HL.out]
  have hLz:=HZ.out.below hbw
  clear hsc hrl hbw
  by_cases h8:(n:Int) - (t:Int) < 8
  ·have HE:Hid (scR zs=(os.map Ro.r,t)):=HSC.out.fin (by rw[fsR_short (by rw[HLD.out];omega)])
   clear hLz
   go_wp2_with fail
   refine bodyPost_ret (v:=.tuple #[u4,.int .i64 t]) (by simp[results,Tryz.results27,go_sem]) rfl ?_
   show ScPost (scR zs) w _ _
   rw[HE.out]
   exact⟨_,os,rfl,HRL.out,rfl,HBW.out⟩
  ·rcases hLz with h0|⟨g,off,rfl,hce⟩
   ·have:=HL.out;rw[h0] at this;simp at this;omega
   have HCE:Hid (∀k W,Below wr.heap.size wr W-> ∀i,i < (zs.drop k).length-> W.cell? ⟨g,off+k+i,none⟩=some (.int .u8 ((zs.drop k).getD i 0))):=λk W hW i hi=>by
    rw[List.length_drop] at hi
    have h1:=C.cell_below (hce (k+i) (by omega)) hW
    rw[List.getD_eq_getElem?_getD,List.getElem?_drop,←List.getD_eq_getElem?_getD,show off+k+i=off+(k+i) by omega]
    exact h1
   obtain⟨V,hV⟩:∃V:Nat,vl4 (zs.drop t)=V:=⟨(vl4 (zs.drop t)).toNat,by have:=vl4_bd (bytDrop HBY.out t);omega⟩
   have hVb:V < 4294967296:=by have:=vl4_bd (bytDrop HBY.out t);omega
   obtain⟨U,hU⟩:∃U:Int,vl4 (zs.drop (t+4))=U:=⟨_,rfl⟩
   have HV:Hid (vl4 (zs.drop t)=V):=hV
   have HU:Hid (vl4 ((zs.drop t).drop 4)=U):=by unfold Hid;rw[List.drop_drop];exact hU
   have HW1:Hid (Calls Tryz.prog 61 #[.slice (some ⟨g,off+t,none⟩) (n - t) (c - t)] wr λe w'=>e=.returned (.int .i64 V)/\ Below wr.heap.size wr w'):=by
    have:=value2_at g (off+t) (n - t) (c - t) (zs.drop t) wr (bytDrop HBY.out t) (by omega) (by rw[HLD.out];omega) (HCE.out t wr (Below.refl _ _))
    rw[hV] at this
    exact this
   have HW2:Hid (∀W,Below wr.heap.size wr W-> Calls Tryz.prog 61 #[.slice (some ⟨g,off+(t+4),none⟩) (n - (t+4)) (c - (t+4))] W λe w'=>e=.returned (.int .i64 U)/\ Below W.heap.size W w'):=λW hW=>by
    have:=value2_at g (off+(t+4)) (n - (t+4)) (c - (t+4)) (zs.drop (t+4)) W (bytDrop HBY.out _) (by omega) (by rw[List.length_drop,HL.out];omega) (HCE.out (t+4) W hW)
    rw[hU] at this
    exact this
   have HNS:Hid (¬(zs.drop t).length < 8):=by unfold Hid;rw[HLD.out];omega
   have hct:¬c=t:=by omega
   have hct4:¬c=t+4:=by omega
   have ht1:(t:Int)<= (n:Int):=by omega
   clear hce hV hU
   by_cases h1:(131072:Int) < (V:Int)
   ·have HE:Hid (scR zs=(os.map Ro.r,t)):=HSC.out.fin (by rw[fsR_long HNS.out (.inl (by rw[HV.out];exact h1))])
    go_upto_region 5 with (go_at_call 61;refine HW1.out.mono ?_;rintro e w1 ⟨rfl,hb1⟩)
    clear HW2 HCE
    go_wp2_with fail
    refine bodyPost_ret (v:=.tuple #[u4,.int .i64 t]) (by simp[results,Tryz.results27,go_sem]) rfl ?_
    show ScPost (scR zs) w _ _
    rw[HE.out]
    exact⟨_,os,rfl,HRL.out.keep hb1,rfl,HBW.out.trans (hb1.mono HBW.out.size)⟩
   ·by_cases h2:(n:Int) - (t:Int) - 8 < (V:Int)
    ·have HE:Hid (scR zs=(os.map Ro.r,t)):=HSC.out.fin (by rw[fsR_long HNS.out (.inr (by rw[HV.out,HLD.out];omega))])
     go_upto_region 5 with (go_at_call 61;refine HW1.out.mono ?_;rintro e w1 ⟨rfl,hb1⟩)
     clear HW2 HCE
     go_wp2_with fail
     refine bodyPost_ret (v:=.tuple #[u4,.int .i64 t]) (by simp[results,Tryz.results27,go_sem]) rfl ?_
     show ScPost (scR zs) w _ _
     rw[HE.out]
     exact⟨_,os,rfl,HRL.out.keep hb1,rfl,HBW.out.trans (hb1.mono HBW.out.size)⟩
    ·go_upto_region 6 with (go_at_call 61;refine HW1.out.mono ?_;rintro e w1 ⟨rfl,hb1⟩)
     have HB1:Hid (Below wr.heap.size wr w1):=hb1
     have hVc:t+8+V<= n:=by omega
     have HPZ:Hid (∀W,Below w1.heap.size w1 W-> Lies .u8 W (some ⟨g,off+(t+8),none⟩) (((zs.drop t).drop 8).take V)):=λW hW=>.inr ⟨g,off+(t+8),rfl,λi hi=>by
      rw[List.length_take,List.drop_drop] at hi
      have h1:=HCE.out (t+8) W (HB1.out.trans (hW.mono HB1.out.size)) i (by omega)
      rw[List.drop_drop,List.getD_eq_getElem?_getD,List.getElem?_take_of_lt (by omega),←List.getD_eq_getElem?_getD]
      exact h1⟩
     have HPL:Hid ((((zs.drop t).drop 8).take V).length=V):=by unfold Hid;rw[List.length_take,List.length_drop,HLD.out];omega
     have HPB:Hid (Bytey (((zs.drop t).drop 8).take V)):=bytTake (bytDrop (bytDrop HBY.out t) 8) V
     have HNX:Hid (¬(131072 < vl4 (zs.drop t)∨((zs.drop t).length:Int) - 8 < vl4 (zs.drop t))):=by unfold Hid;rw[HV.out,HLD.out];omega
     have hVi:(t:Int)+8+(V:Int)<= (c:Int):=by omega
     have hVj:(t:Int)+8<= (t:Int)+8+(V:Int):=by omega
     clear hb1 HCE HW1
     generalize hZZ:((zs.drop t).drop 8).take V=zz at*
     go_cut [7] from 31 to 38 (λq wx=>∃a',q=.slice a' V (c - (t+8))/\ Hid (∀W,Below w1.heap.size w1 W-> Lies .u8 W a' zz)/\ wx=w1)
     case first=>
      by_cases hc8:c=t+8
      ·obtain rfl:V=0:=by omega
       subst hc8
       go_wp2_with fail
       go_meet
       refine⟨some ⟨g,off,none⟩,?_,λW hW=>.inl (List.eq_nil_of_length_eq_zero HPL.out),rfl⟩
       simp
      ·go_wp2_with fail
       go_meet
       refine⟨_,?_,HPZ,rfl⟩
       first|rfl|(congr 1<;>omega)
     case rest=>
      obtain⟨a',rfl,HLZ,rfl⟩:=hcut
      have HSUM:Hid (∀W,Below wc.heap.size wc W-> Calls Tryz.prog 53 #[.slice a' V (c - (t+8))] W λe w'=>e=.returned (.int .u32 (crs zz:Nat))/\ W=w'):=λW hW=>rsum_any a' zz V (c - (t+8)) W HPB.out HPL.out (by omega) (HLZ.out W hW)
      have HRD:Hid (∀W,Below wc.heap.size wc W-> Calls Tryz.prog 62 #[.slice a' V (c - (t+8))] W (RdPost (rdR zz) W)):=λW hW=>read2_any a' zz V (c - (t+8)) W HPB.out HPL.out (by omega) (by omega) (HLZ.out W hW)
      obtain⟨X,hX⟩:∃X:Nat,crs zz=X:=⟨_,rfl⟩
      have HX:Hid (crs zz=X):=hX
      have hXb:X < 4294967296:=by rw[←hX];exact crs_lt HPB.out
      rw[hX] at HSUM
      have hwX:IntKind.i64.wrap (X:Int)=X:=by simp[IntKind.wrap,IntKind.bits,IntKind.signed];omega
      clear hX
      generalize hD:c - (t+8)=d at*
      by_cases h3:(X:Int)=U
      ·subst h3
       cases hq:readP zz with
       |none=>
        have HE:Hid (scR zs=(os.map Ro.r,t)):=HSC.out.fin (by rw[fsR_none HV.out (by rw[hZZ];exact hq)])
        have HQ2:Hid (rdR zz=(rz0,61)):=by unfold Hid rdR;rw[if_neg (by rw[HPL.out];omega),hq]
        rw[HQ2.out] at HRD
        clear HQ2 hq
        go_upto_region 10 with (first|(go_at_call 53;refine(HSUM.out _ (Below.refl _ _)).mono ?_;rintro e w' ⟨rfl,rfl⟩)|(go_at_call 61;refine(HW2.out _ HB1.out).mono ?_;rintro e w3 ⟨rfl,hb3⟩)|(go_at_call 62;refine(HRD.out _ hb3).mono ?_;rintro e w4 ⟨sa,da,sc,dc,rfl,hso,hdo,hpt,hb4⟩))
        have HB4:Hid (Below wr.heap.size wr (w4.alloc (rcO rz0 (.slice sa 0 sc) (.slice da 0 dc)))):=((HB1.out.trans (hb3.mono HB1.out.size)).trans (hb4.mono (Nat.le_trans HB1.out.size hb3.size))).alloc (Nat.le_trans (Nat.le_trans HB1.out.size hb3.size) hb4.size) _
        clear hso hdo hpt hb4 hb3 HSUM HRD
        generalize w4.alloc (rcO rz0 (.slice sa 0 sc) (.slice da 0 dc))=w5 at*
        go_wp2_with fail
        refine bodyPost_ret (v:=.tuple #[u4,.int .i64 t]) (by simp[results,Tryz.results27,go_sem]) rfl ?_
        show ScPost (scR zs) w _ _
        rw[HE.out]
        exact⟨_,os,rfl,HRL.out.keep HB4.out,rfl,HBW.out.trans (HB4.out.mono HBW.out.size)⟩
       |some r=>
        have HQF:Hid (fsR (zs.drop t)=(r,8+(V:Int))):=fsR_some HNS.out HNX.out HV.out (by rw[HU.out,hZZ,HX.out]) (by rw[hZZ];exact hq)
        have HQ2:Hid (rdR zz=(r,0)):=by unfold Hid rdR;rw[if_neg (by rw[HPL.out];omega),hq]
        have HSM:Hid (r.data.length<= 65536/\ r.spans.length<= 500):=by have:=fs_small (bytDrop HBY.out t);rw[HQF.out] at this;exact this
        rw[HQ2.out] at HRD
        clear HQ2 hq
        go_upto_region 10 with (first|(go_at_call 53;refine(HSUM.out _ (Below.refl _ _)).mono ?_;rintro e w' ⟨rfl,rfl⟩)|(go_at_call 61;refine(HW2.out _ HB1.out).mono ?_;rintro e w3 ⟨rfl,hb3⟩)|(go_at_call 62;refine(HRD.out _ hb3).mono ?_;rintro e w4 ⟨sa,da,sc,dc,rfl,hso,hdo,hpt,hb4⟩))
        have HB3:Hid (Below wr.heap.size wr w3):=HB1.out.trans (hb3.mono HB1.out.size)
        have HX4:Hid ((w4.alloc (rcO r (.slice sa r.spans.length sc) (.slice da r.data.length dc))).heap[w4.heap.size]?=some (rcO r (.slice sa r.spans.length sc) (.slice da r.data.length dc))):=heap_new6 w4 _
        have HB4:Hid (Below wr.heap.size wr (w4.alloc (rcO r (.slice sa r.spans.length sc) (.slice da r.data.length dc)))):=(HB3.out.trans (hb4.mono HB3.out.size)).alloc (Nat.le_trans HB3.out.size hb4.size) _
        have HS4:Hid (C.SOwn (w4.alloc (rcO r (.slice sa r.spans.length sc) (.slice da r.data.length dc))) wr.heap.size (.slice sa r.spans.length sc) r.spans):=own_lower (World.ownsRow.alloc hso _) HB3.out.size
        have HD4:Hid ((w4.alloc (rcO r (.slice sa r.spans.length sc) (.slice da r.data.length dc))).ownsRow wr.heap.size 5 1 (.slice da r.data.length dc) r.data.length (r.data.map (Value.int .u8))):=own_lower (hdo.alloc _) HB3.out.size
        have HPT:Hid (∀j,(Value.slice sa r.spans.length sc).ownBlock=some j-> (Value.slice da r.data.length dc).ownBlock≠some j):=hpt
        clear hso hdo hpt hb4 hb3 HSUM HRD HB3
        generalize w4.alloc (rcO r (.slice sa r.spans.length sc) (.slice da r.data.length dc))=w5 at*
        obtain⟨x0,x1,x2,x3,x4,x5,x6,x7,x8,x9,x10⟩:=rc_cells HX4.out
        have HR5:Hid ((w5.alloc (rcO r (.slice sa r.spans.length sc) (.slice da r.data.length dc))).ownsRow w.heap.size 81 11 u4 os.length (rlC os)):=(own_below6 HRL.out.row HB4.out).alloc _
        have HB5:Hid (Below wr.heap.size wr (w5.alloc (rcO r (.slice sa r.spans.length sc) (.slice da r.data.length dc)))):=HB4.out.alloc HB4.out.size _
        have hsz5:wr.heap.size<= w5.heap.size:=HB4.out.size
        have HLO:Hid (w.heap.size<= wr.heap.size):=HBW.out.size
        go_wp2_with (at_builtin;refine wpList_append_own_at _ rfl _ _ 34 rfl w.heap.size 81 i0 _ 11 120 Tryz.underlying34 hi0 hz0 hy0 hb0 rfl (by decide) _ _ _ rfl HR5.out ⟨w5.heap.size,0,none⟩ 1 1 (rcC r (.slice sa r.spans.length sc) (.slice da r.data.length dc)).toList rfl rfl (rec_lit _ _ _ _) (rec_one _ _ _ _ _ _ _) (by unfold maxLen;omega) (by omega) (by have:=HLO.out;simp;omega) ?_;intro v6 w6 o6 g6 _ t6)
        have HRN:Hid (Rl w6 w.heap.size v6 (os++[⟨r,sa,da,sc,dc⟩])):=HRL.out.push HLO.out HB5.out ⟨r,sa,da,sc,dc⟩ (World.ownsRow.alloc HS4.out _) (HD4.out.alloc _) HPT.out HSM.out g6 o6 (λj hj=>by
         rcases t6 with q|q
         ·left;exact q.symm.trans hj
         ·right;rw[q] at hj;simp at hj;simp;omega)
        have HBN:Hid (Below w.heap.size w w6):=(HBW.out.trans (HB5.out.mono HLO.out)).grown g6 (by simp;have:=HLO.out;omega) (λj hj=>(HRL.out.row.lt j hj).1)
        have HSN:Hid (Scd zs ((os++[(⟨r,sa,da,sc,dc⟩:Ro)]).map Ro.r) (t+8+V)):=by
         have:=HSC.out.step HBY.out (by rw[HQF.out];simp only;omega)
         rw[HQF.out] at this
         rw[List.map_append]
         rw[show t+8+V=t+(8+(V:Int)).toNat by omega]
         exact this
        clear o6 g6 t6 x0 x1 x2 x3 x4 x5 x6 x7 x8 x9 x10
        go_wp2
        go_roundw
        case rel=>exact⟨os++[⟨r,sa,da,sc,dc⟩],t+8+V,by first|rfl|go_num|(congr 1;omega),HSN.out,HRN.out,HBN.out⟩
        case measure=>simp[intOf];omega
      ·have HE:Hid (scR zs=(os.map Ro.r,t)):=HSC.out.fin (by rw[fsR_sum HNS.out HNX.out HV.out (by rw[HU.out,hZZ,HX.out];exact h3)])
       go_upto_region 9 with (first|(go_at_call 53;refine(HSUM.out _ (Below.refl _ _)).mono ?_;rintro e w' ⟨rfl,rfl⟩)|(go_at_call 61;refine(HW2.out _ HB1.out).mono ?_;rintro e w3 ⟨rfl,hb3⟩))
       have HB4:Hid (Below wr.heap.size wr w3):=HB1.out.trans (hb3.mono HB1.out.size)
       clear hb3 HSUM HRD
       go_wp2_with fail
       refine bodyPost_ret (v:=.tuple #[u4,.int .i64 t]) (by simp[results,Tryz.results27,go_sem]) rfl ?_
       show ScPost (scR zs) w _ _
       rw[HE.out]
       exact⟨_,os,rfl,HRL.out.keep HB4.out,rfl,HBW.out.trans (HB4.out.mono HBW.out.size)⟩
def fmR (l:List Rc):List Int×Int:=if l.all mayB6 then (l.flatMap frB,0) else ([],60)
theorem fmR_ok {l:List Rc} (h:∀r∈l,mayB6 r=true):fmR l=(l.flatMap frB,0):=by unfold fmR;rw[if_pos (List.all_eq_true.mpr h)]
theorem fmR_no {l:List Rc} {r:Rc} (hr:r∈l) (h:mayB6 r=false):fmR l=([],60):=by
 unfold fmR
 rw[if_neg]
 intro q
 have:=List.all_eq_true.mp q r hr
 rw[h] at this
 cases this
theorem fr_len:∀{l:List Rc},(∀r∈l,mayB6 r=true)-> (l.flatMap frB).length<= 80008*l.length
 |[],_=>by simp
 |r::l,h=>by
  have h1:=fr_len (l:=l) (λq hq=>h q (List.mem_cons_of_mem _ hq))
  have h2:=prB_len (h r (List.mem_cons_self ..))
  have h3:=frB_len r
  rw[List.flatMap_cons,List.length_append,List.length_cons]
  omega
theorem takeOk6 {l:List Rc} {k:Nat} {r:Rc} (h:∀q∈l.take k,mayB6 q=true) (hr:l[k]?=some r) (hm:mayB6 r=true):∀q∈l.take (k+1),mayB6 q=true:=by
 intro q hq
 have hk:=(List.getElem?_eq_some_iff.mp hr).1
 rw[List.take_succ_eq_append_getElem hk,List.mem_append] at hq
 rcases hq with hq|hq
 ·exact h q hq
 ·simp at hq
  rw[hq,(List.getElem?_eq_some_iff.mp hr).2]
  exact hm
theorem frame_any (l:List Rc) (a:Option Addr) (n c:Nat) (w:World) (hT:Tab6 w) (hl:l.length=n) (hn:n<= 1048576) (ha:RLin w a l) (hd:∀r∈l,Bytey r.data):
 Calls Tryz.prog 83 #[.slice a n c] w (PrPost (fmR l) w):=by
 obtain⟨i0,hinf,hz0,hz1,hz2⟩:=info_parts Tryz.info_u8
 have HT:Hid (Tab6 w):=hT
 have HL:Hid (l.length=n):=hl
 have HA:Hid (RLin w a l):=ha
 have HD:Hid (∀r∈l,Bytey r.data):=hd
 clear hT hl ha hd
 go_enter Tryz.func83,Tryz.ntmps83
 go_wp2_with fail
 go_loopw [4,11] (λv i wr=>∃(k:Nat),k<= n/\ i=.int .i64 k/\ (∀r∈l.take k,mayB6 r=true)/\ wr.ownsRow w.heap.size 5 1 v ((l.take k).flatMap frB).length (((l.take k).flatMap frB).map (Value.int .u8))/\ Below w.heap.size w wr) (λ_ i _=>n - (intOf i).toNat)
 case atStart=>exact⟨0,Nat.zero_le _,rfl,λr hr=>by simp at hr,by simpa using World.ownsRow_nil w w.heap.size _ _,Below.refl _ _⟩
 case round=>
  obtain⟨k,hk,rfl,hok,hrow,hbw⟩:=hrel
  have hmb:=fr_len hok
  rw[List.length_take,HL.out,Nat.min_eq_left hk] at hmb
  have HOK:Hid (∀r∈l.take k,mayB6 r=true):=hok
  have HRW:Hid (wr.ownsRow w.heap.size 5 1 u4 ((l.take k).flatMap frB).length (((l.take k).flatMap frB).map (Value.int .u8))):=hrow
  have HBW:Hid (Below w.heap.size w wr):=hbw
  by_cases hlt:k < n
  ·have hkl:k < l.length:=by rw[HL.out];exact hlt
   obtain⟨r,hr⟩:∃r,l[k]?=some r:=⟨l[k],List.getElem?_eq_getElem hkl⟩
   have hrm:r∈l:=List.mem_of_getElem? hr
   obtain⟨g,off,sa,da,sc,dc,rfl,hc,hri⟩:=(HA.out.below hbw).at hr
   have c0:=hc 0 _ rfl
   have c1:=hc 1 _ rfl
   have c2:=hc 2 _ rfl
   have c3:=hc 3 _ rfl
   have c4:=hc 4 _ rfl
   have c5:=hc 5 _ rfl
   have c6:=hc 6 _ rfl
   have c7:=hc 7 _ rfl
   have c8:=hc 8 _ rfl
   have c9:=hc 9 _ rfl
   have c10:=hc 10 _ rfl
   simp only[Nat.add_zero] at c0
   have hlt':(k:Int) < (n:Int):=by omega
   have HB1:Hid (Below wr.heap.size wr (wr.alloc (rcO r (.slice sa r.spans.length sc) (.slice da r.data.length dc)))):=(Below.refl _ _).alloc (aqH _) _
   have HP:=rprint_any r sa da r.spans.length r.data.length sc dc (wr.alloc (rcO r (.slice sa r.spans.length sc) (.slice da r.data.length dc))) (HT.out.below (HBW.out.trans (HB1.out.mono HBW.out.size)) (tab6_pos HT.out)) (hri.below HB1.out)
   have HX1:Hid ((wr.alloc (rcO r (.slice sa r.spans.length sc) (.slice da r.data.length dc))).heap[wr.heap.size]?=some (rcO r (.slice sa r.spans.length sc) (.slice da r.data.length dc))):=heap_new6 wr _
   have HR:Hid (l[k]?=some r):=hr
   have HRM:Hid (r∈l):=hrm
   have HBB:Hid (Below w.heap.size w (wr.alloc (rcO r (.slice sa r.spans.length sc) (.slice da r.data.length dc)))):=HBW.out.trans (HB1.out.mono HBW.out.size)
   clear hc hri hbw hr hrm hok hrow
   cases hm:mayB6 r with
   |false=>
    have HE:Hid (fmR l=([],60)):=fmR_no HRM.out hm
    have HPR:Hid (prR r=([],60)):=by unfold Hid prR;rw[hm];rfl
    rw[HPR.out] at HP
    clear HPR hm
    go_wp2_with (go_at_call 107;refine HP.mono ?_;rintro e w2 ⟨v2,rfl,ho2,hb2⟩)
    refine bodyPost_ret (v:=.tuple #[.slice none 0 0,.int .i64 60]) (by simp[results,Tryz.results83,go_sem]) rfl ?_
    show PrPost (fmR l) w _ _
    rw[HE.out]
    exact⟨_,rfl,World.ownsRow_nil _ _ _ _,HBB.out.trans (hb2.mono HBB.out.size)⟩
   |true=>
    have HPR:Hid (prR r=(prB r,0)):=by unfold Hid prR;rw[hm];rfl
    have HOK2:Hid (∀q∈l.take (k+1),mayB6 q=true):=takeOk6 HOK.out HR.out hm
    have hpl:=prB_len hm
    have HBP:Hid (Bytey (prB r)):=prB_bytey hm (HD.out r HRM.out)
    have hcr:=crs_lt HBP.out
    have HTK:Hid ((l.take (k+1)).flatMap frB=(((l.take k).flatMap frB++wd4 (((prB r).length:Nat):Int))++wd4 ((crs (prB r):Nat):Int))++prB r):=by
     unfold Hid
     rw[fr_take l hkl,(List.getElem?_eq_some_iff.mp HR.out).2]
     unfold frB
     simp only[List.append_assoc]
    have hwL:IntKind.u32.wrap ((((prB r).length:Nat):Int))=(((prB r).length:Nat):Int):=by rw[wrap_u32];omega
    rw[HPR.out] at HP
    clear HPR hm
    generalize hA:(l.take k).flatMap frB=A at*
    generalize prB r=B at*
    obtain⟨m,hmA⟩:∃m,A.length=m:=⟨_,rfl⟩
    obtain⟨q,hq⟩:∃q,B.length=q:=⟨_,rfl⟩
    obtain⟨X,hX⟩:∃X,crs B=X:=⟨_,rfl⟩
    rw[hmA] at HRW hmb
    have HQL:Hid (B.length=q):=hq
    have HXX:Hid (crs B=X):=hX
    have HMA:Hid (A.length=m):=hmA
    rw[hq] at HTK hpl hwL
    rw[hX] at HTK hcr
    clear hq hX hmA hA
    go_upto_region 8 with (go_at_call 107;refine HP.mono ?_;rintro e w2 ⟨v2,rfl,ho2,hb2⟩;simp only[HQL.out] at ho2;obtain⟨p2,x2,rfl,hlz2,hln2,hnx2,hcx2⟩:=row_sh2 ho2)
    have hs2:=hb2.size
    have hsw:w.heap.size<= wr.heap.size:=HBW.out.size
    have hsa:(wr.alloc (rcO r (.slice sa r.spans.length sc) (.slice da r.data.length dc))).heap.size=wr.heap.size+1:=by simp
    rw[hsa] at hs2 ho2
    have HB2:Hid (Below w.heap.size w w2):=HBB.out.trans (hb2.mono (by rw[hsa];omega))
    have HR2:Hid (w2.ownsRow w.heap.size 5 1 u4 m (A.map (Value.int .u8))):=own_below6 (own_below6 HRW.out HB1.out) hb2
    have HVL:Hid (∀j,u4.ownBlock=some j-> j < wr.heap.size):=λj hj=>(HRW.out.lt j hj).2
    have HO2:Hid (w2.ownsRow (wr.heap.size+1) 5 1 (.slice p2 q x2) q (B.map (Value.int .u8))):=ho2
    have HPW:Hid (∀(v:Value) (zs:List Int) (m':Nat) (W:World) (y:Int),0<= y/\ y < 4294967296-> W.ownsRow w.heap.size 5 1 v m' (zs.map (Value.int .u8))-> m'<= 140737488355000-> w.heap.size<= W.heap.size-> Calls Tryz.prog 108 #[v,.int .u32 y] W λe w'=>∃v',e=.returned v'/\ w'.ownsRow w.heap.size 5 1 v' (m'+4) ((zs++wd4 y).map (Value.int .u8))/\ W.grownBy w' v.ownBlock/\ (∀j,v'.ownBlock=some j-> v.ownBlock=some j∨W.heap.size<= j)):=λv zs m' W y h1 h2 h3 h4=>putWord_any _ m' v zs y W h1 h2 h3 h4
    have HZN:Hid (p2=none-> q=0/\ x2=0):=λh=>by
     obtain⟨_,⟨h1,h2⟩|⟨g',cap',cur,h1,_⟩⟩:=HO2.out
     ·simp only[Value.slice.injEq] at h1;exact⟨h1.2.1,h1.2.2⟩
     ·rw[h] at h1;cases h1
    clear hb2 ho2 hlz2 hln2 c0 c1 c2 c3 c4 c5 c6 c7 c8 c9 c10 HP hsa
    go_upto_region 9 with (go_at_call 108;refine(HPW.out _ A m _ _ (by omega) HR2.out (by omega) (by omega)).mono ?_;rintro e w3 ⟨v3,rfl,hr3,hg3,hf3⟩)
    have hs3:=hg3.size
    have HO3:Hid (w3.ownsRow (wr.heap.size+1) 5 1 (.slice p2 q x2) q (B.map (Value.int .u8))):=own_keep6 HO2.out hg3 (λj hj e=>by have:=HVL.out j e;have:=(HO2.out.lt j hj).1;omega)
    have HR3:Hid (w3.ownsRow w.heap.size 5 1 v3 (m+4) ((A++wd4 (q:Int)).map (Value.int .u8))):=hr3
    have HB3:Hid (Below w.heap.size w w3):=HB2.out.grown hg3 HB2.out.size (λj hj=>(HR2.out.lt j hj).1)
    have HV3:Hid (∀j,v3.ownBlock=some j-> j < wr.heap.size∨w2.heap.size<= j):=λj hj=>by rcases hf3 j hj with h|h;exact .inl (HVL.out j h);exact .inr h
    have HS3:Hid (Lies .u8 w3 p2 B):=by obtain⟨p',x',h1,h2,_⟩:=row_sh2 HO3.out;simp only[Value.slice.injEq] at h1;obtain⟨rfl,_,rfl⟩:=h1;exact h2
    have HO2B:Hid (∀j,(Value.slice p2 q x2).ownBlock=some j-> wr.heap.size+1<= j/\ j < w2.heap.size):=λj hj=>HO2.out.lt j hj
    have HSU:Hid (Calls Tryz.prog 103 #[.slice p2 q x2] w3 λe w'=>e=.returned (.int .u32 (X:Nat))/\ w3=w'):=by
     have:=sum_any p2 B q x2 w3 HBP.out HQL.out (by omega) HS3.out
     rw[HXX.out] at this
     exact this
    clear hr3 hg3 hf3 HR2 HO2 HB2
    go_upto_region 10 with (first
     |(go_at_call 103;refine HSU.out.mono ?_;rintro e w' ⟨rfl,rfl⟩)
     |(go_at_call 108;refine(HPW.out _ (A++wd4 (q:Int)) (m+4) _ _ (by omega) HR3.out (by omega) (by omega)).mono ?_;rintro e w4 ⟨v4,rfl,hr4,hg4,hf4⟩))
    have hs4:=hg4.size
    have HO4:Hid (w4.ownsRow (wr.heap.size+1) 5 1 (.slice p2 q x2) q (B.map (Value.int .u8))):=own_keep6 HO3.out hg4 (λj hj e=>by have:=HO2B.out j hj;rcases HV3.out j e with h|h<;>omega)
    have HR4:Hid (w4.ownsRow w.heap.size 5 1 v4 (m+4+4) (((A++wd4 (q:Int))++wd4 (X:Int)).map (Value.int .u8))):=hr4
    have HB4:Hid (Below w.heap.size w w4):=HB3.out.grown hg4 HB3.out.size (λj hj=>(HR3.out.lt j hj).1)
    have HS4:Hid (Lies .u8 w4 p2 B):=by obtain⟨p',x',h1,h2,_⟩:=row_sh2 HO4.out;simp only[Value.slice.injEq] at h1;obtain⟨rfl,_,rfl⟩:=h1;exact h2
    clear hr4 hg4 hf4 HR3 HO3 HB3 HS3 HSU HO4
    go_wp2_with (at_builtin;refine append_at _ rfl _ _ 35 rfl w.heap.size 5 i0 (.int .u8 0) 1 Tryz.underlying35 hinf hz0 hz1 hz2 rfl _ _ _ rfl HR4.out .u8 _ _ _ B rfl HZN.out HQL.out HS4.out (by unfold maxLen;omega) (by omega) HB4.out.size ?_;intro v5 w5 ho5 hg5 hf5)
    have HR5:Hid (w5.ownsRow w.heap.size 5 1 v5 ((l.take (k+1)).flatMap frB).length (((l.take (k+1)).flatMap frB).map (Value.int .u8))):=by
     unfold Hid
     rw[HTK.out,List.map_append]
     have:(A++wd4 (q:Int)++wd4 (X:Int)++B).length=m+4+4+q:=by simp[wd4,HMA.out,HQL.out];omega
     rw[this]
     exact ho5
    have HB5:Hid (Below w.heap.size w w5):=HB4.out.grown hg5 HB4.out.size (λj hj=>(HR4.out.lt j hj).1)
    clear ho5 hg5 hf5
    go_wp2
    go_roundw
    case rel=>exact⟨k+1,by omega,by go_num,HOK2.out,HR5.out,HB5.out⟩
    case measure=>simp[intOf];omega
  ·obtain rfl:k=n:=by omega
   have HE:Hid (fmR l=(l.flatMap frB,0)):=fmR_ok (by have:=HOK.out;rw[List.take_of_length_le (by rw[HL.out];exact aqH _)] at this;exact this)
   have HR2:Hid (wr.ownsRow w.heap.size 5 1 u4 (l.flatMap frB).length ((l.flatMap frB).map (Value.int .u8))):=by have:=HRW.out;rw[List.take_of_length_le (by rw[HL.out];exact aqH _)] at this;exact this
   clear hok hrow hbw
   go_wp2
   refine bodyPost_ret (v:=.tuple #[u4,.int .i64 0]) (by simp[results,Tryz.results83,go_sem]) rfl ?_
   show PrPost (fmR l) w _ _
   rw[HE.out]
   exact⟨_,rfl,HR2.out,HBW.out⟩
def bx0 (r:Int):Array Value:=#[.slice none 0 0,.int .i64 r,.bool false,.int .i64 0,.bool false,.bool false]
theorem diskNew_any (w:World):Calls Tryz.prog 7 #[.int .i64 1000] w λe w'=>e=.returned (.pointer (some ⟨w.heap.size+1,0,none⟩))/\ w'=(w.alloc (.cells (bx0 1000) 85)).alloc (.cells #[.pointer (some ⟨w.heap.size,0,none⟩)] 87):=by
 go_enter Tryz.func7,Tryz.ntmps7
 go_wp2
 go_ret
 exact⟨rfl,rfl⟩
theorem diskOf_any (w:World) (b x:Nat) (h:w.cell? ⟨b,0,none⟩=some (.pointer (some ⟨x,0,none⟩))):Calls Tryz.prog 13 #[.pointer (some ⟨b,0,none⟩)] w λe w'=>e=.returned (.pointer (some ⟨w.heap.size,0,none⟩))/\ w'=w.alloc (.cells #[.pointer (some ⟨x,0,none⟩)] 102):=by
 go_enter Tryz.func13,Tryz.ntmps13
 go_wp2
 go_ret
 exact⟨rfl,rfl⟩
theorem find_none (w:World) (b:Nat) (s:ByteArray) (h:w.cell? ⟨b,0,none⟩=some (.slice none 0 0)):Calls Tryz.prog 59 #[.pointer (some ⟨b,0,none⟩),.string s] w λe w'=>e=.returned (.int .i64 (-1))/\ w'=w:=by
 go_enter Tryz.func59,Tryz.ntmps59
 go_wp2
 refine wp_loop_rounds 1 ?_
 rw[rounds_succ]
 go_wp2
 go_ret
 exact⟨rfl,rfl⟩
theorem dread_none (w:World) (d x:Nat) (aN:Addr) (s:ByteArray) (hd:w.cell? ⟨d,0,none⟩=some (.pointer (some ⟨x,0,none⟩))) (hf:w.cell? ⟨x,0,none⟩=some (.slice none 0 0)) (hw:w.cell? ⟨x,5,none⟩=some (.bool false)) (hN:w.cell? ⟨2,0,none⟩=some (.iface 218 (.pointer (some aN)))):
 Calls Tryz.prog 74 #[.pointer (some ⟨d,0,none⟩),.string s] w λe w'=>e=.returned (.tuple #[.slice none 0 0,.iface 218 (.pointer (some aN))])/\ Below w.heap.size w w':=by
 have HF:=find_none w x s hf
 go_enter Tryz.func74,Tryz.ntmps74
 go_wp2_with (go_at_call 59;refine HF.mono ?_;rintro e w2 ⟨rfl,rfl⟩)
 go_region
 all_goals go_wp2
 all_goals refine bodyPost_ret (v:=.tuple #[.slice none 0 0,.iface 218 (.pointer (some aN))]) (by simp[results,Tryz.results74,go_sem]) rfl ?_
 all_goals exact⟨rfl,rfl,rfl,rfl,aqH _,λ_ _=>rfl⟩
theorem jread_none (w:World) (d x:Nat) (aN:Addr) (h1s:2 < w.heap.size) (hd:w.cell? ⟨d,0,none⟩=some (.pointer (some ⟨x,0,none⟩))) (hf:w.cell? ⟨x,0,none⟩=some (.slice none 0 0)) (hw:w.cell? ⟨x,5,none⟩=some (.bool false)) (hN:w.cell? ⟨2,0,none⟩=some (.iface 218 (.pointer (some aN)))):
 Calls Tryz.prog 40 #[.pointer (some ⟨d,0,none⟩)] w λe w'=>e=.returned (.tuple #[.slice none 0 0,.nilIface])/\ Below w.heap.size w w':=by
 have HR:=λs=>dread_none w d x aN s hd hf hw hN
 have HI:=λW=>isSame7 aN W
 have HK:Hid (∀W,Below w.heap.size w W-> W.cell? ⟨2,0,none⟩=some (.iface 218 (.pointer (some aN)))):=λW hb=>(hb.cell (p:=⟨2,0,none⟩) h1s).trans hN
 clear hd hf hw hN
 go_enter Tryz.func40,Tryz.ntmps40
 go_wp2_with (first
  |(go_at_call 74;refine(HR _).mono ?_;rintro e w2 ⟨rfl,hb2⟩;have kN:=HK.out _ hb2)
  |(go_at_call 43;refine(HI _).mono ?_;rintro e w3 ⟨rfl,rfl⟩))
 refine bodyPost_ret (v:=.tuple #[.slice none 0 0,.nilIface]) (by simp[results,Tryz.results40,go_sem]) rfl ?_
 exact⟨rfl,hb2⟩
theorem remove_none (w:World) (d x:Nat) (aN:Addr) (s:ByteArray) (hds:d < w.heap.size) (hxs:x < w.heap.size) (h1s:2 < w.heap.size) (hd:w.cell? ⟨d,0,none⟩=some (.pointer (some ⟨x,0,none⟩))) (hf:w.cell? ⟨x,0,none⟩=some (.slice none 0 0)) (hw:w.cell? ⟨x,5,none⟩=some (.bool false)) (hN:w.cell? ⟨2,0,none⟩=some (.iface 218 (.pointer (some aN)))):
 Calls Tryz.prog 73 #[.pointer (some ⟨d,0,none⟩),.string s] w λe w'=>e=.returned (.iface 218 (.pointer (some aN)))/\ Below w.heap.size w w':=by
 have HF:=λW (hb:Below w.heap.size w W)=>find_none W x s (by rw[hb.cell hxs];exact hf)
 have HB:Hid (Below w.heap.size w ((w.alloc (.cells #[.pointer (some ⟨d,0,none⟩)] 46)).alloc (.cells #[.int .i64 (-1)] 3))):=((Below.refl _ _).alloc (aqH _) _).alloc (by simp) _
 have kN:=(HB.out.cell (p:=⟨2,0,none⟩) h1s).trans hN
 go_enter Tryz.func73,Tryz.ntmps73
 go_wp2_with (go_at_call 59;refine(HF _ ?_).mono ?_;rotate_left;rintro e w2 ⟨rfl,rfl⟩)
 ·go_ret
  exact⟨rfl,HB.out⟩
 ·exact(Below.refl _ _).alloc (aqH _) _
theorem removeRest_none (w:World) (d x:Nat) (aN:Addr) (hds:d < w.heap.size) (hxs:x < w.heap.size) (h1s:2 < w.heap.size) (hd:w.cell? ⟨d,0,none⟩=some (.pointer (some ⟨x,0,none⟩))) (hf:w.cell? ⟨x,0,none⟩=some (.slice none 0 0)) (hw:w.cell? ⟨x,5,none⟩=some (.bool false)) (hN:w.cell? ⟨2,0,none⟩=some (.iface 218 (.pointer (some aN)))):
 Calls Tryz.prog 39 #[.pointer (some ⟨d,0,none⟩)] w λe w'=>e=.returned .nilIface/\ Below w.heap.size w w':=by
 have HR:=λs=>remove_none w d x aN s hds hxs h1s hd hf hw hN
 have HI:=λW=>isSame7 aN W
 have HK:Hid (∀W,Below w.heap.size w W-> W.cell? ⟨2,0,none⟩=some (.iface 218 (.pointer (some aN)))):=λW hb=>(hb.cell (p:=⟨2,0,none⟩) h1s).trans hN
 clear hd hf hw hN
 go_enter Tryz.func39,Tryz.ntmps39
 go_wp2_with (first
  |(go_at_call 73;refine(HR _).mono ?_;rintro e w2 ⟨rfl,hb2⟩;have kN:=HK.out _ hb2)
  |(go_at_call 43;refine(HI _).mono ?_;rintro e w3 ⟨rfl,rfl⟩))
 go_ret
 exact⟨rfl,hb2⟩
def Jn (w:World) (j d:Nat) (n m:Int):Prop:=w.cell? ⟨j,0,none⟩=some (.pointer (some ⟨d,0,none⟩))/\ w.cell? ⟨j,1,none⟩=some (.int .i64 n)/\ w.cell? ⟨j,2,none⟩=some (.int .i64 m)/\ w.cell? ⟨j,3,none⟩=some (.bool false)
theorem scan_nil (w:World) (hT:Tab6 w):Calls Tryz.prog 41 #[.slice none 0 0] w λe w'=>∃a c,e=.returned (.tuple #[.slice a 0 c,.int .i64 0])/\ Below w.heap.size w w':=by
 refine(scan_any none [] 0 0 w hT (λz hz=>by cases hz) rfl (aqH _) (by omega) (by omega) (.inl rfl) (.inl ⟨rfl,rfl⟩)).mono ?_
 rintro e w' ⟨v,os,rfl,hr,hm,hb⟩
 obtain⟨a,c,rfl,_⟩:=hr.rlin
 have:os=[]:=List.map_eq_nil_iff.mp hm
 subst this
 exact⟨a,c,rfl,hb⟩
theorem used_none (w:World) (b:Nat) (h:w.cell? ⟨b,0,none⟩=some (.slice none 0 0)):Calls Tryz.prog 56 #[.pointer (some ⟨b,0,none⟩)] w λe w'=>e=.returned (.int .i64 0)/\ w'=w:=by
 go_enter Tryz.func56,Tryz.ntmps56
 go_wp2
 refine wp_loop_rounds 1 ?_
 rw[rounds_succ]
 go_wp2
 go_ret
 exact⟨rfl,rfl⟩
theorem heard_nil (w:World) (j:Nat) (aD:Addr) (hD:w.cell? ⟨0,0,none⟩=some (.iface 218 (.pointer (some aD)))):Calls Tryz.prog 46 #[.pointer (some ⟨j,0,none⟩),.nilIface] w λe w'=>e=.returned .nilIface/\ w'=w:=by
 have HI:=isNil7 aD w
 go_enter Tryz.func46,Tryz.ntmps46
 go_wp2_with (go_at_call 43;refine HI.mono ?_;rintro e w3 ⟨rfl,rfl⟩)
 go_ret
 exact⟨rfl,rfl⟩
theorem jsize_any (w:World) (j d:Nat) (n m:Int) (h:Jn w j d n m):Calls Tryz.prog 19 #[.pointer (some ⟨j,0,none⟩)] w λe w'=>e=.returned (.int .i64 n)/\ w'=w:=by
 obtain⟨h0,h1,h2,h3⟩:=h
 go_enter Tryz.func19,Tryz.ntmps19
 go_wp2
 go_ret
 exact⟨rfl,rfl⟩
theorem jloose_any (w:World) (j d:Nat) (n m:Int) (h:Jn w j d n m):Calls Tryz.prog 20 #[.pointer (some ⟨j,0,none⟩)] w λe w'=>e=.returned (.int .i64 m)/\ w'=w:=by
 obtain⟨h0,h1,h2,h3⟩:=h
 go_enter Tryz.func20,Tryz.ntmps20
 go_wp2
 go_ret
 exact⟨rfl,rfl⟩
theorem frames_ok (w:World) (j d:Nat) (nn mm:Int) (l:List Rc) (a:Option Addr) (n c:Nat) (hT:Tab6 w) (hl:l.length=n) (hn:n<= 1048576) (ha:RLin w a l) (hd:∀r∈l,Bytey r.data) (hm:∀r∈l,mayB6 r=true) (h:Jn w j d nn mm):
 Calls Tryz.prog 45 #[.pointer (some ⟨j,0,none⟩),.slice a n c] w λe w'=>∃v,e=.returned (.tuple #[v,.nilIface])/\ w'.ownsRow w.heap.size 5 1 v (l.flatMap frB).length ((l.flatMap frB).map (Value.int .u8))/\ Below w.heap.size w w':=by
 have HF:=frame_any l a n c w hT hl hn ha hd
 rw[fmR_ok hm] at HF
 obtain⟨h0,h1,h2,h3⟩:=h
 clear hT hl ha hd hm
 go_enter Tryz.func45,Tryz.ntmps45
 go_wp2_with (go_at_call 83;refine HF.mono ?_;rintro e w2 ⟨v2,rfl,ho2,hb2⟩)
 refine bodyPost_ret (v:=.tuple #[v2,.nilIface]) (by simp[results,Tryz.results45,go_sem]) rfl ?_
 exact⟨_,rfl,ho2,hb2⟩
def Bx1 (w:World) (x F cp:Nat) (s:ByteArray) (a:Option Addr) (n c:Nat) (k:Int):Prop:=
 w.cell? ⟨x,0,none⟩=some (.slice (some ⟨F,0,none⟩) 1 cp)/\ w.cell? ⟨F,0,none⟩=some (.string s)/\ w.cell? ⟨F,1,none⟩=some (.slice a n c)/\ w.cell? ⟨F,2,none⟩=some (.int .i64 k)
theorem find_one (w:World) (x F cp:Nat) (s:ByteArray) (a:Option Addr) (n c:Nat) (k:Int) (h:Bx1 w x F cp s a n c k):Calls Tryz.prog 59 #[.pointer (some ⟨x,0,none⟩),.string s] w λe w'=>e=.returned (.int .i64 0)/\ w'=w:=by
 obtain⟨h0,h1,h2,h3⟩:=h
 go_enter Tryz.func59,Tryz.ntmps59
 go_wp2
 refine wp_loop_rounds 1 ?_
 rw[rounds_succ]
 go_wp2
 go_ret
 exact⟨rfl,rfl⟩
theorem syn1_one (w:World) (D I d x F cp:Nat) (s:ByteArray) (a:Option Addr) (n c:Nat) (k:Int) (h:Bx1 w x F cp s a n c k) (hD:w.cell? ⟨D,0,none⟩=some (.pointer (some ⟨d,0,none⟩))) (hI:w.cell? ⟨I,0,none⟩=some (.int .i64 0)) (hd:w.cell? ⟨d,0,none⟩=some (.pointer (some ⟨x,0,none⟩))) (hz:w.frozen? ⟨F,2,none⟩=false):
 Calls Tryz.prog 60 #[.pointer (some ⟨D,0,none⟩),.pointer (some ⟨I,0,none⟩)] w λe w'=>(∃v,e=.returned v)/\ w'=(w.setCell ⟨F,2,none⟩ (.int .i64 n)).drew:=by
 obtain⟨h0,h1,h2,h3⟩:=h
 go_enter Tryz.func60,Tryz.ntmps60
 go_wp2
 go_region
 refine bodyPost_end (v:=.tuple #[]) (by simp[results,Tryz.results60,go_sem]) rfl ?_
 exact⟨⟨_,rfl⟩,rfl⟩
theorem act_app (w:World) (x:Nat) (p q r:Value) (Q:World-> Prop) (h2:w.cell? ⟨x,2,none⟩=some (.bool false)) (hc:Calls Tryz.prog 58 #[p,q,r] w λe w'=>(∃v,e=.returned v)/\ Q w'):
 Calls Tryz.prog 57 #[.pointer (some ⟨x,0,none⟩),.func (.func 58) #[] #[p,q,r]] w λe w'=>e=.returned .nilIface/\ Q w':=by
 go_enter Tryz.func57,Tryz.ntmps57
 go_wp2_with (go_at_call 58;refine hc.mono ?_;rintro e w3 ⟨⟨v3,rfl⟩,hq3⟩)
 go_ret
 exact⟨rfl,hq3⟩
theorem act_syn (w:World) (x:Nat) (p q:Value) (Q:World-> Prop) (h2:w.cell? ⟨x,2,none⟩=some (.bool false)) (hc:Calls Tryz.prog 60 #[p,q] w λe w'=>(∃v,e=.returned v)/\ Q w'):
 Calls Tryz.prog 57 #[.pointer (some ⟨x,0,none⟩),.func (.func 60) #[] #[p,q]] w λe w'=>e=.returned .nilIface/\ Q w':=by
 go_enter Tryz.func57,Tryz.ntmps57
 go_wp2_with (go_at_call 60;refine hc.mono ?_;rintro e w3 ⟨⟨v3,rfl⟩,hq3⟩)
 go_ret
 exact⟨rfl,hq3⟩
theorem Tryz.jinfo_file:(Tryz.prog.info? 75).map (λi=>(i.zero,i.size,i.bytes))=some (some (.agg #[.string ⟨#[]⟩,.slice none 0 0,.int .i64 0]),3,48):=by kernel_rfl
theorem jinfo_parts {P:Program} {t:TypeId} {z:Value} {n b:Nat} (h:(P.info? t).map (λi=>(i.zero,i.size,i.bytes))=some (some z,n,b)):∃i,P.info? t=some i/\ i.zero=some z/\ i.size=n/\ i.bytes=b:=by
 cases hi:P.info? t with
 |none=>rw[hi] at h;cases h
 |some i=>rw[hi] at h;simp at h;exact⟨i,rfl,h.1,h.2.1,h.2.2⟩
theorem jthree_new (w:World) (a b c:Value) (t:TypeId):∀j u,[a,b,c][j]?=some u-> (w.alloc (.cells #[a,b,c] t)).cell? ((⟨w.heap.size,0,none⟩:Addr).add j)=some u:=by
 intro j u hj
 match j,hj with
 |0,hj=>simp at hj;subst hj;simp[Addr.add]
 |1,hj=>simp at hj;subst hj;simp[Addr.add]
 |2,hj=>simp at hj;subst hj;simp[Addr.add]
theorem jown_pos {w:World} {base n sz:Nat} {e:TypeId} {v:Value} {xs:List Value} (h:w.ownsRow base e sz v n xs) (hn:0 < n):∃g cap,v=.slice (some ⟨g,0,none⟩) n cap/\ base<= g/\ g < w.heap.size:=by
 obtain⟨_,⟨rfl,rfl⟩|⟨g,cap,cur,rfl,hb,hg,_⟩⟩:=h
 ·omega
 ·exact⟨g,cap,rfl,hb,(Array.getElem?_eq_some_iff.mp hg).1⟩
theorem jcell_grown {w w':World} {row:Option Nat} {k o:Nat} {u:Value} (h:w.cell? ⟨k,o,none⟩=some u) (hg:w.grownBy w' row) (hne:some k≠row):w'.cell? ⟨k,o,none⟩=some u:=
 (World.cell?_of_block (a:=⟨k,o,none⟩) (hg.block k (World.block_lt_of_cell? w ⟨k,o,none⟩ h) hne)).trans h
theorem jgrown_trans {a b c:World} {row:Option Nat} (h:a.grownBy b row) (h':b.grownBy c row):a.grownBy c row:=
 ⟨h'.os.trans h.os,h'.tape.trans h.tape,h'.output.trans h.output,Nat.le_trans h.size h'.size,λk hk hne=>(h'.block k (Nat.lt_of_lt_of_le hk h.size) hne).trans (h.block k hk hne)⟩
theorem jgrown_none {a b:World} {row:Option Nat} (h:a.grownBy b none):a.grownBy b row:=⟨h.os,h.tape,h.output,h.size,λk hk _=>h.block k hk (by simp)⟩
theorem jgrown_drew (w:World) (row:Option Nat):w.grownBy w.drew row:=⟨rfl,rfl,rfl,aqH _,λ_ _ _=>rfl⟩
theorem jgrown_alloc (w:World) (o:Obj) (row:Option Nat):w.grownBy (w.alloc o) row:=⟨rfl,rfl,rfl,by simp,λk hk _=>Below.heap_alloc _ _ k hk⟩
theorem jgrown_set (w:World) (x o:Nat) (u:Value):w.grownBy (w.setCell ⟨x,o,none⟩ u) (some x):=⟨rfl,rfl,rfl,by simp[World.setCell],λk hk hne=>heap_setCell_other w ⟨x,o,none⟩ k u (λe=>hne (by rw[e]))⟩
def jfv (x o:Nat) (V:World):Value:=(V.cell? ⟨x,o,none⟩).getD (.slice none 0 0)
theorem jset_other {V:World} {x o k j:Nat} {u v:Value} (h:V.cell? ⟨k,j,none⟩=some u) (hne:k≠x∨j≠o):(V.setCell ⟨x,o,none⟩ v).cell? ⟨k,j,none⟩=some u:=by
 rw[World.cell?_setCell_other _ _ _ _ (λe=>by cases e;rcases hne with h|h<;>exact h rfl)];exact h
structure Ap1 (w:World) (x:Nat) (s:ByteArray) (n:Nat) (bs:List Value) (w':World):Prop where
 ex:∃F cp ab cb,Bx1 w' x F cp s ab n cb 0/\ w.heap.size<= F/\ F < w'.heap.size/\ w'.frozen? ⟨F,2,none⟩=false/\ w'.ownsRow w.heap.size 5 1 (.slice ab n cb) n bs
 gr:w.grownBy w' (some x)
 oth:∀j,j≠0-> w'.cell? ⟨x,j,none⟩=w.cell? ⟨x,j,none⟩
theorem app1_none (w:World) (D N B d x:Nat) (s:ByteArray) (gb n c base:Nat) (bs:List Value)
 (hD:w.cell? ⟨D,0,none⟩=some (.pointer (some ⟨d,0,none⟩))) (hN:w.cell? ⟨N,0,none⟩=some (.string s)) (hB:w.cell? ⟨B,0,none⟩=some (.slice (some ⟨gb,0,none⟩) n c))
 (hd:w.cell? ⟨d,0,none⟩=some (.pointer (some ⟨x,0,none⟩))) (hf:w.cell? ⟨x,0,none⟩=some (.slice none 0 0)) (hfz:w.frozen? ⟨x,0,none⟩=false)
 (hrow:w.ownsRow base 5 1 (.slice (some ⟨gb,0,none⟩) n c) n bs) (hone:∀u∈bs,u.oneCell'=true) (hn:n<= 1000) (hn0:0 < n) (hgx:gb≠x) (hDx:D≠x) (hNx:N≠x) (hBx:B≠x) (hdx:d≠x):
 Calls Tryz.prog 58 #[.pointer (some ⟨D,0,none⟩),.pointer (some ⟨N,0,none⟩),.pointer (some ⟨B,0,none⟩)] w λe w'=>(∃v,e=.returned v)/\ Ap1 w x s n bs w':=by
 obtain⟨i0,hi,hz0,hz1,hz2⟩:=jinfo_parts Tryz.jinfo_file
 obtain⟨iu,hiu,hy0,hy1,hy2⟩:=jinfo_parts Tryz.info_u8
 have HF:=λk=>find_none (w.drewN k) x s hf
 have HF0:=find_none w.drew x s hf
 have HF1:=find_none w x s hf
 have HRw:Hid (w.ownsRow base 5 1 (.slice (some ⟨gb,0,none⟩) n c) n bs/\ ∀u∈bs,u.oneCell'=true):=⟨hrow,hone⟩
 clear hrow hone
 go_enter Tryz.func58,Tryz.ntmps58
 go_wp2_with fail
 go_region_held3 (λV=>V.cell? ⟨D,0,none⟩=some (.pointer (some ⟨d,0,none⟩))/\ V.cell? ⟨N,0,none⟩=some (.string s)/\ V.cell? ⟨d,0,none⟩=some (.pointer (some ⟨x,0,none⟩)))
  (first|(exact⟨hD,hN,hd⟩))
  (first
   |(go_at_call 59
     refine HF0.mono ?_
     rintro e w2 ⟨rfl,rfl⟩))
 clear HF HF0 HF1
 go_wp2_with fail
 refine wp_region_held (S:=λV=>V.cell? ⟨D,0,none⟩=some (.pointer (some ⟨d,0,none⟩))/\ V.cell? ⟨N,0,none⟩=some (.string s)/\ V.cell? ⟨d,0,none⟩=some (.pointer (some ⟨x,0,none⟩))) (by kernel_rfl) ?_
 change wpAnyH _ _ _ _ _ _ _ _ w.drew.drew
 have hS:w.drew.drew.cell? ⟨D,0,none⟩=some (.pointer (some ⟨d,0,none⟩))/\ w.drew.drew.cell? ⟨N,0,none⟩=some (.string s)/\ w.drew.drew.cell? ⟨d,0,none⟩=some (.pointer (some ⟨x,0,none⟩)):=⟨hD,hN,hd⟩
 refine wpAnyH_take (i:=0) (v:=.pointer (some ⟨d,0,none⟩)) rfl (by kernel_rfl) (by kernel_rfl) (by kernel_rfl) (λ_ _ _ h=>h) (.inl ⟨by kernel_rfl,λV hV=>?_⟩) hS ?_
 ·obtain⟨s0,s1,s2⟩:=hV
  go_simp
 try simp only[Act.put,aqA,aqB,aqC]
 refine wpAnyH_take (i:=1) (v:=.pointer (some ⟨d,0,none⟩)) rfl (by kernel_rfl) (by kernel_rfl) (by kernel_rfl) (λ_ _ _ h=>h) (.inl ⟨by kernel_rfl,λV hV=>?_⟩) hS ?_
 ·obtain⟨s0,s1,s2⟩:=hV
  go_simp
 try simp only[Act.put,aqA,aqB,aqC]
 refine wpAnyH_take (i:=2) (v:=.pointer (some ⟨d,0,none⟩)) rfl (by kernel_rfl) (by kernel_rfl) (by kernel_rfl) (λ_ _ _ h=>h) (.inl ⟨by kernel_rfl,λV hV=>?_⟩) hS ?_
 ·obtain⟨s0,s1,s2⟩:=hV
  go_simp
 try simp only[Act.put,aqA,aqB,aqC]
 refine wpAnyH_take (i:=3) (v:=.pointer (some ⟨x,0,none⟩)) rfl (by kernel_rfl) (by kernel_rfl) (by kernel_rfl) (λ_ _ _ h=>h) (.inl ⟨by kernel_rfl,λV hV=>?_⟩) hS ?_
 ·obtain⟨s0,s1,s2⟩:=hV
  go_simp
 try simp only[Act.put,aqA,aqB,aqC]
 refine wpAnyH_take (i:=4) (v:=.pointer (some ⟨d,0,none⟩)) rfl (by kernel_rfl) (by kernel_rfl) (by kernel_rfl) (λ_ _ _ h=>h) (.inl ⟨by kernel_rfl,λV hV=>?_⟩) hS ?_
 ·obtain⟨s0,s1,s2⟩:=hV
  go_simp
 try simp only[Act.put,aqA,aqB,aqC]
 refine wpAnyH_take (i:=5) (v:=.pointer (some ⟨d,0,none⟩)) rfl (by kernel_rfl) (by kernel_rfl) (by kernel_rfl) (λ_ _ _ h=>h) (.inl ⟨by kernel_rfl,λV hV=>?_⟩) hS ?_
 ·obtain⟨s0,s1,s2⟩:=hV
  go_simp
 try simp only[Act.put,aqA,aqB,aqC]
 refine wpAnyH_take (i:=6) (v:=.pointer (some ⟨d,0,none⟩)) rfl (by kernel_rfl) (by kernel_rfl) (by kernel_rfl) (λ_ _ _ h=>h) (.inl ⟨by kernel_rfl,λV hV=>?_⟩) hS ?_
 ·obtain⟨s0,s1,s2⟩:=hV
  go_simp
 try simp only[Act.put,aqA,aqB,aqC]
 refine wpAnyH_take (i:=7) (v:=.pointer (some ⟨x,0,none⟩)) rfl (by kernel_rfl) (by kernel_rfl) (by kernel_rfl) (λ_ _ _ h=>h) (.inl ⟨by kernel_rfl,λV hV=>?_⟩) hS ?_
 ·obtain⟨s0,s1,s2⟩:=hV
  go_simp
 try simp only[Act.put,aqA,aqB,aqC]
 refine wpAnyH_take (i:=8) (v:=.pointer (some ⟨x,0,none⟩)) rfl (by kernel_rfl) (by kernel_rfl) (by kernel_rfl) (λ_ _ _ h=>h) (.inl ⟨by kernel_rfl,λV hV=>?_⟩) hS ?_
 ·obtain⟨s0,s1,s2⟩:=hV
  go_simp
 try simp only[Act.put,aqA,aqB,aqC]
 refine wpAnyH_take (i:=9) (v:=.pointer (some ⟨x,0,none⟩)) rfl (by kernel_rfl) (by kernel_rfl) (by kernel_rfl) (λ_ _ _ h=>h) (.inl ⟨by kernel_rfl,λV hV=>?_⟩) hS ?_
 ·obtain⟨s0,s1,s2⟩:=hV
  go_simp
 try simp only[Act.put,aqA,aqB,aqC]
 refine wpAnyH_take (i:=11) (v:=.string s) rfl (by kernel_rfl) (by kernel_rfl) (by kernel_rfl) (λ_ _ _ h=>h) (.inl ⟨by kernel_rfl,λV hV=>?_⟩) hS ?_
 ·obtain⟨s0,s1,s2⟩:=hV
  go_simp
 try simp only[Act.put,aqA,aqB,aqC]
 refine wpAnyH_take (i:=12) (v:=.agg #[.string s,.slice none 0 0,.int .i64 0]) rfl (by kernel_rfl) (by kernel_rfl) (by kernel_rfl) (λ_ _ _ h=>h) (.inl ⟨by kernel_rfl,λV hV=>?_⟩) hS ?_
 ·obtain⟨s0,s1,s2⟩:=hV
  go_simp
 try simp only[Act.put,aqA,aqB,aqC]
 have aD:∀o,(w.drew.drew.alloc o).cell? ⟨D,0,none⟩=some (.pointer (some ⟨d,0,none⟩)):=λo=>jcell_grown (w:=w.drew.drew) (row:=none) hD (jgrown_alloc _ o none) (by simp)
 have aN:∀o,(w.drew.drew.alloc o).cell? ⟨N,0,none⟩=some (.string s):=λo=>jcell_grown (w:=w.drew.drew) (row:=none) hN (jgrown_alloc _ o none) (by simp)
 have ad:∀o,(w.drew.drew.alloc o).cell? ⟨d,0,none⟩=some (.pointer (some ⟨x,0,none⟩)):=λo=>jcell_grown (w:=w.drew.drew) (row:=none) hd (jgrown_alloc _ o none) (by simp)
 have af:(w.alloc (.cells #[.string s,.slice none 0 0,.int .i64 0] 75)).cell? ⟨x,0,none⟩=some (.slice none 0 0):=jcell_grown hf (jgrown_alloc w _ none) (by simp)
 have hDl:=World.block_lt_of_cell? w ⟨D,0,none⟩ hD
 have hBl:=World.block_lt_of_cell? w ⟨B,0,none⟩ hB
 have hdl:=World.block_lt_of_cell? w ⟨d,0,none⟩ hd
 refine wpAnyH_ready (rs:=[10,13]) (by kernel_rfl) (by simp) ?_
 refine AllReadyH.cons (o:=_) rfl (λK hK=>?way1) (AllReadyH.cons (o:=_) rfl (λK hK=>?way2) AllReadyH.nil)
 case' way1=>
  go_simp
  refine hK.out _ _ hS (λ_=>?_)
  clear hK K
  try simp only[Act.put,aqA,aqB,aqC]
  refine wpAnyH_ready (rs:=[13]) (by kernel_rfl) (by simp) ?_
  refine AllReadyH.cons (o:=_) rfl (λK hK=>?_) AllReadyH.nil
  go_simp
  refine hK.out _ _ ⟨aD _,aN _,ad _⟩ (λ_=>?_)
  clear hK K
  try simp only[Act.put,aqA,aqB,aqC]
 case' way2=>
  go_simp
  refine hK.out _ _ ⟨aD _,aN _,ad _⟩ (λ_=>?_)
  clear hK K
  try simp only[Act.put,aqA,aqB,aqC]
  refine wpAnyH_ready (rs:=[10]) (by kernel_rfl) (by simp) ?_
  refine AllReadyH.cons (o:=_) rfl (λK hK=>?_) AllReadyH.nil
  go_simp
  refine hK.out _ _ ⟨aD _,aN _,ad _⟩ (λ_=>?_)
  clear hK K
  try simp only[Act.put,aqA,aqB,aqC]
 all_goals (
  refine wpAnyH_ready (rs:=[14]) (by kernel_rfl) (by simp) ?_
  refine AllReadyH.cons (o:=_) rfl (λK hK=>?_) AllReadyH.nil
  refine step_append_at rfl (.tmp 30) (.tmp 33) 72 rfl w.heap.size 75 i0 (.agg #[.string ⟨#[]⟩,.slice none 0 0,.int .i64 0]) 3 48 Tryz.underlying72 hi hz0 hz1 hz2 rfl (by decide) (.slice none 0 0) 0 [] (by simp[Act.eval]) (World.ownsRow_nil _ _ _ _) ⟨w.heap.size,0,none⟩ 1 1 [.string s,.slice none 0 0,.int .i64 0] (by simp[Act.eval]) rfl (jthree_new w.drew.drew _ _ _ _) (by simp[Value.oneCell']) (by unfold maxLen;omega) (by omega) (by simp) ?_
  intro v6 w6 hown6 hgrow6 hat6
  have HG6:Hid (w.grownBy w6 none):=jgrown_trans (jgrown_trans (jgrown_trans (jgrown_drew w none) (jgrown_drew _ none)) (jgrown_alloc _ _ none)) hgrow6
  have eD:=jcell_grown hD HG6.out (by simp)
  have eN:=jcell_grown hN HG6.out (by simp)
  have eB:=jcell_grown hB HG6.out (by simp)
  have ed:=jcell_grown hd HG6.out (by simp)
  have ef:=jcell_grown hf HG6.out (by simp)
  have efz:w6.frozen? ⟨x,0,none⟩=false:=(World.frozen?_of_block (a:=⟨x,0,none⟩) (HG6.out.block x (World.block_lt_of_cell? w ⟨x,0,none⟩ hf) (by simp))).trans hfz
  have HO6:Hid (w6.ownsRow w.heap.size 75 3 v6 1 [.string s,.slice none 0 0,.int .i64 0]):=by show World.ownsRow _ _ _ _ _ _ _;simpa using hown6
  clear hown6 hgrow6 hat6
  obtain⟨F,cpF,hv6,hF1,hF2⟩:=jown_pos HO6.out (by omega)
  subst hv6
  have hS6:w6.cell? ⟨D,0,none⟩=some (.pointer (some ⟨d,0,none⟩))/\ w6.cell? ⟨N,0,none⟩=some (.string s)/\ w6.cell? ⟨d,0,none⟩=some (.pointer (some ⟨x,0,none⟩)):=⟨eD,eN,ed⟩
  refine hK.out _ _ hS6 (λ_=>?_)
  clear hK K
  try simp only[Act.put,aqA,aqB,aqC]
  refine wpAnyH_take (i:=15) (v:=.pointer (some ⟨x,0,none⟩)) rfl (by kernel_rfl) (by kernel_rfl) (by kernel_rfl) (λ_ _ _ h=>h) (.inl ⟨by kernel_rfl,λV hV=>?_⟩) hS6 ?_
  ·obtain⟨s0,s1,s2⟩:=hV
   go_simp
  try simp only[Act.put,aqA,aqB,aqC]
  refine wpAnyH_take (i:=16) (v:=.pointer (some ⟨x,0,none⟩)) rfl (by kernel_rfl) (by kernel_rfl) (by kernel_rfl) (λ_ _ _ h=>h) (.inl ⟨by kernel_rfl,λV hV=>?_⟩) hS6 ?_
  ·obtain⟨s0,s1,s2⟩:=hV
   go_simp
  try simp only[Act.put,aqA,aqB,aqC]
  refine wpAnyH_ready (rs:=[17]) (by kernel_rfl) (by simp) ?_
  refine AllReadyH.cons (o:=_) rfl (λK hK=>?_) AllReadyH.nil
  go_simp
  refine hK.out _ _ ⟨jset_other eD (.inl hDx),jset_other eN (.inl hNx),jset_other ed (.inl hdx)⟩ (λ_=>?_)
  clear hK K
  try simp only[Act.put,aqA,aqB,aqC]
  refine wpAnyH_done (by kernel_rfl) ?_ _
  have hDF:D≠F:=by simp only at hDl;omega
  have hBF:B≠F:=by simp only at hBl;omega
  have hdF:d≠F:=by simp only at hdl;omega
  obtain⟨W7,hW7⟩:∃W,(w6.setCell ⟨x,0,none⟩ (.slice (some ⟨F,0,none⟩) 1 cpF))=W:=⟨_,rfl⟩
  have hxl:x < w.heap.size:=World.block_lt_of_cell? w ⟨x,0,none⟩ hf
  have hFx:F≠x:=by omega
  have gD:W7.cell? ⟨D,0,none⟩=some (.pointer (some ⟨d,0,none⟩)):=by rw[←hW7];exact jset_other eD (.inl hDx)
  have gB:W7.cell? ⟨B,0,none⟩=some (.slice (some ⟨gb,0,none⟩) n c):=by rw[←hW7];exact jset_other eB (.inl hBx)
  have gd:W7.cell? ⟨d,0,none⟩=some (.pointer (some ⟨x,0,none⟩)):=by rw[←hW7];exact jset_other ed (.inl hdx)
  have gx:W7.cell? ⟨x,0,none⟩=some (.slice (some ⟨F,0,none⟩) 1 cpF):=by rw[←hW7];exact World.cell?_setCell_same _ _ _ ef
  have hgr7:w6.grownBy W7 (some x):=by rw[←hW7];exact jgrown_set w6 x 0 _
  have HO7:Hid (W7.ownsRow w.heap.size 75 3 (.slice (some ⟨F,0,none⟩) 1 cpF) 1 [.string s,.slice none 0 0,.int .i64 0]):=World.ownsRow.kept HO6.out hgr7 (.inr (by simp[Value.ownBlock,hFx]))
  have HR7:Hid (W7.ownsRow base 5 1 (.slice (some ⟨gb,0,none⟩) n c) n bs):=World.ownsRow.kept (World.ownsRow.kept HRw.out.1 HG6.out (.inr (by simp[Value.ownBlock]))) hgr7 (.inr (by simp[Value.ownBlock,hgx]))
  have F1:W7.cell? ⟨F,1,none⟩=some (.slice none 0 0):=World.ownsRow.cellAt HO7.out 1 (by omega)
  have Fz:W7.frozen? ⟨F,1,none⟩=false:=World.ownsRow.frozenAt HO7.out 1
  have HG7:Hid (w.grownBy W7 (some x)):=jgrown_trans (jgrown_none HG6.out) hgr7
  have HX7:Hid (∀j,j≠0-> W7.cell? ⟨x,j,none⟩=w.cell? ⟨x,j,none⟩):=λj hj=>by
   rw[←hW7,World.cell?_setCell_other _ _ _ _ (λe=>by cases e;exact hj rfl)]
   exact World.cell?_of_block (a:=⟨x,j,none⟩) (HG6.out.block x hxl (by simp))
  rw[hW7]
  clear hW7 hgr7 eD eN eB ed ef efz hS6 hS aD aN ad af
  go_wp2_with fail
  refine wp_region_held (S:=λV=>V.cell? ⟨D,0,none⟩=some (.pointer (some ⟨d,0,none⟩))/\ V.cell? ⟨B,0,none⟩=some (.slice (some ⟨gb,0,none⟩) n c)/\ V.cell? ⟨d,0,none⟩=some (.pointer (some ⟨x,0,none⟩))/\ V.cell? ⟨x,0,none⟩=some (.slice (some ⟨F,0,none⟩) 1 cpF)) (by kernel_rfl) ?_
  change wpAnyH _ _ _ _ _ _ _ _ W7.drew
  have hS4:W7.drew.cell? ⟨D,0,none⟩=some (.pointer (some ⟨d,0,none⟩))/\ W7.drew.cell? ⟨B,0,none⟩=some (.slice (some ⟨gb,0,none⟩) n c)/\ W7.drew.cell? ⟨d,0,none⟩=some (.pointer (some ⟨x,0,none⟩))/\ W7.drew.cell? ⟨x,0,none⟩=some (.slice (some ⟨F,0,none⟩) 1 cpF):=⟨gD,gB,gd,gx⟩
  refine wpAnyH_take (i:=0) (v:=.pointer (some ⟨d,0,none⟩)) rfl (by kernel_rfl) (by kernel_rfl) (by kernel_rfl) (λ_ _ _ h=>h) (.inl ⟨by kernel_rfl,λV hV=>?_⟩) hS4 ?_
  ·obtain⟨s0,s1,s2,s3⟩:=hV
   go_simp
  try simp only[Act.put,aqA,aqB,aqC]
  refine wpAnyH_take (i:=1) (v:=.pointer (some ⟨d,0,none⟩)) rfl (by kernel_rfl) (by kernel_rfl) (by kernel_rfl) (λ_ _ _ h=>h) (.inl ⟨by kernel_rfl,λV hV=>?_⟩) hS4 ?_
  ·obtain⟨s0,s1,s2,s3⟩:=hV
   go_simp
  try simp only[Act.put,aqA,aqB,aqC]
  refine wpAnyH_take (i:=2) (v:=.pointer (some ⟨d,0,none⟩)) rfl (by kernel_rfl) (by kernel_rfl) (by kernel_rfl) (λ_ _ _ h=>h) (.inl ⟨by kernel_rfl,λV hV=>?_⟩) hS4 ?_
  ·obtain⟨s0,s1,s2,s3⟩:=hV
   go_simp
  try simp only[Act.put,aqA,aqB,aqC]
  refine wpAnyH_take (i:=3) (v:=.pointer (some ⟨x,0,none⟩)) rfl (by kernel_rfl) (by kernel_rfl) (by kernel_rfl) (λ_ _ _ h=>h) (.inl ⟨by kernel_rfl,λV hV=>?_⟩) hS4 ?_
  ·obtain⟨s0,s1,s2,s3⟩:=hV
   go_simp
  try simp only[Act.put,aqA,aqB,aqC]
  refine wpAnyH_take (i:=4) (v:=.pointer (some ⟨x,0,none⟩)) rfl (by kernel_rfl) (by kernel_rfl) (by kernel_rfl) (λ_ _ _ h=>h) (.inl ⟨by kernel_rfl,λV hV=>?_⟩) hS4 ?_
  ·obtain⟨s0,s1,s2,s3⟩:=hV
   go_simp
  try simp only[Act.put,aqA,aqB,aqC]
  refine wpAnyH_take (i:=5) (v:=.pointer (some ⟨x,0,none⟩)) rfl (by kernel_rfl) (by kernel_rfl) (by kernel_rfl) (λ_ _ _ h=>h) (.inl ⟨by kernel_rfl,λV hV=>?_⟩) hS4 ?_
  ·obtain⟨s0,s1,s2,s3⟩:=hV
   go_simp
  try simp only[Act.put,aqA,aqB,aqC]
  refine wpAnyH_take (i:=6) (v:=.slice (some ⟨F,0,none⟩) 1 cpF) rfl (by kernel_rfl) (by kernel_rfl) (by kernel_rfl) (λ_ _ _ h=>h) (.inl ⟨by kernel_rfl,λV hV=>?_⟩) hS4 ?_
  ·obtain⟨s0,s1,s2,s3⟩:=hV
   go_simp
  try simp only[Act.put,aqA,aqB,aqC]
  refine wpAnyH_take (i:=7) (v:=.int .i64 0) rfl (by kernel_rfl) (by kernel_rfl) (by kernel_rfl) (λ_ _ _ h=>h) (.inl ⟨by kernel_rfl,λV hV=>?_⟩) hS4 ?_
  ·obtain⟨s0,s1,s2,s3⟩:=hV
   go_simp
  try simp only[Act.put,aqA,aqB,aqC]
  refine wpAnyH_take (i:=8) (v:=.pointer (some ⟨d,0,none⟩)) rfl (by kernel_rfl) (by kernel_rfl) (by kernel_rfl) (λ_ _ _ h=>h) (.inl ⟨by kernel_rfl,λV hV=>?_⟩) hS4 ?_
  ·obtain⟨s0,s1,s2,s3⟩:=hV
   go_simp
  try simp only[Act.put,aqA,aqB,aqC]
  refine wpAnyH_take (i:=9) (v:=.pointer (some ⟨d,0,none⟩)) rfl (by kernel_rfl) (by kernel_rfl) (by kernel_rfl) (λ_ _ _ h=>h) (.inl ⟨by kernel_rfl,λV hV=>?_⟩) hS4 ?_
  ·obtain⟨s0,s1,s2,s3⟩:=hV
   go_simp
  try simp only[Act.put,aqA,aqB,aqC]
  refine wpAnyH_take (i:=10) (v:=.pointer (some ⟨d,0,none⟩)) rfl (by kernel_rfl) (by kernel_rfl) (by kernel_rfl) (λ_ _ _ h=>h) (.inl ⟨by kernel_rfl,λV hV=>?_⟩) hS4 ?_
  ·obtain⟨s0,s1,s2,s3⟩:=hV
   go_simp
  try simp only[Act.put,aqA,aqB,aqC]
  refine wpAnyH_take (i:=11) (v:=.pointer (some ⟨x,0,none⟩)) rfl (by kernel_rfl) (by kernel_rfl) (by kernel_rfl) (λ_ _ _ h=>h) (.inl ⟨by kernel_rfl,λV hV=>?_⟩) hS4 ?_
  ·obtain⟨s0,s1,s2,s3⟩:=hV
   go_simp
  try simp only[Act.put,aqA,aqB,aqC]
  refine wpAnyH_take (i:=12) (v:=.pointer (some ⟨x,0,none⟩)) rfl (by kernel_rfl) (by kernel_rfl) (by kernel_rfl) (λ_ _ _ h=>h) (.inl ⟨by kernel_rfl,λV hV=>?_⟩) hS4 ?_
  ·obtain⟨s0,s1,s2,s3⟩:=hV
   go_simp
  try simp only[Act.put,aqA,aqB,aqC]
  refine wpAnyH_take (i:=13) (v:=.pointer (some ⟨x,0,none⟩)) rfl (by kernel_rfl) (by kernel_rfl) (by kernel_rfl) (λ_ _ _ h=>h) (.inl ⟨by kernel_rfl,λV hV=>?_⟩) hS4 ?_
  ·obtain⟨s0,s1,s2,s3⟩:=hV
   go_simp
  try simp only[Act.put,aqA,aqB,aqC]
  refine wpAnyH_take (i:=14) (v:=.slice (some ⟨F,0,none⟩) 1 cpF) rfl (by kernel_rfl) (by kernel_rfl) (by kernel_rfl) (λ_ _ _ h=>h) (.inl ⟨by kernel_rfl,λV hV=>?_⟩) hS4 ?_
  ·obtain⟨s0,s1,s2,s3⟩:=hV
   go_simp
  try simp only[Act.put,aqA,aqB,aqC]
  refine wpAnyH_take (i:=15) (v:=.int .i64 0) rfl (by kernel_rfl) (by kernel_rfl) (by kernel_rfl) (λ_ _ _ h=>h) (.inl ⟨by kernel_rfl,λV hV=>?_⟩) hS4 ?_
  ·obtain⟨s0,s1,s2,s3⟩:=hV
   go_simp
  try simp only[Act.put,aqA,aqB,aqC]
  refine wpAnyH_take (i:=16) (v:=.pointer (some ⟨F,0,none⟩)) rfl (by kernel_rfl) (by kernel_rfl) (by kernel_rfl) (λ_ _ _ h=>h) (.inl ⟨by kernel_rfl,λV hV=>?_⟩) hS4 ?_
  ·obtain⟨s0,s1,s2,s3⟩:=hV
   go_simp
  try simp only[Act.put,aqA,aqB,aqC]
  refine wpAnyH_take (i:=17) (v:=.pointer (some ⟨F,1,none⟩)) rfl (by kernel_rfl) (by kernel_rfl) (by kernel_rfl) (λ_ _ _ h=>h) (.inl ⟨by kernel_rfl,λV hV=>?_⟩) hS4 ?_
  ·obtain⟨s0,s1,s2,s3⟩:=hV
   go_simp
  try simp only[Act.put,aqA,aqB,aqC]
  refine wpAnyH_take (i:=19) (v:=.slice (some ⟨gb,0,none⟩) n c) rfl (by kernel_rfl) (by kernel_rfl) (by kernel_rfl) (λ_ _ _ h=>h) (.inl ⟨by kernel_rfl,λV hV=>?_⟩) hS4 ?_
  ·obtain⟨s0,s1,s2,s3⟩:=hV
   go_simp
  try simp only[Act.put,aqA,aqB,aqC]
  refine wpAnyH_ready (rs:=[18]) (by kernel_rfl) (by simp) ?_
  refine AllReadyH.cons (o:=_) rfl (λK hK=>?_) AllReadyH.nil
  go_simp
  refine hK.out _ _ hS4 (λ_=>?_)
  clear hK K
  try simp only[Act.put,aqA,aqB,aqC]
  refine wpAnyH_ready (rs:=[20]) (by kernel_rfl) (by simp) ?_
  refine AllReadyH.cons (o:=_) rfl (λK hK=>?_) AllReadyH.nil
  refine step_append_at rfl (.tmp 55) (.tmp 56) 35 rfl w.heap.size 5 iu (.int .u8 0) 1 1 Tryz.underlying35 hiu hy0 hy1 hy2 rfl (by decide) (.slice none 0 0) 0 [] (by simp[Act.eval]) (World.ownsRow_nil _ _ _ _) ⟨gb,0,none⟩ n c bs (by simp[Act.eval]) (by have:=HR7.out.1;rw[this]) (λj u hj=>World.ownsRow.cells (g:=gb) HR7.out rfl j u hj) HRw.out.2 (by unfold maxLen;omega) (by omega) (by have:=HG7.out.size;simp;omega) ?_
  intro v8 w8 hown8 hgrow8 hat8
  have HG8:Hid (W7.grownBy w8 none):=jgrown_trans (jgrown_drew W7 none) hgrow8
  have k0:=jcell_grown gD HG8.out (by simp)
  have k1:=jcell_grown gB HG8.out (by simp)
  have k2:=jcell_grown gd HG8.out (by simp)
  have k3:=jcell_grown gx HG8.out (by simp)
  have k4:=jcell_grown F1 HG8.out (by simp)
  have kz:w8.frozen? ⟨F,1,none⟩=false:=(World.frozen?_of_block (a:=⟨F,1,none⟩) (HG8.out.block F (World.block_lt_of_cell? W7 ⟨F,1,none⟩ F1) (by simp))).trans Fz
  have HO8:Hid (w8.ownsRow w.heap.size 5 1 v8 n bs):=by show World.ownsRow _ _ _ _ _ _ _;simpa using hown8
  have hFl:=World.block_lt_of_cell? W7 ⟨F,1,none⟩ F1
  have hne8:v8.ownBlock≠some F:=by
   rcases hat8 with h|h
   ·rw[h];simp[Value.ownBlock]
   ·rw[h];intro e
    have e':=Option.some.inj e
    simp at e' hFl;omega
  clear hown8 hgrow8 hat8
  obtain⟨ab,cb,hv8,hb1,hb2⟩:=jown_pos HO8.out hn0
  subst hv8
  have hS8:w8.cell? ⟨D,0,none⟩=some (.pointer (some ⟨d,0,none⟩))/\ w8.cell? ⟨B,0,none⟩=some (.slice (some ⟨gb,0,none⟩) n c)/\ w8.cell? ⟨d,0,none⟩=some (.pointer (some ⟨x,0,none⟩))/\ w8.cell? ⟨x,0,none⟩=some (.slice (some ⟨F,0,none⟩) 1 cpF):=⟨k0,k1,k2,k3⟩
  refine hK.out _ _ hS8 (λ_=>?_)
  clear hK K
  try simp only[Act.put,aqA,aqB,aqC]
  refine wpAnyH_take (i:=21) (v:=.pointer (some ⟨F,0,none⟩)) rfl (by kernel_rfl) (by kernel_rfl) (by kernel_rfl) (λ_ _ _ h=>h) (.inl ⟨by kernel_rfl,λV hV=>?_⟩) hS8 ?_
  ·obtain⟨s0,s1,s2,s3⟩:=hV
   go_simp
  try simp only[Act.put,aqA,aqB,aqC]
  refine wpAnyH_take (i:=22) (v:=.pointer (some ⟨F,1,none⟩)) rfl (by kernel_rfl) (by kernel_rfl) (by kernel_rfl) (λ_ _ _ h=>h) (.inl ⟨by kernel_rfl,λV hV=>?_⟩) hS8 ?_
  ·obtain⟨s0,s1,s2,s3⟩:=hV
   go_simp
  try simp only[Act.put,aqA,aqB,aqC]
  refine wpAnyH_ready (rs:=[23]) (by kernel_rfl) (by simp) ?_
  refine AllReadyH.cons (o:=_) rfl (λK hK=>?_) AllReadyH.nil
  go_simp
  refine hK.out _ _ ⟨jset_other k0 (.inl hDF),jset_other k1 (.inl hBF),jset_other k2 (.inl hdF),jset_other k3 (.inl hFx.symm)⟩ (λ_=>?_)
  clear hK K
  try simp only[Act.put,aqA,aqB,aqC]
  refine wpAnyH_done (by kernel_rfl) ?_ _
  go_wp2
  refine bodyPost_end (v:=.tuple #[]) (by simp[results,Tryz.results58,go_sem]) rfl ?_
  refine⟨⟨_,rfl⟩,?_⟩
  have g9:=jgrown_set w8 F 1 (.slice (some ⟨ab,0,none⟩) n cb)
  have o7:=World.ownsRow.kept HO7.out HG8.out (.inr (by simp[Value.ownBlock]))
  have F0:w8.cell? ⟨F,0,none⟩=some (.string s):=World.ownsRow.cellAt o7 0 (by omega)
  have F2:w8.cell? ⟨F,2,none⟩=some (.int .i64 0):=World.ownsRow.cellAt o7 2 (by omega)
  have o9:=(World.ownsRow.stored o7 1 (.slice (some ⟨ab,0,none⟩) n cb)).1
  have hxx:∀j,(w8.setCell ⟨F,1,none⟩ (.slice (some ⟨ab,0,none⟩) n cb)).cell? ⟨x,j,none⟩=W7.cell? ⟨x,j,none⟩:=λj=>
   (World.cell?_of_block (a:=⟨x,j,none⟩) (g9.block x (Nat.lt_of_lt_of_le hxl (Nat.le_trans HG7.out.size HG8.out.size)) (by simp[hFx.symm]))).trans (World.cell?_of_block (a:=⟨x,j,none⟩) (HG8.out.block x (Nat.lt_of_lt_of_le hxl HG7.out.size) (by simp)))
  refine⟨⟨F,cpF,some ⟨ab,0,none⟩,cb,⟨jset_other k3 (.inl hFx.symm),jset_other F0 (.inr (by omega)),World.cell?_setCell_same _ _ _ k4,jset_other F2 (.inr (by omega))⟩,hF1,(World.ownsRow.lt o9 F rfl).2,World.ownsRow.frozenAt o9 2,World.ownsRow.kept HO8.out g9 (.inr hne8)⟩,?_,λj hj=>(hxx j).trans (HX7.out j hj)⟩
  refine⟨g9.os.trans (HG8.out.os.trans HG7.out.os),g9.tape.trans (HG8.out.tape.trans HG7.out.tape),g9.output.trans (HG8.out.output.trans HG7.out.output),Nat.le_trans HG7.out.size (Nat.le_trans HG8.out.size g9.size),λk hk hne=>?_⟩
  have hkF:some k≠some F:=λe=>by have:=Option.some.inj e;omega
  exact(g9.block k (Nat.lt_of_lt_of_le hk (Nat.le_trans HG7.out.size HG8.out.size)) hkF).trans ((HG8.out.block k (Nat.lt_of_lt_of_le hk HG7.out.size) (by simp)).trans (HG7.out.block k hk hne)))
theorem Ap1.weak {w W0 w':World} {x n:Nat} {s:ByteArray} {bs:List Value} (h:Ap1 W0 x s n bs w') (hg:w.grownBy W0 none) (hx:x < w.heap.size):Ap1 w x s n bs w':=by
 obtain⟨F,cp,ab,cb,h1,h2,h3,h4,h5⟩:=h.ex
 refine⟨⟨F,cp,ab,cb,h1,Nat.le_trans hg.size h2,h3,h4,?_⟩,jgrown_trans (jgrown_none hg) h.gr,λj hj=>(h.oth j hj).trans (World.cell?_of_block (a:=⟨x,j,none⟩) (hg.block x hx (by simp)))⟩
 refine⟨h5.1,?_⟩
 rcases h5.2 with h6|⟨g,cap,cur,e,hb,r⟩
 ·exact .inl h6
 ·exact .inr ⟨g,cap,cur,e,Nat.le_trans hg.size hb,r⟩
theorem append_none (w:World) (d x:Nat) (s:ByteArray) (gb n c base:Nat) (bs:List Value)
 (hd:w.cell? ⟨d,0,none⟩=some (.pointer (some ⟨x,0,none⟩))) (hf:w.cell? ⟨x,0,none⟩=some (.slice none 0 0)) (hr:w.cell? ⟨x,1,none⟩=some (.int .i64 1000)) (ha:w.cell? ⟨x,2,none⟩=some (.bool false)) (hw:w.cell? ⟨x,5,none⟩=some (.bool false)) (hfz:w.frozen? ⟨x,0,none⟩=false)
 (hrow:w.ownsRow base 5 1 (.slice (some ⟨gb,0,none⟩) n c) n bs) (hone:∀u∈bs,u.oneCell'=true) (hn:n<= 1000) (hn0:0 < n) (hgx:gb≠x) (hdx:d≠x):
 Calls Tryz.prog 25 #[.pointer (some ⟨d,0,none⟩),.string s,.slice (some ⟨gb,0,none⟩) n c] w λe w'=>e=.returned .nilIface/\ Ap1 w x s n bs w':=by
 have hxl:=World.block_lt_of_cell? w ⟨x,0,none⟩ hf
 have hdl:=World.block_lt_of_cell? w ⟨d,0,none⟩ hd
 simp only at hxl hdl
 obtain⟨W,hW⟩:∃W,((w.alloc (.cells #[.pointer (some ⟨d,0,none⟩)] 46)).alloc (.cells #[.string s] 9)).alloc (.cells #[.slice (some ⟨gb,0,none⟩) n c] 35)=W:=⟨_,rfl⟩
 have hg:w.grownBy W none:=by rw[←hW];exact jgrown_trans (jgrown_trans (jgrown_alloc _ _ none) (jgrown_alloc _ _ none)) (jgrown_alloc _ _ none)
 have c0:W.cell? ⟨w.heap.size,0,none⟩=some (.pointer (some ⟨d,0,none⟩)):=by rw[←hW];simp[go_sem]
 have c1:W.cell? ⟨w.heap.size+1,0,none⟩=some (.string s):=by rw[←hW];simp[go_sem]
 have c2:W.cell? ⟨w.heap.size+1+1,0,none⟩=some (.slice (some ⟨gb,0,none⟩) n c):=by rw[←hW];simp[go_sem]
 have d0:=jcell_grown hd hg (by simp)
 have d1:=jcell_grown hf hg (by simp)
 have d2:=jcell_grown hr hg (by simp)
 have d3:=jcell_grown ha hg (by simp)
 have d4:=jcell_grown hw hg (by simp)
 have dz:W.frozen? ⟨x,0,none⟩=false:=(World.frozen?_of_block (a:=⟨x,0,none⟩) (hg.block x hxl (by simp))).trans hfz
 have hrw:W.ownsRow base 5 1 (.slice (some ⟨gb,0,none⟩) n c) n bs:=World.ownsRow.kept hrow hg (.inr (by simp[Value.ownBlock]))
 have HU:=used_none W.drew x d1
 have HAp:=app1_none W.drew w.heap.size (w.heap.size+1) (w.heap.size+1+1) d x s gb n c base bs c0 c1 c2 d0 d1 dz hrw hone hn hn0 hgx (by omega) (by omega) (by omega) hdx
 have HAct:=act_app W.drew x (.pointer (some ⟨w.heap.size,0,none⟩)) (.pointer (some ⟨w.heap.size+1,0,none⟩)) (.pointer (some ⟨w.heap.size+1+1,0,none⟩)) _ d3 HAp
 have HG:Hid (w.grownBy W.drew none):=jgrown_trans hg (jgrown_drew W none)
 have hn':¬(1000:Int) < (n:Int):=by omega
 have hwk:IntKind.i64.wrap 1000=1000:=by decide
 clear hg hrw HAp hrow hone hd hf hr ha hw hfz dz
 go_enter Tryz.func25,Tryz.ntmps25
 go_upto_region 1 with fail
 try rw[hW]
 clear hW
 go_wp2_with fail
 go_region_held3 (λV=>V.cell? ⟨w.heap.size,0,none⟩=some (.pointer (some ⟨d,0,none⟩))/\ V.cell? ⟨w.heap.size+1+1,0,none⟩=some (.slice (some ⟨gb,0,none⟩) n c)/\ V.cell? ⟨d,0,none⟩=some (.pointer (some ⟨x,0,none⟩))/\ V.cell? ⟨x,1,none⟩=some (.int .i64 1000))
  (first|(exact⟨c0,c2,d0,d2⟩))
  (first
   |(go_at_call 56
     refine HU.mono ?_
     rintro e w2 ⟨rfl,rfl⟩))
 go_wp2_with (go_at_call 57;refine HAct.mono ?_;rintro e w3 ⟨rfl,hq3⟩)
 go_ret
 exact⟨rfl,hq3.weak HG.out hxl⟩
theorem sync_one (w:World) (d x F cp:Nat) (s:ByteArray) (a:Option Addr) (n c:Nat) (k:Int) (hds:d < w.heap.size) (hxs:x < w.heap.size) (hFs:F < w.heap.size) (h:Bx1 w x F cp s a n c k) (hd:w.cell? ⟨d,0,none⟩=some (.pointer (some ⟨x,0,none⟩))) (hw:w.cell? ⟨x,5,none⟩=some (.bool false)) (h2:w.cell? ⟨x,2,none⟩=some (.bool false)) (hz:w.frozen? ⟨F,2,none⟩=false):
 Calls Tryz.prog 26 #[.pointer (some ⟨d,0,none⟩),.string s] w λe w'=>e=.returned .nilIface/\ w'=(((w.setCell ⟨F,2,none⟩ (.int .i64 n)).alloc (.cells #[.pointer (some ⟨d,0,none⟩)] 46)).alloc (.cells #[.int .i64 0] 3)).drew:=by
 have HB1:Hid (Below w.heap.size w (w.alloc (.cells #[.pointer (some ⟨d,0,none⟩)] 46))):=(Below.refl _ _).alloc (aqH _) _
 have HB2:Hid (Below w.heap.size w ((w.alloc (.cells #[.pointer (some ⟨d,0,none⟩)] 46)).alloc (.cells #[.int .i64 0] 3))):=HB1.out.alloc (by simp) _
 have HX:Hid (∀W,Below w.heap.size w W-> Bx1 W x F cp s a n c k):=λW hb=>⟨(hb.cell (p:=⟨x,0,none⟩) hxs).trans h.1,(hb.cell (p:=⟨F,0,none⟩) hFs).trans h.2.1,(hb.cell (p:=⟨F,1,none⟩) hFs).trans h.2.2.1,(hb.cell (p:=⟨F,2,none⟩) hFs).trans h.2.2.2⟩
 have HF:=find_one _ x F cp s a n c k (HX.out _ HB1.out)
 have HA:=act_syn _ x (.pointer (some ⟨w.heap.size,0,none⟩)) (.pointer (some ⟨w.heap.size+1,0,none⟩)) _ ((HB2.out.cell (p:=⟨x,2,none⟩) hxs).trans h2) (syn1_one _ w.heap.size (w.heap.size+1) d x F cp s a n c k (HX.out _ HB2.out) (by simp[go_sem]) (by simp[go_sem]) ((HB2.out.cell (p:=⟨d,0,none⟩) hds).trans hd) ((HB2.out.frozen (p:=⟨F,2,none⟩) hFs).trans hz))
 go_enter Tryz.func26,Tryz.ntmps26
 go_wp2_with (first
  |(go_at_call 59;refine HF.mono ?_;rintro e w3 ⟨rfl,rfl⟩)
  |(go_at_call 57;refine HA.mono ?_;rintro e w3 ⟨rfl,rfl⟩))
 go_ret
 exact⟨rfl,rfl⟩
def JnZ (w:World) (j:Nat):Prop:=w.frozen? ⟨j,1,none⟩=false/\ w.frozen? ⟨j,2,none⟩=false
abbrev jnm:ByteArray:=⟨#[106,111,117,114,110,97,108]⟩
structure Wr1 (w:World) (j d x N:Nat) (bs:List Value) (w':World):Prop where
 ex:∃F cp ab cb,Bx1 w' x F cp jnm ab N cb 0/\ w.heap.size<= F/\ F < w'.heap.size/\ w'.frozen? ⟨F,2,none⟩=false/\ w'.ownsRow w.heap.size 5 1 (.slice ab N cb) N bs
 jn:Jn w' j d N N
 jz:JnZ w' j
 oth:∀i,i≠0-> w'.cell? ⟨x,i,none⟩=w.cell? ⟨x,i,none⟩
 size:w.heap.size<= w'.heap.size
 sys:w'.os=w.os/\ w'.tape=w.tape/\ w'.output=w.output
 blk:∀k,k < w.heap.size-> k≠x-> k≠j-> w'.heap[k]?=w.heap[k]?
theorem write_one (w:World) (j d x:Nat) (aD:Addr) (l:List Rc) (a:Option Addr) (n c N:Nat) (hT:Tab6 w) (hl:l.length=n) (hn:n<= 1048576) (hn0:0 < n) (ha:RLin w a l) (hd':∀r∈l,Bytey r.data) (hm:∀r∈l,mayB6 r=true) (hN:(l.flatMap frB).length=N) (hN0:0 < N) (hN1:N<= 1000)
 (hj:Jn w j d 0 0) (hjz:JnZ w j) (hjx:j≠x) (hdx:d≠x) (hj0:5<= j) (hx0:5<= x) (h2s:0 < w.heap.size)
 (hd:w.cell? ⟨d,0,none⟩=some (.pointer (some ⟨x,0,none⟩))) (hf:w.cell? ⟨x,0,none⟩=some (.slice none 0 0)) (hr:w.cell? ⟨x,1,none⟩=some (.int .i64 1000)) (har:w.cell? ⟨x,2,none⟩=some (.bool false)) (hw:w.cell? ⟨x,5,none⟩=some (.bool false)) (hfz:w.frozen? ⟨x,0,none⟩=false)
 (hD:w.cell? ⟨0,0,none⟩=some (.iface 218 (.pointer (some aD)))):
 Calls Tryz.prog 17 #[.pointer (some ⟨j,0,none⟩),.slice a n c,.bool false] w λe w'=>e=.returned .nilIface/\ Wr1 w j d x N ((l.flatMap frB).map (Value.int .u8)) w':=by
 have HF:=frames_ok w j d 0 0 l a n c hT hl hn ha hd' hm hj
 rw[hN] at HF
 have HB1:Hid (∀u∈(l.flatMap frB).map (Value.int .u8),u.oneCell'=true):=λu hu=>by obtain⟨z,_,rfl⟩:=List.mem_map.mp hu;rfl
 generalize (l.flatMap frB).map (Value.int .u8)=bs at*
 have hxl:x < w.heap.size:=World.block_lt_of_cell? w ⟨x,0,none⟩ hf
 have hdl:d < w.heap.size:=World.block_lt_of_cell? w ⟨d,0,none⟩ hd
 obtain⟨j0,j1,j2,j3⟩:=hj
 have hjl:j < w.heap.size:=World.block_lt_of_cell? w ⟨j,0,none⟩ j0
 have hn':(0:Int) < (n:Int):=by omega
 clear hT hl ha hd' hm hN
 go_enter Tryz.func17,Tryz.ntmps17
 go_wp2_with fail
 refine HF.mono ?_
 rintro e w2 ⟨v2,rfl,ho2,hb2⟩
 obtain⟨gb,cb2,hv2,hg1,hg2⟩:=jown_pos ho2 hN0
 subst hv2
 have p0:=(hb2.cell (p:=⟨j,0,none⟩) hjl).trans j0
 have p1:=(hb2.cell (p:=⟨j,1,none⟩) hjl).trans j1
 have p2:=(hb2.cell (p:=⟨j,2,none⟩) hjl).trans j2
 have p3:=(hb2.cell (p:=⟨j,3,none⟩) hjl).trans j3
 have HAp:=append_none w2 d x jnm gb N cb2 w.heap.size bs ((hb2.cell (p:=⟨d,0,none⟩) hdl).trans hd) ((hb2.cell (p:=⟨x,0,none⟩) hxl).trans hf) ((hb2.cell (p:=⟨x,1,none⟩) hxl).trans hr) ((hb2.cell (p:=⟨x,2,none⟩) hxl).trans har) ((hb2.cell (p:=⟨x,5,none⟩) hxl).trans hw) ((hb2.frozen (p:=⟨x,0,none⟩) hxl).trans hfz) ho2 HB1.out hN1 hN0 (by omega) hdx
 have HS2:Hid (Below w.heap.size w w2/\ w2.frozen? ⟨j,1,none⟩=false/\ w2.frozen? ⟨j,2,none⟩=false/\ w2.cell? ⟨0,0,none⟩=some (.iface 218 (.pointer (some aD)))):=⟨hb2,(hb2.frozen (p:=⟨j,1,none⟩) hjl).trans hjz.1,(hb2.frozen (p:=⟨j,2,none⟩) hjl).trans hjz.2,(hb2.cell (p:=⟨0,0,none⟩) h2s).trans hD⟩
 clear HF ho2 hb2 j0 j1 j2 j3 hd hf hr har hw hfz hD hjz
 go_wp2_with fail
 refine HAp.mono ?_
 rintro e w3 ⟨rfl,hA3⟩
 have r0:=jcell_grown p0 hA3.gr (by simp[hjx])
 have r1:=jcell_grown p1 hA3.gr (by simp[hjx])
 have r2:=jcell_grown p2 hA3.gr (by simp[hjx])
 have r3:=jcell_grown p3 hA3.gr (by simp[hjx])
 have hjb:w3.heap[j]?=w2.heap[j]?:=hA3.gr.block j (World.block_lt_of_cell? w2 ⟨j,0,none⟩ p0) (by simp[hjx])
 have z1:w3.frozen? ⟨j,1,none⟩=false:=(World.frozen?_of_block (a:=⟨j,1,none⟩) hjb).trans HS2.out.2.1
 have z2:w3.frozen? ⟨j,2,none⟩=false:=(World.frozen?_of_block (a:=⟨j,2,none⟩) hjb).trans HS2.out.2.2.1
 have HHd:=heard_nil w3 j aD (jcell_grown HS2.out.2.2.2 hA3.gr (by simp;omega))
 have HA3:Hid (Ap1 w2 x jnm N bs w3):=hA3
 clear HAp hA3 hjb p0 p1 p2 p3
 go_wp2_with fail
 refine HHd.mono ?_
 rintro e w4 ⟨rfl,rfl⟩
 clear HHd
 have hwN:IntKind.i64.wrap (N:Int)=(N:Int):=by rw[IntKind.wrap_i64];omega
 have hwN0:IntKind.i64.wrap (0+(N:Int))=(N:Int):=by rw[IntKind.wrap_i64];omega
 have t2:(w4.setCell ⟨j,1,none⟩ (.int .i64 N)).cell? ⟨j,2,none⟩=some (.int .i64 0):=jset_other r2 (.inr (by omega))
 have tz:(w4.setCell ⟨j,1,none⟩ (.int .i64 N)).frozen? ⟨j,2,none⟩=false:=by rw[World.frozen?_setCell];exact z2
 go_wp2
 go_ret
 refine⟨rfl,?_⟩
 obtain⟨F,cpF,ab,cb,h1,h2,h3,h4,h5⟩:=HA3.out.ex
 have hb:=HS2.out.1
 have hs2:w.heap.size<= w2.heap.size:=hb.size
 have hFj:F≠j:=by omega
 have g1:=jgrown_set w4 j 1 (.int .i64 N)
 have g2:=jgrown_set (w4.setCell ⟨j,1,none⟩ (.int .i64 N)) j 2 (.int .i64 N)
 have gg:=jgrown_trans g1 g2
 have hsz:((w4.setCell ⟨j,1,none⟩ (.int .i64 N)).setCell ⟨j,2,none⟩ (.int .i64 N)).heap.size=w4.heap.size:=by simp[World.setCell]
 have h5':w4.ownsRow w.heap.size 5 1 (.slice ab N cb) N bs:=by
  refine⟨h5.1,?_⟩
  rcases h5.2 with h6|⟨g,cap,cur,e,hb',r⟩
  ·exact .inl h6
  ·exact .inr ⟨g,cap,cur,e,Nat.le_trans hs2 hb',r⟩
 refine⟨⟨F,cpF,ab,cb,⟨jcell_grown h1.1 gg (by simp[hjx.symm]),jcell_grown h1.2.1 gg (by simp[hFj]),jcell_grown h1.2.2.1 gg (by simp[hFj]),jcell_grown h1.2.2.2 gg (by simp[hFj])⟩,Nat.le_trans hs2 h2,by rw[hsz];exact h3,by rw[World.frozen?_setCell,World.frozen?_setCell];exact h4,World.ownsRow.kept h5' gg (.inr (λe=>?_))⟩,⟨jset_other (jset_other r0 (.inr (by omega))) (.inr (by omega)),jset_other (World.cell?_setCell_same _ _ _ r1) (.inr (by omega)),World.cell?_setCell_same _ _ _ t2,jset_other (jset_other r3 (.inr (by omega))) (.inr (by omega))⟩,⟨by rw[World.frozen?_setCell,World.frozen?_setCell];exact z1,by rw[World.frozen?_setCell,World.frozen?_setCell];exact z2⟩,λi hi=>?_,?_,⟨gg.os.trans (HA3.out.gr.os.trans hb.os),gg.tape.trans (HA3.out.gr.tape.trans hb.tape),gg.output.trans (HA3.out.gr.output.trans hb.output)⟩,λk hk hkx hkj=>?_⟩
 ·have:=(World.ownsRow.lt h5 j e).1
  omega
 ·rw[World.cell?_setCell_other _ _ _ _ (λe=>by cases e;exact hjx rfl),World.cell?_setCell_other _ _ _ _ (λe=>by cases e;exact hjx rfl),HA3.out.oth i hi]
  exact hb.cell (p:=⟨x,i,none⟩) hxl
 ·rw[hsz];exact Nat.le_trans hs2 HA3.out.gr.size
 ·exact(gg.block k (Nat.lt_of_lt_of_le hk (Nat.le_trans hs2 HA3.out.gr.size)) (by simp[hkj])).trans ((HA3.out.gr.block k (Nat.lt_of_lt_of_le hk hs2) (by simp[hkx])).trans (hb.block k hk))
structure Wr2 (w:World) (j d x F cp N:Nat) (ab:Option Addr) (cb:Nat) (w':World):Prop where
 bx:Bx1 w' x F cp jnm ab N cb N
 jn:Jn w' j d N 0
 size:w.heap.size<= w'.heap.size
 sys:w'.os=w.os/\ w'.tape=w.tape/\ w'.output=w.output
 blk:∀k,k < w.heap.size-> k≠F-> k≠j-> w'.heap[k]?=w.heap[k]?
theorem write_syn (w:World) (j d x F cp N:Nat) (aD:Addr) (ab:Option Addr) (cb:Nat) (hT:Tab6 w) (hN0:0 < N) (hN1:N<= 1000)
 (hj:Jn w j d N N) (hjz:JnZ w j) (hjx:j≠x) (hjF:j≠F) (hxF:x≠F) (hdF:d≠F) (hdj:d≠j) (h2s:0 < w.heap.size) (h2F:F≠0) (h2j:j≠0) (hxl:x < w.heap.size) (hFl:F < w.heap.size)
 (hd:w.cell? ⟨d,0,none⟩=some (.pointer (some ⟨x,0,none⟩))) (hb:Bx1 w x F cp jnm ab N cb 0) (har:w.cell? ⟨x,2,none⟩=some (.bool false)) (hw:w.cell? ⟨x,5,none⟩=some (.bool false)) (hfz:w.frozen? ⟨F,2,none⟩=false)
 (hD:w.cell? ⟨0,0,none⟩=some (.iface 218 (.pointer (some aD)))):
 Calls Tryz.prog 17 #[.pointer (some ⟨j,0,none⟩),.slice none 0 0,.bool true] w λe w'=>e=.returned .nilIface/\ Wr2 w j d x F cp N ab cb w':=by
 have HF:=frames_ok w j d N N [] none 0 0 hT rfl (by omega) (.inl rfl) (λr hr=>by cases hr) (λr hr=>by cases hr) hj
 have hdl:d < w.heap.size:=World.block_lt_of_cell? w ⟨d,0,none⟩ hd
 obtain⟨j0,j1,j2,j3⟩:=hj
 have hjl:j < w.heap.size:=World.block_lt_of_cell? w ⟨j,0,none⟩ j0
 have hNn:¬(N:Int)=0:=by omega
 have hNb:((N:Int) == 0)=false:=by rw[beq_eq_false_iff_ne];omega
 go_enter Tryz.func17,Tryz.ntmps17
 go_wp2_with fail
 refine HF.mono ?_
 rintro e w2 ⟨v2,rfl,ho2,hb2⟩
 have p0:=(hb2.cell (p:=⟨j,0,none⟩) hjl).trans j0
 have p1:=(hb2.cell (p:=⟨j,1,none⟩) hjl).trans j1
 have p2:=(hb2.cell (p:=⟨j,2,none⟩) hjl).trans j2
 have p3:=(hb2.cell (p:=⟨j,3,none⟩) hjl).trans j3
 have HS2:Hid (Below w.heap.size w w2):=hb2
 have hs2:w.heap.size<= w2.heap.size:=hb2.size
 have hbx:Bx1 w2 x F cp jnm ab N cb 0:=⟨(hb2.cell (p:=⟨x,0,none⟩) hxl).trans hb.1,(hb2.cell (p:=⟨F,0,none⟩) hFl).trans hb.2.1,(hb2.cell (p:=⟨F,1,none⟩) hFl).trans hb.2.2.1,(hb2.cell (p:=⟨F,2,none⟩) hFl).trans hb.2.2.2⟩
 have HSy:=sync_one w2 d x F cp jnm ab N cb 0 (by omega) (by omega) (by omega) hbx ((hb2.cell (p:=⟨d,0,none⟩) hdl).trans hd) ((hb2.cell (p:=⟨x,5,none⟩) hxl).trans hw) ((hb2.cell (p:=⟨x,2,none⟩) hxl).trans har) ((hb2.frozen (p:=⟨F,2,none⟩) hFl).trans hfz)
 have HBx:Hid (Bx1 w2 x F cp jnm ab N cb 0):=hbx
 have q0:w2.cell? ⟨0,0,none⟩=some (.iface 218 (.pointer (some aD))):=(hb2.cell (p:=⟨0,0,none⟩) h2s).trans hD
 have z2:w2.frozen? ⟨j,2,none⟩=false:=(hb2.frozen (p:=⟨j,2,none⟩) hjl).trans hjz.2
 clear HF ho2 hb2 j0 j1 j2 j3 hd hb har hw hfz hD hjz hbx
 go_wp2_with fail
 refine HSy.mono ?_
 rintro e w3 ⟨rfl,hw3⟩
 have g1:=jgrown_set w2 F 2 (.int .i64 N)
 have hg3:w2.grownBy w3 (some F):=by rw[hw3];exact jgrown_trans (jgrown_trans (jgrown_trans g1 (jgrown_alloc _ _ _)) (jgrown_alloc _ _ _)) (jgrown_drew _ _)
 have r0:=jcell_grown p0 hg3 (by simp[hjF])
 have r1:=jcell_grown p1 hg3 (by simp[hjF])
 have r2:=jcell_grown p2 hg3 (by simp[hjF])
 have r3:=jcell_grown p3 hg3 (by simp[hjF])
 have hjb:w3.heap[j]?=w2.heap[j]?:=hg3.block j (World.block_lt_of_cell? w2 ⟨j,0,none⟩ p0) (by simp[hjF])
 have z3:w3.frozen? ⟨j,2,none⟩=false:=(World.frozen?_of_block (a:=⟨j,2,none⟩) hjb).trans z2
 have HHd:=heard_nil w3 j aD (jcell_grown q0 hg3 (by simp;omega))
 have HB3:Hid (Bx1 w3 x F cp jnm ab N cb N):=by
  have h:=HBx.out
  have gA:(w2.setCell ⟨F,2,none⟩ (.int .i64 N)).grownBy w3 none:=by rw[hw3];exact jgrown_trans (jgrown_trans (jgrown_alloc _ _ _) (jgrown_alloc _ _ _)) (jgrown_drew _ _)
  exact⟨jcell_grown (jset_other h.1 (.inl hxF)) gA (by simp),jcell_grown (jset_other h.2.1 (.inr (by omega))) gA (by simp),jcell_grown (jset_other h.2.2.1 (.inr (by omega))) gA (by simp),jcell_grown (World.cell?_setCell_same _ _ _ h.2.2.2) gA (by simp)⟩
 have HG3:Hid (w2.grownBy w3 (some F)):=hg3
 clear HSy hw3 g1 hg3 hjb p0 p1 p2 p3 z2 q0
 go_wp2_with fail
 refine HHd.mono ?_
 rintro e w4 ⟨rfl,rfl⟩
 clear HHd
 go_wp2
 go_ret
 refine⟨rfl,?_⟩
 have gg:=jgrown_set w4 j 2 (.int .i64 0)
 have hsz:(w4.setCell ⟨j,2,none⟩ (.int .i64 0)).heap.size=w4.heap.size:=by simp[World.setCell]
 have h:=HB3.out
 refine⟨⟨jcell_grown h.1 gg (by simp[hjx.symm]),jcell_grown h.2.1 gg (by simp[hjF.symm]),jcell_grown h.2.2.1 gg (by simp[hjF.symm]),jcell_grown h.2.2.2 gg (by simp[hjF.symm])⟩,⟨jset_other r0 (.inr (by omega)),jset_other r1 (.inr (by omega)),World.cell?_setCell_same _ _ _ r2,jset_other r3 (.inr (by omega))⟩,by rw[hsz];exact Nat.le_trans hs2 HG3.out.size,⟨gg.os.trans (HG3.out.os.trans HS2.out.os),gg.tape.trans (HG3.out.tape.trans HS2.out.tape),gg.output.trans (HG3.out.output.trans HS2.out.output)⟩,λk hk hkF hkj=>?_⟩
 exact(gg.block k (Nat.lt_of_lt_of_le hk (Nat.le_trans hs2 HG3.out.size)) (by simp[hkj])).trans ((HG3.out.block k (Nat.lt_of_lt_of_le hk hs2) (by simp[hkF])).trans (HS2.out.block k hk))
theorem files_one (w:World) (h x F cp N base:Nat) (s:ByteArray) (ab:Option Addr) (cb:Nat) (k:Int) (bs:List Value) (hN0:0 < N) (hN1:N<= 1000)
 (hh:w.cell? ⟨h,0,none⟩=some (.pointer (some ⟨x,0,none⟩))) (hb:Bx1 w x F cp s ab N cb k) (hrow:w.ownsRow base 5 1 (.slice ab N cb) N bs) (hone:∀u∈bs,u.oneCell'=true):
 Calls Tryz.prog 28 #[.pointer (some ⟨h,0,none⟩)] w λe w'=>∃G cp',e=.returned (.slice (some ⟨G,0,none⟩) 1 cp')/\ w'.cell? ⟨G,0,none⟩=some (.string s)/\ w'.cell? ⟨G,2,none⟩=some (.int .i64 k)/\ Below w.heap.size w w':=by
 obtain⟨i0,hi,hz0,hz1,hz2⟩:=jinfo_parts Tryz.jinfo_file
 obtain⟨iu,hiu,hy0,hy1,hy2⟩:=jinfo_parts Tryz.info_u8
 obtain⟨ga,cb',hv,hg1,hg2⟩:=jown_pos hrow hN0
 cases hv
 obtain⟨h0,h1,h2,h3⟩:=hb
 obtain⟨W,hW⟩:∃W,w.alloc (.cells #[.string s,.slice (some ⟨ga,0,none⟩) N cb,.int .i64 k] 75)=W:=⟨_,rfl⟩
 have s0:W.cell? ⟨w.heap.size,0,none⟩=some (.string s):=by rw[←hW];simp
 have s1:W.cell? ⟨w.heap.size,1,none⟩=some (.slice (some ⟨ga,0,none⟩) N cb):=by rw[←hW];simp
 have s2:W.cell? ⟨w.heap.size,2,none⟩=some (.int .i64 k):=by rw[←hW];simp
 have hgW:w.grownBy W none:=by rw[←hW];exact jgrown_alloc _ _ _
 have HR:Hid (W.ownsRow base 5 1 (.slice (some ⟨ga,0,none⟩) N cb) N bs/\ ∀u∈bs,u.oneCell'=true):=⟨World.ownsRow.kept hrow hgW (.inr (by simp[Value.ownBlock])),hone⟩
 have HgW:Hid (w.grownBy W none):=hgW
 have hsW:=hgW.size
 clear hrow hone hgW
 go_enter Tryz.func28,Tryz.ntmps28
 go_wp2_with fail
 refine wp_loop_rounds 2 ?_
 rw[rounds_succ]
 go_wp2_with fail
 clear hW h0 h1 h2 h3 hh
 go_region_held3 (λV=>V.cell? ⟨w.heap.size,0,none⟩=some (.string s)/\ V.cell? ⟨w.heap.size,1,none⟩=some (.slice (some ⟨ga,0,none⟩) N cb)/\ V.cell? ⟨w.heap.size,2,none⟩=some (.int .i64 k))
  (first|(exact⟨s0,s1,s2⟩)|(exact⟨u0,u1,u2⟩)|(exact⟨e0,e1,e2⟩)|(exact⟨a0 _,a1 _,a2 _⟩))
  (first
   |(refine step_append_at rfl (.const (.slice none 0 0)) (.tmp 22) 35 rfl w.heap.size 5 iu (.int .u8 0) 1 1 Tryz.underlying35 hiu hy0 hy1 hy2 rfl (by decide) (.slice none 0 0) 0 [] (by simp[Act.eval]) (World.ownsRow_nil _ _ _ _) ⟨ga,0,none⟩ N cb bs (by simp[Act.eval]) (by have:=HR.out.1.1;rw[this]) (λj u hj=>World.ownsRow.cells (g:=ga) HR.out.1 rfl j u hj) HR.out.2 (by unfold maxLen;omega) (by omega) (by simp;omega) ?_
     intro v5 w5 hown5 hgrow5 hat5
     have HG5:Hid (W.grownBy w5 none):=jgrown_trans (jgrown_drew W none) hgrow5
     have e0:=jcell_grown s0 HG5.out (by simp)
     have e1:=jcell_grown s1 HG5.out (by simp)
     have e2:=jcell_grown s2 HG5.out (by simp)
     have a0:∀o,(w5.alloc o).cell? ⟨w.heap.size,0,none⟩=some (.string s):=λo=>jcell_grown e0 (jgrown_alloc w5 o none) (by simp)
     have a1:∀o,(w5.alloc o).cell? ⟨w.heap.size,1,none⟩=some (.slice (some ⟨ga,0,none⟩) N cb):=λo=>jcell_grown e1 (jgrown_alloc w5 o none) (by simp)
     have a2:∀o,(w5.alloc o).cell? ⟨w.heap.size,2,none⟩=some (.int .i64 k):=λo=>jcell_grown e2 (jgrown_alloc w5 o none) (by simp)
     have hs5:=HG5.out.size
     obtain⟨g5,c5,hv5,_,_⟩:=jown_pos (by simpa using hown5:w5.ownsRow w.heap.size 5 1 v5 N bs) hN0
     subst hv5
     clear hown5 hgrow5 hat5)
   |(refine step_append_at rfl (.tmp 18) (.tmp 27) 72 rfl w.heap.size 75 i0 (.agg #[.string ⟨#[]⟩,.slice none 0 0,.int .i64 0]) 3 48 Tryz.underlying72 hi hz0 hz1 hz2 rfl (by decide) (.slice none 0 0) 0 [] (by simp[Act.eval]) (World.ownsRow_nil _ _ _ _) ⟨w5.heap.size,0,none⟩ 1 1 [.string s,.slice (some ⟨g5,0,none⟩) N c5,.int .i64 k] (by simp[Act.eval]) rfl (jthree_new w5 _ _ _ _) (by simp[Value.oneCell']) (by unfold maxLen;omega) (by omega) (by simp;omega) ?_
     intro v6 w6 hown6 hgrow6 hat6
     have HG6:Hid (w5.grownBy w6 none):=jgrown_trans (jgrown_alloc w5 _ none) hgrow6
     have u0:=jcell_grown e0 HG6.out (by simp)
     have u1:=jcell_grown e1 HG6.out (by simp)
     have u2:=jcell_grown e2 HG6.out (by simp)
     have HO6:Hid (w6.ownsRow w.heap.size 75 3 v6 1 [.string s,.slice (some ⟨g5,0,none⟩) N c5,.int .i64 k]):=by show World.ownsRow _ _ _ _ _ _ _;simpa using hown6
     obtain⟨G,cG,hv6,_,_⟩:=jown_pos HO6.out (by omega)
     subst hv6
     clear hown6 hgrow6 hat6))
 have HB:Hid (Below w.heap.size w w6):=by
  have g:=jgrown_trans (jgrown_trans HgW.out HG5.out) HG6.out
  exact⟨g.os,g.tape,g.output,g.size,λi hi=>g.block i hi (by simp)⟩
 have HC:Hid (w6.cell? ⟨G,0,none⟩=some (.string s)/\ w6.cell? ⟨G,2,none⟩=some (.int .i64 k)):=⟨World.ownsRow.cellAt HO6.out 0 (by omega),World.ownsRow.cellAt HO6.out 2 (by omega)⟩
 clear u0 u1 u2 e0 e1 e2 a0 a1 a2 s0 s1 s2
 go_wp2_with fail
 rw[rounds_succ]
 go_wp2
 go_ret
 exact⟨G,cG,rfl,HC.out.1,HC.out.2,HB.out⟩
end Go.Proofs.YtllhbhogfffedaaGreatDoor
