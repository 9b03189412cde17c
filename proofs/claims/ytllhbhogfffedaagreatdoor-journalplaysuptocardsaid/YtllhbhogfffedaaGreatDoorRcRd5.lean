import Derived.Test.YtllhbhogfffedaaGreatDoorLnt
import Derived.Defers
import Derived.Recover
import Derived.Laws.Pointers
import Derived.Test.YtllhbhogfffedaaGreatDoorNums
import Derived.BigQuiet
import Derived.Deep.QuietTactic
import Derived.Maps.AppendAt
import Derived.Test.YtllhbhogfffedaaGreatDoorRcRf1
set_option maxHeartbeats 4000000
set_option maxRecDepth 100000
namespace Go.Proofs.YtllhbhogfffedaaGreatDoor
open Go.RowKit
set_option linter.unusedVariables false
set_option linter.unusedSimpArgs false
def fnl (r:Rc):List Int-> Option Rc
 |[]=>if mayB6 r then some r else none
 |_::_=>none
def readP (zs:List Int):Option Rc:=match recP zs with
 |some (r,t)=>fnl r t
 |none=>none
theorem recP_data {zs t:List Int} {r:Rc} (hb:Bytey zs) (h:recP zs=some (r,t)):r.data.length<= zs.length:=by
 cases zs with
 |nil=>cases h
 |cons k t0=>
  have hb0:Bytey t0:=λz hz=>hb z (List.mem_cons_of_mem _ hz)
  simp only[recP] at h
  split at h
  ·cases h
  ·rename_i l t1 h1
   obtain⟨q1,q2,q3⟩:=nmP_by hb0 h1
   split at h
   ·split at h
    ·cases h
    ·simp only[aqG,Prod.mk.injEq] at h
     obtain⟨rfl,rfl⟩:=h
     simp[mkR]
   ·split at h
    ·split at h
     ·cases h
     ·rename_i n t2 h2
      obtain⟨q4,q5⟩:=numP_by q2 h2
      split at h
      ·simp only[aqG,Prod.mk.injEq] at h
       obtain⟨rfl,rfl⟩:=h
       simp only[List.length_take,List.length_cons]
       omega
      ·cases h
    ·simp only[aqG,Prod.mk.injEq] at h
     obtain⟨rfl,rfl⟩:=h
     simp[mkR]
theorem record_nil (rb:Nat) (a:Option Addr) (c:Nat) (w:World) (h:w.heap[rb]?=some (.cells #[.slice a 0 c] 194)):
 Calls Tryz.prog 116 #[.pointer (some ⟨rb,0,none⟩)] w λe w'=>e=.panicked pcV/\ Below w.heap.size w w':=by
 have hb0:Below w.heap.size w (w.alloc (rcO rz0 (.slice none 0 0) (.slice none 0 0))):=(Below.refl _ _).alloc (aqH _) _
 have h1:(w.alloc (rcO rz0 (.slice none 0 0) (.slice none 0 0))).heap[rb]?=some (.cells #[.slice a 0 c] 194):=(hb0.block rb (Array.getElem?_eq_some_iff.mp h).1).trans h
 have HT:Hid (∀W:World,W.heap[rb]?=some (.cells #[.slice a 0 c] 194)-> Calls Tryz.prog 126 #[.pointer (some ⟨rb,0,none⟩),.int .i64 1] W λe w'=>e=.panicked pcV/\ W=w'):=λW hW=>by
  have c0:W.cell? ⟨rb,0,none⟩=some (.slice a 0 c):=cell_of_row _ _ 0 _ _ _ hW
  clear hW h1 h hb0
  go_enter Tryz.func126,Tryz.ntmps126
  go_wp2_with (go_at_call 117;refine(must_no _).mono ?_;rintro e w1 ⟨rfl,rfl⟩)
  exact⟨rfl,rfl,rfl⟩
 go_enter Tryz.func116,Tryz.ntmps116
 go_wp2_with (go_at_call 126;refine(HT.out _ h1).mono ?_;rintro e w1 ⟨rfl,rfl⟩)
 exact⟨rfl,rfl,hb0⟩
def WhPost (q:Option Rc) (w:World) (e:Ending) (w':World):Prop:=
 (match q with
  |some r=>∃sa da sc dc,e=.returned (.agg (rcC r (.slice sa r.spans.length sc) (.slice da r.data.length dc)))/\ C.SOwn w' w.heap.size (.slice sa r.spans.length sc) r.spans/\ w'.ownsRow w.heap.size 5 1 (.slice da r.data.length dc) r.data.length (r.data.map (Value.int .u8))/\ (∀j,(Value.slice sa r.spans.length sc).ownBlock=some j-> (Value.slice da r.data.length dc).ownBlock≠some j)
  |none=>e=.panicked pcV)/\ Below w.heap.size w w'
theorem below_of_grown {w w':World} {rb:Nat} {W:World} (h:Below w.heap.size w W) (hg:W.grownBy w' (some rb)) (hr:w.heap.size<= rb):Below w.heap.size w w':=h.grown hg h.size (by simp;exact hr)
theorem whole_any (a:Option Addr) (zs:List Int) (n c:Nat) (w:World) (hT:Tab6 w) (hb:Bytey zs) (hl:zs.length=n) (hn:n<= 131072) (hnc:n<= c) (hc:c<= 9223372036854775807) (hz:Lies .u8 w a zs):
 Calls Tryz.prog 112 #[.slice a n c] w (WhPost (readP zs) w):=by
 have hb1:Below w.heap.size w ((w.alloc (rcO rz0 (.slice none 0 0) (.slice none 0 0))).alloc (.cells #[.slice a n c] 194)):=((Below.refl _ _).alloc (aqH _) _).alloc (by simp) _
 have hz1:((w.alloc (rcO rz0 (.slice none 0 0) (.slice none 0 0))).alloc (.cells #[.slice a n c] 194)).heap[w.heap.size]?=some (rcO rz0 (.slice none 0 0) (.slice none 0 0)):=(((Below.refl _ _).alloc (aqH _) _).block _ (by simp)).trans (heap_new6 w _)
 have hr1:((w.alloc (rcO rz0 (.slice none 0 0) (.slice none 0 0))).alloc (.cells #[.slice a n c] 194)).heap[w.heap.size+1]?=some (.cells #[.slice a n c] 194):=by
  have:=heap_new6 (w.alloc (rcO rz0 (.slice none 0 0) (.slice none 0 0))) (.cells #[.slice a n c] 194)
  simpa using this
 have hs1:((w.alloc (rcO rz0 (.slice none 0 0) (.slice none 0 0))).alloc (.cells #[.slice a n c] 194)).heap.size=w.heap.size+1+1:=by simp
 have HT:Hid (Tab6 w):=hT
 rcases hz with rfl|⟨g,off,rfl,hcell⟩
 ·obtain rfl:n=0:=by simpa using hl.symm
  have HN:=record_nil (w.heap.size+1) a c _ hr1
  have HB1:Hid (Below w.heap.size w ((w.alloc (rcO rz0 (.slice none 0 0) (.slice none 0 0))).alloc (.cells #[.slice a 0 c] 194))):=hb1
  clear hb1 hz1 hr1 hs1 hT
  go_enter Tryz.func112,Tryz.ntmps112
  go_wp2_with (go_at_call 116;refine HN.mono ?_;rintro e w2 ⟨rfl,hb2⟩)
  exact⟨rfl,rfl,HB1.out.trans (hb2.mono HB1.out.size)⟩
 ·by_cases hz0:zs=[]
  ·subst hz0
   obtain rfl:n=0:=by simpa using hl.symm
   have HN:=record_nil (w.heap.size+1) (some ⟨g,off,none⟩) c _ hr1
   have HB1:Hid (Below w.heap.size w ((w.alloc (rcO rz0 (.slice none 0 0) (.slice none 0 0))).alloc (.cells #[.slice (some ⟨g,off,none⟩) 0 c] 194))):=hb1
   clear hb1 hz1 hr1 hs1 hT hcell
   go_enter Tryz.func112,Tryz.ntmps112
   go_wp2_with (go_at_call 116;refine HN.mono ?_;rintro e w2 ⟨rfl,hb2⟩)
   exact⟨rfl,rfl,HB1.out.trans (hb2.mono HB1.out.size)⟩
  ·have hgl:g < w.heap.size:=Lies.block (off:=off) hcell hz0
   have hrd:RdS ((w.alloc (rcO rz0 (.slice none 0 0) (.slice none 0 0))).alloc (.cells #[.slice (some ⟨g,off,none⟩) n c] 194)) (w.heap.size+1) g zs:=⟨⟨off,n,c,hr1,hl,hnc,⟨by omega,hc⟩,λi hi=>C.cell_below (hcell i hi) hb1⟩,by omega⟩
   have hT1:=hT.below hb1 (tab6_pos hT)
   have HRC:=record_any (w.heap.size+1) g zs _ hT1 hrd hb (by omega) (by omega) (by have:=tab6_pos hT;omega)
   have HB1:Hid (Below w.heap.size w ((w.alloc (rcO rz0 (.slice none 0 0) (.slice none 0 0))).alloc (.cells #[.slice (some ⟨g,off,none⟩) n c] 194))):=hb1
   have HZ1:Hid (((w.alloc (rcO rz0 (.slice none 0 0) (.slice none 0 0))).alloc (.cells #[.slice (some ⟨g,off,none⟩) n c] 194)).heap[w.heap.size]?=some (rcO rz0 (.slice none 0 0) (.slice none 0 0))):=hz1
   have HT1:Hid (Tab6 ((w.alloc (rcO rz0 (.slice none 0 0) (.slice none 0 0))).alloc (.cells #[.slice (some ⟨g,off,none⟩) n c] 194))):=hT1
   clear hb1 hz1 hr1 hT hcell hrd hT1
   cases hq:recP zs with
   |none=>
    have HQ:Hid (readP zs=none):=by unfold Hid readP;rw[hq]
    rw[hq] at HRC
    rw[HQ.out]
    go_enter Tryz.func112,Tryz.ntmps112
    go_wp2_with (go_at_call 116;refine HRC.mono ?_;rintro e w2 ⟨hee,hg2⟩;simp only at hee;subst hee)
    exact⟨rfl,rfl,below_of_grown HB1.out hg2 (by omega)⟩
   |some p=>
    obtain⟨r,t⟩:=p
    rw[hq] at HRC
    generalize hQ:readP zs=Q
    have HQ:Hid (Q=fnl r t):=by unfold Hid;rw[←hQ];unfold readP;rw[hq]
    have HDB:Hid (r.data.length<= zs.length):=recP_data hb hq
    clear hQ hq hb
    go_enter Tryz.func112,Tryz.ntmps112
    go_upto_region 3 with (go_at_call 116;refine HRC.mono ?_;rintro e w2 ⟨⟨sv,dv,rfl,hso,hdo,hpt,hrd2⟩,hg2⟩;obtain⟨sa,sc,rfl⟩:=own_sl hso;obtain⟨da,dc,rfl⟩:=own_sl hdo)
    have hb3:Below w2.heap.size w2 (w2.alloc (rcO r (.slice sa r.spans.length sc) (.slice da r.data.length dc))):=(Below.refl _ _).alloc (aqH _) _
    have HX3:Hid ((w2.alloc (rcO r (.slice sa r.spans.length sc) (.slice da r.data.length dc))).heap[w2.heap.size]?=some (rcO r (.slice sa r.spans.length sc) (.slice da r.data.length dc))):=heap_new6 w2 _
    have hs3:(w2.alloc (rcO r (.slice sa r.spans.length sc) (.slice da r.data.length dc))).heap.size=w2.heap.size+1:=by simp
    have hs2:=hg2.size
    generalize w2.alloc (rcO r (.slice sa r.spans.length sc) (.slice da r.data.length dc))=w3 at*
    have hR3:=hrd2.below hb3
    have HS3:Hid (C.SOwn w3 (w.heap.size+1+1) (.slice sa r.spans.length sc) r.spans):=own_below6 (hs1 ▸ hso) hb3
    have HD3:Hid (w3.ownsRow (w.heap.size+1+1) 5 1 (.slice da r.data.length dc) r.data.length (r.data.map (Value.int .u8))):=own_below6 (hs1 ▸ hdo) hb3
    have HPT:Hid (∀j,(Value.slice sa r.spans.length sc).ownBlock=some j-> (Value.slice da r.data.length dc).ownBlock≠some j):=hpt
    have HB2:Hid (Below w.heap.size w w2):=below_of_grown HB1.out hg2 (by omega)
    have HB3:Hid (Below w.heap.size w w3):=HB2.out.trans (hb3.mono HB2.out.size)
    have HZ3:Hid (w3.heap[w.heap.size]?=some (rcO rz0 (.slice none 0 0) (.slice none 0 0))):=(hb3.block _ (by omega)).trans ((hg2.block _ (by omega) (by simp)).trans HZ1.out)
    have HT3:Hid (Tab6 w3):=HT.out.below HB3.out (tab6_pos HT.out)
    have hlsp:r.spans.length<= 9223372036854775807:=by
     obtain⟨_,⟨_,h0⟩|⟨_,cap,cur,hv,_,_,h1,h2,_⟩⟩:=HS3.out
     ·omega
     ·unfold maxLen at h2;omega
    have hldt:r.data.length<= 140737488355328:=by have:=HDB.out;omega
    obtain⟨off3,n3,c3,hh3,hn3,_,_,_⟩:=hR3.ex
    have q0:w3.cell? ⟨w.heap.size+1,0,none⟩=some (.slice (some ⟨g,off3,none⟩) n3 c3):=cell_of_row _ _ 0 _ _ _ hh3
    obtain⟨c0',c1',c2',c3',c4',c5',c6',c7',c8',c9',c10'⟩:=rc_cells HX3.out
    clear hb3 hg2 hR3 hrd2 hso hdo hpt hh3 HB1 HZ1 HT1 HRC
    cases t with
    |cons z tz=>
     have HQN:Hid (Q=none):=HQ.out
     have hn0:¬n3=0:=by simp at hn3;omega
     clear HQ
     go_wp2_with (go_at_call 117;refine(must_no _).mono ?_;rintro e w4 ⟨rfl,rfl⟩)
     refine⟨rfl,?_⟩
     show WhPost Q w _ _
     rw[HQN.out]
     exact⟨rfl,HB3.out⟩
    |nil=>
     obtain rfl:n3=0:=by simpa using hn3.symm
     have HMB:=mayBe_any r sa da r.spans.length r.data.length sc dc w3 HT3.out rfl rfl hldt (HS3.out.ls hlsp)
     cases hm:mayB6 r with
     |false=>
      have HQN:Hid (Q=none):=by unfold Hid;rw[HQ.out];unfold fnl;rw[hm];rfl
      rw[hm] at HMB
      clear HQ hm
      go_wp2_with (first|(go_at_call 113;refine HMB.mono ?_;rintro e w4 ⟨rfl,hb4⟩)|(go_at_call 117;refine(must_no _).mono ?_;rintro e w5 ⟨rfl,rfl⟩))
      refine⟨rfl,?_⟩
      show WhPost Q w _ _
      rw[HQN.out]
      exact⟨rfl,HB3.out.trans (hb4.mono HB3.out.size)⟩
     |true=>
      have HQS:Hid (Q=some r):=by unfold Hid;rw[HQ.out];unfold fnl;rw[hm];rfl
      rw[hm] at HMB
      clear HQ hm
      go_upto_region 4 with (first|(go_at_call 113;refine HMB.mono ?_;rintro e w4 ⟨rfl,hb4⟩)|(go_at_call 117;refine(must_ok _).mono ?_;rintro e w5 ⟨⟨v5,rfl⟩,rfl⟩))
      have HX4:Hid (w4.heap[w2.heap.size]?=some (rcO r (.slice sa r.spans.length sc) (.slice da r.data.length dc))):=(hb4.block _ (by omega)).trans HX3.out
      have HZ4:Hid (w4.heap[w.heap.size]?=some (rcO rz0 (.slice none 0 0) (.slice none 0 0))):=(hb4.block _ (by omega)).trans HZ3.out
      have HS4:Hid (C.SOwn w4 (w.heap.size+1+1) (.slice sa r.spans.length sc) r.spans):=own_below6 HS3.out hb4
      have HD4:Hid (w4.ownsRow (w.heap.size+1+1) 5 1 (.slice da r.data.length dc) r.data.length (r.data.map (Value.int .u8))):=own_below6 HD3.out hb4
      have HB4:Hid (Below w.heap.size w w4):=HB3.out.trans (hb4.mono HB3.out.size)
      clear hb4 HMB c0' c1' c2' c3' c4' c5' c6' c7' c8' c9' c10' q0
      obtain⟨x0,x1,x2,x3,x4,x5,x6,x7,x8,x9,x10⟩:=rc_cells HX4.out
      obtain⟨y0,y1,y2,y3,y4,y5,y6,y7,y8,y9,y10⟩:=rc_cells HZ4.out
      have fz:=rc_frozen HZ4.out
      go_wp2_with fail
      change bodyPost _ _ _ _ _ (rS w4 w.heap.size r (.slice sa r.spans.length sc) (.slice da r.data.length dc))
      have hlv:=λj=>cell_of_row _ w.heap.size j _ _ _ (rS_heap w4 w.heap.size r rz0 (.slice sa r.spans.length sc) (.slice da r.data.length dc) _ _ HZ4.out)
      have hrg:=rS_grown w4 w.heap.size r (.slice sa r.spans.length sc) (.slice da r.data.length dc)
      generalize rS w4 w.heap.size r (.slice sa r.spans.length sc) (.slice da r.data.length dc)=WF at*
      clear x0 x1 x2 x3 x4 x5 x6 x7 x8 x9 x10 y0 y1 y2 y3 y4 y5 y6 y7 y8 y9 y10 fz
      refine bodyPost_ret (v:=.agg (rcC r (.slice sa r.spans.length sc) (.slice da r.data.length dc))) (by simp[results,Tryz.results112,go_sem,rcC,hlv]) rfl ?_
      show WhPost Q w _ _
      rw[HQS.out]
      exact⟨⟨sa,da,sc,dc,rfl,own_base6 (own_keep6 HS4.out hrg (by intro j hj;have:=(HS4.out.lt j hj).1;simp;omega)) (by omega),own_base6 (own_keep6 HD4.out hrg (by intro j hj;have:=(HD4.out.lt j hj).1;simp;omega)) (by omega),HPT.out⟩,HB4.out.grown hrg HB4.out.size (by simp)⟩
abbrev erO (x:Int):Obj:=.cells #[.int .i64 x] 55
theorem catch6_panic (h0 h1:Nat) (x:Int) (w:World) (hx:w.heap[h0]?=some (rcO rz0 (.slice none 0 0) (.slice none 0 0))) (hy:w.heap[h1]?=some (erO x)) (hne:h0≠h1):
 CallsD Tryz.prog 111 #[.pointer (some ⟨h0,0,none⟩),.pointer (some ⟨h1,0,none⟩)] (.panicking pcV) w λe u' w'=>
  e=.returned (.tuple #[])/\ u'=.panicking [{v:=.iface 55 (.int .i64 61),recovered:=true}]/\ w'=(rS w h0 rz0 (.slice none 0 0) (.slice none 0 0)).setCell ⟨h1,0,none⟩ (.int .i64 61):=by
 obtain⟨x0,x1,x2,x3,x4,x5,x6,x7,x8,x9,x10⟩:=rc_cells hx
 have fx:=rc_frozen hx
 have y0:w.cell? ⟨h1,0,none⟩=some (.int .i64 x):=cell_of_row _ _ 0 _ _ _ hy
 have fy:w.frozen? ⟨h1,0,none⟩=false:=by simp[World.frozen?,hy]
 clear hx hy
 refine callsD_of_wpS Tryz.func111 rfl λc₀ cs hu=>?_
 apply wpS_seq
 apply wpS_region
 simp[wpOpsS,go_sem,recoverD,hu,Tryz.ntmps111,Exit.thenS]
 refine wpS_cond (t:=true) (by simp[Act.eval,Array.replicate]) ?_
 simp only[if_true]
 apply wpS_region
 simp[wpOpsS,go_sem,bodyPostS,results,Tryz.results111,x0,x1,x2,x3,x4,x5,x6,x7,x8,x9,x10,fx,y0,fy,hne,hne.symm,rS]
theorem catch6_idle (p q:Addr) (w:World):
 CallsD Tryz.prog 111 #[.pointer (some p),.pointer (some q)] .returning w λe u' w'=>e=.returned (.tuple #[])/\ u'=.returning/\ w'=w:=by
 refine callsD_of_wpS Tryz.func111 rfl λc₀ cs hu=>?_
 apply wpS_seq
 apply wpS_region
 simp[wpOpsS,go_sem,recoverD,hu,Tryz.ntmps111,Exit.thenS]
 refine wpS_cond (t:=false) (by simp[Act.eval,Array.replicate]) ?_
 simp only[Bool.false_eq_true,if_false]
 refine wpS_of_wp (wp_skip ?_)
 cases c₀
 simp_all [bodyPostS,results,Tryz.results111]
def rdR (zs:List Int):Rc×Int:=if 131072 < zs.length then (rz0,2) else match readP zs with
 |some r=>(r,0)
 |none=>(rz0,61)
def RdPost (q:Rc×Int) (w:World) (e:Ending) (w':World):Prop:=
 ∃sa da sc dc,e=.returned (.tuple #[.agg (rcC q.1 (.slice sa q.1.spans.length sc) (.slice da q.1.data.length dc)),.int .i64 q.2])/\ C.SOwn w' w.heap.size (.slice sa q.1.spans.length sc) q.1.spans/\ w'.ownsRow w.heap.size 5 1 (.slice da q.1.data.length dc) q.1.data.length (q.1.data.map (Value.int .u8))/\ (∀j,(Value.slice sa q.1.spans.length sc).ownBlock=some j-> (Value.slice da q.1.data.length dc).ownBlock≠some j)/\ Below w.heap.size w w'
theorem rread_any (a:Option Addr) (zs:List Int) (n c:Nat) (w:World) (hT:Tab6 w) (hb:Bytey zs) (hl:zs.length=n) (hnc:n<= c) (hc:c<= 9223372036854775807) (hz:Lies .u8 w a zs):
 Calls Tryz.prog 104 #[.slice a n c] w (RdPost (rdR zs) w):=by
 have hmf:∀(fn:Fn) (first cap:Array Value) (w:World),(Instr.makeFunc fn first cap).run Tryz.prog w=.ok (.func fn first cap) w:=λ_ _ _ _=>rfl
 have hb1:Below w.heap.size w ((w.alloc (rcO rz0 (.slice none 0 0) (.slice none 0 0))).alloc (erO 0)):=((Below.refl _ _).alloc (aqH _) _).alloc (by simp) _
 have hz1:((w.alloc (rcO rz0 (.slice none 0 0) (.slice none 0 0))).alloc (erO 0)).heap[w.heap.size]?=some (rcO rz0 (.slice none 0 0) (.slice none 0 0)):=(((Below.refl _ _).alloc (aqH _) _).block _ (by simp)).trans (heap_new6 w _)
 have he1:((w.alloc (rcO rz0 (.slice none 0 0) (.slice none 0 0))).alloc (erO 0)).heap[w.heap.size+1]?=some (erO 0):=by
  have:=heap_new6 (w.alloc (rcO rz0 (.slice none 0 0) (.slice none 0 0))) (erO 0)
  simpa using this
 have hs1:((w.alloc (rcO rz0 (.slice none 0 0) (.slice none 0 0))).alloc (erO 0)).heap.size=w.heap.size+1+1:=by simp
 by_cases hlong:131072 < n
 ·have HQ:Hid (rdR zs=(rz0,2)):=by unfold Hid rdR;rw[if_pos (by omega)]
  have hlong':(131072:Int) < (n:Int):=by omega
  rw[HQ.out]
  go_enter_defers Tryz.func104,Tryz.ntmps104
  go_wp2_with fail
  refine⟨.tuple #[.agg (rcC rz0 (.slice none 0 0) (.slice none 0 0)),.int .i64 2],by simp[results,Tryz.results104,go_sem,rcC],?_⟩
  exact⟨none,none,0,0,rfl,C.SOwn.nil _ _,World.ownsRow_nil _ _ _ _,λj hj=>by simp[Value.ownBlock] at hj,((Below.refl _ _).alloc (aqH _) _).alloc (by simp) _⟩
 ·have HW:=whole_any a zs n c ((w.alloc (rcO rz0 (.slice none 0 0) (.slice none 0 0))).alloc (erO 0)) (hT.below hb1 (tab6_pos hT)) hb hl (by omega) hnc hc (hz.below hb1)
  have hlong':¬(131072:Int) < (n:Int):=by omega
  cases hq:readP zs with
  |none=>
   have HQ:Hid (rdR zs=(rz0,61)):=by unfold Hid rdR;rw[if_neg (by omega),hq]
   rw[hq] at HW
   rw[HQ.out]
   go_enter_defers Tryz.func104,Tryz.ntmps104
   go_wp2_with (go_at_call 112;refine HW.mono ?_;rintro e w2 ⟨hee,hb2⟩;simp only at hee;subst hee)
   have hz2:w2.heap[w.heap.size]?=some (rcO rz0 (.slice none 0 0) (.slice none 0 0)):=(hb2.block _ (by omega)).trans hz1
   have he2:w2.heap[w.heap.size+1]?=some (erO 0):=(hb2.block _ (by omega)).trans he1
   have hB2:Below w.heap.size w w2:=hb1.trans (hb2.mono hb1.size)
   refine leaves_cons (f:=111) (args:=#[.pointer (some ⟨w.heap.size,0,none⟩),.pointer (some ⟨w.heap.size+1,0,none⟩)]) (by simp) (by simp[go_sem]) ?_
   refine(catch6_panic w.heap.size (w.heap.size+1) 0 _ hz2 he2 (by omega)).mono ?_
   rintro e u' w'' ⟨rfl,rfl,rfl⟩
   have hg3:=rS_grown w2 w.heap.size rz0 (.slice none 0 0) (.slice none 0 0)
   have hz3:=rS_heap w2 w.heap.size rz0 rz0 (.slice none 0 0) (.slice none 0 0) _ _ hz2
   have he3:(rS w2 w.heap.size rz0 (.slice none 0 0) (.slice none 0 0)).heap[w.heap.size+1]?=some (erO 0):=(hg3.block _ (Array.getElem?_eq_some_iff.mp he2).1 (by simp)).trans he2
   generalize rS w2 w.heap.size rz0 (.slice none 0 0) (.slice none 0 0)=w3 at*
   have hg4:=grown_set w3 (w.heap.size+1) 0 (.int .i64 61)
   have hz4:(w3.setCell ⟨w.heap.size+1,0,none⟩ (.int .i64 61)).heap[w.heap.size]?=some (rcO rz0 (.slice none 0 0) (.slice none 0 0)):=(hg4.block _ (Array.getElem?_eq_some_iff.mp hz3).1 (by simp)).trans hz3
   have he4:(w3.setCell ⟨w.heap.size+1,0,none⟩ (.int .i64 61)).heap[w.heap.size+1]?=some (erO 61):=by simp[World.setCell,Array.getElem?_modify,he3]
   generalize w3.setCell ⟨w.heap.size+1,0,none⟩ (.int .i64 61)=w4 at*
   have hlv:=λj=>cell_of_row _ w.heap.size j _ _ _ hz4
   have hle:=λj=>cell_of_row _ (w.heap.size+1) j _ _ _ he4
   refine⟨.tuple #[.agg (rcC rz0 (.slice none 0 0) (.slice none 0 0)),.int .i64 61],by simp[results,Tryz.results104,go_sem,rcC,hlv,hle],?_⟩
   exact⟨none,none,0,0,rfl,C.SOwn.nil _ _,World.ownsRow_nil _ _ _ _,λj hj=>by simp[Value.ownBlock] at hj,(hB2.grown hg3 hB2.size (by simp)).grown hg4 (by have:=hg3.size;have:=hB2.size;omega) (by simp)⟩
  |some r=>
   have HQ:Hid (rdR zs=(r,0)):=by unfold Hid rdR;rw[if_neg (by omega),hq]
   rw[hq] at HW
   rw[HQ.out]
   go_enter_defers Tryz.func104,Tryz.ntmps104
   go_upto_region 4 with fail
   clear hmf
   go_wp2_with (go_at_call 112;refine HW.mono ?_;rintro e w2 ⟨⟨sa,da,sc,dc,rfl,hso,hdo,hpt⟩,hb2⟩;have hz2:w2.heap[w.heap.size]?=some (rcO rz0 (.slice none 0 0) (.slice none 0 0)):=(hb2.block _ (by omega)).trans hz1;have he2:w2.heap[w.heap.size+1]?=some (erO 0):=(hb2.block _ (by omega)).trans he1;obtain⟨x0,x1,x2,x3,x4,x5,x6,x7,x8,x9,x10⟩:=rc_cells hz2;have fx:=rc_frozen hz2;have y0:w2.cell? ⟨w.heap.size+1,0,none⟩=some (.int .i64 0):=cell_of_row _ _ 0 _ _ _ he2;have fy:w2.frozen? ⟨w.heap.size+1,0,none⟩=false:=(by simp[World.frozen?,he2]))
   refine leaves_cons (f:=111) (args:=#[.pointer (some ⟨w.heap.size,0,none⟩),.pointer (some ⟨w.heap.size+1,0,none⟩)]) (by simp) (by simp[go_sem]) ?_
   refine(catch6_idle _ _ _).mono ?_
   rintro e u' w'' ⟨rfl,rfl,rfl⟩
   change Leaves _ _ _ _ [] .returning ((rS w2 w.heap.size r (.slice sa r.spans.length sc) (.slice da r.data.length dc)).setCell ⟨w.heap.size+1,0,none⟩ (.int .i64 0))
   have hB2:Below w.heap.size w w2:=hb1.trans (hb2.mono hb1.size)
   have hg3:=rS_grown w2 w.heap.size r (.slice sa r.spans.length sc) (.slice da r.data.length dc)
   have hz3:=rS_heap w2 w.heap.size r rz0 (.slice sa r.spans.length sc) (.slice da r.data.length dc) _ _ hz2
   have he3:(rS w2 w.heap.size r (.slice sa r.spans.length sc) (.slice da r.data.length dc)).heap[w.heap.size+1]?=some (erO 0):=(hg3.block _ (Array.getElem?_eq_some_iff.mp he2).1 (by simp)).trans he2
   generalize rS w2 w.heap.size r (.slice sa r.spans.length sc) (.slice da r.data.length dc)=w3 at*
   have hg4:=grown_set w3 (w.heap.size+1) 0 (.int .i64 0)
   have hz4:(w3.setCell ⟨w.heap.size+1,0,none⟩ (.int .i64 0)).heap[w.heap.size]?=some (rcO r (.slice sa r.spans.length sc) (.slice da r.data.length dc)):=(hg4.block _ (Array.getElem?_eq_some_iff.mp hz3).1 (by simp)).trans hz3
   have he4:(w3.setCell ⟨w.heap.size+1,0,none⟩ (.int .i64 0)).heap[w.heap.size+1]?=some (erO 0):=by simp[World.setCell,Array.getElem?_modify,he3]
   generalize w3.setCell ⟨w.heap.size+1,0,none⟩ (.int .i64 0)=w4 at*
   have hlv:=λj=>cell_of_row _ w.heap.size j _ _ _ hz4
   have hle:=λj=>cell_of_row _ (w.heap.size+1) j _ _ _ he4
   rw[hs1] at hso hdo
   refine⟨.tuple #[.agg (rcC r (.slice sa r.spans.length sc) (.slice da r.data.length dc)),.int .i64 0],by simp[results,Tryz.results104,go_sem,rcC,hlv,hle],?_⟩
   exact⟨sa,da,sc,dc,rfl,own_base6 (own_keep6 (own_keep6 hso hg3 (by intro j hj;have:=(hso.lt j hj).1;simp;omega)) hg4 (by intro j hj;have:=(hso.lt j hj).1;simp;omega)) (by omega),own_base6 (own_keep6 (own_keep6 hdo hg3 (by intro j hj;have:=(hdo.lt j hj).1;simp;omega)) hg4 (by intro j hj;have:=(hdo.lt j hj).1;simp;omega)) (by omega),hpt,(hB2.grown hg3 hB2.size (by simp)).grown hg4 (by have:=hg3.size;have:=hB2.size;omega) (by simp)⟩
theorem okN_zero {f:Int} {i:Nat} {n:Int} (h:okN f i n=true) (hh:hasB f i=false):n=0:=by
 unfold okN at h
 rw[hh] at h
 simpa using h
theorem nm_back {f:Int} {r:Rc} (h:okNs f r 8=true) (t:List Int):∀{k:Nat},k<= 8-> ∀t,nmP f k (nmB f r k++t)=some ((List.range k).map (nmA r),t)
 |0,_,t=>by simp[nmP,nmB]
 |k+1,hk,t=>by
  have h1:=nm_back h t (k:=k) (by omega)
  have h2:=okNs_at h (show k < 8 by omega)
  have h3:=okN_bd h2
  rw[nmB_succ,List.append_assoc]
  simp only[nmP,h1]
  rw[List.range_succ,List.map_append]
  cases hh:hasB f k with
  |true=>simp only[if_true,numP_enc t h3.1 h3.2];rfl
  |false=>
   simp only[Bool.false_eq_true,if_false,List.nil_append]
   simp[okN_zero h2 hh]
theorem sp_back:∀(n:Nat) (l:List (Int×Int)) (t:List Int),l.length=n-> SpOk l-> spP n (l.flatMap spB1++t)=some (l,t)
 |0,l,t,hl,h=>by
  obtain rfl:=List.eq_nil_of_length_eq_zero hl
  rfl
 |n+1,l,t,hl,h=>by
  have hne:l≠[]:=by intro e;rw[e] at hl;simp at hl
  obtain⟨l',p,rfl⟩:∃l' p,l=l'++[p]:=⟨l.dropLast,l.getLast hne,(List.dropLast_concat_getLast hne).symm⟩
  have hp:=h p (by simp)
  have h1:=sp_back n l' (spB1 p++t) (by simpa using hl) (λq hq=>h q (by simp[hq]))
  rw[List.flatMap_append,List.append_assoc,List.flatMap_cons,List.flatMap_nil,List.append_nil]
  simp only[spP]
  rw[h1]
  simp only[spB1]
  rw[List.append_assoc,numP_enc _ (by omega) (by omega)]
  simp only
  rw[numP_enc _ (by omega) (by omega)]
  simp only
  obtain⟨a,b⟩:=p
  simp
  omega
theorem sps_back (l:List (Int×Int)) (t:List Int) (h:SpOk l) (hl:l.length<= 500):spsP (spB l++t)=some (l,t):=by
 unfold spsP spB
 rw[List.append_assoc,numP_enc _ (by omega) (by omega)]
 simp only[Int.toNat_natCast]
 exact sp_back l.length l t rfl h
theorem may_lists {r:Rc} (h:mayB6 r=true):(hasB (kf r.kind) 8=false-> r.spans=[])/\ (hasB (kf r.kind) 9=false-> r.data=[]):=by
 unfold mayB6 at h
 simp only[Bool.and_eq_true] at h
 have h2:=h.2.1
 unfold allowB at h2
 simp only[Bool.and_eq_true,Bool.or_eq_true,beq_iff_eq] at h2
 refine⟨λe=>?_,λe=>?_⟩
 ·rcases h2.2.1 with q|q
  ·rw[e] at q;cases q
  ·exact List.eq_nil_of_length_eq_zero q
 ·rcases h2.2.2 with q|q
  ·rw[e] at q;cases q
  ·exact List.eq_nil_of_length_eq_zero q
theorem mkR_nm (r:Rc):mkR r.kind ((List.range 8).map (nmA r))={r with spans:=[],data:=[]}:=by
 rfl
theorem rec_back {r:Rc} (h:mayB6 r=true):recP (prB r)=some (r,[]):=by
 obtain⟨h1,h2,h3,h4⟩:=may_parts h
 obtain⟨h5,h6⟩:=may_lists h
 unfold prB
 simp only[recP,nm_back h2 [] (aqH 8),mkR_nm]
 unfold tailB
 cases hb8:hasB (kf r.kind) 8 with
 |true=>
  have hb9:=not_both hb8
  have hd:=h6 hb9
  obtain⟨q1,q2⟩:=h3 hb8
  simp only[if_true,hb9,Bool.false_eq_true,if_false,List.append_nil]
  have h7:=sps_back r.spans [] q2 q1
  rw[List.append_nil] at h7
  rw[h7]
  simp only[aqG,Prod.mk.injEq,and_true]
  cases r
  simp only at hd
  rw[hd]
 |false=>
  have hs:=h5 hb8
  simp only[Bool.false_eq_true,if_false,List.nil_append]
  cases hb9:hasB (kf r.kind) 9 with
  |true=>
   have q:=h4 hb9
   simp only[if_true]
   rw[numP_enc _ (by omega) (by omega)]
   simp only[Int.toNat_natCast]
   rw[if_pos (by omega),List.take_of_length_le (aqH _),List.drop_length]
   simp only[aqG,Prod.mk.injEq,and_true]
   cases r
   simp only at hs
   rw[hs]
  |false=>
   have hd:=h6 hb9
   simp only[Bool.false_eq_true,if_false,aqG,Prod.mk.injEq,and_true]
   cases r
   simp only at hs hd
   rw[hs,hd]
theorem read_back {r:Rc} (h:mayB6 r=true):readP (prB r)=some r:=by
 unfold readP
 rw[rec_back h]
 simp only[fnl,h,if_true]
theorem nm_inv {f:Int}:∀{k:Nat} {zs t l:List Int},Bytey zs-> nmP f k zs=some (l,t)-> zs=((List.range k).flatMap λi=>if hasB f i then enc (l.getD i 0) else [])++t/\ l.length=k
 |0,zs,t,l,hb,h=>by
  simp only[nmP,aqG,Prod.mk.injEq] at h
  obtain⟨rfl,rfl⟩:=h
  simp
 |k+1,zs,t,l,hb,h=>by
  simp only[nmP] at h
  split at h
  ·cases h
  ·rename_i l' t' h1
   obtain⟨q1,q2⟩:=nm_inv hb h1
   have hbt:=(nmP_by hb h1).2.1
   have hcong:∀n:Int,((List.range k).flatMap λi=>if hasB f i then enc ((l'++[n]).getD i 0) else [])=((List.range k).flatMap λi=>if hasB f i then enc (l'.getD i 0) else []):=λn=>by
    rw[List.flatMap_def,List.flatMap_def]
    congr 1
    apply List.map_congr_left
    intro i hi
    have hi':=List.mem_range.mp hi
    rw[List.getD_eq_getElem?_getD,List.getD_eq_getElem?_getD,List.getElem?_append_left (by omega)]
   split at h
   ·rename_i hh
    split at h
    ·cases h
    ·rename_i n t1 h2
     simp only[aqG,Prod.mk.injEq] at h
     obtain⟨rfl,rfl⟩:=h
     obtain⟨_,_,_,h4,_,_,_,_⟩:=numP_inv hbt h2
     refine⟨?_,by simp[q2]⟩
     rw[List.range_succ,List.flatMap_append,hcong,List.append_assoc,q1,h4]
     simp[hh,q2]
   ·rename_i hh
    simp only[aqG,Prod.mk.injEq] at h
    obtain⟨rfl,rfl⟩:=h
    refine⟨?_,by simp[q2]⟩
    rw[List.range_succ,List.flatMap_append,hcong,List.append_assoc,q1]
    simp[hh]
theorem sp_inv:∀{k:Nat} {zs t:List Int} {l:List (Int×Int)},Bytey zs-> spP k zs=some (l,t)-> zs=l.flatMap spB1++t
 |0,zs,t,l,hb,h=>by
  simp only[spP,aqG,Prod.mk.injEq] at h
  obtain⟨rfl,rfl⟩:=h
  simp
 |k+1,zs,t,l,hb,h=>by
  simp only[spP] at h
  split at h
  ·cases h
  ·rename_i l' t' h1
   split at h
   ·cases h
   ·rename_i a t1 h2
    split at h
    ·cases h
    ·rename_i b t2 h3
     simp only[aqG,Prod.mk.injEq] at h
     obtain⟨rfl,rfl⟩:=h
     have hbt:=(spP_by hb h1).2.1
     have hbt1:=(numP_by hbt h2).1
     obtain⟨_,_,_,h4,_,_,_,_⟩:=numP_inv hbt h2
     obtain⟨_,_,_,h5,_,_,_,_⟩:=numP_inv hbt1 h3
     have q:=sp_inv hb h1
     rw[List.flatMap_append,List.append_assoc,q,h4,h5]
     simp only[List.flatMap_cons,List.flatMap_nil,List.append_nil,spB1]
     rw[show a+b - a=b by omega]
     simp
theorem rec_inv {zs t:List Int} {r:Rc} (hb:Bytey zs) (h:recP zs=some (r,t)):zs=prB r++t:=by
 cases zs with
 |nil=>cases h
 |cons k t0=>
  have hb0:Bytey t0:=λz hz=>hb z (List.mem_cons_of_mem _ hz)
  simp only[recP] at h
  split at h
  ·cases h
  ·rename_i l t1 h1
   obtain⟨q1,q2⟩:=nm_inv hb0 h1
   have hbt:=(nmP_by hb0 h1).2.1
   obtain⟨n0,n1,n2,n3,n4,n5,n6,n7,rfl⟩:=eight q2
   have hnm:∀s d,nmB (kf k) ({mkR k [n0,n1,n2,n3,n4,n5,n6,n7] with spans:=s,data:=d}:Rc) 8=(List.range 8).flatMap λi=>if hasB (kf k) i then enc ([n0,n1,n2,n3,n4,n5,n6,n7].getD i 0) else []:=λs d=>rfl
   split at h
   ·rename_i hb8
    split at h
    ·cases h
    ·rename_i s t2 h2
     simp only[aqG,Prod.mk.injEq] at h
     obtain⟨rfl,rfl⟩:=h
     have hb9:=not_both hb8
     unfold spsP at h2
     split at h2
     ·cases h2
     ·rename_i n t3 h3
      obtain⟨_,_,_,h4,_,_,h7,h8⟩:=numP_inv hbt h3
      have hbt3:=(numP_by hbt h3).1
      have h5:=sp_inv hbt3 h2
      have h6:=(spP_by hbt3 h2).1
      show k::t0=(k::(nmB (kf k) _ 8++tailB (kf k) _))++_
      rw[hnm]
      unfold tailB
      simp only[hb8,hb9,if_true,Bool.false_eq_true,if_false,List.append_nil,List.cons_append,List.append_assoc]
      rw[q1,h4,h5]
      unfold spB
      rw[h6,Int.toNat_of_nonneg h7]
      simp
   ·rename_i hb8
    have hb8':hasB (kf k) 8=false:=by simpa using hb8
    split at h
    ·rename_i hb9
     split at h
     ·cases h
     ·rename_i n t2 h2
      obtain⟨_,_,_,h4,_,_,h7,h8⟩:=numP_inv hbt h2
      split at h
      ·rename_i hn
       simp only[aqG,Prod.mk.injEq] at h
       obtain⟨rfl,rfl⟩:=h
       show k::t0=(k::(nmB (kf k) _ 8++tailB (kf k) _))++_
       rw[hnm]
       unfold tailB
       simp only[hb8',hb9,if_true,Bool.false_eq_true,if_false,List.nil_append,List.cons_append,List.append_assoc]
       have hlen:((t2.take n.toNat).length:Int)=n:=by rw[List.length_take];omega
       rw[hlen,List.take_append_drop,q1,h4]
      ·cases h
    ·rename_i hb9
     have hb9':hasB (kf k) 9=false:=by simpa using hb9
     simp only[aqG,Prod.mk.injEq] at h
     obtain⟨rfl,rfl⟩:=h
     show k::t0=(k::(nmB (kf k) _ 8++tailB (kf k) _))++_
     have hnm':=hnm [] []
     unfold tailB
     simp only[hb8',hb9',Bool.false_eq_true,if_false,List.append_nil,List.cons_append]
     rw[q1]
     rfl
theorem read_inv {zs:List Int} {r:Rc} (hb:Bytey zs) (h:readP zs=some r):zs=prB r/\ mayB6 r=true:=by
 unfold readP at h
 split at h
 ·rename_i r' t h1
  cases t with
  |nil=>
   by_cases hm:mayB6 r'=true
   ·simp only[fnl,hm,if_true,aqG] at h
    subst h
    have:=rec_inv hb h1
    rw[List.append_nil] at this
    exact⟨this,hm⟩
   ·simp[fnl,hm] at h
  |cons z tz=>simp[fnl] at h
 ·cases h
theorem prB_len {r:Rc} (h:mayB6 r=true):(prB r).length<= 80000:=by
 obtain⟨h1,h2,h3,h4⟩:=may_parts h
 have h5:=nmB_len h2 (aqH 8)
 unfold prB tailB
 rw[List.length_cons,List.length_append,List.length_append]
 have h6:(if hasB (kf r.kind) 8=true then spB r.spans else []).length<= 10010:=by
  split
  ·rename_i hb
   obtain⟨q1,q2⟩:=h3 hb
   have e1:=flat_len q2
   have e2:=enc_len' (n:=(r.spans.length:Int)) (by omega) (by omega)
   unfold spB
   rw[List.length_append,e2.1]
   omega
  ·simp
 have h7:(if hasB (kf r.kind) 9=true then enc (r.data.length:Int)++r.data else []).length<= 65546:=by
  split
  ·rename_i hb
   have q:=h4 hb
   have e2:=enc_len' (n:=(r.data.length:Int)) (by omega) (by omega)
   rw[List.length_append,e2.1]
   omega
  ·simp
 omega
theorem bytey_app {a b:List Int} (h1:Bytey a) (h2:Bytey b):Bytey (a++b):=λz hz=>by
 rcases List.mem_append.mp hz with h|h
 ·exact h1 z h
 ·exact h2 z h
theorem bytey_flat {α:Type} {l:List α} {f:α-> List Int} (h:∀x∈l,Bytey (f x)):Bytey (l.flatMap f):=λz hz=>by
 obtain⟨x,hx,hzx⟩:=List.mem_flatMap.mp hz
 exact h x hx z hzx
theorem prB_bytey {r:Rc} (h:mayB6 r=true) (hd:Bytey r.data):Bytey (prB r):=by
 obtain⟨h1,h2,h3,h4⟩:=may_parts h
 have hk:=kf_bd h1
 unfold prB tailB
 intro z hz
 rcases List.mem_cons.mp hz with rfl|hz
 ·omega
 ·refine bytey_app ?_ (bytey_app ?_ ?_) z hz
  ·unfold nmB
   refine bytey_flat (λi _=>?_)
   split
   ·exact enc_bytes _
   ·intro z hz;cases hz
  ·split
   ·unfold spB
    refine bytey_app (enc_bytes _) (bytey_flat (λp _=>?_))
    unfold spB1
    exact bytey_app (enc_bytes _) (enc_bytes _)
   ·intro z hz;cases hz
  ·split
   ·exact bytey_app (enc_bytes _) hd
   ·intro z hz;cases hz
theorem or_u32 (k:Nat) (v c:Int) (hk:k<= 31) (v0:0<= v) (c0:0<= c) (hc:c < 2 ^ k) (hv:v*2 ^ k < 4294967296) (hc2:c < 4294967296):bits .or .u32 (v*2 ^ k) c=v*2 ^ k+c:=by
 obtain⟨x,rfl⟩:∃x:Nat,v=x:=⟨v.toNat,by omega⟩
 obtain⟨y,rfl⟩:∃y:Nat,c=y:=⟨c.toNat,by omega⟩
 have hy:y < 2 ^ k:=by exact_mod_cast hc
 have h0:(0:Int)<= (x:Int)*2 ^ k:=Int.mul_nonneg v0 (Int.le_of_lt (Int.pow_pos (by decide)))
 rw[u32_or _ _ h0 hv c0 hc2]
 rw[show ((x:Int)*2 ^ k).toNat=x*2 ^ k from by rw[show (x:Int)*2 ^ k=((x*2 ^ k:Nat):Int) by simp];exact Int.toNat_natCast _,Int.toNat_natCast,nat_join k (x*2 ^ k) y (Nat.mul_mod_left _ _) hy]
 simp
theorem word_any (g off n c:Nat) (x0 x1 x2 x3:Int) (w:World) (hn:4<= n) (h0:0<= x0/\ x0<= 255) (h1:0<= x1/\ x1<= 255) (h2:0<= x2/\ x2<= 255) (h3:0<= x3/\ x3<= 255)
 (c0:w.cell? ⟨g,off,none⟩=some (.int .u8 x0)) (c1:w.cell? ⟨g,off+1,none⟩=some (.int .u8 x1)) (c2:w.cell? ⟨g,off+2,none⟩=some (.int .u8 x2)) (c3:w.cell? ⟨g,off+3,none⟩=some (.int .u8 x3)):
 Calls Tryz.prog 102 #[.slice (some ⟨g,off,none⟩) n c] w λe w'=>e=.returned (.int .u32 (x0*16777216+x1*65536+x2*256+x3))/\ Below w.heap.size w w':=by
 have hn':(4:Int)<= n:=by omega
 go_enter Tryz.func102,Tryz.ntmps102
 go_wp2
 go_quiet (fail)
 go_wp2
 go_ret
 refine⟨congrArg (λz=>Ending.returned (Value.int .u32 z)) ?_,⟨rfl,rfl,rfl,aqH _,λ_ _=>rfl⟩⟩
 rw[show x0*16777216=x0*2 ^ 24 by omega,or_u32 24 x0 _ (by omega) (by omega) (by omega) (by omega) (by omega) (by omega)]
 rw[show x0*2 ^ 24+x1*65536=(x0*256+x1)*2 ^ 16 by omega,or_u32 16 _ _ (by omega) (by omega) (by omega) (by omega) (by omega) (by omega)]
 rw[show (x0*256+x1)*2 ^ 16+x2*256=(x0*65536+x1*256+x2)*2 ^ 8 by omega,or_u32 8 _ _ (by omega) (by omega) (by omega) (by omega) (by omega) (by omega)]
 all_goals omega
def wd4 (n:Int):List Int:=[n / 16777216,n / 65536 % 256,n / 256 % 256,n % 256]
theorem four_lit (W:World) (x y z u:Value) (t:TypeId):∀j v,[x,y,z,u][j]?=some v-> (W.alloc (.cells #[x,y,z,u] t)).cell? ((⟨W.heap.size,0,none⟩:Addr).add j)=some v:=by
 intro j v hj
 match j,hj with
 |0,hj=>simp at hj;subst hj;simp[Addr.add]
 |1,hj=>simp at hj;subst hj;simp[Addr.add]
 |2,hj=>simp at hj;subst hj;simp[Addr.add]
 |3,hj=>simp at hj;subst hj;simp[Addr.add]
 |j+4,hj=>simp at hj
theorem putWord_any (base m:Nat) (v:Value) (zs:List Int) (n:Int) (w:World) (hn:0<= n/\ n < 4294967296) (ho:w.ownsRow base 5 1 v m (zs.map (Value.int .u8))) (hm:m<= 140737488355000) (hB:base<= w.heap.size):
 Calls Tryz.prog 108 #[v,.int .u32 n] w λe w'=>∃v',e=.returned v'/\ w'.ownsRow base 5 1 v' (m+4) ((zs++wd4 n).map (Value.int .u8))/\ w.grownBy w' v.ownBlock/\ (∀j,v'.ownBlock=some j-> v.ownBlock=some j∨w.heap.size<= j):=by
 obtain⟨i0,hinf,hz0,hz1,hz2⟩:=info_parts Tryz.info_u8
 obtain⟨a,cap,rfl⟩:∃a cap,v=.slice a m cap:=by
  obtain⟨_,⟨rfl,rfl⟩|⟨g,cap,cur,rfl,_⟩⟩:=ho
  ·exact⟨none,0,rfl⟩
  ·exact⟨_,cap,rfl⟩
 obtain⟨n0,n1⟩:=hn
 have HO:Hid (∀o,(w.alloc o).ownsRow base 5 1 (.slice a m cap) m (zs.map (Value.int .u8))):=λo=>ho.alloc o
 clear ho
 go_enter Tryz.func108,Tryz.ntmps108
 go_wp2_with (at_builtin;refine wpList_append_own_at _ rfl _ _ 35 rfl base 5 i0 (.int .u8 0) 1 1 Tryz.underlying35 hinf hz0 hz1 hz2 rfl (by decide) _ _ _ rfl (HO.out _) ⟨w.heap.size,0,none⟩ 4 4 [.int .u8 (n / 16777216),.int .u8 (n / 65536 % 256),.int .u8 (n / 256 % 256),.int .u8 (n % 256)] rfl rfl (four_lit _ _ _ _ _ _) (by intro u hu;simp at hu;rcases hu with rfl|rfl|rfl|rfl<;>rfl) (by unfold maxLen;omega) (by omega) (by simp;omega) ?_;intro v1 w1 o1 g1 _ t1)
 have hs1:=g1.size
 simp only[World.size_alloc] at hs1
 have HV:Hid (∀j,v1.ownBlock=some j-> (Value.slice a m cap).ownBlock=some j∨w.heap.size<= j):=λj hj=>by
  rcases t1 with t|t
  ·exact .inl (t ▸ hj)
  ·right;rw[hj] at t;simp at t;omega
 have HG:Hid (w.grownBy w1 (Value.slice a m cap).ownBlock):=by
  refine⟨g1.os,g1.tape,g1.output,by omega,λg hg hne=>?_⟩
  exact(g1.block g (by simp;omega) hne).trans (((Below.refl w.heap.size w).alloc (aqH _) _).block g hg)
 have HR:Hid (w1.ownsRow base 5 1 v1 (m+4) ((zs++wd4 n).map (Value.int .u8))):=by unfold Hid;rw[List.map_append];exact o1
 clear o1 g1 t1
 go_wp2
 go_ret
 exact⟨_,rfl,HR.out,HG.out,HV.out⟩
def vl4 (zs:List Int):Int:=zs.getD 0 0*16777216+zs.getD 1 0*65536+zs.getD 2 0*256+zs.getD 3 0
def fsR (zs:List Int):Rc×Int:=
 if zs.length < 8 then (rz0,0)
 else if 131072 < vl4 zs∨(zs.length:Int) - 8 < vl4 zs then (rz0,0)
 else if ((crs ((zs.drop 8).take (vl4 zs).toNat):Nat):Int)≠vl4 (zs.drop 4) then (rz0,0)
 else match readP ((zs.drop 8).take (vl4 zs).toNat) with
  |none=>(rz0,0)
  |some r=>(r,8+vl4 zs)
def scn:Nat-> List Int-> List Rc×Nat
 |0,_=>([],0)
 |k+1,zs=>if (fsR zs).2=0 then ([],0) else ((fsR zs).1::(scn k (zs.drop (fsR zs).2.toNat)).1,(fsR zs).2.toNat+(scn k (zs.drop (fsR zs).2.toNat)).2)
def scR (zs:List Int):List Rc×Nat:=scn zs.length zs
theorem bytAt {zs:List Int} (h:Bytey zs) (i:Nat):0<= zs.getD i 0/\ zs.getD i 0<= 255:=by
 rcases Nat.lt_or_ge i zs.length with q|q
 ·rw[List.getD_eq_getElem?_getD,List.getElem?_eq_getElem q]
  exact h _ (List.getElem_mem q)
 ·rw[List.getD_eq_getElem?_getD,List.getElem?_eq_none q]
  exact⟨by decide,by decide⟩
theorem bytDrop {zs:List Int} (h:Bytey zs) (k:Nat):Bytey (zs.drop k):=λz hz=>h z (List.mem_of_mem_drop hz)
theorem bytTake {zs:List Int} (h:Bytey zs) (k:Nat):Bytey (zs.take k):=λz hz=>h z (List.mem_of_mem_take hz)
theorem vl4_bd {zs:List Int} (h:Bytey zs):0<= vl4 zs/\ vl4 zs < 4294967296:=by
 have h0:=bytAt h 0
 have h1:=bytAt h 1
 have h2:=bytAt h 2
 have h3:=bytAt h 3
 unfold vl4
 omega
theorem fsR_bd {zs:List Int} (h:Bytey zs):(fsR zs).2=0∨(8<= (fsR zs).2/\ (fsR zs).2<= zs.length):=by
 have hv:=vl4_bd h
 unfold fsR
 split
 ·exact .inl rfl
 split
 ·exact .inl rfl
 split
 ·exact .inl rfl
 split
 ·exact .inl rfl
 ·right
  simp only
  omega
theorem fs_small {zs:List Int} (hb:Bytey zs):(fsR zs).1.data.length<= 65536/\ (fsR zs).1.spans.length<= 500:=by
 unfold fsR
 split
 ·exact⟨by decide,by decide⟩
 split
 ·exact⟨by decide,by decide⟩
 split
 ·exact⟨by decide,by decide⟩
 split
 ·exact⟨by decide,by decide⟩
 ·rename_i r h
  obtain⟨_,hm⟩:=read_inv (bytTake (bytDrop hb 8) _) h
  obtain⟨_,_,h1,h2⟩:=may_parts hm
  obtain⟨h3,h4⟩:=may_lists hm
  constructor
  ·cases h9:hasB (kf r.kind) 9 with
   |true=>exact h2 h9
   |false=>simp only[h4 h9];exact Nat.zero_le _
  ·cases h8:hasB (kf r.kind) 8 with
   |true=>exact(h1 h8).1
   |false=>simp only[h3 h8];exact Nat.zero_le _
structure Scd (zs:List Int) (l:List Rc) (t:Nat):Prop where
 all:∀k,scn (k+l.length) zs=(l++(scn k (zs.drop t)).1,t+(scn k (zs.drop t)).2)
 cnt:8*l.length<= t
 len:t<= zs.length
theorem Scd.start (zs:List Int):Scd zs [] 0:=⟨λk=>by simp,by simp,by simp⟩
theorem Scd.step {zs:List Int} {l:List Rc} {t:Nat} (h:Scd zs l t) (hb:Bytey zs) (hn:(fsR (zs.drop t)).2≠0):Scd zs (l++[(fsR (zs.drop t)).1]) (t+(fsR (zs.drop t)).2.toNat):=by
 have h1:=fsR_bd (bytDrop hb t)
 have h2:=h.cnt
 have h3:=h.len
 rw[List.length_drop] at h1
 refine⟨λk=>?_,by simp;omega,by omega⟩
 have h4:=h.all (k+1)
 rw[show k+(l++[(fsR (zs.drop t)).1]).length=k+1+l.length by simp;omega,h4]
 simp only[scn,if_neg hn,List.drop_drop]
 simp[Nat.add_assoc]
theorem scn_none {zs:List Int} (h:(fsR zs).2=0):∀k,scn k zs=([],0)
 |0=>rfl
 |k+1=>by simp[scn,h]
theorem Scd.fin {zs:List Int} {l:List Rc} {t:Nat} (h:Scd zs l t) (hn:(fsR (zs.drop t)).2=0):scR zs=(l,t):=by
 have h1:=h.all (zs.length - l.length)
 have h2:=h.cnt
 have h3:=h.len
 rw[show zs.length - l.length+l.length=zs.length by omega,scn_none hn] at h1
 unfold scR
 rw[h1]
 simp
theorem scn_small:∀(k:Nat) (zs:List Int),Bytey zs-> 8*(scn k zs).1.length<= zs.length
 |0,zs,_=>by simp[scn]
 |k+1,zs,hb=>by
  simp only[scn]
  split
  ·simp
  ·rename_i h
   have h1:=fsR_bd hb
   have h2:=scn_small k (zs.drop (fsR zs).2.toNat) (bytDrop hb _)
   rw[List.length_drop] at h2
   simp only[List.length_cons]
   omega
theorem scR_small (zs:List Int) (hb:Bytey zs):8*(scR zs).1.length<= zs.length:=scn_small _ _ hb
def frB (r:Rc):List Int:=wd4 ((prB r).length:Nat)++(wd4 ((crs (prB r):Nat):Int)++prB r)
theorem frB_len (r:Rc):(frB r).length=8+(prB r).length:=by
 unfold frB wd4
 simp
 omega
theorem fr_bytey {l:List Rc} (h:∀r∈l,mayB6 r=true/\ Bytey r.data):Bytey (l.flatMap frB):=by
 refine bytey_flat (λr hr=>?_)
 obtain⟨h1,h2⟩:=h r hr
 have h3:=prB_len h1
 have hpb:=prB_bytey h1 h2
 have h4:=crs_lt hpb
 have hw:∀n:Int,0<= n/\ n < 4294967296-> Bytey (wd4 n):=λn hn z hz=>by
  simp only[wd4,List.mem_cons,List.not_mem_nil,or_false] at hz
  rcases hz with rfl|rfl|rfl|rfl<;>omega
 unfold frB
 exact bytey_app (hw _ (by omega)) (bytey_app (hw _ (by omega)) hpb)
theorem fr_take (l:List Rc) {k:Nat} (hk:k < l.length):(l.take (k+1)).flatMap frB=(l.take k).flatMap frB++frB l[k]:=by
 rw[List.take_succ_eq_append_getElem hk,List.flatMap_append]
 simp
theorem scn_len:∀(k:Nat) (zs:List Int),Bytey zs-> (scn k zs).2<= zs.length
 |0,zs,_=>Nat.zero_le _
 |k+1,zs,hb=>by
  by_cases h0:(fsR zs).2=0
  ·rw[scn_none h0];exact Nat.zero_le _
  ·have h1:=fsR_bd hb
   have h2:=scn_len k (zs.drop (fsR zs).2.toNat) (bytDrop hb _)
   rw[List.length_drop] at h2
   simp only[scn,if_neg h0]
   omega
theorem scR_len {zs:List Int} (hb:Bytey zs):(scR zs).2<= zs.length:=scn_len _ _ hb
structure Lnd (w:World) (base gd gs ns nd:Nat) (l:List (Int×Int)) (zs:List Int):Prop where
 dat:Blk .u8 w gd 5 (mkD zs)
 spn:C.SOwn w base (.slice (some ⟨gs,0,none⟩) (ns+2) (ns+2)) (mkS l)
 ndl:zs.length=nd
 nsl:l.length=ns
 ne:gd≠gs
 lo:base<= gd
 sd:nd<= 140737488351232
 ss:ns*16<= 140737488351232
structure Oth (gd gs:Nat) (w w':World):Prop where
 os:w'.os=w.os
 tape:w'.tape=w.tape
 output:w'.output=w.output
 size:w.heap.size<= w'.heap.size
 block:∀g,g < w.heap.size-> g≠gd-> g≠gs-> w'.heap[g]?=w.heap[g]?
def DOwn (w:World) (base:Nat) (v:Value) (zs:List Int):Prop:=w.ownsRow base 5 1 v zs.length (zs.map (Value.int .u8))
structure OthV (a b:Option Nat) (w w':World):Prop where
 os:w'.os=w.os
 tape:w'.tape=w.tape
 output:w'.output=w.output
 size:w.heap.size<= w'.heap.size
 block:∀g,g < w.heap.size-> some g≠a-> some g≠b-> w'.heap[g]?=w.heap[g]?
theorem othV_of {a b:Option Nat} {w w1 w2 w3:World} (hb:Below w.heap.size w w1) (h1:w1.grownBy w2 a) (h2:w2.grownBy w3 b):OthV a b w w3:=by
 have:=hb.size;have:=h1.size;have:=h2.size
 refine⟨h2.os.trans (h1.os.trans hb.os),h2.tape.trans (h1.tape.trans hb.tape),h2.output.trans (h1.output.trans hb.output),by omega,λg hg e1 e2=>?_⟩
 exact(h2.block g (by omega) e2).trans ((h1.block g (by omega) e1).trans (hb.block g hg))
theorem rep_set {α:Type} (zs:List α) (k:Nat) (y:α) (hk:k < zs.length):(List.replicate k y++zs.drop k).set k y=List.replicate (k+1) y++zs.drop (k+1):=by
 rw[List.set_append_right _ _ (by simp),List.length_replicate,Nat.sub_self,List.drop_eq_getElem_cons hk,aqB,List.replicate_succ',List.append_assoc]
 rfl
theorem rep_at {α:Type} (zs:List α) (k:Nat) (y:α):(List.replicate k y++zs.drop k)[k]?=zs[k]?:=by
 rw[List.getElem?_append_right (by simp),List.length_replicate,Nat.sub_self,List.getElem?_drop,Nat.add_zero]
theorem rep_len {α:Type} (zs:List α) (k:Nat) (y:α) (hk:k<= zs.length):(List.replicate k y++zs.drop k).length=zs.length:=by
 simp;omega
theorem rep_all {α:Type} (zs:List α) (y:α):List.replicate zs.length y++zs.drop zs.length=List.replicate zs.length y:=by
 simp
theorem DOwn.put {W:World} {base g n cap:Nat} {L:List Int} (h:DOwn W base (.slice (some ⟨g,0,none⟩) n cap) L) (k:Nat) (x:Int):DOwn (W.setCell ⟨g,k,none⟩ (.int .u8 x)) base (.slice (some ⟨g,0,none⟩) n cap) (L.set k x):=by
 obtain⟨a',c',hv⟩:=C.own_shape h
 simp only[Value.slice.injEq] at hv
 obtain⟨_,rfl,_⟩:=hv
 have h1:=(World.ownsRow.stored h k (.int .u8 x)).1
 unfold DOwn
 rw[List.length_set,List.map_set]
 exact h1
theorem DOwn.cells {W:World} {base g n cap k:Nat} {L:List Int} {x:Int} (h:DOwn W base (.slice (some ⟨g,0,none⟩) n cap) L) (hk:L[k]?=some x):W.cell? ⟨g,k,none⟩=some (.int .u8 x)/\ W.frozen? ⟨g,k,none⟩=false:=by
 obtain⟨a',c',hv⟩:=C.own_shape h
 simp only[Value.slice.injEq] at hv
 obtain⟨_,rfl,_⟩:=hv
 have hkl:k < L.length:=(List.getElem?_eq_some_iff.mp hk).1
 refine⟨(World.ownsRow.cellAt h _ (by omega)).trans ?_,World.ownsRow.frozenAt h _⟩
 rw[List.getElem?_map,hk];rfl
structure Rwo where
 e:TypeId
 sz:Nat
 v:Value
 n:Nat
 xs:List Value
structure Fam (S:Nat-> Prop) (H:Nat) (w:World) (base N:Nat) (F:Nat-> Rwo):Prop where
 own:∀p,p < N-> w.ownsRow base (F p).e (F p).sz (F p).v (F p).n (F p).xs
 sep:∀p q k,p < N-> q < N-> (F p).v.ownBlock=some k-> (F q).v.ownBlock=some k-> p=q
 new:∀p k,p < N-> (F p).v.ownBlock=some k-> S k∨H<= k
structure Kps (S:Nat-> Prop) (w w':World):Prop where
 os:w'.os=w.os
 tape:w'.tape=w.tape
 output:w'.output=w.output
 size:w.heap.size<= w'.heap.size
 block:∀g,g < w.heap.size-> ¬S g-> w'.heap[g]?=w.heap[g]?
theorem Kps.refl (S:Nat-> Prop) (w:World):Kps S w w:=⟨rfl,rfl,rfl,aqH _,λ_ _ _=>rfl⟩
theorem Kps.after {S:Nat-> Prop} {w w1 w2:World} (h:Kps S w w1) (hb:Below w1.heap.size w1 w2):Kps S w w2:=by
 have:=h.size
 exact⟨hb.os.trans h.os,hb.tape.trans h.tape,hb.output.trans h.output,Nat.le_trans h.size hb.size,λg hg hS=>(hb.block g (by omega)).trans (h.block g hg hS)⟩
def upF (F:Nat-> Rwo) (p:Nat) (x:Rwo):Nat-> Rwo:=λq=>if q=p then x else F q
theorem upF_same (F:Nat-> Rwo) (p:Nat) (x:Rwo):upF F p x p=x:=if_pos rfl
theorem upF_other (F:Nat-> Rwo) {p q:Nat} (x:Rwo) (h:q≠p):upF F p x q=F q:=if_neg h
theorem Fam.step {S:Nat-> Prop} {H:Nat} {w w':World} {base N p:Nat} {F:Nat-> Rwo} (h:Fam S H w base N F) (hH:H<= w.heap.size) (hp:p < N) (x:Rwo) (hg:w.grownBy w' (F p).v.ownBlock) (ho:w'.ownsRow base x.e x.sz x.v x.n x.xs) (hf:∀j,x.v.ownBlock=some j-> (F p).v.ownBlock=some j∨w.heap.size<= j):Fam S H w' base N (upF F p x):=by
 have hlt:∀q k,q < N-> (F q).v.ownBlock=some k-> k < w.heap.size:=λq k hq hk=>((h.own q hq).lt k hk).2
 refine⟨λq hq=>?_,λq q' k hq hq' h1 h2=>?_,λq k hq hk=>?_⟩
 rotate_left 2
 ·by_cases e:q=p
  ·subst e
   rw[upF_same] at hk
   rcases hf k hk with h3|h3
   ·exact h.new q k hq h3
   ·exact .inr (Nat.le_trans hH h3)
  ·rw[upF_other _ _ e] at hk
   exact h.new q k hq hk
 ·by_cases e:q=p
  ·subst e;rw[upF_same];exact ho
  ·rw[upF_other _ _ e]
   exact own_keep6 (h.own q hq) hg (λk hk e2=>e (h.sep q p k hq hp hk e2))
 ·by_cases e:q=p
  ·by_cases e':q'=p
   ·exact e.trans e'.symm
   ·subst e
    rw[upF_same] at h1
    rw[upF_other _ _ e'] at h2
    rcases hf k h1 with h3|h3
    ·exact h.sep _ _ k hq hq' h3 h2
    ·have:=hlt q' k hq' h2;omega
  ·by_cases e':q'=p
   ·subst e'
    rw[upF_same] at h2
    rw[upF_other _ _ e] at h1
    rcases hf k h2 with h3|h3
    ·exact h.sep _ _ k hq hq' h1 h3
    ·have:=hlt q k hq h1;omega
   ·rw[upF_other _ _ e] at h1
    rw[upF_other _ _ e'] at h2
    exact h.sep _ _ k hq hq' h1 h2
theorem Fam.keep {S:Nat-> Prop} {H:Nat} {w w':World} {base N:Nat} {F:Nat-> Rwo} (h:Fam S H w base N F) (hb:Below w.heap.size w w'):Fam S H w' base N F:=
 ⟨λp hp=>own_below6 (h.own p hp) hb,h.sep,h.new⟩
theorem Fam.two {S:Nat-> Prop} {H:Nat} {w w':World} {base N p q:Nat} {F:Nat-> Rwo} (h:Fam S H w base N F) (hp:p < N) (hq:q < N) (hpq:p≠q) (x y:Rwo) (ho:OthV (F p).v.ownBlock (F q).v.ownBlock w w') (hx:w'.ownsRow base x.e x.sz x.v x.n x.xs) (hy:w'.ownsRow base y.e y.sz y.v y.n y.xs) (ex:x.v=(F p).v) (ey:y.v=(F q).v):Fam S H w' base N (upF (upF F p x) q y):=by
 have hv:∀i,(upF (upF F p x) q y i).v=(F i).v:=λi=>by
  by_cases e:i=q
  ·subst e;rw[upF_same,ey]
  ·rw[upF_other _ _ e]
   by_cases e':i=p
   ·subst e';rw[upF_same,ex]
   ·rw[upF_other _ _ e']
 refine⟨λi hi=>?_,λi j k hi hj h1 h2=>?_,λi k hi hk=>h.new i k hi (by rw[hv] at hk;exact hk)⟩
 ·by_cases e:i=q
  ·subst e;rw[upF_same];exact hy
  ·rw[upF_other _ _ e]
   by_cases e':i=p
   ·subst e';rw[upF_same];exact hx
   ·rw[upF_other _ _ e']
    have h0:=h.own i hi
    have hl:=h0.lt
    have hs1:=h.sep i p
    have hs2:=h.sep i q
    generalize F i=R at h0 hl hs1 hs2
    obtain⟨re,rs,rv,rn,rx⟩:=R
    simp only at h0 hl hs1 hs2 ⊢
    obtain⟨hl1,h3|⟨g,cap,cur,rfl,hb,hh,r⟩⟩:=h0
    ·exact⟨hl1,.inl h3⟩
    ·refine⟨hl1,.inr ⟨g,cap,cur,rfl,hb,?_,r⟩⟩
     rw[ho.block g (hl g rfl).2 (λe3=>e' (hs1 g hi hp rfl e3.symm)) (λe3=>e (hs2 g hi hq rfl e3.symm))];exact hh
 ·rw[hv] at h1 h2
  exact h.sep _ _ k hi hj h1 h2
theorem Fam.below {S:Nat-> Prop} {w0 w w':World} {base N p:Nat} {F:Nat-> Rwo} (h:Fam S w0.heap.size w base N F) (hp:p < N) (hg:w.grownBy w' (F p).v.ownBlock) (hb:Kps S w0 w):Kps S w0 w':=by
 have:=hb.size
 refine⟨hg.os.trans hb.os,hg.tape.trans hb.tape,hg.output.trans hb.output,Nat.le_trans hb.size hg.size,λg hlt hS=>(hg.block g (by omega) (λe=>?_)).trans (hb.block g hlt hS)⟩
 rcases h.new p g hp e.symm with h1|h1
 ·exact hS h1
 ·omega
theorem Fam.below2 {S:Nat-> Prop} {w0 w w':World} {base N p q:Nat} {F:Nat-> Rwo} (h:Fam S w0.heap.size w base N F) (hp:p < N) (hq:q < N) (ho:OthV (F p).v.ownBlock (F q).v.ownBlock w w') (hb:Kps S w0 w):Kps S w0 w':=by
 have:=hb.size
 refine⟨ho.os.trans hb.os,ho.tape.trans hb.tape,ho.output.trans hb.output,Nat.le_trans hb.size ho.size,λg hlt hS=>(ho.block g (by omega) (λe=>?_) (λe=>?_)).trans (hb.block g hlt hS)⟩
 ·rcases h.new p g hp e.symm with h1|h1
  ·exact hS h1
  ·omega
 ·rcases h.new q g hq e.symm with h1|h1
  ·exact hS h1
  ·omega
structure Ro where
 r:Rc
 sa:Option Addr
 da:Option Addr
 sc:Nat
 dc:Nat
abbrev Ro.sv (o:Ro):Value:=.slice o.sa o.r.spans.length o.sc
abbrev Ro.dv (o:Ro):Value:=.slice o.da o.r.data.length o.dc
def dRow (v:Value) (zs:List Int):Rwo:=⟨5,1,v,zs.length,zs.map (Value.int .u8)⟩
def sRow (v:Value) (l:List (Int×Int)):Rwo:=⟨128,2,v,l.length,l.flatMap C.spc⟩
def yM (i:Nat):Int:=IntKind.u8.wrap (i:Int)
def zM (i:Nat):Int:=IntKind.i64.wrap (-1 - (i:Int))
structure Spd (S:Nat-> Prop) (w0 w:World) (base R:Nat) (X:Rwo) (os:Nat-> Ro) (n:Nat) (F:Nat-> Rwo):Prop where
 fam:Fam S w0.heap.size w base (3+2*R) F
 f0:F 0=⟨35,1,.slice none 0 0,0,[]⟩
 f1:F 1=⟨79,1,.slice none 0 0,0,[]⟩
 f2:F 2=X
 done:∀i,i < n-> F (3+2*i)=dRow (os i).dv (List.replicate (os i).r.data.length (yM i))/\ F (4+2*i)=sRow (os i).sv (List.replicate (os i).r.spans.length (zM i,0))
 left:∀i,n<= i-> i < R-> F (3+2*i)=dRow (os i).dv (os i).r.data/\ F (4+2*i)=sRow (os i).sv (os i).r.spans
 blw:Kps S w0 w
structure Grd (S:Nat-> Prop) (w0 w:World) (base R:Nat) (X:Rwo) (os:Nat-> Ro) (n:Nat) (vd vs:Value) (dl sl:List Value) (F:Nat-> Rwo):Prop where
 fam:Fam S w0.heap.size w base (3+2*R) F
 f0:F 0=⟨35,1,vd,n,dl⟩
 f1:F 1=⟨79,1,vs,n,sl⟩
 f2:F 2=X
 done:∀i,i < n-> ∃d s,dl[i]?=some d/\ sl[i]?=some s/\ F (3+2*i)=dRow d (List.replicate ((os i).r.data.length+9) (yM i))/\ F (4+2*i)=sRow s (List.replicate ((os i).r.spans.length+9) (zM i,0))
 left:∀i,n<= i-> i < R-> F (3+2*i)=dRow (os i).dv (List.replicate (os i).r.data.length (yM i))/\ F (4+2*i)=sRow (os i).sv (List.replicate (os i).r.spans.length (zM i,0))
 blw:Kps S w0 w
structure Gri (S:Nat-> Prop) (w0 w:World) (base R:Nat) (X:Rwo) (os:Nat-> Ro) (n k:Nat) (vd vs d s:Value) (dl sl:List Value) (F:Nat-> Rwo):Prop where
 fam:Fam S w0.heap.size w base (3+2*R) F
 f0:F 0=⟨35,1,vd,n,dl⟩
 f1:F 1=⟨79,1,vs,n,sl⟩
 f2:F 2=X
 done:∀i,i < n-> ∃d s,dl[i]?=some d/\ sl[i]?=some s/\ F (3+2*i)=dRow d (List.replicate ((os i).r.data.length+9) (yM i))/\ F (4+2*i)=sRow s (List.replicate ((os i).r.spans.length+9) (zM i,0))
 here:F (3+2*n)=dRow d (List.replicate ((os n).r.data.length+k) (yM n))/\ F (4+2*n)=sRow s (List.replicate ((os n).r.spans.length+k) (zM n,0))
 left:∀i,n < i-> i < R-> F (3+2*i)=dRow (os i).dv (List.replicate (os i).r.data.length (yM i))/\ F (4+2*i)=sRow (os i).sv (List.replicate (os i).r.spans.length (zM i,0))
 blw:Kps S w0 w
theorem list_cells {w:World} {base R rc:Nat} {ra:Option Addr} {os:Nat-> Ro} {cs:List Value} (h:w.ownsRow base 81 11 (.slice ra R rc) R cs) (hc:∀i,i < R-> ∀j u,(rcC (os i).r (os i).sv (os i).dv)[j]?=some u-> cs[i*11+j]?=some u) (n:Nat) (hn:n < R):
 ∃g,ra=some ⟨g,0,none⟩/\ ∀j u,(rcC (os n).r (os n).sv (os n).dv)[j]?=some u-> w.cell? ⟨g,n*11+j,none⟩=some u:=by
 obtain⟨g,cap,hv⟩:=C.own_some h (by omega)
 simp only[Value.slice.injEq] at hv
 obtain⟨rfl,_,rfl⟩:=hv
 refine⟨g,rfl,λj u hj=>?_⟩
 have hj2:j < 11:=(Array.getElem?_eq_some_iff.mp hj).1
 rw[h.cellAt _ (by omega)]
 exact hc n hn j u hj
theorem row_sh2 {w:World} {base n:Nat} {v:Value} {xs:List Int} (h:w.ownsRow base 5 1 v n (xs.map (Value.int .u8))):∃a cap,v=.slice a n cap/\ Lies .u8 w a xs/\ xs.length=n/\ n<= cap/\ cap<= 9223372036854775807:=by
 have hs:∃a cap,v=.slice a n cap/\ n<= cap/\ cap<= 9223372036854775807:=by
  obtain⟨_,⟨rfl,rfl⟩|⟨g,cap,cur,rfl,_,_,h1,h2,_⟩⟩:=h
  ·exact⟨_,_,rfl,aqH _,by omega⟩
  ·exact⟨_,_,rfl,h1,by unfold maxLen at h2;omega⟩
 obtain⟨a,cap,rfl,h1,h2⟩:=hs
 exact⟨a,cap,rfl,(own_lies h).1,(own_lies h).2,h1,h2⟩
theorem own_rin {w:World} {base:Nat} {r:Rc} {sa da:Option Addr} {sc dc:Nat} (hs:C.SOwn w base (.slice sa r.spans.length sc) r.spans) (hd:w.ownsRow base 5 1 (.slice da r.data.length dc) r.data.length (r.data.map (Value.int .u8))) (hb:r.data.length<= 140737488355328):RIn w r sa da r.spans.length r.data.length sc dc:=by
 have hl:r.spans.length<= 9223372036854775807:=by
  obtain⟨_,⟨_,h0⟩|⟨_,cap,cur,hv,_,_,h1,h2,_⟩⟩:=hs
  ·omega
  ·unfold maxLen at h2;omega
 refine⟨rfl,rfl,hb,hs.ls hl,(own_lies hd).1,λe=>?_⟩
 subst e
 obtain⟨_,⟨h,h0⟩|⟨g,cap,cur,h,_⟩⟩:=hd
 ·simp only[Value.slice.injEq] at h;exact⟨h.2.1,h.2.2⟩
 ·cases h
theorem append_at {P:Program} (w:World) {ops:Array Oper} {rest:List Oper} {o:Oper} {a:Act} {Q:Exit-> Act-> World-> Prop} (hgd:o.guard=none) (s x:Operand) (t:TypeId)
 (ho:o.op=.call {callee:=.builtin .append,args:=#[s,x],argTypes:=#[t,t]})
 (base:Nat) (e:TypeId) (i:TypeInfo) (z:Value) (bytes:Nat) (ht:P.underlying t=some (.slice e)) (hi:P.info? e=some i) (hz:i.zero=some z)
 (hsize:i.size=1) (hby:i.bytes=bytes) (hzs:z.cells.size=1)
 (v:Value) (n:Nat) (xs:List Value) (hs:a.eval s=v) (hown:w.ownsRow base e 1 v n xs)
 (k:IntKind) (ao:Option Addr) (m c:Nat) (zs:List Int) (hx:a.eval x=.slice ao m c) (hnil:ao=none-> m=0/\ c=0) (hl:zs.length=m) (hz':Lies k w ao zs)
 (h63:n+m<= maxLen) (hbytes:(n+m)*bytes<= 140737488355328) (hbase:base<= w.heap.size)
 (h:∀v' w',w'.ownsRow base e 1 v' (n+m) (xs++zs.map (Value.int k))-> w.grownBy w' v.ownBlock-> (∀j,v'.ownBlock=some j-> v.ownBlock=some j∨w.heap.size<= j)-> wpList P ops Q rest (a.put o.dst v') w'):wpList P ops Q (o::rest) a w:=by
 cases ao with
 |none=>
  obtain⟨rfl,rfl⟩:=hnil rfl
  obtain rfl:zs=[]:=List.eq_nil_of_length_eq_zero hl
  refine wpList_append_own_none hgd s x t ho base e i 1 ht hi v n xs hs hown hx ?_
  exact h v w (by simpa using hown) (World.grownBy.refl _ _) (λj hj=>.inl hj)
 |some ad=>
  refine wpList_append_own_at w hgd s x t ho base e i z 1 bytes ht hi hz hsize hby hzs (by decide) v n xs hs hown ad m c (zs.map (Value.int k)) hx (by simpa using hl) ?_ (by intro u hu;simp at hu;obtain⟨y,_,rfl⟩:=hu;rfl) h63 hbytes hbase (λv' w' h1 h2 _ h4=>h v' w' h1 h2 (λj hj=>?_))
  ·intro j u hj
   have hjl:j < zs.length:=by
    rcases Nat.lt_or_ge j zs.length with q|q
    ·exact q
    ·rw[List.getElem?_eq_none (by simpa using q)] at hj;cases hj
   rcases hz' with rfl|⟨b,off,hb,hc⟩
   ·simp at hjl
   ·simp only[aqG] at hb
    subst hb
    rw[List.getElem?_map,List.getElem?_eq_getElem hjl] at hj
    simp only[Option.map_some,aqG] at hj
    rw[show (⟨b,off,none⟩:Addr).add j=⟨b,off+j,none⟩ from by unfold Addr.add;split<;>simp_all,hc j hjl,←hj]
    simp[List.getD_eq_getElem?_getD,List.getElem?_eq_getElem hjl]
  ·rcases h4 with h4|h4
   ·left;rw[←h4];exact hj
   ·right;rw[h4] at hj;simp at hj;omega
structure Grew (w w':World) (v v':Value):Prop where
 grown:w.grownBy w' v.ownBlock
 stays:∀j,v'.ownBlock=some j-> v.ownBlock=some j∨w.heap.size<= j
structure RAt (w:World) (lo hi b:Nat) (r:Rc) (sa da:Option Addr) (sc dc:Nat):Prop where
 spn:C.SOwn w lo (.slice sa r.spans.length sc) r.spans
 dat:w.ownsRow lo 5 1 (.slice da r.data.length dc) r.data.length (r.data.map (Value.int .u8))
 ne:∀j,(Value.slice sa r.spans.length sc).ownBlock=some j-> (Value.slice da r.data.length dc).ownBlock≠some j
 shi:∀k,(Value.slice sa r.spans.length sc).ownBlock=some k-> k < hi
 dhi:∀k,(Value.slice da r.data.length dc).ownBlock=some k-> k < hi
 box:w.heap[b]?=some (rcO r (.slice sa r.spans.length sc) (.slice da r.data.length dc))
theorem own_lower {w:World} {base base' size n:Nat} {e:TypeId} {v:Value} {xs:List Value} (h:w.ownsRow base e size v n xs) (hb:base'<= base):w.ownsRow base' e size v n xs:=by
 obtain⟨hl,h|⟨g,cap,cur,rfl,hb',r⟩⟩:=h
 ·exact⟨hl,.inl h⟩
 ·exact⟨hl,.inr ⟨g,cap,cur,rfl,Nat.le_trans hb hb',r⟩⟩
def twoO (r s:Ro) (i:Nat):Ro:=if i=0 then r else s
def twoF (vl:Value) (cs:List Value) (r s:Ro) (p:Nat):Rwo:=
 if p=0 then ⟨35,1,.slice none 0 0,0,[]⟩ else if p=1 then ⟨79,1,.slice none 0 0,0,[]⟩ else if p=2 then ⟨81,11,vl,2,cs⟩ else if p=3 then dRow r.dv r.r.data else if p=4 then sRow r.sv r.r.spans else if p=5 then dRow s.dv s.r.data else sRow s.sv s.r.spans
abbrev o0:Ro:=⟨rz0,none,none,0,0⟩
def oAt (os:List Ro) (i:Nat):Ro:=os.getD i o0
def rlC (os:List Ro):List Value:=os.flatMap λo=>(rcC o.r o.sv o.dv).toList
def rlF (v:Value) (os:List Ro) (p:Nat):Rwo:=
 if p=0 then ⟨35,1,.slice none 0 0,0,[]⟩ else if p=1 then ⟨79,1,.slice none 0 0,0,[]⟩ else if p=2 then ⟨81,11,v,os.length,rlC os⟩
 else if (p - 3) % 2=0 then dRow (oAt os ((p - 3) / 2)).dv (oAt os ((p - 3) / 2)).r.data else sRow (oAt os ((p - 3) / 2)).sv (oAt os ((p - 3) / 2)).r.spans
theorem rlF_2 (v:Value) (os:List Ro):rlF v os 2=⟨81,11,v,os.length,rlC os⟩:=rfl
theorem rlF_d (v:Value) (os:List Ro) (i:Nat):rlF v os (3+2*i)=dRow (oAt os i).dv (oAt os i).r.data:=by
 unfold rlF
 rw[if_neg (by omega),if_neg (by omega),if_neg (by omega),if_pos (by omega),show (3+2*i - 3) / 2=i by omega]
theorem rlF_s (v:Value) (os:List Ro) (i:Nat):rlF v os (4+2*i)=sRow (oAt os i).sv (oAt os i).r.spans:=by
 unfold rlF
 rw[if_neg (by omega),if_neg (by omega),if_neg (by omega),if_neg (by omega),show (4+2*i - 3) / 2=i by omega]
theorem oAt_old {os:List Ro} {i:Nat} (o:Ro) (h:i < os.length):oAt (os++[o]) i=oAt os i:=by
 unfold oAt
 rw[List.getD_eq_getElem?_getD,List.getD_eq_getElem?_getD,List.getElem?_append_left h]
theorem oAt_new (os:List Ro) (o:Ro):oAt (os++[o]) os.length=o:=by
 unfold oAt
 rw[List.getD_eq_getElem?_getD,List.getElem?_append_right (aqH _),Nat.sub_self]
 rfl
theorem rlF_old {v v':Value} {os:List Ro} (o:Ro) {p:Nat} (h:p < 3+2*os.length) (h2:p≠2):rlF v' (os++[o]) p=rlF v os p:=by
 by_cases h3:p < 3
 ·have:p=0∨p=1:=by omega
  rcases this with rfl|rfl<;>rfl
 ·have e0:¬p=0:=by omega
  have e1:¬p=1:=by omega
  simp only[rlF,if_neg e0,if_neg e1,if_neg h2,oAt_old o (show (p - 3) / 2 < os.length by omega)]
theorem rlC_push (os:List Ro) (o:Ro):rlC (os++[o])=rlC os++(rcC o.r o.sv o.dv).toList:=by
 unfold rlC
 simp
structure Rl (w:World) (lo:Nat) (v:Value) (os:List Ro):Prop where
 fam:Fam (λ_=>True) 0 w lo (3+2*os.length) (rlF v os)
 sml:∀i,i < os.length-> (oAt os i).r.data.length<= 65536/\ (oAt os i).r.spans.length<= 500
theorem Rl.start (w:World) (lo:Nat):Rl w lo (.slice none 0 0) []:=by
 refine⟨⟨λp hp=>?_,λp q k hp hq h1 h2=>?_,λp k hp hk=>.inl trivial⟩,λi hi=>by simp at hi⟩
 ·have:p=0∨p=1∨p=2:=by simp at hp;omega
  rcases this with rfl|rfl|rfl<;>exact World.ownsRow_nil _ _ _ _
 ·have:p=0∨p=1∨p=2:=by simp at hp;omega
  rcases this with rfl|rfl|rfl<;>cases h1
theorem Rl.keep {w w':World} {lo:Nat} {v:Value} {os:List Ro} (h:Rl w lo v os) (hb:Below w.heap.size w w'):Rl w' lo v os:=⟨h.fam.keep hb,h.sml⟩
theorem Rl.lt {w:World} {lo:Nat} {v:Value} {os:List Ro} (h:Rl w lo v os) {p k:Nat} (hp:p < 3+2*os.length) (hk:(rlF v os p).v.ownBlock=some k):lo<= k/\ k < w.heap.size:=(h.fam.own p hp).lt k hk
theorem Rl.row {w:World} {lo:Nat} {v:Value} {os:List Ro} (h:Rl w lo v os):w.ownsRow lo 81 11 v os.length (rlC os):=h.fam.own 2 (by omega)
theorem Rl.push {w w1 w2:World} {lo:Nat} {v v':Value} {os:List Ro} (h:Rl w lo v os) (hlo:lo<= w.heap.size) (hb:Below w.heap.size w w1) (o:Ro)
 (hs:C.SOwn w1 w.heap.size o.sv o.r.spans) (hd:w1.ownsRow w.heap.size 5 1 o.dv o.r.data.length (o.r.data.map (Value.int .u8))) (hne:∀j,o.sv.ownBlock=some j-> o.dv.ownBlock≠some j)
 (hsm:o.r.data.length<= 65536/\ o.r.spans.length<= 500)
 (hg:w1.grownBy w2 v.ownBlock) (hr:w2.ownsRow lo 81 11 v' (os.length+1) (rlC os++(rcC o.r o.sv o.dv).toList)) (hf:∀j,v'.ownBlock=some j-> v.ownBlock=some j∨w1.heap.size<= j):Rl w2 lo v' (os++[o]):=by
 have hvlt:∀k,v.ownBlock=some k-> k < w.heap.size:=λk hk=>(h.lt (p:=2) (by omega) hk).2
 have hs2:C.SOwn w2 w.heap.size o.sv o.r.spans:=own_keep6 hs hg (λk hk e=>by have:=hvlt k e;have:=(World.ownsRow.lt hs k hk).1;omega)
 have hd2:w2.ownsRow w.heap.size 5 1 o.dv o.r.data.length (o.r.data.map (Value.int .u8)):=own_keep6 hd hg (λk hk e=>by have:=hvlt k e;have:=(hd.lt k hk).1;omega)
 have hz:=hb.size
 have hpl:∀p k,p < 3+2*(os++[o]).length-> (rlF v' (os++[o]) p).v.ownBlock=some k-> (p=2/\ v'.ownBlock=some k)∨(p≠2/\ p < 3+2*os.length/\ (rlF v os p).v.ownBlock=some k/\ k < w.heap.size)∨(p=3+2*os.length/\ o.dv.ownBlock=some k/\ w.heap.size<= k/\ k < w1.heap.size)∨(p=4+2*os.length/\ o.sv.ownBlock=some k/\ w.heap.size<= k/\ k < w1.heap.size):=by
  intro p k hp hk
  simp only[List.length_append,List.length_cons,List.length_nil] at hp
  by_cases e2:p=2
  ·subst e2;exact .inl ⟨rfl,hk⟩
  ·by_cases e:p < 3+2*os.length
   ·rw[rlF_old o e e2 (v:=v)] at hk
    exact .inr (.inl ⟨e2,e,hk,(h.lt e hk).2⟩)
   ·by_cases e3:p=3+2*os.length
    ·subst e3
     rw[rlF_d,oAt_new] at hk
     exact .inr (.inr (.inl ⟨rfl,hk,hd.lt k hk⟩))
    ·obtain rfl:p=4+2*os.length:=by omega
     rw[rlF_s,oAt_new] at hk
     exact .inr (.inr (.inr ⟨rfl,hk,World.ownsRow.lt hs k hk⟩))
 refine⟨⟨λp hp=>?_,λp q k hp hq h1 h2=>?_,λp k hp hk=>.inl trivial⟩,λi hi=>?_⟩
 ·simp only[List.length_append,List.length_cons,List.length_nil] at hp
  by_cases e2:p=2
  ·subst e2
   rw[rlF_2,rlC_push]
   simpa using hr
  ·by_cases e:p < 3+2*os.length
   ·rw[rlF_old o e e2 (v:=v)]
    exact own_keep6 (own_below6 (h.fam.own p e) hb) hg (λk hk e3=>e2 (h.fam.sep p 2 k e (by omega) hk e3))
   ·by_cases e3:p=3+2*os.length
    ·subst e3
     rw[rlF_d,oAt_new]
     exact own_lower hd2 hlo
    ·obtain rfl:p=4+2*os.length:=by omega
     rw[rlF_s,oAt_new]
     exact own_lower hs2 hlo
 ·rcases hpl p k hp h1 with ⟨rfl,a⟩|⟨a2,a1,a,a3⟩|⟨rfl,a,a1,a2⟩|⟨rfl,a,a1,a2⟩<;>rcases hpl q k hq h2 with ⟨rfl,b⟩|⟨b2,b1,b,b3⟩|⟨rfl,b,b1,b2⟩|⟨rfl,b,b1,b2⟩
  ·rfl
  ·rcases hf k a with c|c
   ·exact absurd (h.fam.sep 2 q k (by omega) b1 c b).symm b2
   ·omega
  ·rcases hf k a with c|c
   ·have:=hvlt k c;omega
   ·omega
  ·rcases hf k a with c|c
   ·have:=hvlt k c;omega
   ·omega
  ·rcases hf k b with c|c
   ·exact absurd (h.fam.sep p 2 k a1 (by omega) a c) a2
   ·omega
  ·exact h.fam.sep p q k a1 b1 a b
  ·omega
  ·omega
  ·rcases hf k b with c|c
   ·have:=hvlt k c;omega
   ·omega
  ·omega
  ·rfl
  ·exact absurd a (hne k b)
  ·rcases hf k b with c|c
   ·have:=hvlt k c;omega
   ·omega
  ·omega
  ·exact absurd b (hne k a)
  ·rfl
 ·simp only[List.length_append,List.length_cons,List.length_nil] at hi
  by_cases e:i < os.length
  ·rw[oAt_old o e];exact h.sml i e
  ·obtain rfl:i=os.length:=by omega
   rw[oAt_new];exact hsm
theorem oAt_get {os:List Ro} {i:Nat} (h:i < os.length):oAt os i=os[i]:=by
 unfold oAt
 rw[List.getD_eq_getElem?_getD,List.getElem?_eq_getElem h];rfl
theorem rlC_at:∀{os:List Ro} {i:Nat},i < os.length-> ∀j u,(rcC (oAt os i).r (oAt os i).sv (oAt os i).dv)[j]?=some u-> (rlC os)[i*11+j]?=some u
 |[],i,hi,j,u,hj=>by simp at hi
 |o::os,0,hi,j,u,hj=>by
  have hj2:j < 11:=(Array.getElem?_eq_some_iff.mp hj).1
  unfold rlC
  rw[List.flatMap_cons,List.getElem?_append_left (by simp;omega)]
  simpa[oAt] using hj
 |o::os,i+1,hi,j,u,hj=>by
  have ih:=rlC_at (os:=os) (i:=i) (by simpa using hi) j u (by simpa[oAt] using hj)
  unfold rlC at ih ⊢
  rw[List.flatMap_cons,List.getElem?_append_right (by simp;omega),←ih]
  congr 1
  simp
  omega
theorem Rl.rlin {w:World} {lo:Nat} {v:Value} {os:List Ro} (h:Rl w lo v os):∃a c,v=.slice a os.length c/\ RLin w a (os.map Ro.r):=by
 obtain⟨a,c,rfl⟩:=own_sl h.row
 refine⟨a,c,rfl,?_⟩
 by_cases h0:os=[]
 ·subst h0;exact .inl rfl
 ·have hl:0 < os.length:=List.length_pos_iff.mpr h0
  obtain⟨g,cap,hv⟩:=C.own_some h.row hl
  simp only[Value.slice.injEq] at hv
  obtain⟨rfl,_,rfl⟩:=hv
  refine .inr ⟨g,0,rfl,λi r hr=>?_⟩
  have hi:i < os.length:=by
   rcases Nat.lt_or_ge i os.length with q|q
   ·exact q
   ·rw[List.getElem?_eq_none (by simpa using q)] at hr;cases hr
  have hrr:r=(oAt os i).r:=by
   rw[List.getElem?_map,List.getElem?_eq_getElem hi] at hr
   simp at hr
   rw[oAt_get hi,hr]
  subst hrr
  have hd:=h.fam.own (3+2*i) (by omega)
  have hs:=h.fam.own (4+2*i) (by omega)
  rw[rlF_d] at hd
  rw[rlF_s] at hs
  have hsm:=h.sml i hi
  refine⟨(oAt os i).sa,(oAt os i).da,(oAt os i).sc,(oAt os i).dc,λj u hj=>?_,own_rin hs hd (by omega)⟩
  have hj2:j < 11:=(Array.getElem?_eq_some_iff.mp hj).1
  rw[Nat.zero_add,h.row.cellAt _ (by omega)]
  exact rlC_at hi j u hj
end Go.Proofs.YtllhbhogfffedaaGreatDoor
