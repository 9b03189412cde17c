import Derived.Test.YtllhbhogfffedaaGreatDoorJpOw
import Derived.Test.YtllhbhogfffedaaGreatDoorRcFst
import Derived.Test.YtllhbhogfffedaaGreatDoorJnAwk
import Derived.Test.YtllhbhogfffedaaGreatDoorRcFm2
set_option maxHeartbeats 8000000
set_option maxRecDepth 100000
namespace Go.Proofs.YtllhbhogfffedaaGreatDoor.K
open Go.RowKit
set_option linter.unusedVariables false
set_option linter.unusedSimpArgs false
section
variable {lo bx n ga m:Nat} {w w':World} {vd vs:Value} {dl sl cs:List Value} {ps:List Le7}
theorem Lz.rlin (h:Lz lo w bx n ga vd vs dl sl cs ps m) (hm:ps.length=m) (hn:m<= n) (hb:∀o∈ps,o.r.data.length<= 140737488351232/\ o.r.spans.length*16<= 140737488351232):RLin w (some ⟨ga,0,none⟩) (ps.map Le7.r):=by
 refine .inr ⟨ga,0,rfl,λi r hr=>?_⟩
 rw[List.getElem?_map] at hr
 cases ho:ps[i]? with
 |none=>rw[ho] at hr;cases hr
 |some o=>
  rw[ho] at hr
  simp at hr
  subst hr
  have hi:i < m:=by have:=(List.getElem?_eq_some_iff.mp ho).1;omega
  obtain⟨b1,b2⟩:=hb o (List.mem_of_getElem? ho)
  refine⟨some ⟨o.gs,0,none⟩,some ⟨o.gd,0,none⟩,o.r.spans.length+2,o.r.data.length+3,λj u hj=>?_,⟨rfl,rfl,by omega,⟨⟨some ⟨o.gs,0,none⟩,o.r.spans.length+2,rfl,.inr ⟨o.gs,0,rfl,λk p hp=>?_⟩,by omega,by omega⟩,by omega⟩,.inr ⟨o.gd,0,rfl,λk hk=>?_⟩,λh=>by cases h⟩⟩
  ·have hj2:j < 11:=(Array.getElem?_eq_some_iff.mp hj).1
   rw[Nat.zero_add,h.all.cellAt _ (by omega)]
   exact h.rcd i o hi ho j u hj
  ·have hk:k < o.r.spans.length:=(List.getElem?_eq_some_iff.mp hp).1
   have hso:C.SOwn w lo o.sq (s7 o.r.spans):=by unfold C.SOwn;rw[show (s7 o.r.spans).length=o.r.spans.length+2 by simp];exact h.spn i o ho
   have q:=hso.cells (k:=k) (p:=p) (by rw[List.getElem?_append_left hk];exact hp)
   rw[Nat.zero_add]
   exact⟨q.1,q.2.1⟩
  ·have hdo:=h.dat i o ho
   rw[Nat.zero_add,World.ownsRow.cellAt hdo k (by omega),List.getElem?_map,List.getElem?_append_left hk,List.getD_eq_getElem?_getD,List.getElem?_eq_getElem hk]
   rfl
theorem Lz.rebox {b':Nat} (h:Lz lo w bx n ga vd vs dl sl cs ps m) (hb:Below w.heap.size w w') (hx:w'.heap[b']?=some (.cells #[.slice (some ⟨ga,0,none⟩) (n+2) (n+2),vd,vs] 133 (0,0))):Lz lo w' b' n ga vd vs dl sl cs ps m:=by
 have k:=h.keep hb
 exact⟨hx,k.all,k.dr,k.sr,k.dat,k.spn,k.dd,k.ss,k.rcd⟩
end
def BkS (ga:Nat) (ps:List Le7) (k:Nat):Prop:=k=ga∨∃o∈ps,k=o.gd∨k=o.gs
structure Bz (lo:Nat) (w1 w:World) (bx n ga:Nat) (vd vs:Value) (ps:List Le7) (i:Nat):Prop where
 box:w.heap[bx]?=some (.cells #[.slice (some ⟨ga,0,none⟩) (n+2) (n+2),vd,vs] 133 (0,0))
 all:∃cs,w.ownsRow lo 81 11 (.slice (some ⟨ga,0,none⟩) (n+2) (n+2)) (n+2) cs
 dr:w.ownsRow lo 35 1 vd ps.length (ps.map Le7.dq)
 sr:w.ownsRow lo 79 1 vs ps.length (ps.map Le7.sq)
 dat:∀(j:Nat) o,i<= j-> ps[j]?=some o-> DO7 w lo o (d7 o.r.data)
 spn:∀(j:Nat) o,i<= j-> ps[j]?=some o-> SO7 w lo o (s7 o.r.spans)
 kd:Kd (BkS ga ps) w1 w
theorem Lz.bz {lo bx n ga m:Nat} {w:World} {vd vs:Value} {cs:List Value} {ps:List Le7} (h:Lz lo w bx n ga vd vs (ps.map Le7.dq) (ps.map Le7.sq) cs ps m):Bz lo w w bx n ga vd vs ps 0:=
 ⟨h.box,⟨cs,h.all⟩,by have:=h.dr;rw[List.length_map] at this;exact this,by have:=h.sr;rw[List.length_map] at this;exact this,λj o _ ho=>h.dat j o ho,λj o _ ho=>h.spn j o ho,Kd.refl _ _⟩
theorem Bz.two {lo bx n ga i:Nat} {w1 w w2 w3:World} {vd vs:Value} {ps:List Le7} {o:Le7} (h:Bz lo w1 w bx n ga vd vs ps i) (ho:ps[i]?=some o) (hdd:∀(j k:Nat) o q,ps[j]?=some o-> ps[k]?=some q-> o.gd=q.gd-> j=k) (hss:∀(j k:Nat) o q,ps[j]?=some o-> ps[k]?=some q-> o.gs=q.gs-> j=k)
 (g2:w.grownBy w2 (some o.gd)) (g3:w2.grownBy w3 (some o.gs)):Bz lo w1 w3 bx n ga vd vs ps (i+1):=by
 have hmem:=List.mem_of_getElem? ho
 have hd:=h.dat i o (aqH _) ho
 have hs:=h.spn i o (aqH _) ho
 have hk:∀k,k < w.heap.size-> k≠o.gd-> k≠o.gs-> w3.heap[k]?=w.heap[k]?:=λk hk h1 h2=>(g3.block k (by have:=g2.size;omega) (by simp;omega)).trans (g2.block k hk (by simp;omega))
 have other:∀{e:TypeId} {sz k:Nat} {u:Value} {xs:List Value},w.ownsRow lo e sz u k xs-> e≠5-> e≠128-> w3.ownsRow lo e sz u k xs:=λhu h1 h2=>d_blk hu (λg hgg=>hk g (d_lt hu g hgg).2 (λe=>d_apart hu hd h1 hgg (by rw[e];rfl)) (λe=>d_apart hu hs h2 hgg (by rw[e];rfl)))
 obtain⟨cs,hall⟩:=h.all
 refine⟨(hk bx (Array.getElem?_eq_some_iff.1 h.box).1 (λe=>d_box hd h.box (by decide) (by rw[e];rfl)) (λe=>d_box hs h.box (by decide) (by rw[e];rfl))).trans h.box,⟨cs,other hall (by decide) (by decide)⟩,other h.dr (by decide) (by decide),other h.sr (by decide) (by decide),λj q hj hq=>?_,λj q hj hq=>?_,?_⟩
 ·have hq0:=h.dat j q (by omega) hq
  exact hq0.blk (hk q.gd (d_lt hq0 q.gd rfl).2 (λe=>by have:=hdd j i q o hq ho e;omega) (λe=>d_apart hq0 hs (by decide) (g:=q.gd) rfl (by rw[e];rfl)))
 ·have hq0:=h.spn j q (by omega) hq
  exact hq0.blk (hk q.gs (d_lt hq0 q.gs rfl).2 (λe=>d_apart hq0 hd (by decide) (g:=q.gs) rfl (by rw[e];rfl)) (λe=>by have:=hss j i q o hq ho e;omega))
 ·refine(h.kd.trans (Kd.grown g2 (λg hg=>?_))).trans (Kd.grown g3 (λg hg=>?_))
  ·cases hg;exact .inr ⟨o,hmem,.inl rfl⟩
  ·cases hg;exact .inr ⟨o,hmem,.inr rfl⟩
theorem Bz.put11 {lo bx n ga i:Nat} {w1 w:World} {vd vs:Value} {ps:List Le7} (h:Bz lo w1 w bx n ga vd vs ps i) (k:Nat) (r:Rc) (sv dv:Value):Bz lo w1 (K.put11 w ga k r sv dv) bx n ga vd vs ps i:=by
 obtain⟨cs,hall⟩:=h.all
 have hg:=put11_grown w ga k r sv dv
 have hk:∀g,g < w.heap.size-> g≠ga-> (K.put11 w ga k r sv dv).heap[g]?=w.heap[g]?:=λg hgl hne=>hg.block g hgl (by simp;omega)
 have other:∀{e:TypeId} {sz k':Nat} {u:Value} {xs:List Value},w.ownsRow lo e sz u k' xs-> e≠81-> (K.put11 w ga k r sv dv).ownsRow lo e sz u k' xs:=λhu h1=>d_blk hu (λg hgg=>hk g (d_lt hu g hgg).2 (λe=>d_apart hu hall h1 hgg (by rw[e];rfl)))
 refine⟨(hk bx (Array.getElem?_eq_some_iff.1 h.box).1 (λe=>d_box hall h.box (by decide) (by rw[e];rfl))).trans h.box,?_,other h.dr (by decide),other h.sr (by decide),λj o hj ho=>other (h.dat j o hj ho) (by decide),λj o hj ho=>other (h.spn j o hj ho) (by decide),h.kd.trans (Kd.grown hg (λg hg=>by cases hg;exact .inl rfl))⟩
 unfold K.put11
 exact⟨_,(((((((((((hall.stored _ _).1.stored _ _).1.stored _ _).1.stored _ _).1.stored _ _).1.stored _ _).1.stored _ _).1.stored _ _).1.stored _ _).1.stored _ _).1.stored _ _).1⟩
theorem d7_at {zs:List Int} {n k:Nat} (hl:zs.length=n) (hk:n<= k) (hk2:k < n+3):(d7 zs)[k]?=some 201:=by
 subst hl
 rw[List.getElem?_append_right hk]
 have:k - zs.length=0∨k - zs.length=1∨k - zs.length=2:=by omega
 rcases this with e|e|e<;>rw[e]<;>rfl
theorem s7_at {zs:List (Int×Int)} {n k:Nat} (hl:zs.length=n) (hk:n<= k) (hk2:k < n+2):(s7 zs)[k]?=some (-201,0):=by
 subst hl
 rw[List.getElem?_append_right hk]
 have:k - zs.length=0∨k - zs.length=1:=by omega
 rcases this with e|e<;>rw[e]<;>rfl
def BdJ (Z:World) (lo gd N:Nat) (zs:List Int) (ok v:Value) (wr:World):Prop:=ok=.bool true/\ ∃k:Nat,v=.int .i64 k/\ k<= N/\ DOwn wr lo (.slice (some ⟨gd,0,none⟩) N N) (List.replicate k 77++zs.drop k)/\ Z.grownBy wr (some gd)
def BsJ (Z:World) (lo gs N:Nat) (zs:List (Int×Int)) (ok v:Value) (wr:World):Prop:=ok=.bool true/\ ∃k:Nat,v=.int .i64 k/\ k<= N/\ C.SOwn wr lo (.slice (some ⟨gs,0,none⟩) N N) (List.replicate k (-77,0)++zs.drop k)/\ Z.grownBy wr (some gs)
def BkJ (lo:Nat) (w1:World) (bx n ga:Nat) (vd vs:Value) (ps:List Le7) (ok v:Value) (wr:World):Prop:=ok=.bool true/\ ∃i:Nat,v=.int .i64 i/\ i<= n/\ Bz lo w1 wr bx n ga vd vs ps i
theorem back7_any (l:List Rc) (a:Option Addr) (n c lo bx ga:Nat) (vd vs:Value) (cs:List Value) (ps:List Le7) (W0 w:World) (hl:l.length=n) (hn:n<= 1048576) (h:Lz lo w bx n ga vd vs (ps.map Le7.dq) (ps.map Le7.sq) cs ps n) (hps:ps.map Le7.r=l) (hm1:cs[n*11]?=some (.int .i64 (-201))) (hm2:cs[(n+1)*11]?=some (.int .i64 (-202)))
 (ha:RLin W0 a l) (hbl:Below W0.heap.size W0 w) (hlo:W0.heap.size<= lo) (hb:∀r∈l,r.data.length<= 140737488351232/\ r.spans.length*16<= 140737488351232):
 Calls Tryz.prog 71 #[.agg #[.slice (some ⟨ga,0,none⟩) (n+2) (n+2),vd,vs],.slice a n c] w λe w'=>e=.returned (.bool true)/\ Kd (BkS ga ps) w w':=by
 have hpl:ps.length=n:=by rw[←hl,←hps,List.length_map]
 have hbp:∀o∈ps,o.r.data.length<= 140737488351232/\ o.r.spans.length*16<= 140737488351232:=λo ho=>hb o.r (by rw[←hps];exact List.mem_map_of_mem ho)
 obtain⟨av,cv,hvd⟩:=d_shape h.dr
 obtain⟨aS,cvs,hvs⟩:=d_shape h.sr
 rw[List.length_map,hpl] at hvd hvs
 subst hvd hvs
 obtain⟨w0,hw0⟩:∃V,w.alloc (.cells #[.slice (some ⟨ga,0,none⟩) (n+2) (n+2),.slice av n cv,.slice aS n cvs] 133)=V:=⟨_,rfl⟩
 have hb0:Below w.heap.size w w0:=by rw[←hw0];exact(Below.refl _ _).alloc (aqH _) _
 have hx0:w0.heap[w.heap.size]?=some (.cells #[.slice (some ⟨ga,0,none⟩) (n+2) (n+2),.slice av n cv,.slice aS n cvs] 133 (0,0)):=by rw[←hw0];exact heap_new6 w _
 have h0:=h.rebox hb0 hx0
 have HSM:=same7_eq l (some ⟨ga,0,none⟩) a n (n+2) c w0 hl (by omega) (by rw[←hps];exact h0.rlin hpl (aqH _) hbp) (ha.below (hbl.trans (hb0.mono hbl.size))) (λr hr=>by have:=(hb r hr).2;omega)
 have H0:Hid (Lz lo w0 w.heap.size n ga (.slice av n cv) (.slice aS n cvs) (ps.map Le7.dq) (ps.map Le7.sq) cs ps n/\ Below w.heap.size w w0/\ cs[n*11]?=some (.int .i64 (-201))/\ cs[(n+1)*11]?=some (.int .i64 (-202))/\ ps.length=n/\ ps.map Le7.r=l):=⟨h0,hb0,hm1,hm2,hpl,hps⟩
 have HA:Hid (RLin W0 a l/\ Below W0.heap.size W0 w/\ W0.heap.size<= lo/\ ∀r∈l,r.data.length<= 140737488351232/\ r.spans.length*16<= 140737488351232):=⟨ha,hbl,hlo,hb⟩
 have b0:w0.cell? ⟨w.heap.size,0,none⟩=some (.slice (some ⟨ga,0,none⟩) (n+2) (n+2)):=cell_of_row _ _ 0 _ _ _ hx0
 have hn2:(n:Int)<= (n:Int)+2:=by omega
 have hn0:(0:Int)<= (n:Int):=by omega
 clear h h0 hps hm1 hm2 ha hbl hlo hb hl hb0 hx0 hpl hbp
 go_enter Tryz.func71,Tryz.ntmps71
 go_upto_region 3 with (go_at_call 24;refine HSM.mono ?_;rintro e w1 ⟨rfl,hb1⟩)
 have h1:=H0.out.1.keep hb1
 have hcl:=h1.all.1
 have b0':w1.cell? ⟨w.heap.size,0,none⟩=some (.slice (some ⟨ga,0,none⟩) (n+2) (n+2)):=cell_of_row _ _ 0 _ _ _ h1.box
 have k1:w1.cell? ⟨ga,n*11,none⟩=some (.int .i64 (-201)):=(h1.all.cellAt _ (by omega)).trans H0.out.2.2.1
 have k2:w1.cell? ⟨ga,(n+1)*11,none⟩=some (.int .i64 (-202)):=(h1.all.cellAt _ (by omega)).trans H0.out.2.2.2.1
 have hw1:IntKind.i64.wrap ((n:Int)+1)=(n:Int)+1:=by rw[IntKind.wrap_i64];omega
 have hi1:(n:Int) < (n:Int)+2:=by omega
 have hi2:(n:Int)+1 < (n:Int)+2:=by omega
 have hi3:(0:Int)<= (n:Int)+1:=by omega
 have hbw1:Below w.heap.size w w1:=H0.out.2.1.trans (hb1.mono H0.out.2.1.size)
 have H1:Hid (Bz lo w1 w1 w.heap.size n ga (.slice av n cv) (.slice aS n cvs) ps 0/\ Below w.heap.size w w1/\ (∀(i j:Nat) o q,ps[i]?=some o-> ps[j]?=some q-> o.gd=q.gd-> i=j)/\ (∀(i j:Nat) o q,ps[i]?=some o-> ps[j]?=some q-> o.gs=q.gs-> i=j)/\ (∀k,BkS ga ps k-> lo<= k)/\ Below W0.heap.size W0 w1):=by
  refine⟨h1.bz,hbw1,h1.dd,h1.ss,λk hk=>?_,HA.out.2.1.trans (hbw1.mono HA.out.2.1.size)⟩
  rcases hk with rfl|⟨o,ho,rfl|rfl⟩
  ·exact(d_lt h1.all _ rfl).1
  ·obtain⟨j,hj⟩:=List.mem_iff_getElem?.mp ho;exact(d_lt (h1.dat j o hj) _ rfl).1
  ·obtain⟨j,hj⟩:=List.mem_iff_getElem?.mp ho;exact(d_lt (h1.spn j o hj) _ rfl).1
 clear h1 hb1 hbw1 hw0 b0 HSM hcl
 go_upto_region 5 with fail
 go_wp2
 clear b0' k1 k2 hw1 hi1 hi2 hi3
 go_loopw [6,7] (λok v wr=>BkJ lo w1 w.heap.size n ga (.slice av n cv) (.slice aS n cvs) ps ok v wr) (λ_ v _=>n - (intOf v).toNat)
 case atStart=>exact⟨rfl,0,rfl,Nat.zero_le _,H1.out.1⟩
 case round=>
  obtain⟨rfl,i,rfl,hi,hbz⟩:=hrel
  have hiw:IntKind.i64.wrap ((i:Int)+1)=(i:Int)+1:=by rw[IntKind.wrap_i64];omega
  have HBZ:Hid (Bz lo w1 wr w.heap.size n ga (.slice av n cv) (.slice aS n cvs) ps i):=hbz
  by_cases hin:i < n
  ·have hin':(i:Int) < (n:Int):=by omega
   obtain⟨o,ho⟩:∃o,ps[i]?=some o:=⟨_,List.getElem?_eq_getElem (by have:=H0.out.2.2.2.2.1;omega)⟩
   have hr:l[i]?=some o.r:=by rw[←H0.out.2.2.2.2.2,List.getElem?_map,ho];rfl
   obtain⟨hnd,hns⟩:=HA.out.2.2.2 o.r (List.mem_of_getElem? hr)
   obtain⟨b,off,sa,da,sc,dc,rfl,hat⟩:=rlin_at HA.out.1 hr
   obtain⟨nd,hnd2⟩:∃k,o.r.data.length=k:=⟨_,rfl⟩
   obtain⟨ns,hns2⟩:∃k,o.r.spans.length=k:=⟨_,rfl⟩
   have HND:Hid (o.r.data.length=nd/\ o.r.spans.length=ns/\ ps[i]?=some o):=⟨hnd2,hns2,ho⟩
   have HAT:Hid (∀V:World,Kd (BkS ga ps) w1 V-> (∀j u,(rcC o.r (.slice sa ns sc) (.slice da nd dc))[j]?=some u-> V.cell? ⟨b,off+i*11+j,none⟩=some u)):=λV hV=>by
    have hb:Below W0.heap.size W0 V:=H1.out.2.2.2.2.2.trans (hV.bel H1.out.2.2.2.2.2.size (λk hk q=>by have:=H1.out.2.2.2.2.1 k q;have:=HA.out.2.2.1;omega))
    have:=(hat V hb).1
    rw[hnd2,hns2] at this
    exact this
   rw[hnd2] at hnd
   rw[hns2] at hns
   obtain⟨Z,hZ⟩:∃V,wr=V:=⟨_,rfl⟩
   rw[hZ] at HBZ hbz ⊢
   clear hZ
   obtain⟨gv,cv',hgv⟩:=d_some hbz.dr (by have:=H0.out.2.2.2.2.1;omega)
   obtain⟨gw,cw',hgw⟩:=d_some hbz.sr (by have:=H0.out.2.2.2.2.1;omega)
   obtain⟨rfl,-,rfl⟩:av=some ⟨gv,0,none⟩/\ n=ps.length/\ cv=cv':=by simpa using hgv
   obtain⟨rfl,-,rfl⟩:aS=some ⟨gw,0,none⟩/\ n=ps.length/\ cvs=cw':=by simpa using hgw
   have HV:Hid (∀V:World,(∀k,k≠o.gd-> k≠o.gs-> k < Z.heap.size-> V.heap[k]?=Z.heap[k]?)-> V.cell? ⟨w.heap.size,1,none⟩=some (.slice (some ⟨gv,0,none⟩) n cv)/\ V.cell? ⟨w.heap.size,2,none⟩=some (.slice (some ⟨gw,0,none⟩) n cvs)/\ V.cell? ⟨gv,i,none⟩=some (.slice (some ⟨o.gd,0,none⟩) (nd+3) (nd+3))/\ V.cell? ⟨gw,i,none⟩=some (.slice (some ⟨o.gs,0,none⟩) (ns+2) (ns+2))):=λV hV=>by
    have hd:=hbz.dat i o (aqH _) ho
    have hs:=hbz.spn i o (aqH _) ho
    have hx:=(hV w.heap.size (λe=>d_box hd hbz.box (by decide) (by rw[e];rfl)) (λe=>d_box hs hbz.box (by decide) (by rw[e];rfl)) (Array.getElem?_eq_some_iff.1 hbz.box).1).trans hbz.box
    have hdr:V.ownsRow lo 35 1 (.slice (some ⟨gv,0,none⟩) n cv) ps.length (ps.map Le7.dq):=d_blk hbz.dr (λg hg=>hV g (λe=>d_apart hbz.dr hd (by decide) hg (by rw[e];rfl)) (λe=>d_apart hbz.dr hs (by decide) hg (by rw[e];rfl)) (d_lt hbz.dr g hg).2)
    have hsr:V.ownsRow lo 79 1 (.slice (some ⟨gw,0,none⟩) n cvs) ps.length (ps.map Le7.sq):=d_blk hbz.sr (λg hg=>hV g (λe=>d_apart hbz.sr hd (by decide) hg (by rw[e];rfl)) (λe=>d_apart hbz.sr hs (by decide) hg (by rw[e];rfl)) (d_lt hbz.sr g hg).2)
    have hpl:=H0.out.2.2.2.2.1
    rw[hpl] at hdr hsr
    refine⟨cell_of_row _ _ 1 _ _ _ hx,cell_of_row _ _ 2 _ _ _ hx,(World.ownsRow.cellAt hdr i (by omega)).trans ?_,(World.ownsRow.cellAt hsr i (by omega)).trans ?_⟩
    ·rw[List.getElem?_map,ho];show some (Value.slice _ (o.r.data.length+3) (o.r.data.length+3))=_;rw[hnd2]
    ·rw[List.getElem?_map,ho];show some (Value.slice _ (o.r.spans.length+2) (o.r.spans.length+2))=_;rw[hns2]
   have HDO:Hid (DOwn Z lo (.slice (some ⟨o.gd,0,none⟩) (nd+3) (nd+3)) (d7 o.r.data)/\ C.SOwn Z lo (.slice (some ⟨o.gs,0,none⟩) (ns+2) (ns+2)) (s7 o.r.spans)):=by
    have hd:=hbz.dat i o (aqH _) ho
    have hs:=hbz.spn i o (aqH _) ho
    unfold DO7 at hd
    unfold SO7 at hs
    constructor
    ·unfold DOwn;rw[show (d7 o.r.data).length=nd+3 by simp[hnd2]]
     have:o.dq=.slice (some ⟨o.gd,0,none⟩) (nd+3) (nd+3):=by show Value.slice _ (o.r.data.length+3) (o.r.data.length+3)=_;rw[hnd2]
     rw[this,hnd2] at hd;exact hd
    ·unfold C.SOwn;rw[show (s7 o.r.spans).length=ns+2 by simp[hns2]]
     have:o.sq=.slice (some ⟨o.gs,0,none⟩) (ns+2) (ns+2):=by show Value.slice _ (o.r.spans.length+2) (o.r.spans.length+2)=_;rw[hns2]
     rw[this,hns2] at hs;exact hs
   have HNE:Hid (o.gd≠o.gs):=λe=>d_apart (hbz.dat i o (aqH _) ho) (hbz.spn i o (aqH _) ho) (by decide) (g:=o.gd) rfl (by rw[e];rfl)
   have hn1:ps.length=n:=H0.out.2.2.2.2.1
   have HKD:Hid (∀V:World,(∀k,k≠o.gd-> k≠o.gs-> k < Z.heap.size-> V.heap[k]?=Z.heap[k]?)-> Z.heap.size<= V.heap.size-> V.os=Z.os-> V.tape=Z.tape-> V.output=Z.output-> Kd (BkS ga ps) w1 V):=λV hV h1 h2 h3 h4=>hbz.kd.trans ⟨h2,h3,h4,h1,λk hk hn=>hV k (λe=>hn (.inr ⟨o,List.mem_of_getElem? ho,.inl e⟩)) (λe=>hn (.inr ⟨o,List.mem_of_getElem? ho,.inr e⟩)) hk⟩
   obtain⟨gd,hgd⟩:∃g,o.gd=g:=⟨_,rfl⟩
   obtain⟨gs,hgs⟩:∃g,o.gs=g:=⟨_,rfl⟩
   have HGD:Hid (o.gd=gd/\ o.gs=gs):=⟨hgd,hgs⟩
   rw[hgd,hgs] at HV HDO HNE HKD
   clear hbz hgv hgw hnd2 hns2 ho hr hat hn1 hgd hgs
   go_wp2
   go_loopw [6,8] (λok v wr=>BdJ Z lo gd (nd+3) (d7 o.r.data) ok v wr) (λ_ v _=>nd+3 - (intOf v).toNat)
   case atStart=>exact⟨rfl,0,rfl,Nat.zero_le _,by simpa using HDO.out.1,World.grownBy.refl _ _⟩
   case round=>
    obtain⟨rfl,k,rfl,hk,hdo,hgr⟩:=hrel
    have hkw:IntKind.i64.wrap ((k:Int)+1)=(k:Int)+1:=by rw[IntKind.wrap_i64];omega
    have HGr:Hid (Z.grownBy wr (some gd)):=hgr
    have hkeep:∀q,q≠gd-> q≠gs-> q < Z.heap.size-> wr.heap[q]?=Z.heap[q]?:=λq h1 _ h2=>hgr.block q h2 (by simp;omega)
    obtain⟨v1,v2,v3,v4⟩:=HV.out wr hkeep
    have c10:=HAT.out wr (HKD.out wr hkeep hgr.size hgr.os hgr.tape hgr.output) 10 (.slice da nd dc) rfl
    have hll:(d7 o.r.data).length=nd+3:=by simp[HND.out.1]
    by_cases hkn:k < nd+3
    ·have hkn':(k:Int) < (nd:Int)+3:=by omega
     have hk2:k < (d7 o.r.data).length:=by omega
     obtain⟨p,hp⟩:=C.get_some (d7 o.r.data) k hk2
     obtain⟨q1,q2⟩:=hdo.cells (k:=k) ((rep_at _ k 77).trans hp)
     have hst:=hdo.put k 77
     rw[rep_set _ k 77 hk2] at hst
     have HS2:Hid (BdJ Z lo gd (nd+3) (d7 o.r.data) (.bool true) (.int .i64 ((k:Int)+1)) (wr.setCell ⟨gd,k,none⟩ (.int .u8 77))):=⟨rfl,k+1,by simp,by omega,hst,C.grown_trans HGr.out (grown_set _ _ _ _)⟩
     by_cases hkd:k < nd
     ·have hkd':(k:Int) < (nd:Int):=by omega
      have hkd2:decide ((k:Int) < (nd:Int))=true:=by simp;omega
      clear hst hdo hgr hkeep v2 v4 hp hll hk2
      go_wp2
      exact⟨HS2.out,by simp[intOf];omega⟩
     ·have hkd':¬(k:Int) < (nd:Int):=by omega
      have hkd2:decide ((k:Int) < (nd:Int))=false:=by simp;omega
      rw[d7_at HND.out.1 (by omega) hkn] at hp
      cases hp
      clear hst hdo hgr hkeep v2 v4 hll hk2
      go_wp2
      exact⟨HS2.out,by simp[intOf];omega⟩
    ·obtain rfl:k=nd+3:=by omega
     have hkn':¬((nd:Int)+3) < ((nd:Int)+3):=by omega
     have HW5:Hid (C.SOwn wr lo (.slice (some ⟨gs,0,none⟩) (ns+2) (ns+2)) (s7 o.r.spans)/\ Z.grownBy wr (some gd)):=⟨own_keep6 HDO.out.2 hgr (λq hq e=>by simp[Value.ownBlock] at hq e;have:=HNE.out;omega),hgr⟩
     obtain⟨w5,hw5⟩:∃V,wr=V:=⟨_,rfl⟩
     rw[hw5] at HW5 v1 v3 ⊢
     clear hdo hgr HGr hw5 hkeep v2 v4 c10 hll
     go_upto_region 13 with fail
     go_wp2
     clear v1 v3
     go_loopw [6,9] (λok v wr=>BsJ w5 lo gs (ns+2) (s7 o.r.spans) ok v wr) (λ_ v _=>ns+2 - (intOf v).toNat)
     case atStart=>exact⟨rfl,0,rfl,Nat.zero_le _,by simpa using HW5.out.1,World.grownBy.refl _ _⟩
     case round=>
      obtain⟨rfl,k,rfl,hk,hdo,hgr⟩:=hrel
      have hkw:IntKind.i64.wrap ((k:Int)+1)=(k:Int)+1:=by rw[IntKind.wrap_i64];omega
      have HGr:Hid (w5.grownBy wr (some gs)):=hgr
      have hkeep:∀q,q≠gd-> q≠gs-> q < Z.heap.size-> wr.heap[q]?=Z.heap[q]?:=λq h1 h3 h2=>(hgr.block q (by have:=HW5.out.2.size;omega) (by simp;omega)).trans (HW5.out.2.block q h2 (by simp;omega))
      obtain⟨v1,v2,v3,v4⟩:=HV.out wr hkeep
      have c9:=HAT.out wr (HKD.out wr hkeep (Nat.le_trans HW5.out.2.size hgr.size) (hgr.os.trans HW5.out.2.os) (hgr.tape.trans HW5.out.2.tape) (hgr.output.trans HW5.out.2.output)) 9 (.slice sa ns sc) rfl
      have hll:(s7 o.r.spans).length=ns+2:=by simp[HND.out.2.1]
      by_cases hkn:k < ns+2
      ·have hkn':(k:Int) < (ns:Int)+2:=by omega
       have hk2:k < (s7 o.r.spans).length:=by omega
       obtain⟨p,hp⟩:=C.get_some (s7 o.r.spans) k hk2
       obtain⟨q1,q2,q3,q4⟩:=hdo.cells (k:=k) ((rep_at _ k (-77,0)).trans hp)
       have hst:=hdo.put (k:=k) (-77) 0
       rw[rep_set _ k (-77,0) hk2] at hst
       have HS2:Hid (BsJ w5 lo gs (ns+2) (s7 o.r.spans) (.bool true) (.int .i64 ((k:Int)+1)) ((wr.setCell ⟨gs,k*2,none⟩ (.int .i64 (-77))).setCell ⟨gs,k*2+1,none⟩ (.int .i64 0))):=⟨rfl,k+1,by simp,by omega,hst,C.grown_trans HGr.out (C.grown_put _ _ _ _ _)⟩
       by_cases hkd:k < ns
       ·have hkd':(k:Int) < (ns:Int):=by omega
        have hkd2:decide ((k:Int) < (ns:Int))=true:=by simp;omega
        clear hst hdo hgr hkeep v1 v3 hp hll hk2
        go_wp2
        exact⟨HS2.out,by simp[intOf];omega⟩
       ·have hkd':¬(k:Int) < (ns:Int):=by omega
        have hkd2:decide ((k:Int) < (ns:Int))=false:=by simp;omega
        rw[s7_at HND.out.2.1 (by omega) hkn] at hp
        cases hp
        clear hst hdo hgr hkeep v1 v3 hll hk2
        go_wp2
        exact⟨HS2.out,by simp[intOf];omega⟩
      ·obtain rfl:k=ns+2:=by omega
       have hkn':¬((ns:Int)+2) < ((ns:Int)+2):=by omega
       have HB6:Hid (Bz lo w1 wr w.heap.size n ga (.slice (some ⟨gv,0,none⟩) n cv) (.slice (some ⟨gw,0,none⟩) n cvs) ps (i+1)):=by
        have g2:=HW5.out.2
        have g3:=hgr
        rw[←HGD.out.1] at g2
        rw[←HGD.out.2] at g3
        exact HBZ.out.two HND.out.2.2 H1.out.2.2.1 H1.out.2.2.2.1 g2 g3
       obtain⟨w6,hw6⟩:∃V,wr=V:=⟨_,rfl⟩
       rw[hw6] at HB6 v2 v4 ⊢
       clear hdo hgr HGr hw6 hkeep v1 v3 c9 hll
       have bA:w6.cell? ⟨w.heap.size,0,none⟩=some (.slice (some ⟨ga,0,none⟩) (n+2) (n+2)):=cell_of_row _ _ 0 _ _ _ HB6.out.box
       obtain⟨cs',hall⟩:=HB6.out.all
       obtain⟨hu,hz⟩:=row_cells7 hall i (by omega)
       obtain⟨u0',x0⟩:=hu 0 (by omega)
       obtain⟨u1',x1⟩:=hu 1 (by omega)
       obtain⟨u2',x2⟩:=hu 2 (by omega)
       obtain⟨u3',x3⟩:=hu 3 (by omega)
       obtain⟨u4',x4⟩:=hu 4 (by omega)
       obtain⟨u5',x5⟩:=hu 5 (by omega)
       obtain⟨u6',x6⟩:=hu 6 (by omega)
       obtain⟨u7',x7⟩:=hu 7 (by omega)
       obtain⟨u8',x8⟩:=hu 8 (by omega)
       obtain⟨u9',x9⟩:=hu 9 (by omega)
       obtain⟨u10',x10⟩:=hu 10 (by omega)
       simp only[Nat.add_zero] at x0
       have hidx:(i:Int) < (n:Int)+2:=by omega
       have HB7:Hid (BkJ lo w1 w.heap.size n ga (.slice (some ⟨gv,0,none⟩) n cv) (.slice (some ⟨gw,0,none⟩) n cvs) ps (.bool true) (.int .i64 ((i:Int)+1)) (put11 w6 ga (i*11) ⟨-77,0,0,0,0,0,0,0,0,[],[]⟩ (.slice none 0 0) (.slice none 0 0))):=⟨rfl,i+1,by simp,by omega,HB6.out.put11 _ _ _ _⟩
       clear hu hall
       go_wp2
       exact⟨HB7.out,by simp[intOf];omega⟩
  ·obtain rfl:i=n:=by omega
   have hin':¬(i:Int) < (i:Int):=by omega
   have HE:Hid (Kd (BkS ga ps) w wr):=(Kd.below H1.out.2.1).trans hbz.kd
   clear hbz HBZ
   go_wp2
   go_ret
   exact⟨rfl,HE.out⟩
end Go.Proofs.YtllhbhogfffedaaGreatDoor.K
namespace Go.Proofs.YtllhbhogfffedaaGreatDoor.C
open Go.RowKit Go.Shelf
set_option linter.unusedVariables false
set_option linter.unusedSimpArgs false
def SbD (w:World) (e:Ending) (w':World):Prop:=∃q,e=.returned (.bool q)/\ ∃nd,w'=w.drewN nd
end Go.Proofs.YtllhbhogfffedaaGreatDoor.C
namespace Go.Proofs.YtllhbhogfffedaaGreatDoor
open Go.RowKit
def SbB (w:World) (e:Ending) (w':World):Prop:=∃q,e=.returned (.bool q)/\ Below w.heap.size w w'
end Go.Proofs.YtllhbhogfffedaaGreatDoor
namespace Go.Proofs.YtllhbhogfffedaaGreatDoor.K
open Go.RowKit
set_option linter.unusedVariables false
set_option linter.unusedSimpArgs false
def nmJ (c:Nat):Int:=if c=0 then 0 else if c=1 then 5 else if c=2 then 6 else c
def Et (w:World):Prop:=w.cell? ⟨3,0,none⟩=some (.iface 172 (.agg #[.pointer (some ⟨5,43,none⟩)]))
theorem Et.below {w V:World} (h:Et w) (hb:Below w.heap.size w V):Et V:=bel_cell hb h
theorem number_errno (w:World) (F:Nat-> Prop) (aD aF aN:Addr) (c:Nat) (h:Snt w F aD aF aN) (hE:Et w):Calls Tryz.prog 16 #[.iface 55 (.int .i64 c)] w λe w'=>e=.returned (.int .i64 c)/\ Hid (Below w.heap.size w w'):=by
 obtain⟨w1,hw1⟩:∃V,w.alloc (.cells #[.int .i64 0] 55)=V:=⟨_,rfl⟩
 have hb:Below w.heap.size w w1:=by rw[←hw1];exact(Below.refl _ _).alloc (aqH _) _
 have hs1:w1.heap.size=w.heap.size+1:=by rw[←hw1];simp
 have hg1:=heap_new6 w (.cells #[.int .i64 0] 55)
 rw[hw1] at hg1
 have HI:Hid (∀a V,Calls Tryz.prog 43 #[.iface 55 (.int .i64 c),.iface 218 (.pointer (some a))] V λe w'=>e=.returned (.bool false)/\ w'=V):=λa V=>isErrno7 c a V
 have HA:=asHit7 c w.heap.size (.int .i64 0) w1 (hE.below hb) (cell_of_row _ _ 0 _ _ _ hg1) (frozen_of_row _ _ 0 _ _ hg1)
 obtain⟨w2,hw2⟩:∃V,((((w1.alloc (.cells #[.pointer (some ⟨w.heap.size,0,none⟩)] 105)).alloc (.cells #[.pointer (some ⟨5,105,none⟩),.pointer (some ⟨w1.heap.size,0,none⟩),.int .u64 150] 147)).alloc (.cells #[.pointer (some ⟨5,105,none⟩),.pointer (some ⟨w1.heap.size,0,none⟩),.int .u64 150] 147)).alloc (.cells #[.int .i64 c] 55))=V:=⟨_,rfl⟩
 rw[hw2] at HA
 have hb2:Below w1.heap.size w1 w2:=by
  rw[←hw2]
  exact((((Below.refl _ _).alloc (aqH _) _).alloc (by simp) _).alloc (by simp;omega) _).alloc (by simp;omega) _
 have HW:Hid ((w2.setCell ⟨w.heap.size,0,none⟩ (.int .i64 c)).cell? ⟨w.heap.size,0,none⟩=some (.int .i64 c)/\ Below w.heap.size w (w2.setCell ⟨w.heap.size,0,none⟩ (.int .i64 c))):=by
  have h2:=(hb2.block w.heap.size (by omega)).trans hg1
  refine⟨cell_of_row _ _ 0 _ _ _ (heap_setCell_same w2 w.heap.size 0 _ _ _ h2),?_⟩
  have hbb:Below w.heap.size w w2:=hb.trans (hb2.mono hb.size)
  exact⟨hbb.os,hbb.tape,hbb.output,by simp[World.setCell];exact hbb.size,λk hk=>(heap_setCell_other w2 ⟨w.heap.size,0,none⟩ k _ (by simp;omega)).trans (hbb.block k hk)⟩
 have e0:w1.cell? ⟨0,0,none⟩=some (.iface 218 (.pointer (some aD))):=(h.er.below hb).d
 have e1:w1.cell? ⟨1,0,none⟩=some (.iface 218 (.pointer (some aF))):=(h.er.below hb).f
 clear h hE hb hb2 hg1 hw2
 go_enter Tryz.func16,Tryz.ntmps16
 go_wp2_with (first
  |(go_at_call 43;refine(HI.out _ _).mono ?_;rintro e w9 ⟨rfl,hw9⟩;rw[hw9];clear hw9)
  |(go_at_call 44;refine HA.mono ?_;rintro e w9 ⟨rfl,hw9⟩;rw[hw9];clear hw9;have c9:=HW.out.1))
 go_ret
 exact⟨rfl,HW.out.2⟩
theorem number_full (w:World) (F:Nat-> Prop) (aD aF aN:Addr) (h:Snt w F aD aF aN):Calls Tryz.prog 16 #[.iface 218 (.pointer (some aF))] w λe w'=>e=.returned (.int .i64 5)/\ Hid (Below w.heap.size w w'):=by
 have hb:Below w.heap.size w (w.alloc (.cells #[.int .i64 0] 55)):=(Below.refl _ _).alloc (aqH _) _
 have h':=h.kd (Kd.below (F:=F) hb)
 obtain⟨ca,ta,kD⟩:=h'.cD.1
 obtain⟨cb,tb,kF⟩:=h'.cF.1
 have HI1:=isOther7 aF aD _ _ _ _ (w.alloc (.cells #[.int .i64 0] 55)) (λe=>h.df e.symm) kF kD
 have HI2:=isSame7 aF (w.alloc (.cells #[.int .i64 0] 55))
 have e0:(w.alloc (.cells #[.int .i64 0] 55)).cell? ⟨0,0,none⟩=some (.iface 218 (.pointer (some aD))):=h'.er.d
 have e1:(w.alloc (.cells #[.int .i64 0] 55)).cell? ⟨1,0,none⟩=some (.iface 218 (.pointer (some aF))):=h'.er.f
 have HB:Hid (Below w.heap.size w (w.alloc (.cells #[.int .i64 0] 55))):=hb
 clear h h' kD kF hb
 go_enter Tryz.func16,Tryz.ntmps16
 go_wp2_with fail
 refine HI1.mono ?_
 rintro e w9 ⟨rfl,hw9⟩
 rw[hw9]
 clear hw9 HI1
 go_wp2_with fail
 refine HI2.mono ?_
 rintro e w8 ⟨rfl,hw8⟩
 rw[hw8]
 clear hw8 HI2
 go_wp2
 go_ret
 exact⟨rfl,HB.out⟩
theorem number_any (w:World) (F:Nat-> Prop) (aD aF aN:Addr) (c:Nat) (h:Snt w F aD aF aN) (hE:Et w) (hc:c≠3):Calls Tryz.prog 16 #[evJ aD aF aN c] w λe w'=>e=.returned (.int .i64 (nmJ c))/\ Hid (Below w.heap.size w w'):=by
 match c,hc with
 |0,_=>exact number_nil w
 |1,_=>exact number_full w F aD aF aN h
 |2,_=>exact number_down w F aD aF aN h
 |3,hc=>exact absurd rfl hc
 |c+4,_=>
  have:=number_errno w F aD aF aN (c+4) h hE
  rw[evJ_e (by omega)]
  exact this
end Go.Proofs.YtllhbhogfffedaaGreatDoor.K
namespace Go.Proofs.YtllhbhogfffedaaGreatDoor
open Go.RowKit
set_option linter.unusedVariables false
set_option linter.unusedSimpArgs false
def SmP (l l':List Rc) (w:World) (e:Ending) (w':World):Prop:=∃q,e=.returned (.bool q)/\ (l=l'-> q=true)/\ Below w.heap.size w w'
end Go.Proofs.YtllhbhogfffedaaGreatDoor
namespace Go.Proofs.YtllhbhogfffedaaGreatDoor.K
open Go.RowKit
set_option linter.unusedVariables false
set_option linter.unusedSimpArgs false
structure Pv (W w:World) (q h x y:Nat) (F G:Nat-> Prop) (D E:Dk) (pj pr:Value):Prop where
 bel:Below W.heap.size W w
 qc:w.heap[q]?=some (.cells #[.pointer (some ⟨h,0,none⟩),.pointer (some ⟨y,0,none⟩),pj,pr] 32 (0,0))
 hc:w.cell? ⟨h,0,none⟩=some (.pointer (some ⟨x,0,none⟩))
 dm:Dm w x F D
 em:Em w y G E
 fl:∀k,F k-> W.heap.size<= k/\ k < w.heap.size
 gl:∀k,G k-> W.heap.size<= k/\ k < w.heap.size
 fg:∀k,F k-> ¬G k
 nq:W.heap.size<= q/\ ¬F q/\ ¬G q
 nh:W.heap.size<= h/\ ¬F h/\ ¬G h/\ h≠q
section
variable {W w V:World} {q h x y:Nat} {F G F' G' P:Nat-> Prop} {D E D' E':Dk} {pj pr:Value}
theorem Pv.c (p:Pv W w q h x y F G D E pj pr) (i:Nat):w.cell? ⟨q,i,none⟩=(#[.pointer (some ⟨h,0,none⟩),.pointer (some ⟨y,0,none⟩),pj,pr]:Array Value)[i]?:=cell_of_row _ _ i _ _ _ p.qc
theorem Pv.z (p:Pv W w q h x y F G D E pj pr) (i:Nat):w.frozen? ⟨q,i,none⟩=false:=frozen_of_row _ _ i _ _ p.qc
theorem Pv.ql (p:Pv W w q h x y F G D E pj pr):q < w.heap.size:=(Array.getElem?_eq_some_iff.1 p.qc).1
theorem Pv.hl (p:Pv W w q h x y F G D E pj pr):h < w.heap.size:=cell_lt p.hc
theorem Pv.law (p:Pv W w q h x y F G D E pj pr) (hk:Kd P w V) (hP:∀k,P k-> k < w.heap.size-> W.heap.size<= k/\ ¬F k/\ ¬G k/\ k≠q/\ k≠h):Pv W V q h x y F G D E pj pr:=by
 have hs:∀k,k < w.heap.size-> (F k∨G k∨k=q∨k=h)-> V.heap[k]?=w.heap[k]?:=λk hkl hm=>hk.same k hkl (λe=>by
  obtain⟨_,a,b,c,d⟩:=hP k e hkl
  rcases hm with m|m|m|m
  ·exact a m
  ·exact b m
  ·exact c m
  ·exact d m)
 refine⟨p.bel.trans (hk.bel p.bel.size (λk hkl e=>?_)),(hs q p.ql (.inr (.inr (.inl rfl)))).trans p.qc,(World.cell?_of_block (a:=⟨h,0,none⟩) (hs h p.hl (.inr (.inr (.inr rfl))))).trans p.hc,p.dm.same (λk m hkl=>hs k hkl (.inl m)),p.em.same (λk m hkl=>hs k hkl (.inr (.inl m))),λk m=>⟨(p.fl k m).1,Nat.lt_of_lt_of_le (p.fl k m).2 hk.size⟩,λk m=>⟨(p.gl k m).1,Nat.lt_of_lt_of_le (p.gl k m).2 hk.size⟩,p.fg,p.nq,p.nh⟩
 have:=(hP k e (by have:=p.bel.size;omega)).1
 omega
theorem Pv.keep (p:Pv W w q h x y F G D E pj pr) (hb:Below w.heap.size w V):Pv W V q h x y F G D E pj pr:=p.law (P:=λ_=>False) (Kd.below hb) (λk e=>e.elim)
theorem Pv.prog (p:Pv W w q h x y F G D E pj pr) (hd:Dm V x F' D') (hF:∀k,F' k-> (F k∨w.heap.size<= k)/\ k < V.heap.size) (hk:Kd P w V) (hP:∀k,P k-> k < w.heap.size-> W.heap.size<= k/\ ¬G k/\ k≠q/\ k≠h):Pv W V q h x y F' G D' E pj pr:=by
 have hw:=p.bel.size
 have hs:∀k,k < w.heap.size-> (G k∨k=q∨k=h)-> V.heap[k]?=w.heap[k]?:=λk hkl hm=>hk.same k hkl (λe=>by
  obtain⟨_,b,c,d⟩:=hP k e hkl
  rcases hm with m|m|m
  ·exact b m
  ·exact c m
  ·exact d m)
 refine⟨p.bel.trans (hk.bel p.bel.size (λk hkl e=>?_)),(hs q p.ql (.inr (.inl rfl))).trans p.qc,(World.cell?_of_block (a:=⟨h,0,none⟩) (hs h p.hl (.inr (.inr rfl)))).trans p.hc,hd,p.em.same (λk m hkl=>hs k hkl (.inl m)),λk m=>⟨?_,(hF k m).2⟩,λk m=>⟨(p.gl k m).1,Nat.lt_of_lt_of_le (p.gl k m).2 hk.size⟩,λk m g=>?_,⟨p.nq.1,λm=>?_,p.nq.2.2⟩,⟨p.nh.1,λm=>?_,p.nh.2.2⟩⟩
 ·have:=(hP k e (by omega)).1;omega
 ·rcases(hF k m).1 with e|e
  ·exact(p.fl k e).1
  ·omega
 ·rcases(hF k m).1 with e|e
  ·exact p.fg k e g
  ·have:=(p.gl k g).2;omega
 ·rcases(hF q m).1 with e|e
  ·exact p.nq.2.1 e
  ·have:=p.ql;omega
 ·rcases(hF h m).1 with e|e
  ·exact p.nh.2.1 e
  ·have:=p.hl;omega
theorem Pv.refc (p:Pv W w q h x y F G D E pj pr) (hd:Em V y G' E') (hF:∀k,G' k-> (G k∨w.heap.size<= k)/\ k < V.heap.size) (hk:Kd P w V) (hP:∀k,P k-> k < w.heap.size-> W.heap.size<= k/\ ¬F k/\ k≠q/\ k≠h):Pv W V q h x y F G' D E' pj pr:=by
 have hw:=p.bel.size
 have hs:∀k,k < w.heap.size-> (F k∨k=q∨k=h)-> V.heap[k]?=w.heap[k]?:=λk hkl hm=>hk.same k hkl (λe=>by
  obtain⟨_,b,c,d⟩:=hP k e hkl
  rcases hm with m|m|m
  ·exact b m
  ·exact c m
  ·exact d m)
 refine⟨p.bel.trans (hk.bel p.bel.size (λk hkl e=>?_)),(hs q p.ql (.inr (.inl rfl))).trans p.qc,(World.cell?_of_block (a:=⟨h,0,none⟩) (hs h p.hl (.inr (.inr rfl)))).trans p.hc,p.dm.same (λk m hkl=>hs k hkl (.inl m)),hd,λk m=>⟨(p.fl k m).1,Nat.lt_of_lt_of_le (p.fl k m).2 hk.size⟩,λk m=>⟨?_,(hF k m).2⟩,λk m g=>?_,⟨p.nq.1,p.nq.2.1,λm=>?_⟩,⟨p.nh.1,p.nh.2.1,λm=>?_,p.nh.2.2.2⟩⟩
 ·have:=(hP k e (by omega)).1;omega
 ·rcases(hF k m).1 with e|e
  ·exact(p.gl k e).1
  ·omega
 ·rcases(hF k g).1 with e|e
  ·exact p.fg k m e
  ·have:=(p.fl k m).2;omega
 ·rcases(hF q m).1 with e|e
  ·exact p.nq.2.2 e
  ·have:=p.ql;omega
 ·rcases(hF h m).1 with e|e
  ·exact p.nh.2.2.1 e
  ·have:=p.hl;omega
theorem Pv.setJ (p:Pv W w q h x y F G D E pj pr) (u:Value):Pv W (w.setCell ⟨q,2,none⟩ u) q h x y F G D E u pr:=by
 have hs:∀k,k≠q-> (w.setCell ⟨q,2,none⟩ u).heap[k]?=w.heap[k]?:=λk hk=>heap_setCell_other _ _ _ _ hk
 have hz:w.heap.size=(w.setCell ⟨q,2,none⟩ u).heap.size:=by simp[World.setCell]
 exact⟨p.bel.setCell (p:=⟨q,2,none⟩) p.nq.1 _,heap_setCell_same w q 2 _ _ _ p.qc,(World.cell?_of_block (a:=⟨h,0,none⟩) (hs h p.nh.2.2.2)).trans p.hc,p.dm.same (λk m _=>hs k (λe=>p.nq.2.1 (e ▸ m))),p.em.same (λk m _=>hs k (λe=>p.nq.2.2 (e ▸ m))),λk m=>by rw[←hz];exact p.fl k m,λk m=>by rw[←hz];exact p.gl k m,p.fg,p.nq,p.nh⟩
theorem Pv.setR (p:Pv W w q h x y F G D E pj pr) (u:Value):Pv W (w.setCell ⟨q,3,none⟩ u) q h x y F G D E pj u:=by
 have hs:∀k,k≠q-> (w.setCell ⟨q,3,none⟩ u).heap[k]?=w.heap[k]?:=λk hk=>heap_setCell_other _ _ _ _ hk
 have hz:w.heap.size=(w.setCell ⟨q,3,none⟩ u).heap.size:=by simp[World.setCell]
 exact⟨p.bel.setCell (p:=⟨q,3,none⟩) p.nq.1 _,heap_setCell_same w q 3 _ _ _ p.qc,(World.cell?_of_block (a:=⟨h,0,none⟩) (hs h p.nh.2.2.2)).trans p.hc,p.dm.same (λk m _=>hs k (λe=>p.nq.2.1 (e ▸ m))),p.em.same (λk m _=>hs k (λe=>p.nq.2.2 (e ▸ m))),λk m=>by rw[←hz];exact p.fl k m,λk m=>by rw[←hz];exact p.gl k m,p.fg,p.nq,p.nh⟩
end
structure Pjr (W w:World) (q h x y:Nat) (F G:Nat-> Prop) (J K:Jl) (j d r:Nat):Prop where
 jb:Jb w j d J
 dc:w.cell? ⟨d,0,none⟩=some (.pointer (some ⟨x,0,none⟩))
 rb:Rb w r y K
 nj:W.heap.size<= j/\ ¬F j/\ ¬G j/\ j≠q/\ j≠h
 nd:W.heap.size<= d/\ ¬F d/\ ¬G d/\ d≠q/\ d≠h/\ d≠j
 nr:W.heap.size<= r/\ ¬F r/\ ¬G r/\ r≠q/\ r≠h/\ r≠j/\ r≠d
section
variable {W w V:World} {q h x y j d r:Nat} {F G F' G' P:Nat-> Prop} {J K J' K':Jl} {D E D' E':Dk} {pj pr:Value} {aD aF aN:Addr}
theorem Pjr.lts (p:Pjr W w q h x y F G J K j d r):j < w.heap.size/\ d < w.heap.size/\ r < w.heap.size:=⟨p.jb.lt,cell_lt p.dc,p.rb.lt⟩
theorem Pjr.law (p:Pjr W w q h x y F G J K j d r) (hk:Kd P w V) (hP:¬P j/\ ¬P d/\ ¬P r) (hF:∀k,F' k-> F k∨w.heap.size<= k) (hG:∀k,G' k-> G k∨w.heap.size<= k):Pjr W V q h x y F' G' J K j d r:=by
 obtain⟨l1,l2,l3⟩:=p.lts
 have nF:∀{k},k < w.heap.size-> ¬F k-> ¬F' k:=λhk hn e=>(hF _ e).elim hn (λq=>by omega)
 have nG:∀{k},k < w.heap.size-> ¬G k-> ¬G' k:=λhk hn e=>(hG _ e).elim hn (λq=>by omega)
 exact⟨(hk.same j l1 hP.1).trans p.jb,hk.cell p.dc hP.2.1,p.rb.same (hk.same r l3 hP.2.2),⟨p.nj.1,nF l1 p.nj.2.1,nG l1 p.nj.2.2.1,p.nj.2.2.2⟩,⟨p.nd.1,nF l2 p.nd.2.1,nG l2 p.nd.2.2.1,p.nd.2.2.2⟩,⟨p.nr.1,nF l3 p.nr.2.1,nG l3 p.nr.2.2.1,p.nr.2.2.2⟩⟩
theorem Pjr.w0 (p:Pv W w q h x y F G D E pj pr) (t:Pjr W w q h x y F G J K j d r) (hS:S0 W aD aF aN):W0 w d x j F aD aF aN/\ Tab6 w:=by
 obtain⟨hs,hT,_⟩:=hS.snt p.bel (λk e=>(p.fl k e).1)
 have b:∀{a:Addr},(∃(ca:Array Value) (ta:TypeId),W.heap[a.block]?=some (.cells ca ta (0,0)))-> j≠a.block:=λ⟨ca,ta,hh⟩ e=>by have:=(Array.getElem?_eq_some_iff.1 hh).1;have:=t.nj.1;omega
 have c:∀{g:Nat} {v:Value},W.cell? ⟨g,0,none⟩=some v-> j≠g:=λhc e=>by have:=cell_lt hc;have:=t.nj.1;omega
 exact⟨⟨hs,t.dc,t.nd.2.1,t.nj.2.1,t.nd.2.2.2.2.2,t.jb.lt,⟨b hS.cD,b hS.cF,b hS.cN,c hS.er.d,c hS.er.f,c hS.er.n⟩⟩,hT⟩
theorem Pjr.wr (p:Pv W w q h x y F G D E pj pr) (t:Pjr W w q h x y F G J K j d r) (hw:Wj w V d x j F D' J'):∃F',Pv W V q h x y F' G D' E pj pr/\ Pjr W V q h x y F' G J' K j d r/\ (∀k,F' k-> F k∨w.heap.size<= k):=by
 obtain⟨F',h1,h2⟩:=hw.foot
 refine⟨F',p.prog h1 h2 hw.kd (λk e _=>?_),?_,λk e=>(h2 k e).1⟩
 ·rcases e with e|e
  ·exact⟨(p.fl k e).1,p.fg k e,λe2=>p.nq.2.1 (e2 ▸ e),λe2=>p.nh.2.1 (e2 ▸ e)⟩
  ·rw[e];exact⟨t.nj.1,t.nj.2.2.1,t.nj.2.2.2.1,t.nj.2.2.2.2⟩
 ·have hd:¬(F d∨d=j):=λe=>e.elim t.nd.2.1 t.nd.2.2.2.2.2
  have hr:¬(F r∨r=j):=λe=>e.elim t.nr.2.1 t.nr.2.2.2.2.2.1
  obtain⟨l1,l2,l3⟩:=t.lts
  have nF:∀{k},k < w.heap.size-> ¬F k-> ¬F' k:=λhk hn e=>(h2 _ e).1.elim hn (λq=>by omega)
  exact⟨hw.jb,hw.kd.cell t.dc hd,t.rb.same (hw.kd.same r l3 hr),⟨t.nj.1,nF l1 t.nj.2.1,t.nj.2.2⟩,⟨t.nd.1,nF l2 t.nd.2.1,t.nd.2.2⟩,⟨t.nr.1,nF l3 t.nr.2.1,t.nr.2.2⟩⟩
theorem Pjr.wk (p:Pv W w q h x y F G D E pj pr) (t:Pjr W w q h x y F G J K j d r) (hw:Wk w V y r G E' K'):∃G',Pv W V q h x y F G' D E' pj pr/\ Pjr W V q h x y F G' J K' j d r/\ (∀k,G' k-> G k∨w.heap.size<= k):=by
 obtain⟨G',h1,h2⟩:=hw.foot
 refine⟨G',p.refc h1 h2 hw.kd (λk e _=>?_),?_,λk e=>(h2 k e).1⟩
 ·rcases e with e|e
  ·exact⟨(p.gl k e).1,λf=>p.fg k f e,λe2=>p.nq.2.2 (e2 ▸ e),λe2=>p.nh.2.2.1 (e2 ▸ e)⟩
  ·rw[e];exact⟨t.nr.1,t.nr.2.1,t.nr.2.2.2.1,t.nr.2.2.2.2.1⟩
 ·have hd:¬(G d∨d=r):=λe=>e.elim t.nd.2.2.1 (λe=>t.nr.2.2.2.2.2.2 e.symm)
  have hj:¬(G j∨j=r):=λe=>e.elim t.nj.2.2.1 (λe=>t.nr.2.2.2.2.2.1 e.symm)
  obtain⟨l1,l2,l3⟩:=t.lts
  have nG:∀{k},k < w.heap.size-> ¬G k-> ¬G' k:=λhk hn e=>(h2 _ e).1.elim hn (λq=>by omega)
  exact⟨(hw.kd.same j l1 hj).trans t.jb,hw.kd.cell t.dc hd,hw.jb,⟨t.nj.1,t.nj.2.1,nG l1 t.nj.2.2.1,t.nj.2.2.2⟩,⟨t.nd.1,t.nd.2.1,nG l2 t.nd.2.2.1,t.nd.2.2.2⟩,⟨t.nr.1,t.nr.2.1,nG l3 t.nr.2.2.1,t.nr.2.2.2⟩⟩
end
structure Py (W w:World) (q m:Nat) (D:Dk) (J:Option Jl):Prop where
 pk:Pk D m
 ex:∃h x y F G pj pr,Pv W w q h x y F G D D pj pr/\ (match J with|none=>pj=.pointer none/\ pr=.pointer none|some J=>Jok D J m/\ ∃j d r,pj=.pointer (some ⟨j,0,none⟩)/\ pr=.pointer (some ⟨r,0,none⟩)/\ Pjr W w q h x y F G J J j d r)
theorem Py.keep {W w V:World} {q m:Nat} {D:Dk} {J:Option Jl} (p:Py W w q m D J) (hb:Below w.heap.size w V):Py W V q m D J:=by
 obtain⟨h,x,y,F,G,pj,pr,p1,p2⟩:=p.ex
 refine⟨p.pk,h,x,y,F,G,pj,pr,p1.keep hb,?_⟩
 cases J with
 |none=>exact p2
 |some J=>
  obtain⟨k1,j,d,r,e1,e2,k2⟩:=p2
  exact⟨k1,j,d,r,e1,e2,k2.law (P:=λ_=>False) (Kd.below hb) ⟨id,id,id⟩ (λk e=>.inl e) (λk e=>.inl e)⟩
theorem Py.up {W w:World} {q m m':Nat} {D:Dk} {J:Option Jl} (p:Py W w q m D J) (hm:m<= m'):Py W w q m' D J:=by
 obtain⟨h,x,y,F,G,pj,pr,p1,p2⟩:=p.ex
 refine⟨p.pk.up hm,h,x,y,F,G,pj,pr,p1,?_⟩
 cases J with
 |none=>exact p2
 |some J=>exact⟨p2.1.up hm,p2.2⟩
theorem Py.alike {W w:World} {q m:Nat} {D:Dk} {J:Option Jl} (p:Py W w q m D J) (hm:m<= 1048576*4):Calls Tryz.prog 11 #[.pointer (some ⟨q,0,none⟩)] w λe w'=>e=.returned (.bool true)/\ Hid (Py W w' q m D J):=by
 obtain⟨h,x,y,F,G,pj,pr,p1,p2⟩:=p.ex
 refine(alike_any w q h x y F G D (100000+m) (p1.c 0) (p1.c 1) p1.hc p1.dm p1.em p.pk.ok (by omega)).mono ?_
 rintro e w' ⟨rfl,hb⟩
 exact⟨rfl,p.keep hb.out⟩
abbrev dkF (fs:List Fl) (M:Int):Dk:=⟨fs,M,false,0,false,false⟩
structure PJ (Bs:List Int) (B:Nat) (act:Int) (D:Dk):Prop where
 jd:Jd Bs D
 dw:D.dw=false
 ok:D.Ok B
 arm:D.arm=true-> 0<= act
structure PU (Bs:List Int) (B:Nat) (D:Dk):Prop where
 jd:Jd Bs D
 dw:D.dw=false
 arm:D.arm=false
 ok:D.Ok B
theorem same_rl {w:World} {l1 l2:Nat} {v u:Value} {os ps:List Ro} (h1:Rl w l1 v os) (h2:Rl w l2 u ps) (he:os.map Ro.r=ps.map Ro.r) (hn:os.length<= 140737488355328):
 Calls Tryz.prog 24 #[v,u] w λe w'=>e=.returned (.bool true)/\ Below w.heap.size w w':=by
 obtain⟨a,c,hv,k1⟩:=h1.rlin
 obtain⟨b,d,hu,k2⟩:=h2.rlin
 have hl:os.length=ps.length:=by have:=congrArg List.length he;simpa using this
 rw[hv,hu,←hl]
 rw[←he] at k2
 refine same7_eq (os.map Ro.r) a b os.length c d w (by simp) hn k1 k2 (λr hr=>?_)
 obtain⟨o,ho,rfl⟩:=List.mem_map.mp hr
 obtain⟨i,hi,e⟩:=List.getElem_of_mem ho
 have h3:=(h1.sml i hi).2
 unfold oAt at h3
 rw[List.getD_eq_getElem?_getD,List.getElem?_eq_getElem hi,e] at h3
 simp only[Option.getD_some] at h3
 omega
def StP (W:World) (q m:Nat) (e:Ending) (w':World):Prop:=e=.returned (.bool true)/\ ∃D' J',Py W w' q (m+1) D' J'
theorem nm_en {c:Nat} (h:c≠3):nmJ c=enJ c:=by
 unfold nmJ enJ enE
 by_cases h0:c=0
 ·subst h0;rfl
 ·by_cases h1:c=1
  ·subst h1;rfl
  ·by_cases h2:c=2
   ·subst h2;rfl
   ·rw[if_neg h0,if_neg h1,if_neg h2,if_neg (show ¬c<= 3 by omega)]
theorem opl_small {D:Dk} {m:Nat} (h:Pk D m):(opX D).l.length<= 100000:=by
 have h1:Pk (rmD D).1 m:=pk_erase h _
 unfold opX
 split
 ·unfold opB
  generalize (rmD D).1=D1 at h1
  split
  ·obtain⟨hb,hl⟩:=rdB_used (s:=jN) h1
   have hs:=scR_small _ hb
   unfold opC
   split
   ·split
    ·show (scR (rdB D1 jN)).1.length<= _;omega
    ·simp
   ·show (scR (rdB D1 jN)).1.length<= _;omega
  ·simp
 ·simp
theorem rl_blk7 {w w':World} {lo:Nat} {v:Value} {os:List Ro} (h:Rl w lo v os) (hs:∀k,lo<= k-> k < w.heap.size-> w'.heap[k]?=w.heap[k]?):Rl w' lo v os:=rl_keep h (aqH _) hs
theorem kps_kd {S:Nat-> Prop} {a b:World} (h:Kps S a b):Kd S a b:=⟨h.os,h.tape,h.output,h.size,h.block⟩
theorem opens_ok (W w:World) (q m:Nat) (D:Dk) (J:Option Jl) (aD aF aN:Addr) (p:Py W w q m D J) (hS:S0 W aD aF aN) (hE:Et W) (hm:m<= 4194304) (hr:(opX D).r=0):
 Calls Tryz.prog 9 #[.pointer (some ⟨q,0,none⟩)] w λe w'=>StP W q m e w':=by
 obtain⟨hpk,h,x,y,F,G,pj0,pr0,p0,-⟩:=p
 obtain⟨O,hO⟩:∃O,opX D=O:=⟨_,rfl⟩
 obtain⟨hk1,hk2,hk3⟩:=pk_opn hpk
 rw[hO] at hk1 hk2 hk3 hr
 have hr3:O.r<= 3:=by rw[←hO];exact opX_r D
 have hDk:=dDisk_any w h x p0.hc
 obtain⟨w1,hw1⟩:∃V,w.alloc (.cells #[.pointer (some ⟨x,0,none⟩)] 102)=V:=⟨_,rfl⟩
 rw[hw1] at hDk
 have hb1:Below w.heap.size w w1:=by rw[←hw1];exact(Below.refl _ _).alloc (aqH _) _
 have hs1:w1.heap.size=w.heap.size+1:=by rw[←hw1];simp
 have hd1:w1.cell? ⟨w.heap.size,0,none⟩=some (.pointer (some ⟨x,0,none⟩)):=by
  have:=cell_of_row _ w.heap.size 0 _ _ _ (heap_new6 w (.cells #[.pointer (some ⟨x,0,none⟩)] 102))
  rw[hw1] at this
  exact this
 have p1:=p0.keep hb1
 obtain⟨hs,hT,hnT⟩:=hS.snt p1.bel (λk e=>(p1.fl k e).1)
 have HOp:=open_any w1 w.heap.size x F D (100000+m) aD aF aN p1.dm hpk.ok (by omega) hd1 (λe=>by have:=(p0.fl _ e).2;omega) hs hT hnT
 rw[hO] at HOp
 unfold OpP at HOp
 have c0:w.cell? ⟨q,0,none⟩=some (.pointer (some ⟨h,0,none⟩)):=p0.c 0
 have H0:Hid (Pv W w q h x y F G D D pj0 pr0/\ Pv W w1 q h x y F G D D pj0 pr0/\ S0 W aD aF aN/\ Et W/\ Pk D m/\ Pk O.d m/\ O.r≠3/\ (O.r=0-> Jok O.d ⟨O.n,O.k,false⟩ (m+1))/\ opX D=O/\ w1.cell? ⟨w.heap.size,0,none⟩=some (.pointer (some ⟨x,0,none⟩))/\ w1.heap.size=w.heap.size+1):=⟨p0,p1,hS,hE,hpk,hk1,hk2,hk3,hO,hd1,hs1⟩
 have HR:Hid (O.r=0):=hr
 rw[hr,show evD aD aF aN 0=.nilIface from rfl] at HOp
 clear hr hpk hO hk1 hk2 hk3 hb1 hs1 hd1 p0 p1 hs hT hnT hS hE hr3
 go_enter Tryz.func9,Tryz.ntmps9
 go_upto_region 2 with (first
  |(go_at_call 13;refine hDk.mono ?_;rintro e V1 ⟨rfl,hV1⟩;rw[hV1];clear hV1)
  |(go_at_call 12;refine HOp.mono ?_;rintro e w2 ⟨pj,v1,F',rfl,hdm,hF,hkd,hoj⟩
    obtain⟨j,os1,hpj,hjl,hjb,hjF,hrl,hom,hnk⟩:=hoj.yes HR.out
    subst hpj
    ))
 clear HOp hDk c0 hw1
 have hw2:=hkd.size
 obtain⟨a1,c1,hv1⟩:=d_shape hrl.row
 subst hv1
 have p2:=H0.out.2.1.prog (F':=fc F' w2) hdm.fc (λk e=>⟨hF k e.1,e.2⟩) hkd (λk e _=>⟨(H0.out.2.1.fl k e).1,H0.out.2.1.fg k e,λe2=>H0.out.2.1.nq.2.1 (e2 ▸ e),λe2=>H0.out.2.1.nh.2.1 (e2 ▸ e)⟩)
 have H2:Hid (Pv W w2 q h x y (fc F' w2) G O.d D pj0 pr0/\ Jb w2 j w.heap.size ⟨O.n,O.k,false⟩/\ ¬F' j/\ w1.heap.size<= j/\ Rl w2 w1.heap.size (.slice a1 os1.length c1) os1/\ os1.map Ro.r=O.l/\ (∀p k,p < 3+2*os1.length-> (rlF (.slice a1 os1.length c1) os1 p).v.ownBlock=some k-> ¬F' k/\ k≠j)/\ w2.cell? ⟨w.heap.size,0,none⟩=some (.pointer (some ⟨x,0,none⟩))/\ w1.heap.size<= w2.heap.size/\ ∀k,F' k-> F k∨w1.heap.size<= k):=⟨p2,hjb,hjF,hjl,hrl,hom,hnk,hkd.cell H0.out.2.2.2.2.2.2.2.2.2.1 (λe=>by have:=(H0.out.1.fl _ e).2;omega),hw2,hF⟩
 have HOr:=eopen_any w2 y G D (100000+m) p2.em H0.out.2.2.2.2.1.ok (by omega)
 rw[H0.out.2.2.2.2.2.2.2.2.1] at HOr
 unfold OkP at HOr
 have c1':w2.cell? ⟨q,1,none⟩=some (.pointer (some ⟨y,0,none⟩)):=p2.c 1
 rw[HR.out,show enE 0=0 from rfl] at HOr
 clear hdm hF hkd hoj hjb hjF hjl hrl hom hnk p2
 go_upto_region 3 with (first
  |(go_at_call 30;refine HOr.mono ?_;rintro e w3 ⟨pr,v2,G',rfl,hem,hG,hkd,hoj⟩
    obtain⟨r,os2,hpr,hrl0,hrb,hrG,hrl,hom⟩:=hoj.yes HR.out
    subst hpr))
 clear HOr c1'
 have hw3:=hkd.size
 obtain⟨a2,c2,hv2⟩:=d_shape hrl.row
 subst hv2
 have p3:=H2.out.1.refc (G':=fc G' w3) hem.fc (λk e=>⟨hG k e.1,e.2⟩) hkd (λk e _=>⟨(H2.out.1.gl k e).1,λf=>H2.out.1.fg k f e,λe2=>H2.out.1.nq.2.2 (e2 ▸ e),λe2=>H2.out.1.nh.2.2.1 (e2 ▸ e)⟩)
 have hGw:∀k,G k-> k < w.heap.size:=λk e=>(H0.out.1.gl k e).2
 have hrl1:Rl w3 w1.heap.size (.slice a1 os1.length c1) os1:=rl_blk7 H2.out.2.2.2.2.1 (λk h1 h2=>hkd.same k h2 (λe=>by have:=hGw k e;have:=H0.out.2.2.2.2.2.2.2.2.2.2;omega))
 have hll:os1.length<= 100000:=by
  have:=opl_small H0.out.2.2.2.2.1
  rw[H0.out.2.2.2.2.2.2.2.2.1,←H2.out.2.2.2.2.2.1,List.length_map] at this
  exact this
 have HSM:=same_rl hrl1 hrl (H2.out.2.2.2.2.2.1.trans hom.symm) (by omega)
 have H3:Hid (Pv W w3 q h x y (fc F' w2) (fc G' w3) O.d O.d pj0 pr0/\ Jb w3 j w.heap.size ⟨O.n,O.k,false⟩/\ Rb w3 r y ⟨O.n,O.k,false⟩/\ w2.heap.size<= r/\ ¬G' r/\ Rl w3 w1.heap.size (.slice a1 os1.length c1) os1/\ w3.cell? ⟨w.heap.size,0,none⟩=some (.pointer (some ⟨x,0,none⟩))/\ w2.heap.size<= w3.heap.size/\ ∀k,G' k-> G k∨w2.heap.size<= k):=by
  have nG:∀k,w.heap.size<= k-> ¬G k:=λk hk e=>by have:=hGw k e;omega
  exact⟨p3,(hkd.same j H2.out.2.1.lt (nG j (by have:=H2.out.2.2.2.1;have:=H0.out.2.2.2.2.2.2.2.2.2.2;omega))).trans H2.out.2.1,hrb,hrl0,hrG,hrl1,hkd.cell H2.out.2.2.2.2.2.2.2.1 (nG _ (aqH _)),hw3,hG⟩
 clear hem hG hkd hoj hrb hrl0 hrG hrl hom hrl1 p3
 go_upto_region 4 with (go_at_call 24;refine HSM.mono ?_;rintro e w4 ⟨rfl,hb4⟩)
 clear HSM
 have p4:=H3.out.1.keep hb4
 have c2':w4.cell? ⟨q,2,none⟩=some pj0:=p4.c 2
 have c3':w4.cell? ⟨q,3,none⟩=some pr0:=p4.c 3
 have z2':=p4.z 2
 have z3':=p4.z 3
 have H4:Hid (Pv W w4 q h x y (fc F' w2) (fc G' w3) O.d O.d pj0 pr0/\ Below w3.heap.size w3 w4):=⟨p4,hb4⟩
 clear p4 hb4
 go_upto_region 6 with fail
 clear c2' c3' z2' z3'
 obtain⟨w5,hw5⟩:∃V,(w4.setCell ⟨q,2,none⟩ (.pointer (some ⟨j,0,none⟩))).setCell ⟨q,3,none⟩ (.pointer (some ⟨r,0,none⟩))=V:=⟨_,rfl⟩
 rw[hw5]
 have H5:Hid (Pv W w5 q h x y (fc F' w2) (fc G' w3) O.d O.d (.pointer (some ⟨j,0,none⟩)) (.pointer (some ⟨r,0,none⟩))/\ (∀k,k≠q-> w5.heap[k]?=w4.heap[k]?)/\ w5.heap.size=w4.heap.size):=by
  rw[←hw5]
  exact⟨(H4.out.1.setJ _).setR _,λk hk=>(heap_setCell_other _ _ _ _ hk).trans (heap_setCell_other _ _ _ _ hk),by simp[World.setCell]⟩
 clear hw5
 obtain⟨hs5,-,-⟩:=H0.out.2.2.1.snt H5.out.1.bel (λk e=>(H5.out.1.fl k e).1)
 have HNu:=number_any w5 _ aD aF aN O.r hs5 (H0.out.2.2.2.1.below H5.out.1.bel) H0.out.2.2.2.2.2.2.1
 rw[HR.out,evJ_nil,show nmJ 0=0 from rfl] at HNu
 clear hs5
 go_upto_region 8 with (go_at_call 16;refine HNu.mono ?_;rintro e w6 ⟨rfl,hb6⟩)
 clear HNu
 have hsz:w.heap.size < w1.heap.size/\ w1.heap.size<= w2.heap.size/\ w2.heap.size<= w3.heap.size/\ w3.heap.size<= w4.heap.size/\ w4.heap.size=w5.heap.size/\ q < w.heap.size/\ w5.heap.size<= w6.heap.size:=⟨by have:=H0.out.2.2.2.2.2.2.2.2.2.2;omega,H2.out.2.2.2.2.2.2.2.2.1,H3.out.2.2.2.2.2.2.2.1,H4.out.2.size,H5.out.2.2.symm,H0.out.1.ql,hb6.out.size⟩
 have hst:∀k,k < w3.heap.size-> k≠q-> w6.heap[k]?=w3.heap[k]?:=λk h1 h2=>(hb6.out.block k (by omega)).trans ((H5.out.2.1 k h2).trans (H4.out.2.block k h1))
 have hrl6:Rl w6 w1.heap.size (.slice a1 os1.length c1) os1:=rl_blk7 H3.out.2.2.2.2.2.1 (λk h1 h2=>hst k h2 (by omega))
 have HOw:=owned7_any w6 w1.heap.size c1 a1 os1 hrl6 (by omega)
 have H6:Hid (Pv W w6 q h x y (fc F' w2) (fc G' w3) O.d O.d (.pointer (some ⟨j,0,none⟩)) (.pointer (some ⟨r,0,none⟩))/\ Pjr W w6 q h x y (fc F' w2) (fc G' w3) ⟨O.n,O.k,false⟩ ⟨O.n,O.k,false⟩ j w.heap.size r):=by
  have p6:=H5.out.1.keep hb6.out
  have hW:=H0.out.1.bel.size
  have hjl:=H2.out.2.2.2.1
  have hrl:=H3.out.2.2.2.1
  have hj3:=H3.out.2.1.lt
  have hr3:=H3.out.2.2.1.lt
  have hj2:=H2.out.2.1.lt
  have hhl:=H0.out.1.hl
  refine⟨p6,(hst j hj3 (by omega)).trans H3.out.2.1,(World.cell?_of_block (a:=⟨w.heap.size,0,none⟩) (hst w.heap.size (by omega) (by omega))).trans H3.out.2.2.2.2.2.2.1,H3.out.2.2.1.same (hst r hr3 (by omega)),⟨by omega,λe=>H2.out.2.2.1 e.1,λe=>?_,by omega,by omega⟩,⟨by omega,λe=>?_,λe=>?_,by omega,by omega,by omega⟩,⟨by omega,λe=>by have:=e.2;omega,λe=>H3.out.2.2.2.2.1 e.1,by omega,by omega,by omega,by omega⟩⟩
  ·rcases H3.out.2.2.2.2.2.2.2.2 j e.1 with g|g
   ·have:=(H0.out.1.gl j g).2;omega
   ·omega
  ·rcases H2.out.2.2.2.2.2.2.2.2.2 w.heap.size e.1 with g|g
   ·have:=(H0.out.1.fl _ g).2;omega
   ·omega
  ·rcases H3.out.2.2.2.2.2.2.2.2 w.heap.size e.1 with g|g
   ·have:=(H0.out.1.gl _ g).2;omega
   ·omega
 have HBk:Hid (∀k,(∃p,p < 3+2*os1.length/\ (rlF (.slice a1 os1.length c1) os1 p).v.ownBlock=some k)-> w1.heap.size<= k/\ k < w2.heap.size/\ ¬F' k/\ k≠j):=λk ⟨p,hp,hk⟩=>⟨(H2.out.2.2.2.2.1.lt hp hk).1,(H2.out.2.2.2.2.1.lt hp hk).2,(H2.out.2.2.2.2.2.2.1 p k hp hk).1,(H2.out.2.2.2.2.2.2.1 p k hp hk).2⟩
 clear hrl6 hst
 go_wp2_with (go_at_call 31;refine HOw.mono ?_;rintro e w7 ⟨rfl,hk7⟩;have HK7:Hid (Kd (λk=>∃p,p < 3+2*os1.length/\ (rlF (.slice a1 os1.length c1) os1 p).v.ownBlock=some k) w6 w7):=kps_kd hk7;clear hk7)
 go_ret
 have hW:=H0.out.1.bel.size
 have hhl:=H0.out.1.hl
 refine⟨rfl,O.d,some ⟨O.n,O.k,false⟩,⟨H0.out.2.2.2.2.2.1.up (by omega),h,x,y,_,_,_,_,H6.out.1.law HK7.out (λk e _=>?_),H0.out.2.2.2.2.2.2.2.1 HR.out,j,w.heap.size,r,rfl,rfl,H6.out.2.law HK7.out ⟨λe=>(HBk.out j e).2.2.2 rfl,λe=>?_,λe=>?_⟩ (λk e=>.inl e) (λk e=>.inl e)⟩⟩
 ·obtain⟨b1,b2,b3,b4⟩:=HBk.out k e
  refine⟨by omega,λe2=>b3 e2.1,λe2=>?_,by omega,by omega⟩
  rcases H3.out.2.2.2.2.2.2.2.2 k e2.1 with g|g
  ·have:=(H0.out.1.gl k g).2;omega
  ·omega
 ·have:=(HBk.out _ e).1;omega
 ·have:=(HBk.out _ e).2.1;have:=H3.out.2.2.2.1;omega
theorem opens_no (W w:World) (q m:Nat) (D:Dk) (J:Option Jl) (aD aF aN:Addr) (p:Py W w q m D J) (hS:S0 W aD aF aN) (hE:Et W) (hm:m<= 4194304) (hr:(opX D).r≠0):
 Calls Tryz.prog 9 #[.pointer (some ⟨q,0,none⟩)] w λe w'=>StP W q m e w':=by
 obtain⟨hpk,h,x,y,F,G,pj0,pr0,p0,-⟩:=p
 obtain⟨O,hO⟩:∃O,opX D=O:=⟨_,rfl⟩
 obtain⟨hk1,hk2,hk3⟩:=pk_opn hpk
 rw[hO] at hk1 hk2 hk3 hr
 have hr3:O.r<= 3:=by rw[←hO];exact opX_r D
 have hDk:=dDisk_any w h x p0.hc
 obtain⟨w1,hw1⟩:∃V,w.alloc (.cells #[.pointer (some ⟨x,0,none⟩)] 102)=V:=⟨_,rfl⟩
 rw[hw1] at hDk
 have hb1:Below w.heap.size w w1:=by rw[←hw1];exact(Below.refl _ _).alloc (aqH _) _
 have hs1:w1.heap.size=w.heap.size+1:=by rw[←hw1];simp
 have hd1:w1.cell? ⟨w.heap.size,0,none⟩=some (.pointer (some ⟨x,0,none⟩)):=by
  have:=cell_of_row _ w.heap.size 0 _ _ _ (heap_new6 w (.cells #[.pointer (some ⟨x,0,none⟩)] 102))
  rw[hw1] at this
  exact this
 have p1:=p0.keep hb1
 obtain⟨hs,hT,hnT⟩:=hS.snt p1.bel (λk e=>(p1.fl k e).1)
 have HOp:=open_any w1 w.heap.size x F D (100000+m) aD aF aN p1.dm hpk.ok (by omega) hd1 (λe=>by have:=(p0.fl _ e).2;omega) hs hT hnT
 rw[hO] at HOp
 unfold OpP at HOp
 have c0:w.cell? ⟨q,0,none⟩=some (.pointer (some ⟨h,0,none⟩)):=p0.c 0
 have H0:Hid (Pv W w q h x y F G D D pj0 pr0/\ Pv W w1 q h x y F G D D pj0 pr0/\ S0 W aD aF aN/\ Et W/\ Pk D m/\ Pk O.d m/\ O.r≠3/\ (O.r=0-> Jok O.d ⟨O.n,O.k,false⟩ (m+1))/\ opX D=O/\ w1.cell? ⟨w.heap.size,0,none⟩=some (.pointer (some ⟨x,0,none⟩))/\ w1.heap.size=w.heap.size+1):=⟨p0,p1,hS,hE,hpk,hk1,hk2,hk3,hO,hd1,hs1⟩
 have HR:Hid (O.r≠0/\ O.r<= 3):=⟨hr,hr3⟩
 obtain⟨ae,hae⟩:=evD_some (aD:=aD) (aF:=aF) (aN:=aN) hr
 have HAE:Hid (evJ aD aF aN O.r=.iface 218 (.pointer (some ae))):=by show _=_;rw[evJ_d hr3,hae]
 rw[hae] at HOp
 clear hae
 clear hr hpk hO hk1 hk2 hk3 hb1 hs1 hd1 p0 p1 hs hT hnT hS hE hr3
 go_enter Tryz.func9,Tryz.ntmps9
 go_upto_region 2 with (first
  |(go_at_call 13;refine hDk.mono ?_;rintro e V1 ⟨rfl,hV1⟩;rw[hV1];clear hV1)
  |(go_at_call 12;refine HOp.mono ?_;rintro e w2 ⟨pj,v1,F',rfl,hdm,hF,hkd,hoj⟩
    obtain⟨hpj,hv1⟩:=hoj.no HR.out.1
    subst hpj hv1
    ))
 clear HOp hDk c0 hw1
 have hw2:=hkd.size
 have p2:=H0.out.2.1.prog (F':=fc F' w2) hdm.fc (λk e=>⟨hF k e.1,e.2⟩) hkd (λk e _=>⟨(H0.out.2.1.fl k e).1,H0.out.2.1.fg k e,λe2=>H0.out.2.1.nq.2.1 (e2 ▸ e),λe2=>H0.out.2.1.nh.2.1 (e2 ▸ e)⟩)
 have H2:Hid (Pv W w2 q h x y (fc F' w2) G O.d D pj0 pr0/\ w1.heap.size<= w2.heap.size):=⟨p2,hw2⟩
 have HOr:=eopen_any w2 y G D (100000+m) p2.em H0.out.2.2.2.2.1.ok (by omega)
 rw[H0.out.2.2.2.2.2.2.2.2.1] at HOr
 unfold OkP at HOr
 have c1':w2.cell? ⟨q,1,none⟩=some (.pointer (some ⟨y,0,none⟩)):=p2.c 1
 obtain⟨z,hz⟩:∃z,enE O.r=z:=⟨_,rfl⟩
 have hzn:z≠0:=by rw[←hz];exact enE_0 HR.out.2 HR.out.1
 have HZ:Hid (enE O.r=z):=hz
 rw[hz] at HOr
 have hzb:(z == 0)=false:=by simp[hzn]
 clear hz
 clear hdm hF hkd hoj p2
 go_upto_region 3 with (first
  |(go_at_call 30;refine HOr.mono ?_;rintro e w3 ⟨pr,v2,G',rfl,hem,hG,hkd,hoj⟩
    obtain⟨hpr,hv2⟩:=hoj.no HR.out.1
    subst hpr hv2))
 clear HOr c1'
 have hw3:=hkd.size
 have p3:=H2.out.1.refc (G':=fc G' w3) hem.fc (λk e=>⟨hG k e.1,e.2⟩) hkd (λk e _=>⟨(H2.out.1.gl k e).1,λf=>H2.out.1.fg k f e,λe2=>H2.out.1.nq.2.2 (e2 ▸ e),λe2=>H2.out.1.nh.2.2.1 (e2 ▸ e)⟩)
 have HSM:=same7_eq [] none none 0 0 0 w3 rfl (by omega) (RLin.nil _ _) (RLin.nil _ _) (λr hr=>by simp at hr)
 have H3:Hid (Pv W w3 q h x y (fc F' w2) (fc G' w3) O.d O.d pj0 pr0):=p3
 clear hem hG hkd hoj p3
 go_upto_region 4 with (go_at_call 24;refine HSM.mono ?_;rintro e w4 ⟨rfl,hb4⟩)
 clear HSM
 have p4:=H3.out.keep hb4
 have c2':w4.cell? ⟨q,2,none⟩=some pj0:=p4.c 2
 have c3':w4.cell? ⟨q,3,none⟩=some pr0:=p4.c 3
 have z2':=p4.z 2
 have z3':=p4.z 3
 have H4:Hid (Pv W w4 q h x y (fc F' w2) (fc G' w3) O.d O.d pj0 pr0/\ Below w3.heap.size w3 w4):=⟨p4,hb4⟩
 clear p4 hb4
 go_upto_region 6 with fail
 clear c2' c3' z2' z3'
 obtain⟨w5,hw5⟩:∃V,(w4.setCell ⟨q,2,none⟩ (.pointer none)).setCell ⟨q,3,none⟩ (.pointer none)=V:=⟨_,rfl⟩
 rw[hw5]
 have H5:Hid (Pv W w5 q h x y (fc F' w2) (fc G' w3) O.d O.d (.pointer none) (.pointer none)/\ (∀k,k≠q-> w5.heap[k]?=w4.heap[k]?)/\ w5.heap.size=w4.heap.size):=by
  rw[←hw5]
  exact⟨(H4.out.1.setJ _).setR _,λk hk=>(heap_setCell_other _ _ _ _ hk).trans (heap_setCell_other _ _ _ _ hk),by simp[World.setCell]⟩
 clear hw5
 obtain⟨hs5,-,-⟩:=H0.out.2.2.1.snt H5.out.1.bel (λk e=>(H5.out.1.fl k e).1)
 have HNu:=number_any w5 _ aD aF aN O.r hs5 (H0.out.2.2.2.1.below H5.out.1.bel) H0.out.2.2.2.2.2.2.1
 rw[nm_en H0.out.2.2.2.2.2.2.1,enJ_d HR.out.2,HZ.out,HAE.out] at HNu
 clear hs5
 go_upto_region 8 with (go_at_call 16;refine HNu.mono ?_;rintro e w6 ⟨rfl,hb6⟩)
 clear HNu
 have HOw:Calls Tryz.prog 31 #[.slice none 0 0] w6 λe w'=>e=.returned (.bool true)/\ Kps (λg=>∃p,p < 3+2*([]:List Ro).length/\ (rlF (.slice none 0 0) [] p).v.ownBlock=some g) w6 w':=owned7_any w6 0 0 none [] (Rl.start _ _) (by simp)
 have H6:Hid (Pv W w6 q h x y (fc F' w2) (fc G' w3) O.d O.d (.pointer none) (.pointer none)):=H5.out.1.keep hb6.out
 go_wp2_with (go_at_call 31;refine HOw.mono ?_;rintro e w7 ⟨rfl,hk7⟩;have HK7:Hid (Kd (λg=>∃p,p < 3+2*([]:List Ro).length/\ (rlF (.slice none 0 0) [] p).v.ownBlock=some g) w6 w7):=kps_kd hk7;clear hk7)
 go_ret
 refine⟨rfl,O.d,none,⟨H0.out.2.2.2.2.2.1.up (by omega),h,x,y,_,_,_,_,H6.out.law HK7.out (λk ⟨p,hp,e⟩ _=>?_),rfl,rfl⟩⟩
 have:p=0∨p=1∨p=2:=by simp at hp;omega
 rcases this with rfl|rfl|rfl<;>cases e
end Go.Proofs.YtllhbhogfffedaaGreatDoor.K
