import Derived.Test.YtllhbhogfffedaaGreatDoorRcRd5
import Derived.ArgAppend
import Derived.Maps.AppendAt
import Derived.Test.YtllhbhogfffedaaGreatDoorRcFst
import Derived.Laws.CopyOwn
import Derived.Deep.CutRange
import Derived.Deep.RegionHeld3
set_option maxHeartbeats 8000000
set_option maxRecDepth 100000
namespace Go.Proofs.YtllhbhogfffedaaGreatDoor
open Go.RowKit
set_option linter.unusedVariables false
set_option linter.unusedSimpArgs false
theorem append_s7 {P:Program} (w:World) {ops:Array Oper} {rest:List Oper} {o:Oper} {a:Act} {Q:Exit-> Act-> World-> Prop} (hgd:o.guard=none) (s x:Operand) (ts:TypeId)
 (ho:o.op=.call {callee:=.builtin .append,args:=#[s,x],argTypes:=#[ts,ts]})
 (t:TypeId) (i:TypeInfo) (z:Value) (sz bytes:Nat) (ht:P.underlying ts=some (.slice t)) (hi:P.info? t=some i) (hz:i.zero=some z)
 (hsize:i.size=sz) (hby:i.bytes=bytes) (hzs:z.cells.size=sz) (hsz:0 < sz)
 (v:Value) (n:Nat) (xs:List Value) (hs:a.eval s=v) (hown:w.ownsRow 0 t sz v n xs)
 (ad:Addr) (cc:Nat) (news:List Value) (hx:a.eval x=.slice (some ad) 1 cc) (hnl:news.length=1*sz) (hnews:∀j u,news[j]?=some u-> w.cell? (ad.add j)=some u) (h1c:∀u∈news,u.oneCell'=true)
 (hbytes:(n+1)*bytes<= 140737488355328) (h63:n+1<= maxLen)
 (h:∀v' w',w'.ownsRow 0 t sz v' (n+1) (xs++news)-> w.grownBy w' v.ownBlock-> (v'.ownBlock=v.ownBlock∨∃g,v'.ownBlock=some g/\ w.heap.size<= g)->
  (∀u m ys,w.ownsRow 0 t sz u m ys-> (∀g,u.ownBlock=some g-> v.ownBlock=some g-> ys=xs.take (m*sz)/\ m<= n)-> w'.ownsRow 0 t sz u m ys)-> wpList P ops Q rest (a.put o.dst v') w'):wpList P ops Q (o::rest) a w:=by
 have hgrows:∀(ao:Option Addr) (cap:Nat),v=.slice ao n cap-> (ao=none-> n=0/\ cap=0)-> (∀b,ao=some b-> ∀j u,xs[j]?=some u-> w.cell? (b.add j)=some u)-> cap < n+1-> wpList P ops Q (o::rest) a w:=λao cap hv hnone holds hfull=>by
  refine wpList_append_grows w hgd s x ts ho t i z sz bytes ht hi hz hsize hby hzs hsz ao n cap xs (by rw[hs,hv]) hnone hown.1 holds ad 1 cc news hx hnl hnews h1c hfull h63 hbytes ?_
  intro v' w' ho' hg'
  refine h v' w' ?_ ⟨hg'.os,hg'.tape,hg'.output,hg'.size,λj hj _=>hg'.block j hj (by simp)⟩ (.inr ?_) (λu m ys hu _=>?_)
  ·obtain⟨k1,⟨e,e0⟩|⟨g,cap',cur,e,q⟩⟩:=ho'
   ·exact⟨k1,.inl ⟨e,e0⟩⟩
   ·exact⟨k1,.inr ⟨g,cap',cur,e,Nat.zero_le _,q.2⟩⟩
  ·obtain⟨k1,⟨e,e0⟩|⟨g,cap',cur,rfl,q,_⟩⟩:=ho'
   ·omega
   ·exact⟨g,rfl,q⟩
  ·obtain⟨k1,⟨e,e0⟩|⟨g,cap',cur,e,q1,q2,q3⟩⟩:=hu
   ·exact⟨k1,.inl ⟨e,e0⟩⟩
   ·exact⟨k1,.inr ⟨g,cap',cur,e,q1,(hg'.block g (Array.getElem?_eq_some_iff.mp q2).1 (by simp)).trans q2,q3⟩⟩
 obtain⟨hxl,⟨rfl,h0⟩|⟨g,cap,cur,rfl,hb,hg,e1,e2,e3,e4⟩⟩:=id hown
 ·exact hgrows none 0 (by rw[h0]) (λ_=>⟨h0,rfl⟩) (λb hb=>by cases hb) (by omega)
 ·by_cases hfit:n+1<= cap
  ·refine wpList_append_fits w hgd s x ts ho 0 t i sz ht hi hsize g n cap xs hs hown ad 1 cc news hx hnl hnews h1c hfit ?_
   intro w' ho' hg'
   refine h _ w' ho' hg' (.inl rfl) (λu m ys hu hp=>?_)
   obtain⟨k1,⟨e,f0⟩|⟨g2,cap2,cur2,rfl,f1,f2,f3,f4,f5,f6⟩⟩:=hu
   ·exact⟨k1,.inl ⟨e,f0⟩⟩
   ·by_cases hgg:g2=g
    ·subst hgg
     obtain⟨p1,p2⟩:=hp g2 rfl rfl
     rw[hg] at f2
     simp only[aqG,Obj.cells.injEq] at f2
     obtain⟨f2,_⟩:=f2
     subst f2
     obtain⟨_,⟨x0,_⟩|⟨g3,cap3,cur3,x0,x1,x2,x3,x4,x5,x6⟩⟩:=ho'
     ·cases x0
     ·simp only[Value.slice.injEq,aqG,Addr.mk.injEq,and_true,true_and] at x0
      obtain⟨rfl,rfl⟩:=x0
      refine⟨k1,.inr ⟨g2,cap2,cur3,rfl,Nat.zero_le _,x2,f3,f4,by omega,?_⟩⟩
      have hm1:m*sz<= (n+1)*sz:=Nat.mul_le_mul_right _ (by omega)
      have hm2:m*sz<= n*sz:=Nat.mul_le_mul_right _ p2
      have e7:cur3.toList.take (m*sz)=(cur3.toList.take ((n+1)*sz)).take (m*sz):=by rw[List.take_take,Nat.min_eq_left hm1]
      rw[e7,x6,List.take_append_of_le_length (by omega),p1]
    ·exact⟨k1,.inr ⟨g2,cap2,cur2,rfl,f1,(hg'.block g2 (Array.getElem?_eq_some_iff.mp f2).1 (λe=>hgg (Option.some.inj e))).trans f2,f3,f4,f5,f6⟩⟩
  ·refine hgrows (some ⟨g,0,none⟩) cap rfl (λe=>by cases e) (λb hb j u hj=>?_) (by omega)
   cases hb
   exact World.ownsRow.cells (g:=g) hown rfl j u hj
theorem Tryz.info_bytes7:(Tryz.prog.info? 35).map (λi=>(i.zero,i.size,i.bytes))=some (some (.slice none 0 0),1,24):=by kernel_rfl
theorem Tryz.info_spans7:(Tryz.prog.info? 79).map (λi=>(i.zero,i.size,i.bytes))=some (some (.slice none 0 0),1,24):=by kernel_rfl
def y7 (i:Nat):Int:=1+((i % 250:Nat):Int)
def z7 (i:Nat):Int:=-1 - (i:Int)
theorem u8_wrap7 {z:Int} (h0:0<= z) (h1:z < 256):IntKind.u8.wrap z=z:=by rw[show IntKind.u8.wrap z=z % 256 from rfl];omega
theorem y7_of {n m0:Nat} (h:n % 250=m0):y7 n=1+(m0:Int):=by unfold y7;rw[h]
structure Og (w:World) (R:Nat) (os:Nat-> Ro) (F:Nat-> Rwo):Prop where
 dk:∀i,i < R-> w.ownsRow 0 5 1 (os i).dv (os i).r.data.length ((List.replicate (os i).r.data.length (y7 i)).map (Value.int .u8))
 sk:∀i,i < R-> w.ownsRow 0 128 2 (os i).sv (os i).r.spans.length ((List.replicate (os i).r.spans.length (z7 i,(0:Int))).flatMap C.spc)
 dn:∀i,i < R-> ∀q,q < 3+2*R-> q≠3+2*i-> ∀g,(os i).dv.ownBlock=some g-> (F q).v.ownBlock≠some g
 sn:∀i,i < R-> ∀q,q < 3+2*R-> q≠4+2*i-> ∀g,(os i).sv.ownBlock=some g-> (F q).v.ownBlock≠some g
theorem own_lt0 {w:World} {b n sz:Nat} {e:TypeId} {v:Value} {xs:List Value} (h:w.ownsRow b e sz v n xs):∀g,v.ownBlock=some g-> g < w.heap.size:=λg hg=>(World.ownsRow.lt h g hg).2
theorem Og.keep {w w':World} {R:Nat} {os:Nat-> Ro} {F:Nat-> Rwo} (h:Og w R os F) (hb:Below w.heap.size w w'):Og w' R os F:=
 ⟨λi hi=>own_below6 (h.dk i hi) hb,λi hi=>own_below6 (h.sk i hi) hb,h.dn,h.sn⟩
theorem Og.step {w w':World} {R p:Nat} {os:Nat-> Ro} {F:Nat-> Rwo} (h:Og w R os F) (hp:p < 3+2*R) (x:Rwo) (hg:w.grownBy w' (F p).v.ownBlock) (hf:∀j,x.v.ownBlock=some j-> (F p).v.ownBlock=some j∨w.heap.size<= j)
 (hd:∀i,i < R-> p=3+2*i-> w'.ownsRow 0 5 1 (os i).dv (os i).r.data.length ((List.replicate (os i).r.data.length (y7 i)).map (Value.int .u8)))
 (hs:∀i,i < R-> p=4+2*i-> w'.ownsRow 0 128 2 (os i).sv (os i).r.spans.length ((List.replicate (os i).r.spans.length (z7 i,(0:Int))).flatMap C.spc)):Og w' R os (upF F p x):=by
 refine⟨λi hi=>?_,λi hi=>?_,λi hi q hq hne g hgg=>?_,λi hi q hq hne g hgg=>?_⟩
 ·by_cases e:p=3+2*i
  ·exact hd i hi e
  ·exact own_keep6 (h.dk i hi) hg (λk hk e2=>h.dn i hi p hp e k hk e2)
 ·by_cases e:p=4+2*i
  ·exact hs i hi e
  ·exact own_keep6 (h.sk i hi) hg (λk hk e2=>h.sn i hi p hp e k hk e2)
 ·by_cases e:q=p
  ·subst e
   rw[upF_same]
   intro e2
   rcases hf g e2 with q|q
   ·exact h.dn i hi _ hp hne g hgg q
   ·have:=own_lt0 (h.dk i hi) g hgg;omega
  ·rw[upF_other _ _ e];exact h.dn i hi q hq hne g hgg
 ·by_cases e:q=p
  ·subst e
   rw[upF_same]
   intro e2
   rcases hf g e2 with q|q
   ·exact h.sn i hi _ hp hne g hgg q
   ·have:=own_lt0 (h.sk i hi) g hgg;omega
  ·rw[upF_other _ _ e];exact h.sn i hi q hq hne g hgg
structure Spd7 (S:Nat-> Prop) (w0 w:World) (base R:Nat) (X:Rwo) (os:Nat-> Ro) (n:Nat) (F:Nat-> Rwo):Prop where
 fam:Fam S w0.heap.size w base (3+2*R) F
 f0:F 0=⟨35,1,.slice none 0 0,0,[]⟩
 f1:F 1=⟨79,1,.slice none 0 0,0,[]⟩
 f2:F 2=X
 done:∀i,i < n-> F (3+2*i)=dRow (os i).dv (List.replicate (os i).r.data.length (y7 i))/\ F (4+2*i)=sRow (os i).sv (List.replicate (os i).r.spans.length (z7 i,0))
 left:∀i,n<= i-> i < R-> F (3+2*i)=dRow (os i).dv (os i).r.data/\ F (4+2*i)=sRow (os i).sv (os i).r.spans
 blw:Kps S w0 w
theorem Spd7.step {S:Nat-> Prop} {w0 w w':World} {base R n:Nat} {X:Rwo} {os:Nat-> Ro} {F:Nat-> Rwo} (h:Spd7 S w0 w base R X os n F) (hn:n < R) (hB:base<= w.heap.size)
 (hs:C.SOwn w' base (os n).sv (List.replicate (os n).r.spans.length (z7 n,0))) (hd:DOwn w' base (os n).dv (List.replicate (os n).r.data.length (y7 n))) (ho:OthV (os n).dv.ownBlock (os n).sv.ownBlock w w'):
 ∃F',Spd7 S w0 w' base R X os (n+1) F':=by
 obtain⟨l1,l2⟩:=h.left n (aqH _) hn
 have ho':OthV (F (3+2*n)).v.ownBlock (F (4+2*n)).v.ownBlock w w':=by rw[l1,l2];exact ho
 refine⟨upF (upF F (3+2*n) (dRow (os n).dv (List.replicate (os n).r.data.length (y7 n)))) (4+2*n) (sRow (os n).sv (List.replicate (os n).r.spans.length (z7 n,0))),h.fam.two (by omega) (by omega) (by omega) _ _ ho' hd hs (by rw[l1];rfl) (by rw[l2];rfl),?_,?_,?_,λi hi=>?_,λi hi hi2=>?_,h.fam.below2 (by omega) (by omega) ho' h.blw⟩
 ·rw[upF_other _ _ (by omega),upF_other _ _ (by omega)];exact h.f0
 ·rw[upF_other _ _ (by omega),upF_other _ _ (by omega)];exact h.f1
 ·rw[upF_other _ _ (by omega),upF_other _ _ (by omega)];exact h.f2
 ·by_cases e:i=n
  ·subst e
   exact⟨by rw[upF_other _ _ (by omega),upF_same],by rw[upF_same]⟩
  ·rw[upF_other _ _ (by omega),upF_other _ _ (by omega),upF_other _ _ (by omega),upF_other _ _ (by omega)]
   exact h.done i (by omega)
 ·rw[upF_other _ _ (by omega),upF_other _ _ (by omega),upF_other _ _ (by omega),upF_other _ _ (by omega)]
  exact h.left i (by omega) hi2
structure Grd7 (S:Nat-> Prop) (w0 w:World) (R:Nat) (X:Rwo) (os:Nat-> Ro) (n:Nat) (vd vs:Value) (dl sl:List Value) (F:Nat-> Rwo):Prop where
 fam:Fam S w0.heap.size w 0 (3+2*R) F
 og:Og w R os F
 f0:F 0=⟨35,1,vd,2*n,dl⟩
 f1:F 1=⟨79,1,vs,2*n,sl⟩
 f2:F 2=X
 done:∀i,i < n-> ∃d s,dl[2*i]?=some d/\ sl[2*i]?=some s/\ dl[2*i+1]?=some (os i).dv/\ sl[2*i+1]?=some (os i).sv/\ F (3+2*i)=dRow d (List.replicate ((os i).r.data.length+20) (y7 i))/\ F (4+2*i)=sRow s (List.replicate ((os i).r.spans.length+20) (z7 i,0))
 left:∀i,n<= i-> i < R-> F (3+2*i)=dRow (os i).dv (List.replicate (os i).r.data.length (y7 i))/\ F (4+2*i)=sRow (os i).sv (List.replicate (os i).r.spans.length (z7 i,0))
 blw:Kps S w0 w
theorem Spd7.grd {S:Nat-> Prop} {w0 w:World} {R:Nat} {X:Rwo} {os:Nat-> Ro} {F:Nat-> Rwo} (h:Spd7 S w0 w 0 R X os R F):Grd7 S w0 w R X os 0 (.slice none 0 0) (.slice none 0 0) [] [] F:=by
 refine⟨h.fam,⟨λi hi=>?_,λi hi=>?_,λi hi q hq hne g hgg e=>?_,λi hi q hq hne g hgg e=>?_⟩,h.f0,h.f1,h.f2,λi hi=>by omega,λi _ hi=>h.done i hi,h.blw⟩
 ·have:=h.fam.own (3+2*i) (by omega);rw[(h.done i hi).1] at this;simpa[dRow] using this
 ·have:=h.fam.own (4+2*i) (by omega);rw[(h.done i hi).2] at this;simpa[sRow] using this
 ·exact hne (h.fam.sep q (3+2*i) g hq (by omega) e (by rw[(h.done i hi).1];exact hgg))
 ·exact hne (h.fam.sep q (4+2*i) g hq (by omega) e (by rw[(h.done i hi).2];exact hgg))
structure Gri7 (S:Nat-> Prop) (w0 w:World) (R:Nat) (X:Rwo) (os:Nat-> Ro) (n k:Nat) (vd vs d s:Value) (dl sl:List Value) (F:Nat-> Rwo):Prop where
 fam:Fam S w0.heap.size w 0 (3+2*R) F
 og:Og w R os F
 f0:F 0=⟨35,1,vd,2*n,dl⟩
 f1:F 1=⟨79,1,vs,2*n,sl⟩
 f2:F 2=X
 done:∀i,i < n-> ∃d s,dl[2*i]?=some d/\ sl[2*i]?=some s/\ dl[2*i+1]?=some (os i).dv/\ sl[2*i+1]?=some (os i).sv/\ F (3+2*i)=dRow d (List.replicate ((os i).r.data.length+20) (y7 i))/\ F (4+2*i)=sRow s (List.replicate ((os i).r.spans.length+20) (z7 i,0))
 here:F (3+2*n)=dRow d (List.replicate ((os n).r.data.length+k) (y7 n))/\ F (4+2*n)=sRow s (List.replicate ((os n).r.spans.length+k) (z7 n,0))
 left:∀i,n < i-> i < R-> F (3+2*i)=dRow (os i).dv (List.replicate (os i).r.data.length (y7 i))/\ F (4+2*i)=sRow (os i).sv (List.replicate (os i).r.spans.length (z7 i,0))
 blw:Kps S w0 w
section
variable {S:Nat-> Prop} {w0 w w' w1 w2 w3:World} {R n k:Nat} {X:Rwo} {os:Nat-> Ro} {vd vs d s d' s' vd' vs':Value} {dl sl:List Value} {F:Nat-> Rwo}
theorem Grd7.gri (h:Grd7 S w0 w R X os n vd vs dl sl F) (hn:n < R):Gri7 S w0 w R X os n 0 vd vs (os n).dv (os n).sv dl sl F:=
 ⟨h.fam,h.og,h.f0,h.f1,h.f2,h.done,h.left n (aqH _) hn,λi hi hi2=>h.left i (by omega) hi2,h.blw⟩
theorem Gri7.keep (h:Gri7 S w0 w R X os n k vd vs d s dl sl F) (hb:Below w.heap.size w w'):Gri7 S w0 w' R X os n k vd vs d s dl sl F:=
 ⟨h.fam.keep hb,h.og.keep hb,h.f0,h.f1,h.f2,h.done,h.here,h.left,h.blw.after hb⟩
theorem Gri7.dat (h:Gri7 S w0 w R X os n k vd vs d s dl sl F) (hn:n < R):w.ownsRow 0 5 1 d ((os n).r.data.length+k) ((List.replicate ((os n).r.data.length+k) (y7 n)).map (Value.int .u8)):=by
 have:=h.fam.own (3+2*n) (by omega)
 rw[h.here.1] at this
 simpa[dRow] using this
theorem Gri7.spn (h:Gri7 S w0 w R X os n k vd vs d s dl sl F) (hn:n < R):w.ownsRow 0 128 2 s ((os n).r.spans.length+k) ((List.replicate ((os n).r.spans.length+k) (z7 n,(0:Int))).flatMap C.spc):=by
 have:=h.fam.own (4+2*n) (by omega)
 rw[h.here.2] at this
 simpa[sRow] using this
theorem Gri7.sep (h:Gri7 S w0 w R X os n k vd vs d s dl sl F) (hn:n < R):∀j,s.ownBlock=some j-> d.ownBlock≠some j:=λj h1 h2=>by
 have:=h.fam.sep (4+2*n) (3+2*n) j (by omega) (by omega) (by rw[h.here.2];exact h1) (by rw[h.here.1];exact h2)
 omega
theorem Gri7.sep2 (h:Gri7 S w0 w R X os n k vd vs d s dl sl F):∀j,vs.ownBlock=some j-> vd.ownBlock≠some j:=λj h1 h2=>by
 have:=h.fam.sep 1 0 j (by omega) (by omega) (by rw[h.f1];exact h1) (by rw[h.f0];exact h2)
 omega
theorem Gri7.rows (h:Gri7 S w0 w R X os n k vd vs d s dl sl F):w.ownsRow 0 35 1 vd (2*n) dl/\ w.ownsRow 0 79 1 vs (2*n) sl:=by
 have h0:=h.fam.own 0 (by omega)
 have h1:=h.fam.own 1 (by omega)
 rw[h.f0] at h0;rw[h.f1] at h1
 exact⟨h0,h1⟩
theorem rep_spc (m:Nat) (p:Int×Int):∀q,((List.replicate (m+q) p).flatMap C.spc).take (m*2)=(List.replicate m p).flatMap C.spc:=λq=>by
 rw[←List.replicate_append_replicate,List.flatMap_append,List.take_append_of_le_length (by simp[C.spc]),List.take_of_length_le (by simp[C.spc])]
theorem Gri7.stepD (h:Gri7 S w0 w R X os n k vd vs d s dl sl F) (hn:n < R)
 (o1:w1.ownsRow 0 5 1 d' ((os n).r.data.length+k+1) ((List.replicate ((os n).r.data.length+k) (y7 n)).map (Value.int .u8)++[Value.int .u8 (y7 n)])) (g1:w.grownBy w1 d.ownBlock) (t1:d'.ownBlock=d.ownBlock∨∃g,d'.ownBlock=some g/\ w.heap.size<= g)
 (q1:∀u m ys,w.ownsRow 0 5 1 u m ys-> (∀g,u.ownBlock=some g-> d.ownBlock=some g-> ys=((List.replicate ((os n).r.data.length+k) (y7 n)).map (Value.int .u8)).take (m*1)/\ m<= (os n).r.data.length+k)-> w1.ownsRow 0 5 1 u m ys):
 ∃F',(Fam S w0.heap.size w1 0 (3+2*R) F'/\ Og w1 R os F'/\ Kps S w0 w1)/\ F' (3+2*n)=dRow d' (List.replicate ((os n).r.data.length+(k+1)) (y7 n))/\ ∀q,q≠3+2*n-> F' q=F q:=by
 have e1:(F (3+2*n)).v=d:=by rw[h.here.1];rfl
 have e2:dRow d' (List.replicate ((os n).r.data.length+(k+1)) (y7 n))=⟨5,1,d',(os n).r.data.length+k+1,(List.replicate ((os n).r.data.length+k) (y7 n)).map (Value.int .u8)++[Value.int .u8 (y7 n)]⟩:=by
  unfold dRow;rw[←Nat.add_assoc,List.replicate_succ'];simp
 have hf:∀j,(dRow d' (List.replicate ((os n).r.data.length+(k+1)) (y7 n))).v.ownBlock=some j-> (F (3+2*n)).v.ownBlock=some j∨w.heap.size<= j:=λj hj=>by
  rw[e1]
  rcases t1 with t|⟨g,t,t'⟩
  ·exact .inl (t ▸ hj)
  ·right;rw[show d'.ownBlock=some j from hj] at t;simp at t;omega
 refine⟨upF F (3+2*n) (dRow d' (List.replicate ((os n).r.data.length+(k+1)) (y7 n))),⟨h.fam.step h.blw.size (by omega) _ (by rw[e1];exact g1) (by rw[e2];exact o1) hf,h.og.step (by omega) _ (by rw[e1];exact g1) hf (λi hi e=>?_) (λi hi e=>by omega),h.fam.below (p:=3+2*n) (by omega) (by rw[e1];exact g1) h.blw⟩,upF_same _ _ _,λq hq=>upF_other _ _ hq⟩
 obtain rfl:i=n:=by omega
 refine q1 _ _ _ (h.og.dk i hi) (λg _ _=>⟨?_,by omega⟩)
 rw[←List.map_take,Nat.mul_one,List.take_replicate,Nat.min_eq_left (by omega)]
theorem Gri7.stepS (h:Gri7 S w0 w R X os n k vd vs d s dl sl F) (hn:n < R)
 (o1:w1.ownsRow 0 5 1 d' ((os n).r.data.length+k+1) ((List.replicate ((os n).r.data.length+k) (y7 n)).map (Value.int .u8)++[Value.int .u8 (y7 n)])) (g1:w.grownBy w1 d.ownBlock) (t1:d'.ownBlock=d.ownBlock∨∃g,d'.ownBlock=some g/\ w.heap.size<= g)
 (q1:∀u m ys,w.ownsRow 0 5 1 u m ys-> (∀g,u.ownBlock=some g-> d.ownBlock=some g-> ys=((List.replicate ((os n).r.data.length+k) (y7 n)).map (Value.int .u8)).take (m*1)/\ m<= (os n).r.data.length+k)-> w1.ownsRow 0 5 1 u m ys)
 (hb:Below w1.heap.size w1 w2)
 (o2:w3.ownsRow 0 128 2 s' ((os n).r.spans.length+k+1) ((List.replicate ((os n).r.spans.length+k) (z7 n,(0:Int))).flatMap C.spc++[Value.int .i64 (z7 n),Value.int .i64 0])) (g2:w2.grownBy w3 s.ownBlock) (t2:s'.ownBlock=s.ownBlock∨∃g,s'.ownBlock=some g/\ w2.heap.size<= g)
 (q2:∀u m ys,w2.ownsRow 0 128 2 u m ys-> (∀g,u.ownBlock=some g-> s.ownBlock=some g-> ys=((List.replicate ((os n).r.spans.length+k) (z7 n,(0:Int))).flatMap C.spc).take (m*2)/\ m<= (os n).r.spans.length+k)-> w3.ownsRow 0 128 2 u m ys):
 ∃F',Gri7 S w0 w3 R X os n (k+1) vd vs d' s' dl sl F':=by
 obtain⟨F1,⟨a1,a2,a3⟩,a4,a5⟩:=h.stepD hn o1 g1 t1 q1
 have b1:=a1.keep hb
 have b2:=a2.keep hb
 have b3:=a3.after hb
 have e1:(F1 (4+2*n)).v=s:=by rw[a5 _ (by omega),h.here.2];rfl
 have e2:sRow s' (List.replicate ((os n).r.spans.length+(k+1)) (z7 n,0))=⟨128,2,s',(os n).r.spans.length+k+1,(List.replicate ((os n).r.spans.length+k) (z7 n,(0:Int))).flatMap C.spc++[Value.int .i64 (z7 n),Value.int .i64 0]⟩:=by
  unfold sRow;rw[←Nat.add_assoc,List.replicate_succ'];simp[C.spc]
 have hf:∀j,(sRow s' (List.replicate ((os n).r.spans.length+(k+1)) (z7 n,0))).v.ownBlock=some j-> (F1 (4+2*n)).v.ownBlock=some j∨w2.heap.size<= j:=λj hj=>by
  rw[e1]
  rcases t2 with t|⟨g,t,t'⟩
  ·exact .inl (t ▸ hj)
  ·right;rw[show s'.ownBlock=some j from hj] at t;simp at t;omega
 have F3:=b1.step b3.size (p:=4+2*n) (by omega) (sRow s' (List.replicate ((os n).r.spans.length+(k+1)) (z7 n,0))) (by rw[e1];exact g2) (by rw[e2];exact o2) hf
 have O3:=b2.step (p:=4+2*n) (by omega) (sRow s' (List.replicate ((os n).r.spans.length+(k+1)) (z7 n,0))) (by rw[e1];exact g2) hf (λi hi e=>by omega) (λi hi e=>by
  obtain rfl:i=n:=by omega
  exact q2 _ _ _ (b2.sk i hi) (λg _ _=>⟨(rep_spc _ _ k).symm,by omega⟩))
 have B3:=b1.below (p:=4+2*n) (by omega) (by rw[e1];exact g2) b3
 refine⟨_,F3,O3,?_,?_,?_,λi hi=>?_,⟨?_,?_⟩,λi hi hi2=>?_,B3⟩
 ·rw[upF_other _ _ (by omega),a5 _ (by omega)];exact h.f0
 ·rw[upF_other _ _ (by omega),a5 _ (by omega)];exact h.f1
 ·rw[upF_other _ _ (by omega),a5 _ (by omega)];exact h.f2
 ·rw[upF_other _ _ (by omega),upF_other _ _ (by omega),a5 _ (by omega),a5 _ (by omega)];exact h.done i hi
 ·rw[upF_other _ _ (by omega)];exact a4
 ·rw[upF_same]
 ·rw[upF_other _ _ (by omega),upF_other _ _ (by omega),a5 _ (by omega),a5 _ (by omega)];exact h.left i hi hi2
theorem Gri7.lay (h:Gri7 S w0 w R X os n 20 vd vs d s dl sl F) (hn:n < R)
 (o1:w1.ownsRow 0 35 1 vd' (2*n+2) (dl++[d,(os n).dv])) (g1:w.grownBy w1 vd.ownBlock) (t1:vd'.ownBlock=vd.ownBlock∨vd'.ownBlock=some w.heap.size)
 (hb:Below w1.heap.size w1 w2)
 (o2:w3.ownsRow 0 79 1 vs' (2*n+2) (sl++[s,(os n).sv])) (g2:w2.grownBy w3 vs.ownBlock) (t2:vs'.ownBlock=vs.ownBlock∨vs'.ownBlock=some w2.heap.size):
 ∃F',Grd7 S w0 w3 R X os (n+1) vd' vs' (dl++[d,(os n).dv]) (sl++[s,(os n).sv]) F':=by
 have e1:(F 0).v=vd:=by rw[h.f0]
 have e2:(F 1).v=vs:=by rw[h.f1]
 have hl1:dl.length=2*n:=by have:=(h.fam.own 0 (by omega)).1;rw[h.f0] at this;simpa using this
 have hl2:sl.length=2*n:=by have:=(h.fam.own 1 (by omega)).1;rw[h.f1] at this;simpa using this
 have hf1:∀j,(⟨35,1,vd',2*(n+1),dl++[d,(os n).dv]⟩:Rwo).v.ownBlock=some j-> (F 0).v.ownBlock=some j∨w.heap.size<= j:=λj hj=>by
  rw[e1]
  rcases t1 with t|t
  ·exact .inl (t ▸ hj)
  ·right;rw[show vd'.ownBlock=some j from hj] at t;simp at t;omega
 have F1:=h.fam.step h.blw.size (p:=0) (by omega) ⟨35,1,vd',2*(n+1),dl++[d,(os n).dv]⟩ (by rw[e1];exact g1) o1 hf1
 have O1:=h.og.step (p:=0) (by omega) ⟨35,1,vd',2*(n+1),dl++[d,(os n).dv]⟩ (by rw[e1];exact g1) hf1 (λi hi e=>by omega) (λi hi e=>by omega)
 have B1:=h.fam.below (p:=0) (by omega) (by rw[e1];exact g1) h.blw
 have F2:=F1.keep hb
 have O2:=O1.keep hb
 have e3:(upF F 0 ⟨35,1,vd',2*(n+1),dl++[d,(os n).dv]⟩ 1).v=vs:=by rw[upF_other _ _ (by omega)];exact e2
 have hf2:∀j,(⟨79,1,vs',2*(n+1),sl++[s,(os n).sv]⟩:Rwo).v.ownBlock=some j-> (upF F 0 ⟨35,1,vd',2*(n+1),dl++[d,(os n).dv]⟩ 1).v.ownBlock=some j∨w2.heap.size<= j:=λj hj=>by
  rw[e3]
  rcases t2 with t|t
  ·exact .inl (t ▸ hj)
  ·right;rw[show vs'.ownBlock=some j from hj] at t;simp at t;omega
 have F3:=F2.step (B1.after hb).size (p:=1) (by omega) ⟨79,1,vs',2*(n+1),sl++[s,(os n).sv]⟩ (by rw[e3];exact g2) o2 hf2
 have O3:=O2.step (p:=1) (by omega) ⟨79,1,vs',2*(n+1),sl++[s,(os n).sv]⟩ (by rw[e3];exact g2) hf2 (λi hi e=>by omega) (λi hi e=>by omega)
 have B3:=F2.below (p:=1) (by omega) (by rw[e3];exact g2) (B1.after hb)
 refine⟨_,F3,O3,?_,?_,?_,λi hi=>?_,λi hi hi2=>?_,B3⟩
 ·rw[upF_other _ _ (by omega),upF_same]
 ·rw[upF_same]
 ·rw[upF_other _ _ (by omega),upF_other _ _ (by omega)];exact h.f2
 ·rw[upF_other _ _ (by omega),upF_other _ _ (by omega),upF_other _ _ (by omega),upF_other _ _ (by omega)]
  by_cases e:i=n
  ·subst e
   refine⟨d,s,?_,?_,?_,?_,h.here⟩
   ·rw[List.getElem?_append_right (by omega),hl1,Nat.sub_self];rfl
   ·rw[List.getElem?_append_right (by omega),hl2,Nat.sub_self];rfl
   ·rw[List.getElem?_append_right (by omega),hl1,show 2*i+1 - 2*i=1 by omega];rfl
   ·rw[List.getElem?_append_right (by omega),hl2,show 2*i+1 - 2*i=1 by omega];rfl
  ·obtain⟨a,b,h1,h2,h3,h4,h5⟩:=h.done i (by omega)
   exact⟨a,b,by rw[List.getElem?_append_left (by omega)];exact h1,by rw[List.getElem?_append_left (by omega)];exact h2,by rw[List.getElem?_append_left (by omega)];exact h3,by rw[List.getElem?_append_left (by omega)];exact h4,h5⟩
 ·rw[upF_other _ _ (by omega),upF_other _ _ (by omega),upF_other _ _ (by omega),upF_other _ _ (by omega)];exact h.left i (by omega) hi2
end
def MkD (w:World) (a:Option Addr) (n:Nat) (y:Int):Prop:=∀k,k < n-> ∃g,a=some ⟨g,0,none⟩/\ w.cell? ⟨g,k,none⟩=some (.int .u8 y)
def MkS (w:World) (a:Option Addr) (n:Nat) (z:Int):Prop:=∀k,k < n-> ∃g,a=some ⟨g,0,none⟩/\ w.cell? ⟨g,k*2,none⟩=some (.int .i64 z)/\ w.cell? ⟨g,k*2+1,none⟩=some (.int .i64 0)
theorem mkD_of {w:World} {v:Value} {n:Nat} {y:Int} (h:w.ownsRow 0 5 1 v n ((List.replicate n y).map (Value.int .u8))):∃a c,v=.slice a n c/\ MkD w a n y:=by
 obtain⟨a,c,rfl⟩:=C.own_shape h
 refine⟨a,c,rfl,λk hk=>?_⟩
 obtain⟨g,cap,hv⟩:=C.own_some h (by omega)
 simp only[Value.slice.injEq] at hv
 obtain⟨rfl,_,rfl⟩:=hv
 refine⟨g,rfl,(World.ownsRow.cellAt h k (by omega)).trans ?_⟩
 rw[List.getElem?_map,List.getElem?_replicate,if_pos hk];rfl
theorem mkS_of {w:World} {v:Value} {n:Nat} {z:Int} (h:w.ownsRow 0 128 2 v n ((List.replicate n (z,(0:Int))).flatMap C.spc)):∃a c,v=.slice a n c/\ MkS w a n z:=by
 obtain⟨a,c,rfl⟩:=C.own_shape h
 refine⟨a,c,rfl,λk hk=>?_⟩
 obtain⟨g,cap,hv⟩:=C.own_some h (by omega)
 simp only[Value.slice.injEq] at hv
 obtain⟨rfl,_,rfl⟩:=hv
 have h':C.SOwn w 0 (.slice (some ⟨g,0,none⟩) n c) (List.replicate n (z,(0:Int))):=by unfold C.SOwn;rw[List.length_replicate];exact h
 obtain⟨q1,q2,_⟩:=h'.cells (k:=k) (p:=(z,0)) (by rw[List.getElem?_replicate,if_pos hk])
 exact⟨g,rfl,q1,q2⟩
theorem Grd7.read {S:Nat-> Prop} {w0 w:World} {R:Nat} {X:Rwo} {os:Nat-> Ro} {vd vs:Value} {dl sl:List Value} {F:Nat-> Rwo} (h:Grd7 S w0 w R X os R vd vs dl sl F) (hm:∀i,i < R-> (os i).r.data.length<= 65536/\ (os i).r.spans.length<= 65536) (q:Nat) (hq:q < 2*R):
 ∃gD cD gS cS a1 n1 c1 a2 n2 c2,vd=.slice (some ⟨gD,0,none⟩) (2*R) cD/\ vs=.slice (some ⟨gS,0,none⟩) (2*R) cS/\ w.cell? ⟨gD,q,none⟩=some (.slice a1 n1 c1)/\ w.cell? ⟨gS,q,none⟩=some (.slice a2 n2 c2)/\ MkD w a1 n1 (y7 (q / 2))/\ MkS w a2 n2 (z7 (q / 2))/\ n1<= 65556/\ n2<= 65556:=by
 have h0:=h.fam.own 0 (by omega)
 have h1:=h.fam.own 1 (by omega)
 rw[h.f0] at h0;rw[h.f1] at h1
 simp only at h0 h1
 obtain⟨d,s,q1,q2,q3,q4,q5,q6⟩:=h.done (q / 2) (by omega)
 have h2:=h.fam.own (3+2*(q / 2)) (by omega)
 have h3:=h.fam.own (4+2*(q / 2)) (by omega)
 rw[q5] at h2;rw[q6] at h3
 have h2':w.ownsRow 0 5 1 d ((os (q / 2)).r.data.length+20) ((List.replicate ((os (q / 2)).r.data.length+20) (y7 (q / 2))).map (Value.int .u8)):=by simpa[dRow] using h2
 have h3':w.ownsRow 0 128 2 s ((os (q / 2)).r.spans.length+20) ((List.replicate ((os (q / 2)).r.spans.length+20) (z7 (q / 2),(0:Int))).flatMap C.spc):=by simpa[sRow] using h3
 obtain⟨m1,m2⟩:=hm (q / 2) (by omega)
 obtain⟨gD,cD,rfl⟩:=C.own_some h0 (by omega)
 obtain⟨gS,cS,rfl⟩:=C.own_some h1 (by omega)
 by_cases he:q=2*(q / 2)
 ·obtain⟨a1,c1,rfl,k1⟩:=mkD_of h2'
  obtain⟨a2,c2,rfl,k2⟩:=mkS_of h3'
  exact⟨gD,cD,gS,cS,a1,_,c1,a2,_,c2,rfl,rfl,(h0.cellAt q (by omega)).trans (by rw[←he] at q1;exact q1),(h1.cellAt q (by omega)).trans (by rw[←he] at q2;exact q2),k1,k2,by omega,by omega⟩
 ·obtain⟨a1,c1,e1,k1⟩:=mkD_of (h.og.dk (q / 2) (by omega))
  obtain⟨a2,c2,e2,k2⟩:=mkS_of (h.og.sk (q / 2) (by omega))
  have he2:q=2*(q / 2)+1:=by omega
  exact⟨gD,cD,gS,cS,a1,_,c1,a2,_,c2,rfl,rfl,(h0.cellAt q (by omega)).trans (by rw[←he2] at q3;rw[q3,e1]),(h1.cellAt q (by omega)).trans (by rw[←he2] at q4;rw[q4,e2]),k1,k2,by omega,by omega⟩
theorem cells_two_new (W:World) (u v:Value) (T:TypeId):∀j x,[u,v][j]?=some x-> (W.alloc (.cells #[u,v] T)).cell? ((⟨W.heap.size,0,none⟩:Addr).add j)=some x:=by
 intro j x hj
 have h0:=cell_of_row _ W.heap.size j _ _ _ (heap_new6 W (.cells #[u,v] T))
 rw[show (⟨W.heap.size,0,none⟩:Addr).add j=⟨W.heap.size,j,none⟩ from by unfold Addr.add;split<;>simp_all,h0]
 match j,hj with
 |0,hj=>simpa using hj
 |1,hj=>simpa using hj
theorem owned7_all (S:Nat-> Prop) (w:World) (R rc:Nat) (ra:Option Addr) (os:Nat-> Ro) (cs:List Value) (F:Nat-> Rwo) (h:Spd7 S w w 0 R ⟨81,11,.slice ra R rc,R,cs⟩ os 0 F) (hR:R<= 1099511627776)
 (hm:∀i,i < R-> (os i).r.data.length<= 65536/\ (os i).r.spans.length<= 65536)
 (hc:∀i,i < R-> ∀j u,(rcC (os i).r (os i).sv (os i).dv)[j]?=some u-> cs[i*11+j]?=some u):
 Calls Tryz.prog 31 #[.slice ra R rc] w λe w'=>e=.returned (.bool true)/\ Kps S w w':=by
 obtain⟨i0,hi0,hz0,hy0,hb0⟩:=info_parts Tryz.info_u8
 obtain⟨i1,hi1,hz1,hy1,hb1⟩:=info_parts C.Tryz.info_span
 obtain⟨i2,hi2,hz2,hy2,hb2⟩:=info_parts Tryz.info_bytes7
 obtain⟨i3,hi3,hz3,hy3,hb3⟩:=info_parts Tryz.info_spans7
 have H0:Hid (∃F,Spd7 S w w 0 R ⟨81,11,.slice ra R rc,R,cs⟩ os 0 F):=⟨F,h⟩
 have HM:Hid (∀i,i < R-> (os i).r.data.length<= 65536/\ (os i).r.spans.length<= 65536):=hm
 have HC:Hid (∀i,i < R-> ∀j u,(rcC (os i).r (os i).sv (os i).dv)[j]?=some u-> cs[i*11+j]?=some u):=hc
 clear h hm hc
 go_enter Tryz.func31,Tryz.ntmps31
 go_wp2
 go_loopw [3] (λi wr=>∃n:Nat,n<= R/\ i=.int .i64 n/\ ∃F,Spd7 S w wr 0 R ⟨81,11,.slice ra R rc,R,cs⟩ os n F) (λi _=>R - (intOf i).toNat)
 case atStart=>exact⟨0,Nat.zero_le _,rfl,H0.out⟩
 case round=>
  obtain⟨n,hn,rfl,F,hsp⟩:=hrel
  have HS:Hid (Spd7 S w wr 0 R ⟨81,11,.slice ra R rc,R,cs⟩ os n F):=hsp
  by_cases hlt:n < R
  ·have hlt':(n:Int) < (R:Int):=by omega
   have hrow:=hsp.fam.own 2 (by omega)
   rw[hsp.f2] at hrow
   obtain⟨g,rfl,hce⟩:=list_cells hrow HC.out n hlt
   obtain⟨l1,l2⟩:=hsp.left n (aqH _) hlt
   obtain⟨m1,m2⟩:=HM.out n hlt
   obtain⟨m0,hm0⟩:∃m0,n % 250=m0:=⟨_,rfl⟩
   have hm0l:m0 < 250:=by omega
   have hdv:(n:Int).tmod 250=(m0:Int):=by rw[←hm0];rfl
   have hx1:IntKind.i64.wrap (1+(m0:Int))=1+(m0:Int):=by rw[IntKind.wrap_i64];omega
   have hx2:IntKind.u8.wrap (1+(m0:Int))=1+(m0:Int):=u8_wrap7 (by omega) (by omega)
   have HY:Hid (y7 n=1+(m0:Int)):=y7_of hm0
   have hx3:IntKind.i64.wrap (-1 - (n:Int))=-1 - (n:Int):=by rw[IntKind.wrap_i64];omega
   have HSo:Hid (C.SOwn wr 0 (os n).sv (os n).r.spans):=by
    have:=hsp.fam.own (4+2*n) (by omega);rw[l2] at this;exact this
   have HDo:Hid (DOwn wr 0 (os n).dv (os n).r.data):=by
    have:=hsp.fam.own (3+2*n) (by omega);rw[l1] at this;exact this
   have HNE:Hid (∀j,(os n).sv.ownBlock=some j-> (os n).dv.ownBlock≠some j):=λj h1 h2=>by
    have:=hsp.fam.sep (4+2*n) (3+2*n) j (by omega) (by omega) (by rw[l2];exact h1) (by rw[l1];exact h2)
    omega
   have HG:Hid ((∀j,(os n).dv.ownBlock=some j-> j≠g)/\ (∀j,(os n).sv.ownBlock=some j-> j≠g)/\ g < wr.heap.size):=by
    refine⟨λj hj e=>?_,λj hj e=>?_,(World.ownsRow.lt hrow g rfl).2⟩
    ·have:=hsp.fam.sep 2 (3+2*n) g (by omega) (by omega) (by rw[hsp.f2];rfl) (by rw[l1,←e];exact hj);omega
    ·have:=hsp.fam.sep 2 (4+2*n) g (by omega) (by omega) (by rw[hsp.f2];rfl) (by rw[l2,←e];exact hj);omega
   have c9:=hce 10 (os n).dv rfl
   have c8:=hce 9 (os n).sv rfl
   obtain⟨nd,hnd⟩:∃nd,(os n).r.data.length=nd:=⟨_,rfl⟩
   obtain⟨ns,hns⟩:∃ns,(os n).r.spans.length=ns:=⟨_,rfl⟩
   have HND:Hid ((os n).r.data.length=nd/\ (os n).r.spans.length=ns):=⟨hnd,hns⟩
   obtain⟨da,dc,hdv2⟩:∃a c,(os n).dv=.slice a nd c:=⟨(os n).da,(os n).dc,by rw[←hnd]⟩
   obtain⟨sa,sc,hsv2⟩:∃a c,(os n).sv=.slice a ns c:=⟨(os n).sa,(os n).sc,by rw[←hns]⟩
   have HDV:Hid ((os n).dv=.slice da nd dc/\ (os n).sv=.slice sa ns sc):=⟨hdv2,hsv2⟩
   rw[hdv2] at c9
   rw[hsv2] at c8
   rw[hnd] at m1
   rw[hns] at m2
   rw[hdv2] at HDo HNE HG
   rw[hsv2] at HSo HNE HG
   have HC9:Hid (wr.cell? ⟨g,n*11+10,none⟩=some (.slice da nd dc)/\ wr.cell? ⟨g,n*11+9,none⟩=some (.slice sa ns sc)):=⟨c9,c8⟩
   clear hrow hce hsp l1 l2 hm0 c8 c9 hdv2 hsv2 hnd hns
   obtain⟨zs,hzs⟩:∃zs,(os n).r.data=zs:=⟨_,rfl⟩
   obtain⟨sp,hspp⟩:∃l,(os n).r.spans=l:=⟨_,rfl⟩
   have HZL:Hid (zs.length=nd/\ sp.length=ns):=by rw[←hzs,←hspp];exact HND.out
   rw[hzs] at HDo
   rw[hspp] at HSo
   clear hzs hspp
   obtain⟨w1,hw1⟩:∃V,wr=V:=⟨_,rfl⟩
   rw[hw1] at HSo HDo HG HC9 HS ⊢
   clear hw1
   go_wp2
   go_loopw [4] (λi wr=>∃k:Nat,k<= nd/\ i=.int .i64 k/\ DOwn wr 0 (.slice da nd dc) (List.replicate k (1+(m0:Int))++zs.drop k)/\ w1.grownBy wr (Value.slice da nd dc).ownBlock) (λi _=>nd - (intOf i).toNat)
   case atStart=>exact⟨0,Nat.zero_le _,rfl,by simpa using HDo.out,World.grownBy.refl _ _⟩
   case round=>
    obtain⟨k,hk,rfl,hbk,hgr⟩:=hrel
    have HGr:Hid (w1.grownBy wr (Value.slice da nd dc).ownBlock):=hgr
    have c9:wr.cell? ⟨g,n*11+10,none⟩=some (.slice da nd dc):=(World.cell?_of_block (a:=⟨g,n*11+10,none⟩) (hgr.block g HG.out.2.2 (λe=>HG.out.1 g e.symm rfl))).trans HC9.out.1
    have c8:wr.cell? ⟨g,n*11+9,none⟩=some (.slice sa ns sc):=(World.cell?_of_block (a:=⟨g,n*11+9,none⟩) (hgr.block g HG.out.2.2 (λe=>HG.out.1 g e.symm rfl))).trans HC9.out.2
    have hkw:IntKind.i64.wrap ((k:Int)+1)=(k:Int)+1:=by rw[IntKind.wrap_i64];omega
    clear hgr
    by_cases hkt:k < nd
    ·have hkt':(k:Int) < (nd:Int):=by omega
     have hk2:k < zs.length:=by rw[HZL.out.1];omega
     obtain⟨gd,cap,hv⟩:=C.own_some hbk (by rw[rep_len _ _ _ (by omega)];omega)
     simp only[Value.slice.injEq] at hv
     obtain⟨rfl,_,rfl⟩:=hv
     obtain⟨p,hp⟩:=C.get_some zs k hk2
     obtain⟨q1,q2⟩:=hbk.cells (k:=k) ((rep_at zs k (1+(m0:Int))).trans hp)
     have hst:=hbk.put k (1+(m0:Int))
     rw[rep_set zs k (1+(m0:Int)) hk2] at hst
     have HS2:Hid (DOwn (wr.setCell ⟨gd,k,none⟩ (.int .u8 (1+(m0:Int)))) 0 (.slice (some ⟨gd,0,none⟩) nd dc) (List.replicate (k+1) (1+(m0:Int))++zs.drop (k+1))):=hst
     have HG2:Hid (w1.grownBy (wr.setCell ⟨gd,k,none⟩ (.int .u8 (1+(m0:Int)))) (Value.slice (some ⟨gd,0,none⟩) nd dc).ownBlock):=C.grown_trans HGr.out (grown_set _ _ _ _)
     clear hst hbk HGr hp c8
     go_wp2
     exact⟨⟨k+1,by omega,by simp,HS2.out,HG2.out⟩,by simp[intOf];omega⟩
    ·obtain rfl:k=nd:=by omega
     have hkz:¬(k:Int) < (k:Int):=by omega
     have HDE:Hid (DOwn wr 0 (.slice da k dc) (List.replicate k (1+(m0:Int)))):=by
      unfold Hid
      have e:=HZL.out.1
      subst e
      rw[rep_all] at hbk
      exact hbk
     have HSE:Hid (C.SOwn wr 0 (.slice sa ns sc) sp):=own_keep6 HSo.out HGr.out (λj hj=>HNE.out j hj)
     clear hbk HSo HDo
     obtain⟨w3,hw3⟩:∃V,wr=V:=⟨_,rfl⟩
     rw[hw3] at HDE HSE HGr c8 c9 ⊢
     clear hw3
     have HC8:Hid (w3.cell? ⟨g,n*11+9,none⟩=some (.slice sa ns sc)):=c8
     go_wp2
     clear c8 c9
     go_loopw [5] (λi wr=>∃m:Nat,m<= ns/\ i=.int .i64 m/\ C.SOwn wr 0 (.slice sa ns sc) (List.replicate m ((-1 - (n:Int),0):Int×Int)++sp.drop m)/\ w3.grownBy wr (Value.slice sa ns sc).ownBlock) (λi _=>ns - (intOf i).toNat)
     case atStart=>exact⟨0,Nat.zero_le _,rfl,by simpa using HSE.out,World.grownBy.refl _ _⟩
     case round=>
      obtain⟨m,hm,rfl,hso,hgr⟩:=hrel
      have HG3:Hid (w3.grownBy wr (Value.slice sa ns sc).ownBlock):=hgr
      have c8:wr.cell? ⟨g,n*11+9,none⟩=some (.slice sa ns sc):=(World.cell?_of_block (a:=⟨g,n*11+9,none⟩) (hgr.block g (Nat.lt_of_lt_of_le HG.out.2.2 HGr.out.size) (λe=>HG.out.2.1 g e.symm rfl))).trans HC8.out
      have hmw:IntKind.i64.wrap ((m:Int)+1)=(m:Int)+1:=by rw[IntKind.wrap_i64];omega
      clear hgr
      by_cases hmt:m < ns
      ·have hmt':(m:Int) < (ns:Int):=by omega
       have hm2:m < sp.length:=by rw[HZL.out.2];omega
       obtain⟨gs,cap,hv⟩:=C.own_some hso (by rw[rep_len _ _ _ (by omega)];omega)
       simp only[Value.slice.injEq] at hv
       obtain⟨rfl,_,rfl⟩:=hv
       obtain⟨p,hp⟩:=C.get_some sp m hm2
       obtain⟨q1,q2,q3,q4⟩:=hso.cells ((rep_at sp m (-1 - (n:Int),0)).trans hp)
       have h2:=hso.put (k:=m) (-1 - (n:Int)) 0
       rw[rep_set sp m (-1 - (n:Int),0) hm2] at h2
       have HS2:Hid (C.SOwn ((wr.setCell ⟨gs,m*2,none⟩ (.int .i64 (-1 - (n:Int)))).setCell ⟨gs,m*2+1,none⟩ (.int .i64 0)) 0 (.slice (some ⟨gs,0,none⟩) ns sc) (List.replicate (m+1) ((-1 - (n:Int),0):Int×Int)++sp.drop (m+1))):=h2
       have HG4:Hid (w3.grownBy ((wr.setCell ⟨gs,m*2,none⟩ (.int .i64 (-1 - (n:Int)))).setCell ⟨gs,m*2+1,none⟩ (.int .i64 0)) (Value.slice (some ⟨gs,0,none⟩) ns sc).ownBlock):=C.grown_trans HG3.out (C.grown_put _ _ _ _ _)
       clear h2 hp hso HG3
       go_wp2
       exact⟨⟨m+1,by omega,by simp,HS2.out,HG4.out⟩,by simp[intOf];omega⟩
      ·obtain rfl:m=ns:=by omega
       have hmz:¬(m:Int) < (m:Int):=by omega
       have hnw:IntKind.i64.wrap ((n:Int)+1)=(n:Int)+1:=by rw[IntKind.wrap_i64];omega
       have HSF:Hid (C.SOwn wr 0 (.slice sa m sc) (List.replicate m (-1 - (n:Int),0))):=by
        unfold Hid
        have e:=HZL.out.2
        subst e
        rw[rep_all] at hso
        exact hso
       have HDF:Hid (DOwn wr 0 (.slice da k dc) (List.replicate k (1+(m0:Int)))):=own_keep6 HDE.out HG3.out (λj hj e=>HNE.out j e hj)
       have HN:Hid (∃F',Spd7 S w wr 0 R ⟨81,11,.slice (some ⟨g,0,none⟩) R rc,R,cs⟩ os (n+1) F'):=by
        have hoth:=othV_of (Below.refl w1.heap.size w1) HGr.out HG3.out
        refine HS.out.step hlt (Nat.zero_le _) ?_ ?_ ?_
        ·rw[HDV.out.2,HND.out.2];exact HSF.out
        ·rw[HDV.out.1,HND.out.1,HY.out];exact HDF.out
        ·rw[HDV.out.1,HDV.out.2];exact hoth
       clear hso HSE HDE HSF HDF
       go_wp2
       exact⟨⟨n+1,by omega,by simp,HN.out⟩,by simp[intOf];omega⟩
  ·obtain rfl:n=R:=by omega
   have hzz:¬(n:Int) < (n:Int):=by omega
   have HG0:Hid (Grd7 S w wr n ⟨81,11,.slice ra n rc,n,cs⟩ os 0 (.slice none 0 0) (.slice none 0 0) [] [] F):=hsp.grd
   clear hsp HS
   go_wp2
   go_loopw [6,7,8] (λvd vs i wr=>∃(m:Nat) (dl sl:List Value) (F:Nat-> Rwo),m<= n/\ i=.int .i64 m/\ Grd7 S w wr n ⟨81,11,.slice ra n rc,n,cs⟩ os m vd vs dl sl F) (λ_ _ i _=>n - (intOf i).toNat)
   case atStart=>exact⟨0,[],[],F,Nat.zero_le _,rfl,HG0.out⟩
   case round=>
    obtain⟨m,dl,sl,F,hm,rfl,hgd⟩:=hrel
    by_cases hlt:m < n
    ·have hlt':(m:Int) < (n:Int):=by omega
     have hrow:=hgd.fam.own 2 (by omega)
     rw[hgd.f2] at hrow
     obtain⟨g,rfl,hce⟩:=list_cells hrow HC.out m hlt
     obtain⟨m1,m2⟩:=HM.out m hlt
     have c9:=hce 10 (os m).dv rfl
     have c8:=hce 9 (os m).sv rfl
     have HGi:Hid (Gri7 S w wr n ⟨81,11,.slice (some ⟨g,0,none⟩) n rc,n,cs⟩ os m 0 u6 u7 (os m).dv (os m).sv dl sl F):=hgd.gri hlt
     obtain⟨m0,hm0⟩:∃m0,m % 250=m0:=⟨_,rfl⟩
     have hm0l:m0 < 250:=by omega
     have hdv:(m:Int).tmod 250=(m0:Int):=by rw[←hm0];rfl
     have hx1:IntKind.i64.wrap (1+(m0:Int))=1+(m0:Int):=by rw[IntKind.wrap_i64];omega
     have hx2:IntKind.u8.wrap (1+(m0:Int))=1+(m0:Int):=u8_wrap7 (by omega) (by omega)
     have HY:Hid (y7 m=1+(m0:Int)):=y7_of hm0
     have hx3:IntKind.i64.wrap (-1 - (m:Int))=-1 - (m:Int):=by rw[IntKind.wrap_i64];omega
     have hmw:IntKind.i64.wrap ((m:Int)+1)=(m:Int)+1:=by rw[IntKind.wrap_i64];omega
     clear hrow hce hgd HG0 hm0
     go_wp2
     clear c8 c9
     go_loopw [9,10,11] (λd s i wr=>∃(k:Nat) (F:Nat-> Rwo),k<= 20/\ i=.int .i64 k/\ Gri7 S w wr n ⟨81,11,.slice (some ⟨g,0,none⟩) n rc,n,cs⟩ os m k u6 u7 d s dl sl F) (λ_ _ i _=>20 - (intOf i).toNat)
     case atStart=>exact⟨0,F,by omega,rfl,HGi.out⟩
     case round=>
      obtain⟨k,F,hk,rfl,hgi⟩:=hrel
      have HGi:Hid (Gri7 S w wr n ⟨81,11,.slice (some ⟨g,0,none⟩) n rc,n,cs⟩ os m k u6 u7 u9 u10 dl sl F):=hgi
      have hrow:=hgi.fam.own 2 (by omega)
      rw[hgi.f2] at hrow
      have hce:=(list_cells hrow HC.out m hlt)
      clear hgi
      by_cases hk9:k < 20
      ·have hk9':(k:Int) < 20:=by omega
       have hkw:IntKind.i64.wrap ((k:Int)+1)=(k:Int)+1:=by rw[IntKind.wrap_i64];omega
       have HK:Hid (∀o,Gri7 S w (wr.alloc o) n ⟨81,11,.slice (some ⟨g,0,none⟩) n rc,n,cs⟩ os m k u6 u7 u9 u10 dl sl F):=λo=>HGi.out.keep ((Below.refl _ _).alloc (aqH _) _)
       clear hrow hce
       go_wp2_with (first
        |(at_builtin;refine append_s7 _ rfl (.tmp 82) (.tmp 87) 35 rfl 5 i0 (.int .u8 0) 1 1 Tryz.underlying35 hi0 hz0 hy0 hb0 rfl (by decide) _ _ _ rfl ((HK.out _).dat hlt) ⟨wr.heap.size,0,none⟩ 1 [.int .u8 (1+(m0:Int))] rfl rfl (cell_one_new _ _ _) (by intro u hu;simp at hu;subst hu;rfl) (by omega) (by unfold maxLen;omega) ?_;intro d1 w1 o1 g1 t1 q1;have hs1:=g1.size;simp only[World.size_alloc] at hs1;have HSp:Hid (w1.ownsRow 0 128 2 u10 ((os m).r.spans.length+k) ((List.replicate ((os m).r.spans.length+k) (z7 m,(0:Int))).flatMap C.spc)):=own_keep6 ((HK.out _).spn hlt) g1 (λj hj e=>(HK.out (.cells #[] 0)).sep hlt j hj e))
        |(at_builtin;refine append_s7 _ rfl (.tmp 89) (.tmp 93) 79 rfl 128 i1 (.agg #[.int .i64 0,.int .i64 0]) 2 16 Tryz.underlying79 hi1 hz1 hy1 hb1 rfl (by decide) _ _ _ rfl (World.ownsRow.alloc HSp.out _) ⟨w1.heap.size,0,none⟩ 1 [.int .i64 (-1 - (m:Int)),.int .i64 0] rfl rfl (C.cell_two_at _ _ _ _ _ (by simp)) (by intro u hu;simp at hu;rcases hu with rfl|rfl<;>rfl) (by omega) (by unfold maxLen;omega) ?_;intro s1 w3 o2 g2 t2 q2))
       have HN:Hid (∃F',Gri7 S w w3 n ⟨81,11,.slice (some ⟨g,0,none⟩) n rc,n,cs⟩ os m (k+1) u6 u7 d1 s1 dl sl F'):=by
        rw[←HY.out] at o1
        exact(HK.out _).stepS hlt o1 g1 t1 q1 ((Below.refl _ _).alloc (aqH _) _) o2 g2 t2 q2
       clear o1 g1 t1 q1 o2 g2 t2 q2 HSp HK HGi
       go_wp2
       obtain⟨F',hF⟩:=HN.out
       exact⟨⟨k+1,F',by omega,by simp,hF⟩,by simp[intOf];omega⟩
      ·obtain rfl:k=20:=by omega
       have HK:Hid (∀o,Gri7 S w (wr.alloc o) n ⟨81,11,.slice (some ⟨g,0,none⟩) n rc,n,cs⟩ os m 20 u6 u7 u9 u10 dl sl F):=λo=>HGi.out.keep ((Below.refl _ _).alloc (aqH _) _)
       obtain⟨g',hg',hce⟩:=hce
       obtain rfl:g=g':=by simpa using hg'
       have HCE:Hid (∀j u,(rcC (os m).r (os m).sv (os m).dv)[j]?=some u-> ∀V:World,(∀k,k=g-> V.heap[k]?=wr.heap[k]?)-> V.cell? ⟨g,m*11+j,none⟩=some u):=λj u hj V hV=>(World.cell?_of_block (a:=⟨g,m*11+j,none⟩) (hV g rfl)).trans (hce j u hj)
       have c9:=hce 10 (os m).dv rfl
       have hgl:g < wr.heap.size:=(World.ownsRow.lt hrow g rfl).2
       have hgv:u6.ownBlock≠some g:=λe=>by
        have:=HGi.out.fam.sep 0 2 g (by omega) (by omega) (by rw[HGi.out.f0];exact e) (by rw[HGi.out.f2];rfl)
        omega
       have hsl:∃a b c,u9=.slice a b c:=by
        obtain⟨a,c,hv⟩:=C.own_shape (HGi.out.dat hlt)
        exact⟨a,_,c,hv⟩
       have hsl2:∃a b c,u10=.slice a b c:=by
        obtain⟨a,c,hv⟩:=C.own_shape (HGi.out.spn hlt)
        exact⟨a,_,c,hv⟩
       obtain⟨a7,b7,c7,rfl⟩:=hsl
       obtain⟨a8,b8,c8,rfl⟩:=hsl2
       obtain⟨da,dn,dc,hdv2⟩:∃a n c,(os m).dv=.slice a n c:=⟨_,_,_,rfl⟩
       obtain⟨sa,sn,sc,hsv2⟩:∃a n c,(os m).sv=.slice a n c:=⟨_,_,_,rfl⟩
       have HDV:Hid ((os m).dv=.slice da dn dc/\ (os m).sv=.slice sa sn sc):=⟨hdv2,hsv2⟩
       rw[hdv2] at c9
       clear hrow hce hg' hdv2 hsv2
       go_wp2_with (first
        |(at_builtin;refine wpList_append_own_at _ rfl (.tmp 95) (.tmp 102) 129 rfl 0 35 i2 (.slice none 0 0) 1 24 Tryz.underlying129 hi2 hz2 hy2 hb2 rfl (by decide) _ _ _ rfl (HK.out _).rows.1 ⟨wr.heap.size,0,none⟩ 2 2 [.slice a7 b7 c7,.slice da dn dc] rfl rfl (cells_two_new _ _ _ _) (by intro u hu;simp at hu;rcases hu with rfl|rfl<;>rfl) (by unfold maxLen;omega) (by omega) (by simp) ?_;intro d1 w1 o1 g1 _ t1;have hs1:=g1.size;simp only[World.size_alloc] at hs1;have HSp:Hid (w1.ownsRow 0 79 1 u7 (2*m) sl):=own_keep6 ((HK.out _).rows.2) g1 (λj hj e=>(HK.out (.cells #[] 0)).sep2 j hj e)
          have cc8:w1.cell? ⟨g,m*11+9,none⟩=some (.slice sa sn sc):=(by rw[←HDV.out.2];exact HCE.out 9 (os m).sv rfl w1 (λk hk=>by subst hk;exact(g1.block _ (by simp;omega) (λe=>hgv e.symm)).trans (((Below.refl wr.heap.size wr).alloc (aqH _) _).block _ hgl))))
        |(at_builtin;refine wpList_append_own_at _ rfl (.tmp 104) (.tmp 111) 130 rfl 0 79 i3 (.slice none 0 0) 1 24 Tryz.underlying130 hi3 hz3 hy3 hb3 rfl (by decide) _ _ _ rfl (World.ownsRow.alloc HSp.out _) ⟨w1.heap.size,0,none⟩ 2 2 [.slice a8 b8 c8,.slice sa sn sc] rfl rfl (cells_two_new _ _ _ _) (by intro u hu;simp at hu;rcases hu with rfl|rfl<;>rfl) (by unfold maxLen;omega) (by omega) (by simp) ?_;intro s1 w3 o2 g2 _ t2))
       have HN:Hid (∃dl sl F',Grd7 S w w3 n ⟨81,11,.slice (some ⟨g,0,none⟩) n rc,n,cs⟩ os (m+1) d1 s1 dl sl F'):=by
        rw[←HDV.out.1] at o1
        rw[←HDV.out.2] at o2
        exact⟨_,_,(HK.out _).lay hlt o1 g1 t1 ((Below.refl _ _).alloc (aqH _) _) o2 g2 t2⟩
       clear o1 g1 t1 o2 g2 t2 HSp HK HGi
       go_wp2
       obtain⟨dl',sl',F',hF⟩:=HN.out
       exact⟨⟨m+1,dl',sl',F',by omega,by simp,hF⟩,by simp[intOf];omega⟩
    ·obtain rfl:m=n:=by omega
     have hzz:¬(m:Int) < (m:Int):=by omega
     have HBE:Hid (Kps S w wr):=hgd.blw
     have HDN:Hid (∀q,q < 2*m-> ∃gD cD gS cS a1 n1 c1 a2 n2 c2,u6=.slice (some ⟨gD,0,none⟩) (2*m) cD/\ u7=.slice (some ⟨gS,0,none⟩) (2*m) cS/\ wr.cell? ⟨gD,q,none⟩=some (.slice a1 n1 c1)/\ wr.cell? ⟨gS,q,none⟩=some (.slice a2 n2 c2)/\ MkD wr a1 n1 (y7 (q / 2))/\ MkS wr a2 n2 (z7 (q / 2))/\ n1<= 65556/\ n2<= 65556):=λq hq=>hgd.read HM.out q hq
     have hsh:∃a6 c6,u6=.slice a6 (2*m) c6:=by
      have h0:=hgd.fam.own 0 (by omega)
      rw[hgd.f0] at h0
      exact C.own_shape h0
     clear hgd HG0 H0
     obtain⟨a6,c6,rfl⟩:=hsh
     obtain⟨mm,hmm⟩:∃mm,2*m=mm:=⟨_,rfl⟩
     rw[hmm] at HDN ⊢
     have hmb:mm<= 2199023255552:=by omega
     clear hmm
     go_wp2
     go_loop [12] (λi=>∃q:Nat,q<= mm/\ i=.int .i64 q) (λi=>mm - (intOf i).toNat)
     case atStart=>exact⟨0,Nat.zero_le _,rfl⟩
     case round=>
      obtain⟨q,hq,rfl⟩:=hrel
      by_cases hql:q < mm
      ·have hql':(q:Int) < (mm:Int):=by omega
       obtain⟨gD,cD,gS,cS,a1,n1,c1,a2,n2,c2,hv6,rfl,e1,e2,e3,e4,b1,b2⟩:=HDN.out q hql
       simp only[Value.slice.injEq] at hv6
       obtain⟨rfl,_,rfl⟩:=hv6
       obtain⟨p2,hp2⟩:∃p2,q / 2=p2:=⟨_,rfl⟩
       rw[hp2] at e3 e4
       obtain⟨m0,hm0⟩:∃m0,p2 % 250=m0:=⟨_,rfl⟩
       have hm0l:m0 < 250:=by omega
       have hp2l:p2<= 2199023255552:=by omega
       have hdv:(q:Int).tdiv 2=(p2:Int):=by rw[←hp2];rfl
       have hdv2:(p2:Int).tmod 250=(m0:Int):=by rw[←hm0];rfl
       have hx1:IntKind.i64.wrap (1+(m0:Int))=1+(m0:Int):=by rw[IntKind.wrap_i64];omega
       have hx2:IntKind.u8.wrap (1+(m0:Int))=1+(m0:Int):=u8_wrap7 (by omega) (by omega)
       have hx3:IntKind.i64.wrap (-1 - (p2:Int))=-1 - (p2:Int):=by rw[IntKind.wrap_i64];omega
       have hqw:IntKind.i64.wrap ((q:Int)+1)=(q:Int)+1:=by rw[IntKind.wrap_i64];omega
       have H3:Hid (MkD wr a1 n1 (1+(m0:Int))):=by rw[←y7_of hm0];exact e3
       have H4:Hid (MkS wr a2 n2 (-1 - (p2:Int))):=e4
       clear e3 e4 hp2 hm0
       go_wp2
       go_loop [13] (λi=>∃j:Nat,j<= n1/\ i=.int .i64 j) (λi=>n1 - (intOf i).toNat)
       case atStart=>exact⟨0,Nat.zero_le _,rfl⟩
       case round=>
        obtain⟨j,hj,rfl⟩:=hrel
        have hjw:IntKind.i64.wrap ((j:Int)+1)=(j:Int)+1:=by rw[IntKind.wrap_i64];omega
        by_cases hjl:j < n1
        ·have hjl':(j:Int) < (n1:Int):=by omega
         obtain⟨g1,rfl,e3⟩:=H3.out j hjl
         go_wp2
         exact⟨⟨j+1,by omega,by simp⟩,by simp[intOf];omega⟩
        ·have hjl':¬(j:Int) < (n1:Int):=by omega
         go_wp2
         go_loop [14] (λi=>∃j:Nat,j<= n2/\ i=.int .i64 j) (λi=>n2 - (intOf i).toNat)
         case atStart=>exact⟨0,Nat.zero_le _,rfl⟩
         case round=>
          obtain⟨x,hx,rfl⟩:=hrel
          have hxw:IntKind.i64.wrap ((x:Int)+1)=(x:Int)+1:=by rw[IntKind.wrap_i64];omega
          by_cases hxl:x < n2
          ·have hxl':(x:Int) < (n2:Int):=by omega
           obtain⟨g2,rfl,e4,e5⟩:=H4.out x hxl
           go_wp2
           exact⟨⟨x+1,by omega,by simp⟩,by simp[intOf];omega⟩
          ·have hxl':¬(x:Int) < (n2:Int):=by omega
           go_wp2
           exact⟨⟨q+1,by omega,by simp⟩,by simp[intOf];omega⟩
      ·have hql':¬(q:Int) < (mm:Int):=by omega
       go_wp2
       go_ret
       exact⟨rfl,HBE.out⟩
theorem owned7_any (w:World) (lo c:Nat) (a:Option Addr) (os:List Ro) (h:Rl w lo (.slice a os.length c) os) (hR:os.length<= 1099511627776):
 Calls Tryz.prog 31 #[.slice a os.length c] w λe w'=>e=.returned (.bool true)/\ Kps (λg=>∃p,p < 3+2*os.length/\ (rlF (.slice a os.length c) os p).v.ownBlock=some g) w w':=by
 refine owned7_all _ w os.length c a (oAt os) (rlC os) (rlF (.slice a os.length c) os) ⟨⟨λp hp=>?_,h.fam.sep,λp k hp hk=>.inl ⟨p,hp,hk⟩⟩,rfl,rfl,rfl,λi hi=>by omega,λi _ _=>⟨rlF_d _ _ _,rlF_s _ _ _⟩,Kps.refl _ _⟩ hR (λi hi=>⟨(h.sml i hi).1,by have:=(h.sml i hi).2;omega⟩) (λi hi=>rlC_at hi)
 obtain⟨h1,h2⟩:=h.fam.own p hp
 refine⟨h1,h2.imp id ?_⟩
 rintro⟨g,cap,cur,e,_,r⟩
 exact⟨g,cap,cur,e,Nat.zero_le _,r⟩
def Rh (w:World) (lo hi:Nat) (a:Option Addr) (c:Nat) (L:List Rc):Prop:=
 ∃os:List Ro,os.map Ro.r=L/\ Rl w lo (.slice a L.length c) os/\ ∀p k,p < 3+2*os.length-> (rlF (.slice a L.length c) os p).v.ownBlock=some k-> k < hi
end Go.Proofs.YtllhbhogfffedaaGreatDoor
namespace Go.Proofs.YtllhbhogfffedaaGreatDoor.K
open Go.RowKit
set_option linter.unusedVariables false
set_option linter.unusedSimpArgs false
structure Le7 where
 r:Rc
 gd:Nat
 gs:Nat
abbrev Le7.dq (o:Le7):Value:=.slice (some ⟨o.gd,0,none⟩) (o.r.data.length+3) (o.r.data.length+3)
abbrev Le7.sq (o:Le7):Value:=.slice (some ⟨o.gs,0,none⟩) (o.r.spans.length+2) (o.r.spans.length+2)
abbrev Le7.dv (o:Le7):Value:=.slice (some ⟨o.gd,0,none⟩) o.r.data.length (o.r.data.length+3)
abbrev Le7.sv (o:Le7):Value:=.slice (some ⟨o.gs,0,none⟩) o.r.spans.length (o.r.spans.length+2)
abbrev d7 (zs:List Int):List Int:=zs++[201,201,201]
abbrev s7 (l:List (Int×Int)):List (Int×Int):=l++[(-201,0),(-201,0)]
def DO7 (w:World) (lo:Nat) (o:Le7) (zs:List Int):Prop:=w.ownsRow lo 5 1 o.dq (o.r.data.length+3) (zs.map (Value.int .u8))
def SO7 (w:World) (lo:Nat) (o:Le7) (l:List (Int×Int)):Prop:=w.ownsRow lo 128 2 o.sq (o.r.spans.length+2) (l.flatMap C.spc)
structure Lz (lo:Nat) (w:World) (bx n ga:Nat) (vd vs:Value) (dl sl cs:List Value) (ps:List Le7) (m:Nat):Prop where
 box:w.heap[bx]?=some (.cells #[.slice (some ⟨ga,0,none⟩) (n+2) (n+2),vd,vs] 133 (0,0))
 all:w.ownsRow lo 81 11 (.slice (some ⟨ga,0,none⟩) (n+2) (n+2)) (n+2) cs
 dr:w.ownsRow lo 35 1 vd dl.length dl
 sr:w.ownsRow lo 79 1 vs sl.length sl
 dat:∀(i:Nat) o,ps[i]?=some o-> DO7 w lo o (d7 o.r.data)
 spn:∀(i:Nat) o,ps[i]?=some o-> SO7 w lo o (s7 o.r.spans)
 dd:∀(i j:Nat) o q,ps[i]?=some o-> ps[j]?=some q-> o.gd=q.gd-> i=j
 ss:∀(i j:Nat) o q,ps[i]?=some o-> ps[j]?=some q-> o.gs=q.gs-> i=j
 rcd:∀(i:Nat) o,i < m-> ps[i]?=some o-> ∀j u,(rcC o.r o.sv o.dv)[j]?=some u-> cs[i*11+j]?=some u
section
variable {lo bx n ga m:Nat} {w w':World} {vd vs v':Value} {dl sl cs:List Value} {ps:List Le7}
theorem DO7.blk {o:Le7} {zs:List Int} (h:DO7 w lo o zs) (hb:w'.heap[o.gd]?=w.heap[o.gd]?):DO7 w' lo o zs:=d_blk h (λg hg=>by simp[Value.ownBlock] at hg;subst hg;exact hb)
theorem SO7.blk {o:Le7} {l:List (Int×Int)} (h:SO7 w lo o l) (hb:w'.heap[o.gs]?=w.heap[o.gs]?):SO7 w' lo o l:=d_blk h (λg hg=>by simp[Value.ownBlock] at hg;subst hg;exact hb)
theorem Lz.bl (h:Lz lo w bx n ga vd vs dl sl cs ps m):bx < w.heap.size:=(Array.getElem?_eq_some_iff.1 h.box).1
theorem Lz.same (h:Lz lo w bx n ga vd vs dl sl cs ps m) (hs:∀k,k < w.heap.size-> (k=bx∨lo<= k)-> w'.heap[k]?=w.heap[k]?):Lz lo w' bx n ga vd vs dl sl cs ps m:=
 ⟨(hs bx h.bl (.inl rfl)).trans h.box,d_blk h.all (λg hg=>hs g (d_lt h.all g hg).2 (.inr (d_lt h.all g hg).1)),d_blk h.dr (λg hg=>hs g (d_lt h.dr g hg).2 (.inr (d_lt h.dr g hg).1)),d_blk h.sr (λg hg=>hs g (d_lt h.sr g hg).2 (.inr (d_lt h.sr g hg).1)),λi o ho=>(h.dat i o ho).blk (hs _ (d_lt (h.dat i o ho) o.gd rfl).2 (.inr (d_lt (h.dat i o ho) o.gd rfl).1)),λi o ho=>(h.spn i o ho).blk (hs _ (d_lt (h.spn i o ho) o.gs rfl).2 (.inr (d_lt (h.spn i o ho) o.gs rfl).1)),h.dd,h.ss,h.rcd⟩
theorem Lz.keep (h:Lz lo w bx n ga vd vs dl sl cs ps m) (hb:Below w.heap.size w w'):Lz lo w' bx n ga vd vs dl sl cs ps m:=h.same (λk hk _=>hb.block k hk)
theorem snoc7 {α:Type} {os:List α} {o x:α} {i:Nat} (h:(os++[o])[i]?=some x):(i < os.length/\ os[i]?=some x)∨(i=os.length/\ x=o):=by
 rcases Nat.lt_or_ge i os.length with q|q
 ·rw[List.getElem?_append_left q] at h;exact .inl ⟨q,h⟩
 ·rw[List.getElem?_append_right q] at h
  have:i - os.length=0:=by
   rcases Nat.eq_zero_or_pos (i - os.length) with e|e
   ·exact e
   ·rw[List.getElem?_eq_none (by simp;omega)] at h;cases h
  rw[this] at h
  simp at h
  exact .inr ⟨by omega,h.symm⟩
theorem Lz.add (h:Lz lo w bx n ga vd vs dl sl cs ps m) (hm:m<= ps.length) (hb:Below w.heap.size w w') (o:Le7) (hd:DO7 w' lo o (d7 o.r.data)) (hs:SO7 w' lo o (s7 o.r.spans)) (h1:w.heap.size<= o.gd) (h2:w.heap.size<= o.gs):Lz lo w' bx n ga vd vs dl sl cs (ps++[o]) m:=by
 have k:=h.keep hb
 refine⟨k.box,k.all,k.dr,k.sr,λi x hx=>?_,λi x hx=>?_,λi j x y hx hy e=>?_,λi j x y hx hy e=>?_,λi x hi hx=>?_⟩
 ·rcases snoc7 hx with ⟨_,q⟩|⟨_,rfl⟩
  ·exact k.dat i x q
  ·exact hd
 ·rcases snoc7 hx with ⟨_,q⟩|⟨_,rfl⟩
  ·exact k.spn i x q
  ·exact hs
 ·rcases snoc7 hx with ⟨_,q⟩|⟨e1,rfl⟩
  ·rcases snoc7 hy with ⟨_,q'⟩|⟨_,rfl⟩
   ·exact k.dd i j x y q q' e
   ·have:=(d_lt (h.dat i x q) x.gd rfl).2;omega
  ·rcases snoc7 hy with ⟨_,q'⟩|⟨e2,rfl⟩
   ·have:=(d_lt (h.dat j y q') y.gd rfl).2;omega
   ·omega
 ·rcases snoc7 hx with ⟨_,q⟩|⟨e1,rfl⟩
  ·rcases snoc7 hy with ⟨_,q'⟩|⟨_,rfl⟩
   ·exact k.ss i j x y q q' e
   ·have:=(d_lt (h.spn i x q) x.gs rfl).2;omega
  ·rcases snoc7 hy with ⟨_,q'⟩|⟨e2,rfl⟩
   ·have:=(d_lt (h.spn j y q') y.gs rfl).2;omega
   ·omega
 ·rcases snoc7 hx with ⟨_,q⟩|⟨e1,rfl⟩
  ·exact k.rcd i x hi q
  ·omega
theorem Lz.growD (h:Lz lo w bx n ga vd vs dl sl cs ps m) (x:Value) (hg:w.grownBy w' vd.ownBlock) (hr:w'.ownsRow lo 35 1 v' (dl.length+1) (dl++[x])):Lz lo (w'.setCell ⟨bx,1,none⟩ v') bx n ga v' vs (dl++[x]) sl cs ps m:=by
 have hB:w'.heap[bx]?=_:=(hg.block bx h.bl (λe=>d_box h.dr h.box (by decide) e.symm)).trans h.box
 have hset:∀g,g≠bx-> (w'.setCell ⟨bx,1,none⟩ v').heap[g]?=w'.heap[g]?:=λg hg=>heap_setCell_other _ _ _ _ hg
 have other:∀{e:TypeId} {sz k:Nat} {u:Value} {xs:List Value},w.ownsRow lo e sz u k xs-> e≠35-> e≠133-> (w'.setCell ⟨bx,1,none⟩ v').ownsRow lo e sz u k xs:=λhu h1 h2=>d_blk hu (λg hgg=>(hset g (λe=>d_box hu h.box h2 (by rw[←e];exact hgg))).trans (hg.block g (d_lt hu g hgg).2 (λe=>d_apart hu h.dr h1 hgg e.symm)))
 refine⟨heap_setCell_same w' bx 1 _ _ _ hB,other h.all (by decide) (by decide),?_,other h.sr (by decide) (by decide),λi o ho=>other (h.dat i o ho) (by decide) (by decide),λi o ho=>other (h.spn i o ho) (by decide) (by decide),h.dd,h.ss,h.rcd⟩
 rw[List.length_append]
 exact d_blk hr (λg hgg=>hset g (λe=>d_box hr hB (by decide) (by rw[←e];exact hgg)))
theorem Lz.growS (h:Lz lo w bx n ga vd vs dl sl cs ps m) (x:Value) (hg:w.grownBy w' vs.ownBlock) (hr:w'.ownsRow lo 79 1 v' (sl.length+1) (sl++[x])):Lz lo (w'.setCell ⟨bx,2,none⟩ v') bx n ga vd v' dl (sl++[x]) cs ps m:=by
 have hB:w'.heap[bx]?=_:=(hg.block bx h.bl (λe=>d_box h.sr h.box (by decide) e.symm)).trans h.box
 have hset:∀g,g≠bx-> (w'.setCell ⟨bx,2,none⟩ v').heap[g]?=w'.heap[g]?:=λg hg=>heap_setCell_other _ _ _ _ hg
 have other:∀{e:TypeId} {sz k:Nat} {u:Value} {xs:List Value},w.ownsRow lo e sz u k xs-> e≠79-> e≠133-> (w'.setCell ⟨bx,2,none⟩ v').ownsRow lo e sz u k xs:=λhu h1 h2=>d_blk hu (λg hgg=>(hset g (λe=>d_box hu h.box h2 (by rw[←e];exact hgg))).trans (hg.block g (d_lt hu g hgg).2 (λe=>d_apart hu h.sr h1 hgg e.symm)))
 refine⟨heap_setCell_same w' bx 2 _ _ _ hB,other h.all (by decide) (by decide),other h.dr (by decide) (by decide),?_,λi o ho=>other (h.dat i o ho) (by decide) (by decide),λi o ho=>other (h.spn i o ho) (by decide) (by decide),h.dd,h.ss,h.rcd⟩
 rw[List.length_append]
 exact d_blk hr (λg hgg=>hset g (λe=>d_box hr hB (by decide) (by rw[←e];exact hgg)))
theorem Lz.put (h:Lz lo w bx n ga vd vs dl sl cs ps m) (k:Nat) (v:Value) (hk:m*11<= k):Lz lo (w.setCell ⟨ga,k,none⟩ v) bx n ga vd vs dl sl (cs.set k v) ps m:=by
 have hset:∀g,g≠ga-> (w.setCell ⟨ga,k,none⟩ v).heap[g]?=w.heap[g]?:=λg hg=>heap_setCell_other _ _ _ _ hg
 have other:∀{e:TypeId} {sz k':Nat} {u:Value} {xs:List Value},w.ownsRow lo e sz u k' xs-> e≠81-> (w.setCell ⟨ga,k,none⟩ v).ownsRow lo e sz u k' xs:=λhu h1=>d_blk hu (λg hgg=>hset g (λe=>d_apart hu h.all h1 hgg (by rw[e];rfl)))
 refine⟨(hset bx (λe=>d_box h.all h.box (by decide) (by rw[e];rfl))).trans h.box,(World.ownsRow.stored h.all k v).1,other h.dr (by decide),other h.sr (by decide),λi o ho=>other (h.dat i o ho) (by decide),λi o ho=>other (h.spn i o ho) (by decide),h.dd,h.ss,λi o hi ho j u hj=>?_⟩
 have hj2:j < 11:=(Array.getElem?_eq_some_iff.mp hj).1
 rw[List.getElem?_set_ne (by omega)]
 exact h.rcd i o hi ho j u hj
theorem Lz.fin (h:Lz lo w bx n ga vd vs dl sl cs ps m) (hr:∀o,ps[m]?=some o-> ∀j u,(rcC o.r o.sv o.dv)[j]?=some u-> cs[m*11+j]?=some u):Lz lo w bx n ga vd vs dl sl cs ps (m+1):=
 ⟨h.box,h.all,h.dr,h.sr,h.dat,h.spn,h.dd,h.ss,λi o hi ho=>by
  by_cases e:i=m
  ·subst e;exact hr o ho
  ·exact h.rcd i o (by omega) ho⟩
end
def set11 (cs:List Value) (k:Nat) (r:Rc) (sv dv:Value):List Value:=((((((((((cs.set k (.int .i64 r.kind)).set (k+1) (.int .i64 r.org)).set (k+2) (.int .i64 r.num)).set (k+3) (.int .i64 r.peer)).set (k+4) (.int .i64 r.srv)).set (k+5) (.int .i64 r.off)).set (k+6) (.int .i64 r.red)).set (k+7) (.int .i64 r.size)).set (k+8) (.int .i64 r.how)).set (k+9) sv).set (k+10) dv
def put11 (W:World) (g k:Nat) (r:Rc) (sv dv:Value):World:=(((((((((((W.setCell ⟨g,k,none⟩ (.int .i64 r.kind)).setCell ⟨g,k+1,none⟩ (.int .i64 r.org)).setCell ⟨g,k+2,none⟩ (.int .i64 r.num)).setCell ⟨g,k+3,none⟩ (.int .i64 r.peer)).setCell ⟨g,k+4,none⟩ (.int .i64 r.srv)).setCell ⟨g,k+5,none⟩ (.int .i64 r.off)).setCell ⟨g,k+6,none⟩ (.int .i64 r.red)).setCell ⟨g,k+7,none⟩ (.int .i64 r.size)).setCell ⟨g,k+8,none⟩ (.int .i64 r.how)).setCell ⟨g,k+9,none⟩ sv).setCell ⟨g,k+10,none⟩ dv)
theorem set11_at (cs:List Value) (k:Nat) (r:Rc) (sv dv:Value) (hl:k+10 < cs.length):∀j u,(rcC r sv dv)[j]?=some u-> (set11 cs k r sv dv)[k+j]?=some u:=by
 intro j u hj
 have hj2:j < 11:=(Array.getElem?_eq_some_iff.mp hj).1
 unfold set11
 match j,hj2,hj with
 |0,_,hj|1,_,hj|2,_,hj|3,_,hj|4,_,hj|5,_,hj|6,_,hj|7,_,hj|8,_,hj|9,_,hj|10,_,hj=>
  simp[rcC] at hj
  subst hj
  simp[List.getElem?_set]
  try omega
theorem set13_at (cs:List Value) (k:Nat) (r:Rc) (sv dv sv0 dv0:Value) (hl:k+10 < cs.length):∀j u,(rcC r sv dv)[j]?=some u-> (((set11 cs k r sv0 dv0).set (k+10) dv).set (k+9) sv)[k+j]?=some u:=by
 intro j u hj
 have hj2:j < 11:=(Array.getElem?_eq_some_iff.mp hj).1
 unfold set11
 match j,hj2,hj with
 |0,_,hj|1,_,hj|2,_,hj|3,_,hj|4,_,hj|5,_,hj|6,_,hj|7,_,hj|8,_,hj|9,_,hj|10,_,hj=>
  simp[rcC] at hj
  subst hj
  simp[List.getElem?_set]
  try omega
theorem Lz.drew {lo bx n ga m:Nat} {w:World} {vd vs:Value} {dl sl cs:List Value} {ps:List Le7} (h:Lz lo w bx n ga vd vs dl sl cs ps m):Lz lo w.drew bx n ga vd vs dl sl cs ps m:=h.same (λ_ _ _=>rfl)
theorem bel_drw7 {B:Nat} {a b:World} (h:Below B a b):Below B a b.drew:=⟨h.os,h.tape,h.output,h.size,h.block⟩
theorem set11_ne (cs:List Value) (k i:Nat) (r:Rc) (sv dv:Value) (h:i < k∨k+10 < i):(set11 cs k r sv dv)[i]?=cs[i]?:=by
 unfold set11
 iterate 11 rw[List.getElem?_set_ne (by omega)]
theorem put11_grown (W:World) (g k:Nat) (r:Rc) (sv dv:Value):W.grownBy (put11 W g k r sv dv) (some g):=by
 unfold put11
 iterate 10 refine C.grown_trans ?_ (grown_set _ _ _ _)
 exact grown_set _ _ _ _
theorem Lz.put11 {lo bx n ga m:Nat} {w:World} {vd vs:Value} {dl sl cs:List Value} {ps:List Le7} (h:Lz lo w bx n ga vd vs dl sl cs ps m) (k:Nat) (r:Rc) (sv dv:Value) (hk:m*11<= k):Lz lo (K.put11 w ga k r sv dv) bx n ga vd vs dl sl (set11 cs k r sv dv) ps m:=by
 unfold K.put11 set11
 exact(((((((((((h.put _ _ hk).put _ _ (by omega)).put _ _ (by omega)).put _ _ (by omega)).put _ _ (by omega)).put _ _ (by omega)).put _ _ (by omega)).put _ _ (by omega)).put _ _ (by omega)).put _ _ (by omega)).put _ _ (by omega))
theorem row_cells7 {w:World} {base g R c:Nat} {cs:List Value} (h:w.ownsRow base 81 11 (.slice (some ⟨g,0,none⟩) R c) R cs) (i:Nat) (hi:i < R):(∀j,j < 11-> ∃u,w.cell? ⟨g,i*11+j,none⟩=some u)/\ ∀k,w.frozen? ⟨g,k,none⟩=false:=by
 have hl:=h.1
 refine⟨λj hj=>?_,λk=>World.ownsRow.frozenAt h _⟩
 rw[h.cellAt _ (by omega)]
 exact⟨_,List.getElem?_eq_getElem (by omega)⟩
theorem splice3 (zs:List Int) (n:Nat) (hl:zs.length=n):splice ((List.replicate (n+3) (0:Int)).map (Value.int .u8)) 0 (zs.map (Value.int .u8))=(zs++(List.replicate 0 201++List.replicate 3 0)).map (Value.int .u8):=by
 subst hl
 simp[splice,show zs.length+3 - zs.length=3 from by omega]
theorem set3 (zs:List Int) (n j:Nat) (hl:zs.length=n) (hj:j < 3):(zs++(List.replicate j 201++List.replicate (3 - j) 0)).set (n+j) 201=zs++(List.replicate (j+1) 201++List.replicate (3 - (j+1)) 0):=by
 subst hl
 rw[List.set_append_right _ _ (by omega),show zs.length+j - zs.length=j by omega]
 match j,hj with
 |0,_=>rfl
 |1,_=>rfl
 |2,_=>rfl
theorem get3 (zs:List Int) (n j:Nat) (hl:zs.length=n) (hj:j < 3):(zs++(List.replicate j (201:Int)++List.replicate (3 - j) 0))[n+j]?=some 0:=by
 subst hl
 rw[List.getElem?_append_right (by omega),show zs.length+j - zs.length=j by omega]
 match j,hj with
 |0,_=>rfl
 |1,_=>rfl
 |2,_=>rfl
theorem setS2 (zs:List (Int×Int)) (n j:Nat) (hl:zs.length=n) (hj:j < 2):(zs++(List.replicate j (-201,0)++List.replicate (2 - j) (0,0))).set (n+j) (-201,0)=zs++(List.replicate (j+1) (-201,0)++List.replicate (2 - (j+1)) (0,0)):=by
 subst hl
 rw[List.set_append_right _ _ (by omega),show zs.length+j - zs.length=j by omega]
 match j,hj with
 |0,_=>rfl
 |1,_=>rfl
theorem getS2 (zs:List (Int×Int)) (n j:Nat) (hl:zs.length=n) (hj:j < 2):(zs++(List.replicate j ((-201:Int),(0:Int))++List.replicate (2 - j) (0,0)))[n+j]?=some (0,0):=by
 subst hl
 rw[List.getElem?_append_right (by omega),show zs.length+j - zs.length=j by omega]
 match j,hj with
 |0,_=>rfl
 |1,_=>rfl
theorem sdrop7 (zs:List (Int×Int)) (n:Nat) (hl:zs.length=n):zs++(List.replicate (n+2) ((0:Int),(0:Int))).drop zs.length=zs++(List.replicate 0 (-201,0)++List.replicate 2 (0,0)):=by
 subst hl;rw[List.drop_replicate,show zs.length+2 - zs.length=2 by omega];rfl
theorem rsize7_u8:(Tryz.prog.info? 5).map (·.size)=some 1:=by kernel_rfl
theorem rsize7_span:(Tryz.prog.info? 128).map (·.size)=some 2:=by kernel_rfl
theorem blk_own7 {w:World} {lo g:Nat} {zs:List Int} (h:Blk .u8 w g 5 zs) (hg:lo<= g) (hm:zs.length<= maxLen):DOwn w lo (.slice (some ⟨g,0,none⟩) zs.length zs.length) zs:=
 ⟨by simp,.inr ⟨g,zs.length,_,rfl,hg,h,aqH _,hm,by simp,by rw[List.take_of_length_le (by simp)]⟩⟩
theorem rlin_at {w:World} {a:Option Addr} {l:List Rc} (h:RLin w a l) {i:Nat} {r:Rc} (hr:l[i]?=some r):∃b off sa da sc dc,a=some ⟨b,off,none⟩/\ ∀V,Below w.heap.size w V-> (∀j u,(rcC r (.slice sa r.spans.length sc) (.slice da r.data.length dc))[j]?=some u-> V.cell? ⟨b,off+i*11+j,none⟩=some u)/\ RIn V r sa da r.spans.length r.data.length sc dc:=by
 rcases h with h|⟨g,off,ha,h⟩
 ·rw[h] at hr;cases hr
 ·obtain⟨sa,da,sc,dc,h1,h2⟩:=h i r hr
  exact⟨g,off,sa,da,sc,dc,ha,λV hV=>⟨λj u hj=>C.cell_below (h1 j u hj) hV,h2.below hV⟩⟩
theorem infoRecL:(Tryz.prog.info? 81).map (λi=>(i.zero,i.size,i.bytes))=some (some (.agg (rcC rz0 (.slice none 0 0) (.slice none 0 0))),11,120):=by kernel_rfl
def LnJ (w0:World) (l:List Rc) (lo n bx ga:Nat) (v:Value) (wr:World):Prop:=∃(i:Nat) (vd vs:Value) (cs:List Value) (ps:List Le7),v=.int .i64 i/\ i<= n/\ ps.map Le7.r=l.take i/\ ps.length=i/\ Lz lo wr bx n ga vd vs (ps.map Le7.dq) (ps.map Le7.sq) cs ps i/\ Below lo w0 wr
def LdJ (Z:World) (lo gd nd:Nat) (zs:List Int) (v:Value) (wr:World):Prop:=∃(k j:Nat),v=.int .i64 k/\ k=nd+j/\ j<= 3/\ DOwn wr lo (.slice (some ⟨gd,0,none⟩) (nd+3) (nd+3)) (zs++(List.replicate j 201++List.replicate (3 - j) 0))/\ Z.grownBy wr (some gd)
def LsJ (Z:World) (lo gs ns:Nat) (zs:List (Int×Int)) (v:Value) (wr:World):Prop:=∃(k j:Nat),v=.int .i64 k/\ k=ns+j/\ j<= 2/\ C.SOwn wr lo (.slice (some ⟨gs,0,none⟩) (ns+2) (ns+2)) (zs++(List.replicate j (-201,0)++List.replicate (2 - j) (0,0)))/\ Z.grownBy wr (some gs)
def LdP (w:World) (l:List Rc) (n:Nat) (e:Ending) (w':World):Prop:=∃ga vd vs cs ps bx,e=.returned (.agg #[.slice (some ⟨ga,0,none⟩) (n+2) (n+2),vd,vs])/\ ps.map Le7.r=l/\ Lz (w.heap.size+1) w' bx n ga vd vs (ps.map Le7.dq) (ps.map Le7.sq) cs ps n/\ cs[n*11]?=some (.int .i64 (-201))/\ cs[(n+1)*11]?=some (.int .i64 (-202))/\ Below w.heap.size w w'
theorem lend7_any (l:List Rc) (a:Option Addr) (n c:Nat) (w:World) (hl:l.length=n) (hn:n<= 1048576) (ha:RLin w a l) (hb:∀r∈l,r.data.length<= 140737488351232/\ r.spans.length*16<= 140737488351232):
 Calls Tryz.prog 69 #[.slice a n c] w λe w'=>LdP w l n e w':=by
 obtain⟨i0,hi0,hz0,hy0,hb0⟩:=info_parts Tryz.info_u8
 obtain⟨i1,hi1,hz1,hy1,hb1⟩:=info_parts C.Tryz.info_span
 obtain⟨i2,hi2,hz2,hy2,hb2⟩:=info_parts Tryz.info_bytes7
 obtain⟨i3,hi3,hz3,hy3,hb3⟩:=info_parts Tryz.info_spans7
 obtain⟨i4,hi4,hz4,hy4,hb4⟩:=info_partsD infoRecL
 have HA:Hid (RLin w a l/\ l.length=n/\ ∀r∈l,r.data.length<= 140737488351232/\ r.spans.length*16<= 140737488351232):=⟨ha,hl,hb⟩
 clear ha hl hb
 obtain⟨w0,hw0⟩:∃V,w.alloc (.cells #[.slice none 0 0,.slice none 0 0,.slice none 0 0] 133)=V:=⟨_,rfl⟩
 have hs0:w0.heap.size=w.heap.size+1:=by rw[←hw0];simp
 have HB0:Hid (Below w.heap.size w w0/\ w0.heap[w.heap.size]?=some (.cells #[.slice none 0 0,.slice none 0 0,.slice none 0 0] 133 (0,0))/\ w0.heap.size=w.heap.size+1):=by
  rw[←hw0]
  exact⟨(Below.refl _ _).alloc (aqH _) _,heap_new6 w _,by simp⟩
 have hnw:IntKind.i64.wrap ((n:Int)+2)=(n:Int)+2:=by rw[IntKind.wrap_i64];omega
 go_enter Tryz.func69,Tryz.ntmps69
 go_upto_region 3 with (first
  |(at_make;refine wpList_make_full _ rfl _ _ 34 rfl (w.heap.size+1) 81 i4 (.agg (rcC rz0 (.slice none 0 0) (.slice none 0 0))) 11 Tryz.underlying34 hi4 hz4 hy4 .i64 .i64 _ _ (n+2) rfl rfl (by omega) (by omega) (by rw[hb4];omega) (by unfold maxLen;omega) (by omega) ?_
    intro w1 hown1 hgrow1
    have H1:Hid (w1.ownsRow (w.heap.size+1) 81 11 (.slice (some ⟨w0.heap.size,0,none⟩) (n+2) (n+2)) (n+2) (madeCells (Value.cells (.agg (rcC rz0 (.slice none 0 0) (.slice none 0 0)))) ((n+2)*11)).toList/\ w0.grownBy w1 none):=⟨hown1,hgrow1⟩
    clear hown1 hgrow1))
 obtain⟨w2,hw2⟩:∃V,w1.alloc (.cells #[.slice (some ⟨w.heap.size+1,0,none⟩) (n+2) (n+2),.slice none 0 0,.slice none 0 0] 133)=V:=⟨_,rfl⟩
 obtain⟨bx,hbx⟩:∃b,w1.heap.size=b:=⟨_,rfl⟩
 rw[hw2,hbx]
 have HLo:Hid (w0.heap.size=w.heap.size+1):=hs0
 have HZ0:Hid (∃cs,Lz (w.heap.size+1) w2 bx n (w.heap.size+1) (.slice none 0 0) (.slice none 0 0) [] [] cs [] 0/\ Below (w.heap.size+1) w0 w2):=by
  have h1:=H1.out.1
  rw[hs0] at h1
  have hb2:Below w1.heap.size w1 w2:=by rw[←hw2];exact(Below.refl _ _).alloc (aqH _) _
  have hx:w2.heap[bx]?=some (.cells #[.slice (some ⟨w.heap.size+1,0,none⟩) (n+2) (n+2),.slice none 0 0,.slice none 0 0] 133 (0,0)):=by
   have:=heap_new6 w1 (.cells #[.slice (some ⟨w.heap.size+1,0,none⟩) (n+2) (n+2),.slice none 0 0,.slice none 0 0] 133)
   rw[hw2,hbx] at this
   exact this
  refine⟨_,⟨hx,d_blk h1 (λg hg=>hb2.block g (d_lt h1 g hg).2),World.ownsRow_nil _ _ _ _,World.ownsRow_nil _ _ _ _,λi o ho=>by simp at ho,λi o ho=>by simp at ho,λi j o q ho=>by simp at ho,λi j o q ho=>by simp at ho,λi o hi=>by omega⟩,?_⟩
  have hg:=H1.out.2
  have hsz:=hg.size
  exact((Below.refl (w.heap.size+1) w0).grown hg (by omega) (by simp)).trans (hb2.mono (by omega))
 have hbxl:w.heap.size+1<= bx:=by have:=H1.out.2.size;omega
 clear H1 hw2 hbx hw0 hs0
 go_loopw [4] (λv wr=>LnJ w0 l (w.heap.size+1) n bx (w.heap.size+1) v wr) (λv _=>n - (intOf v).toNat)
 case atStart=>
  obtain⟨cs,h1,h2⟩:=HZ0.out
  exact⟨0,_,_,cs,[],rfl,Nat.zero_le _,by simp,rfl,h1,h2⟩
 case round=>
  obtain⟨i,vd,vs,cs,ps,rfl,hi,hps,hpl,hlz,hbw⟩:=hrel
  have hiw:IntKind.i64.wrap ((i:Int)+1)=(i:Int)+1:=by rw[IntKind.wrap_i64];omega
  have HBW:Hid (Below (w.heap.size+1) w0 wr/\ Below w.heap.size w wr):=⟨hbw,HB0.out.1.trans (hbw.mono (by omega))⟩
  have hwr:w.heap.size+1<= wr.heap.size:=by have:=hbw.size;have:=HLo.out;omega
  by_cases hin:i < n
  ·have hin':(i:Int) < (n:Int):=by omega
   obtain⟨r,hr⟩:∃r,l[i]?=some r:=⟨_,List.getElem?_eq_getElem (by have:=HA.out.2.1;omega)⟩
   obtain⟨hnd,hns⟩:=HA.out.2.2 r (List.mem_of_getElem? hr)
   obtain⟨b,off,sa,da,sc,dc,rfl,hat⟩:=rlin_at HA.out.1 hr
   have HPS:Hid (ps.map Le7.r=l.take i/\ ps.length=i/\ l[i]?=some r/\ Lz (w.heap.size+1) wr bx n (w.heap.size+1) vd vs (ps.map Le7.dq) (ps.map Le7.sq) cs ps i):=⟨hps,hpl,hr,hlz⟩
   have HAT:Hid (∀V,Below w.heap.size w V-> (∀j u,(rcC r (.slice sa r.spans.length sc) (.slice da r.data.length dc))[j]?=some u-> V.cell? ⟨b,off+i*11+j,none⟩=some u)/\ RIn V r sa da r.spans.length r.data.length sc dc):=hat
   obtain⟨nd,hnd2⟩:∃k,r.data.length=k:=⟨_,rfl⟩
   obtain⟨ns,hns2⟩:∃k,r.spans.length=k:=⟨_,rfl⟩
   have HND:Hid (r.data.length=nd/\ r.spans.length=ns):=⟨hnd2,hns2⟩
   rw[hnd2] at hnd
   rw[hns2] at hns
   rw[hnd2,hns2] at HAT
   have hdw:IntKind.i64.wrap ((nd:Int)+3)=(nd:Int)+3:=by rw[IntKind.wrap_i64];omega
   have hsw:IntKind.i64.wrap ((ns:Int)+2)=(ns:Int)+2:=by rw[IntKind.wrap_i64];omega
   have c10:wr.cell? ⟨b,off+i*11+10,none⟩=some (.slice da nd dc):=(HAT.out wr HBW.out.2).1 10 _ rfl
   clear hps hpl hr hlz hat hbw hnd2 hns2
   obtain⟨Z,hZ⟩:∃V,wr=V:=⟨_,rfl⟩
   rw[hZ] at HBW HPS hwr c10 ⊢
   clear hZ
   go_upto_region 7 with (first
    |(at_make;refine wpList_make_full _ rfl _ _ 35 rfl (w.heap.size+1) 5 i0 (.int .u8 0) 1 Tryz.underlying35 hi0 hz0 hy0 .i64 .i64 _ _ (nd+3) rfl rfl (by omega) (by omega) (by rw[hb0];omega) (by unfold maxLen;omega) hwr ?_
      intro w1 hown1 hgrow1
      obtain⟨HG1,HB1⟩:=lm1 (gd:=Z.heap.size) rfl hown1 hgrow1
      have c10':w1.cell? ⟨b,off+i*11+10,none⟩=some (.slice da nd dc):=(HAT.out w1 (HBW.out.2.trans (HB1.out.mono (by omega)))).1 10 _ rfl
      clear hown1 hgrow1)
    |(refine wpList_copy_splice rfl (.tmp 28) (.tmp 33) 35 35 rfl 5 Tryz.underlying35 rsize7_u8 _ _ _ _ _ _ rfl rfl Z.heap.size 0 _ 5 HG1.out (r.data.map (Value.int .u8)) (by have:=HND.out;simp;omega) (λhp=>⟨rfl,((HAT.out w1 (HBW.out.2.trans (HB1.out.mono (by omega)))).2.lie).cells6 hp⟩) (by have:=HND.out;simp;omega) (by intro v hv;simp at hv;obtain⟨x,_,rfl⟩:=hv;rfl) Z.heap.size _ HB1.out (aqH _) ?_
      intro w2' HG2 hb2
      have HB2:Hid (Below Z.heap.size Z w2'):=hb2
      clear hb2))
   have hblk:Blk .u8 w2' Z.heap.size 5 (r.data++(List.replicate 0 201++List.replicate 3 0)):=by
    have:=HG2.out;rw[splice3 r.data nd HND.out.1] at this;exact this
   have hgl:Z.heap.size < w2'.heap.size:=hblk.lt
   have HBK:Hid (Blk .u8 w2' Z.heap.size 5 (r.data++(List.replicate 0 201++List.replicate 3 0))):=hblk
   have c9:w2'.cell? ⟨b,off+i*11+9,none⟩=some (.slice sa ns sc):=(HAT.out w2' (HBW.out.2.trans (HB2.out.mono (by omega)))).1 9 _ rfl
   clear c10 c10' HG1 HB1 HG2 hblk
   go_upto_region 9 with (first
    |(at_make;refine wpList_make_full _ rfl _ _ 79 rfl (w.heap.size+1) 128 i1 (.agg #[.int .i64 0,.int .i64 0]) 2 Tryz.underlying79 hi1 hz1 hy1 .i64 .i64 _ _ (ns+2) rfl rfl (by omega) (by omega) (by rw[hb1];omega) (by unfold maxLen;omega) (by omega) ?_
      intro w3 hown3 hgrow3
      have HO3:Hid (C.SOwn w3 (w.heap.size+1) (.slice (some ⟨w2'.heap.size,0,none⟩) (ns+2) (ns+2)) (List.replicate (ns+2) (0,0))):=(by rw[C.made_spans] at hown3;show C.SOwn _ _ _ _;unfold C.SOwn;rw[List.length_replicate];exact hown3)
      have HG3:Hid (w2'.grownBy w3 none):=hgrow3
      have c9':w3.cell? ⟨b,off+i*11+9,none⟩=some (.slice sa ns sc):=(HAT.out w3 (HBW.out.2.trans ((HB2.out.grown hgrow3 (by omega) (by simp)).mono (by omega)))).1 9 _ rfl
      clear hown3 hgrow3)
    |(refine C.wpList_copy_spans rfl (.tmp 43) (.tmp 48) 79 79 rfl Tryz.underlying79 rsize7_span w2'.heap.size (ns+2) (ns+2) (w.heap.size+1) _ r.spans (.slice sa ns sc) rfl rfl HO3.out (HAT.out w3 (HBW.out.2.trans ((HB2.out.grown HG3.out (by omega) (by simp)).mono (by omega)))).2.spa (by have:=HND.out;omega) ?_
      intro w4 hso4 hgr4
      have H4:Hid (C.SOwn w4 (w.heap.size+1) (.slice (some ⟨w2'.heap.size,0,none⟩) (ns+2) (ns+2)) (r.spans++(List.replicate 0 (-201,0)++List.replicate 2 (0,0)))/\ w3.grownBy w4 (some w2'.heap.size)):=(by rw[sdrop7 _ _ HND.out.2] at hso4;exact⟨hso4,hgr4⟩)
      clear hso4 hgr4))
   obtain⟨gd,hgd⟩:∃g,Z.heap.size=g:=⟨_,rfl⟩
   obtain⟨gs,hgs⟩:∃g,w2'.heap.size=g:=⟨_,rfl⟩
   have HW4:Hid (Below gd Z w4/\ DOwn w4 (w.heap.size+1) (.slice (some ⟨gd,0,none⟩) (nd+3) (nd+3)) (r.data++(List.replicate 0 201++List.replicate 3 0))/\ C.SOwn w4 (w.heap.size+1) (.slice (some ⟨gs,0,none⟩) (ns+2) (ns+2)) (r.spans++(List.replicate 0 (-201,0)++List.replicate 2 (0,0)))/\ gd < gs/\ Z.heap.size=gd/\ w.heap.size+1<= gd):=by
    have e1:=HB2.out.grown HG3.out (by omega) (by simp)
    have e2:=e1.grown H4.out.2 e1.size (by intro j hj;simp only[aqG] at hj;omega)
    have hs3:=HG3.out.size
    have k1:Blk .u8 w4 Z.heap.size 5 _:=(H4.out.2.block _ (by omega) (by simp;omega)).trans ((HG3.out.block _ (by omega) (by simp)).trans HBK.out)
    have k2:=blk_own7 k1 (show w.heap.size+1<= Z.heap.size by omega) (by have:=HND.out;unfold maxLen;simp;omega)
    have hll:(r.data++(List.replicate 0 (201:Int)++List.replicate 3 0)).length=nd+3:=by have:=HND.out;simp;omega
    rw[hll] at k2
    rw[←hgd,←hgs]
    exact⟨e2,k2,H4.out.1,hgl,rfl,hwr⟩
   rw[hgd,hgs]
   have HC4:Hid (∀V,Below gd Z V-> (∀j u,(rcC r (.slice sa ns sc) (.slice da nd dc))[j]?=some u-> V.cell? ⟨b,off+i*11+j,none⟩=some u)):=λV hV=>(HAT.out V (HBW.out.2.trans (hV.mono (by omega)))).1
   have c10:w4.cell? ⟨b,off+i*11+10,none⟩=some (.slice da nd dc):=HC4.out w4 HW4.out.1 10 _ rfl
   clear c9 c9' HO3 HG3 H4 HB2 HBK hgl hgd hgs hwr
   go_upto_region 10 with fail
   go_wp2
   go_loopw [7] (λv wr=>LdJ w4 (w.heap.size+1) gd nd r.data v wr) (λv _=>nd+3 - (intOf v).toNat)
   case atStart=>exact⟨nd,0,rfl,rfl,by omega,HW4.out.2.1,World.grownBy.refl _ _⟩
   case round=>
    obtain⟨k,j,rfl,hkj,hj3,hdo,hgr⟩:=hrel
    have hkw:IntKind.i64.wrap ((k:Int)+1)=(k:Int)+1:=by rw[IntKind.wrap_i64];omega
    have HGr:Hid (w4.grownBy wr (some gd)/\ k=nd+j):=⟨hgr,hkj⟩
    have hknd:nd<= k:=by omega
    by_cases hj:j < 3
    ·have hk':(k:Int) < (nd:Int)+3:=by omega
     obtain⟨q1,q2⟩:=hdo.cells (k:=k) (by rw[hkj];exact get3 r.data nd j HND.out.1 hj)
     have hst:=hdo.put k 201
     rw[hkj,set3 r.data nd j HND.out.1 hj,←hkj] at hst
     have HS2:Hid (LdJ w4 (w.heap.size+1) gd nd r.data (.int .i64 ((k:Int)+1)) (wr.setCell ⟨gd,k,none⟩ (.int .u8 201))):=⟨k+1,j+1,by simp,by omega,by omega,hst,C.grown_trans HGr.out.1 (grown_set _ _ _ _)⟩
     clear hst hdo hgr hkj
     go_wp2
     exact⟨HS2.out,by simp[intOf];omega⟩
    ·obtain rfl:j=3:=by omega
     have hk':¬(k:Int) < (nd:Int)+3:=by omega
     have HW5:Hid (Below gd Z wr/\ DOwn wr (w.heap.size+1) (.slice (some ⟨gd,0,none⟩) (nd+3) (nd+3)) (d7 r.data)/\ C.SOwn wr (w.heap.size+1) (.slice (some ⟨gs,0,none⟩) (ns+2) (ns+2)) (r.spans++(List.replicate 0 (-201,0)++List.replicate 2 (0,0)))):=by
      refine⟨HW4.out.1.grown hgr (by have:=HW4.out.1.size;have:=HW4.out.2.2.2.2.1;omega) (by intro j hj;simp only[aqG] at hj;omega),hdo,own_keep6 HW4.out.2.2.1 hgr (λq hq e=>?_)⟩
      simp[Value.ownBlock] at hq e
      have:=HW4.out.2.2.2.1
      omega
     obtain⟨w5,hw5⟩:∃V,wr=V:=⟨_,rfl⟩
     rw[hw5] at HW5 ⊢
     clear hdo hgr hkj HGr hw5 c10
     have c9:w5.cell? ⟨b,off+i*11+9,none⟩=some (.slice sa ns sc):=HC4.out w5 HW5.out.1 9 _ rfl
     go_upto_region 14 with fail
     go_wp2
     clear c9
     go_loopw [8] (λv wr=>LsJ w5 (w.heap.size+1) gs ns r.spans v wr) (λv _=>ns+2 - (intOf v).toNat)
     case atStart=>exact⟨ns,0,rfl,rfl,by omega,HW5.out.2.2,World.grownBy.refl _ _⟩
     case round=>
      obtain⟨k2,j,rfl,hkj,hj2,hdo,hgr⟩:=hrel
      have hkw2:IntKind.i64.wrap ((k2:Int)+1)=(k2:Int)+1:=by rw[IntKind.wrap_i64];omega
      have HGr:Hid (w5.grownBy wr (some gs)/\ k2=ns+j):=⟨hgr,hkj⟩
      have hkns:ns<= k2:=by omega
      by_cases hj:j < 2
      ·have hk2':(k2:Int) < (ns:Int)+2:=by omega
       obtain⟨q1,q2,q3,q4⟩:=hdo.cells (k:=k2) (p:=(0,0)) (by rw[hkj];exact getS2 r.spans ns j HND.out.2 hj)
       have hst:=hdo.put (k:=k2) (-201) 0
       rw[hkj,setS2 r.spans ns j HND.out.2 hj,←hkj] at hst
       have HS2:Hid (LsJ w5 (w.heap.size+1) gs ns r.spans (.int .i64 ((k2:Int)+1)) ((wr.setCell ⟨gs,k2*2,none⟩ (.int .i64 (-201))).setCell ⟨gs,k2*2+1,none⟩ (.int .i64 0))):=⟨k2+1,j+1,by simp,by omega,by omega,hst,C.grown_trans HGr.out.1 (C.grown_put _ _ _ _ _)⟩
       clear hst hdo hgr hkj
       go_wp2
       exact⟨HS2.out,by simp[intOf];omega⟩
      ·obtain rfl:j=2:=by omega
       have hk2':¬(k2:Int) < (ns:Int)+2:=by omega
       have HLZ:Hid (Lz (w.heap.size+1) wr bx n (w.heap.size+1) vd vs (ps.map Le7.dq) (ps.map Le7.sq) cs (ps++[⟨r,gd,gs⟩]) i/\ Below gd Z wr):=by
        have hb5:Below gd Z wr:=HW5.out.1.grown hgr (by have:=HW5.out.1.size;have:=HW4.out.2.2.2.2.1;omega) (by intro j hj;simp only[aqG] at hj;have:=HW4.out.2.2.2.1;omega)
        refine⟨HPS.out.2.2.2.add (by have:=HPS.out.2.1;omega) (by rw[HW4.out.2.2.2.2.1];exact hb5) ⟨r,gd,gs⟩ ?_ ?_ (by have:=HW4.out.2.2.2.2.1;show _<= gd;omega) (by have:=HW4.out.2.2.2.2.1;have:=HW4.out.2.2.2.1;show _<= gs;omega),hb5⟩
        ·have q:=own_keep6 HW5.out.2.1 hgr (λq hq e=>by simp[Value.ownBlock] at hq e;have:=HW4.out.2.2.2.1;omega)
         have hll:(d7 r.data).length=nd+3:=by have:=HND.out;simp;omega
         rw[hll] at q
         show wr.ownsRow _ _ _ (.slice (some ⟨gd,0,none⟩) (r.data.length+3) (r.data.length+3)) (r.data.length+3) _
         rw[HND.out.1];exact q
        ·have hll:(s7 r.spans).length=ns+2:=by have:=HND.out;simp;omega
         have hdo':C.SOwn wr (w.heap.size+1) (.slice (some ⟨gs,0,none⟩) (ns+2) (ns+2)) (s7 r.spans):=hdo
         unfold C.SOwn at hdo'
         rw[hll] at hdo'
         show wr.ownsRow _ _ _ (.slice (some ⟨gs,0,none⟩) (r.spans.length+2) (r.spans.length+2)) (r.spans.length+2) _
         rw[HND.out.2];exact hdo'
       obtain⟨w6,hw6⟩:∃V,wr=V:=⟨_,rfl⟩
       rw[hw6] at HLZ ⊢
       clear hdo hgr hkj HGr hw6 HW5
       have hdl:(ps.map Le7.dq).length=i:=by rw[List.length_map];exact HPS.out.2.1
       have hsl:(ps.map Le7.sq).length=i:=by rw[List.length_map];exact HPS.out.2.1
       have HB6:Hid (Below (w.heap.size+1) w0 w6):=HBW.out.1.trans (HLZ.out.2.mono (HW4.out.2.2.2.2.2))
       obtain⟨av,cv,hvd⟩:=d_shape HLZ.out.1.dr
       obtain⟨aS,cvs,hvs⟩:=d_shape HLZ.out.1.sr
       rw[hdl] at hvd
       rw[hsl] at hvs
       subst hvd hvs
       have HDL:Hid ((ps.map Le7.dq).length=i/\ (ps.map Le7.sq).length=i):=⟨hdl,hsl⟩
       have HDR:Hid (w6.ownsRow (w.heap.size+1) 35 1 (.slice av i cv) i (ps.map Le7.dq)):=by have:=HLZ.out.1.dr;rw[hdl] at this;exact this
       have b1:w6.cell? ⟨bx,1,none⟩=some (.slice av i cv):=cell_of_row _ _ 1 _ _ _ HLZ.out.1.box
       clear hdl hsl
       go_upto_region 18 with (first
        |(at_builtin;refine wpList_append_own_at _ rfl _ _ 129 rfl (w.heap.size+1) 35 i2 (.slice none 0 0) 1 24 Tryz.underlying129 hi2 hz2 hy2 hb2 rfl (by decide) (.slice av i cv) i (ps.map Le7.dq) rfl (World.ownsRow.alloc HDR.out _) ⟨w6.heap.size,0,none⟩ 1 1 [.slice (some ⟨gd,0,none⟩) (nd+3) (nd+3)] rfl rfl (cell_one_new _ _ _) (by intro u hu;simp at hu;subst hu;rfl) (by unfold maxLen;omega) (by omega) (by simp;have:=HB6.out.size;have:=HLo.out;omega) ?_
          intro v7 w7 o7 g7 _ t7
          have hg7:w6.grownBy w7 (Value.slice av i cv).ownBlock:=(World.grownBy_alloc w6 _ _).trans g7
          obtain⟨a7,c7,rfl⟩:=d_shape o7
          have hx7:=(hg7.block bx HLZ.out.1.bl (λe=>d_box HLZ.out.1.dr HLZ.out.1.box (by decide) e.symm)).trans HLZ.out.1.box
          have b7:=cell_of_row _ _ 1 _ _ _ hx7
          have z7:=frozen_of_row _ _ 1 _ _ hx7
          have H7:Hid (w7.ownsRow (w.heap.size+1) 35 1 (.slice a7 (i+1) c7) (i+1) (ps.map Le7.dq++[.slice (some ⟨gd,0,none⟩) (nd+3) (nd+3)])/\ w6.grownBy w7 (Value.slice av i cv).ownBlock):=⟨o7,hg7⟩
          clear o7 g7 t7 hg7 hx7))
       obtain⟨w8,hw8⟩:∃V,w7.setCell ⟨bx,1,none⟩ (.slice a7 (i+1) c7)=V:=⟨_,rfl⟩
       rw[hw8]
       have HL8:Hid (Lz (w.heap.size+1) w8 bx n (w.heap.size+1) (.slice a7 (i+1) c7) (.slice aS i cvs) (ps.map Le7.dq++[.slice (some ⟨gd,0,none⟩) (nd+3) (nd+3)]) (ps.map Le7.sq) cs (ps++[⟨r,gd,gs⟩]) i/\ Below (w.heap.size+1) w0 w8):=by
        rw[←hw8]
        exact⟨HLZ.out.1.growD _ H7.out.2 (by rw[HDL.out.1];exact H7.out.1),(HB6.out.grown H7.out.2 (by have:=HB6.out.size;have:=HLo.out;omega) (λj hj=>(d_lt HDR.out j hj).1)).setCell (p:=⟨bx,1,none⟩) hbxl _⟩
       clear hw8 b1 b7 z7 HB6 HDR H7
       have HSR:Hid (w8.ownsRow (w.heap.size+1) 79 1 (.slice aS i cvs) i (ps.map Le7.sq)):=by have:=HL8.out.1.sr;rw[HDL.out.2] at this;exact this
       have b2:w8.cell? ⟨bx,2,none⟩=some (.slice aS i cvs):=cell_of_row _ _ 2 _ _ _ HL8.out.1.box
       go_upto_region 19 with (first
        |(at_builtin;refine wpList_append_own_at _ rfl _ _ 130 rfl (w.heap.size+1) 79 i3 (.slice none 0 0) 1 24 Tryz.underlying130 hi3 hz3 hy3 hb3 rfl (by decide) (.slice aS i cvs) i (ps.map Le7.sq) rfl (World.ownsRow.alloc HSR.out _) ⟨w8.heap.size,0,none⟩ 1 1 [.slice (some ⟨gs,0,none⟩) (ns+2) (ns+2)] rfl rfl (cell_one_new _ _ _) (by intro u hu;simp at hu;subst hu;rfl) (by unfold maxLen;omega) (by omega) (by simp;have:=HL8.out.2.size;have:=HLo.out;omega) ?_
          intro v9 w9 o9 g9 _ t9
          have hg9:w8.grownBy w9 (Value.slice aS i cvs).ownBlock:=(World.grownBy_alloc w8 _ _).trans g9
          obtain⟨a9,c9,rfl⟩:=d_shape o9
          have hx9:=(hg9.block bx HL8.out.1.bl (λe=>d_box HL8.out.1.sr HL8.out.1.box (by decide) e.symm)).trans HL8.out.1.box
          have b9:=cell_of_row _ _ 2 _ _ _ hx9
          have z9:=frozen_of_row _ _ 2 _ _ hx9
          have H9:Hid (w9.ownsRow (w.heap.size+1) 79 1 (.slice a9 (i+1) c9) (i+1) (ps.map Le7.sq++[.slice (some ⟨gs,0,none⟩) (ns+2) (ns+2)])/\ w8.grownBy w9 (Value.slice aS i cvs).ownBlock):=⟨o9,hg9⟩
          clear o9 g9 t9 hg9 hx9))
       obtain⟨wA,hwA⟩:∃V,w9.setCell ⟨bx,2,none⟩ (.slice a9 (i+1) c9)=V:=⟨_,rfl⟩
       rw[hwA]
       have HLA:Hid (Lz (w.heap.size+1) wA bx n (w.heap.size+1) (.slice a7 (i+1) c7) (.slice a9 (i+1) c9) (ps.map Le7.dq++[.slice (some ⟨gd,0,none⟩) (nd+3) (nd+3)]) (ps.map Le7.sq++[.slice (some ⟨gs,0,none⟩) (ns+2) (ns+2)]) cs (ps++[⟨r,gd,gs⟩]) i/\ Below (w.heap.size+1) w0 wA):=by
        rw[←hwA]
        exact⟨HL8.out.1.growS _ H9.out.2 (by rw[HDL.out.2];exact H9.out.1),(HL8.out.2.grown H9.out.2 (by have:=HL8.out.2.size;have:=HLo.out;omega) (λj hj=>(d_lt HSR.out j hj).1)).setCell (p:=⟨bx,2,none⟩) hbxl _⟩
       clear hwA b2 b9 z9 HSR H9 HL8
       have hce:=(HAT.out wA (HB0.out.1.trans (HLA.out.2.mono (by omega)))).1
       have c0:=hce 0 (.int .i64 r.kind) rfl
       have c1:=hce 1 (.int .i64 r.org) rfl
       have c2:=hce 2 (.int .i64 r.num) rfl
       have c3:=hce 3 (.int .i64 r.peer) rfl
       have c4:=hce 4 (.int .i64 r.srv) rfl
       have c5:=hce 5 (.int .i64 r.off) rfl
       have c6:=hce 6 (.int .i64 r.red) rfl
       have c7':=hce 7 (.int .i64 r.size) rfl
       have c8:=hce 8 (.int .i64 r.how) rfl
       have c9':=hce 9 (.slice sa ns sc) rfl
       have c10:=hce 10 (.slice da nd dc) rfl
       simp only[Nat.add_zero] at c0
       have bA:wA.cell? ⟨bx,0,none⟩=some (.slice (some ⟨w.heap.size+1,0,none⟩) (n+2) (n+2)):=cell_of_row _ _ 0 _ _ _ HLA.out.1.box
       obtain⟨hu,hz⟩:=row_cells7 HLA.out.1.all i (by omega)
       obtain⟨u0',x0⟩:=hu 0 (by omega)
       obtain⟨u1',x1⟩:=hu 1 (by omega)
       obtain⟨u2',x2⟩:=hu 2 (by omega)
       obtain⟨u3',x3⟩:=hu 3 (by omega)
       obtain⟨u4',x4⟩:=hu 4 (by omega)
       obtain⟨u5',x5⟩:=hu 5 (by omega)
       obtain⟨u6',x6⟩:=hu 6 (by omega)
       obtain⟨u7',x7⟩:=hu 7 (by omega)
       obtain⟨u8',x8⟩:=hu 8 (by omega)
       obtain⟨u9',x9⟩:=hu 9 (by omega)
       obtain⟨u10',x10⟩:=hu 10 (by omega)
       simp only[Nat.add_zero] at x0
       have hidx:(i:Int) < (n:Int)+2:=by omega
       clear hu hce
       go_region
       obtain⟨wB,hwB⟩:∃V,(put11 wA (w.heap.size+1) (i*11) r (.slice sa ns sc) (.slice da nd dc)).drew=V:=⟨_,rfl⟩
       have HLB:Hid (Lz (w.heap.size+1) wB bx n (w.heap.size+1) (.slice a7 (i+1) c7) (.slice a9 (i+1) c9) (ps.map Le7.dq++[.slice (some ⟨gd,0,none⟩) (nd+3) (nd+3)]) (ps.map Le7.sq++[.slice (some ⟨gs,0,none⟩) (ns+2) (ns+2)]) (set11 cs (i*11) r (.slice sa ns sc) (.slice da nd dc)) (ps++[⟨r,gd,gs⟩]) i/\ Below (w.heap.size+1) w0 wB):=by
        rw[←hwB]
        exact⟨(HLA.out.1.put11 (i*11) r _ _ (aqH _)).drew,bel_drw7 (HLA.out.2.grown (put11_grown _ _ _ _ _ _) (by have:=HLA.out.2.size;have:=HLo.out;omega) (by intro j hj;simp only[aqG] at hj;omega))⟩
       unfold put11 at hwB
       rw[hwB]
       clear hwB c0 c1 c2 c3 c4 c5 c6 c7' c8 c9' c10 x0 x1 x2 x3 x4 x5 x6 x7 x8 x9 x10 hz HLA bA
       have c10:=(HAT.out wB (HB0.out.1.trans (HLB.out.2.mono (by omega)))).1 10 (.slice da nd dc) rfl
       have bB:wB.cell? ⟨bx,0,none⟩=some (.slice (some ⟨w.heap.size+1,0,none⟩) (n+2) (n+2)):=cell_of_row _ _ 0 _ _ _ HLB.out.1.box
       obtain⟨hu,hz⟩:=row_cells7 HLB.out.1.all i (by omega)
       obtain⟨u10',x10⟩:=hu 10 (by omega)
       have hndc:(nd:Int)<= (nd:Int)+3:=by omega
       have hnd0:(0:Int)<= (nd:Int):=by omega
       clear hu
       go_upto_region 20 with fail
       go_region
       obtain⟨wC,hwC⟩:∃V,(wB.setCell ⟨w.heap.size+1,i*11+10,none⟩ (.slice (some ⟨gd,0,none⟩) nd (nd+3))).drew=V:=⟨_,rfl⟩
       have HLC:Hid (Lz (w.heap.size+1) wC bx n (w.heap.size+1) (.slice a7 (i+1) c7) (.slice a9 (i+1) c9) (ps.map Le7.dq++[.slice (some ⟨gd,0,none⟩) (nd+3) (nd+3)]) (ps.map Le7.sq++[.slice (some ⟨gs,0,none⟩) (ns+2) (ns+2)]) ((set11 cs (i*11) r (.slice sa ns sc) (.slice da nd dc)).set (i*11+10) (.slice (some ⟨gd,0,none⟩) nd (nd+3))) (ps++[⟨r,gd,gs⟩]) i/\ Below (w.heap.size+1) w0 wC):=by
        rw[←hwC]
        exact⟨(HLB.out.1.put (i*11+10) _ (by omega)).drew,bel_drw7 (HLB.out.2.setCell (p:=⟨w.heap.size+1,i*11+10,none⟩) (aqH _) _)⟩
       rw[hwC]
       clear hwC c10 x10 hz HLB bB
       have c9':=(HAT.out wC (HB0.out.1.trans (HLC.out.2.mono (by omega)))).1 9 (.slice sa ns sc) rfl
       have bC:wC.cell? ⟨bx,0,none⟩=some (.slice (some ⟨w.heap.size+1,0,none⟩) (n+2) (n+2)):=cell_of_row _ _ 0 _ _ _ HLC.out.1.box
       obtain⟨hu,hz⟩:=row_cells7 HLC.out.1.all i (by omega)
       obtain⟨u9',x9⟩:=hu 9 (by omega)
       have hnsc:(ns:Int)<= (ns:Int)+2:=by omega
       have hns0:(0:Int)<= (ns:Int):=by omega
       clear hu
       go_upto_region 21 with fail
       go_region
       obtain⟨wD,hwD⟩:∃V,(wC.setCell ⟨w.heap.size+1,i*11+9,none⟩ (.slice (some ⟨gs,0,none⟩) ns (ns+2))).drew=V:=⟨_,rfl⟩
       have HLD:Hid (LnJ w0 l (w.heap.size+1) n bx (w.heap.size+1) (.int .i64 ((i:Int)+1)) wD):=by
        rw[←hwD]
        refine⟨i+1,.slice a7 (i+1) c7,.slice a9 (i+1) c9,((set11 cs (i*11) r (.slice sa ns sc) (.slice da nd dc)).set (i*11+10) (.slice (some ⟨gd,0,none⟩) nd (nd+3))).set (i*11+9) (.slice (some ⟨gs,0,none⟩) ns (ns+2)),ps++[⟨r,gd,gs⟩],by simp,by omega,?_,by simp[HPS.out.2.1],?_,bel_drw7 (HLC.out.2.setCell (p:=⟨w.heap.size+1,i*11+9,none⟩) (aqH _) _)⟩
        ·rw[List.map_append,HPS.out.1,List.take_add_one,HPS.out.2.2.1];rfl
        ·have h1:=(HLC.out.1.put (i*11+9) (.slice (some ⟨gs,0,none⟩) ns (ns+2)) (by omega)).drew
         have e1:(ps++[(⟨r,gd,gs⟩:Le7)]).map Le7.dq=ps.map Le7.dq++[.slice (some ⟨gd,0,none⟩) (nd+3) (nd+3)]:=by rw[List.map_append];show _++[Value.slice (some ⟨gd,0,none⟩) (r.data.length+3) (r.data.length+3)]=_;rw[HND.out.1]
         have e2:(ps++[(⟨r,gd,gs⟩:Le7)]).map Le7.sq=ps.map Le7.sq++[.slice (some ⟨gs,0,none⟩) (ns+2) (ns+2)]:=by rw[List.map_append];show _++[Value.slice (some ⟨gs,0,none⟩) (r.spans.length+2) (r.spans.length+2)]=_;rw[HND.out.2]
         rw[e1,e2]
         refine h1.fin (λo ho j u hj=>?_)
         rw[List.getElem?_append_right (by have:=HPS.out.2.1;omega),HPS.out.2.1,Nat.sub_self] at ho
         simp at ho
         subst ho
         have hcl:cs.length=(n+2)*11:=HPS.out.2.2.2.all.1
         refine set13_at cs (i*11) r _ _ _ _ (by omega) j u ?_
         rw[←HND.out.1,←HND.out.2]
         exact hj
       rw[hwD]
       clear hwD c9' x9 hz HLC bC
       go_wp2
       exact⟨HLD.out,by simp[intOf];omega⟩
  ·obtain rfl:i=n:=by omega
   have hin':¬(i:Int) < (i:Int):=by omega
   have HPS:Hid (ps.map Le7.r=l/\ Lz (w.heap.size+1) wr bx i (w.heap.size+1) vd vs (ps.map Le7.dq) (ps.map Le7.sq) cs ps i):=by
    refine⟨?_,hlz⟩
    rw[hps,List.take_of_length_le (by have:=HA.out.2.1;omega)]
   obtain⟨Z,hZ⟩:∃V,wr=V:=⟨_,rfl⟩
   obtain⟨av,cv,hvd⟩:=d_shape hlz.dr
   obtain⟨aS,cvs,hvs⟩:=d_shape hlz.sr
   rw[List.length_map,hpl] at hvd hvs
   subst hvd hvs
   rw[hZ] at HBW HPS hwr ⊢
   clear hps hpl hlz hbw hZ hin
   have bA:Z.cell? ⟨bx,0,none⟩=some (.slice (some ⟨w.heap.size+1,0,none⟩) (i+2) (i+2)):=cell_of_row _ _ 0 _ _ _ HPS.out.2.box
   obtain⟨hu,hz⟩:=row_cells7 HPS.out.2.all i (by omega)
   obtain⟨u0',x0⟩:=hu 0 (by omega)
   obtain⟨u1',x1⟩:=hu 1 (by omega)
   obtain⟨u2',x2⟩:=hu 2 (by omega)
   obtain⟨u3',x3⟩:=hu 3 (by omega)
   obtain⟨u4',x4⟩:=hu 4 (by omega)
   obtain⟨u5',x5⟩:=hu 5 (by omega)
   obtain⟨u6',x6⟩:=hu 6 (by omega)
   obtain⟨u7',x7⟩:=hu 7 (by omega)
   obtain⟨u8',x8⟩:=hu 8 (by omega)
   obtain⟨u9',x9⟩:=hu 9 (by omega)
   obtain⟨u10',x10⟩:=hu 10 (by omega)
   simp only[Nat.add_zero] at x0
   have hidx:(i:Int) < (i:Int)+2:=by omega
   clear hu
   go_upto_region 23 with fail
   obtain⟨wB,hwB⟩:∃V,put11 Z (w.heap.size+1) (i*11) ⟨-201,0,0,0,0,0,0,0,0,[],[]⟩ (.slice none 0 0) (.slice none 0 0)=V:=⟨_,rfl⟩
   obtain⟨cs1,hcs1⟩:∃cs1,set11 cs (i*11) ⟨-201,0,0,0,0,0,0,0,0,[],[]⟩ (.slice none 0 0) (.slice none 0 0)=cs1:=⟨_,rfl⟩
   have HLB:Hid (Lz (w.heap.size+1) wB bx i (w.heap.size+1) (.slice av i cv) (.slice aS i cvs) (ps.map Le7.dq) (ps.map Le7.sq) cs1 ps i/\ Below (w.heap.size+1) w0 wB/\ cs1[i*11]?=some (.int .i64 (-201))):=by
    rw[←hwB,←hcs1]
    refine⟨HPS.out.2.put11 (i*11) _ _ _ (aqH _),HBW.out.1.grown (put11_grown _ _ _ _ _ _) hwr (by intro j hj;simp only[aqG] at hj;omega),?_⟩
    have hcl:cs.length=(i+2)*11:=HPS.out.2.all.1
    exact set11_at cs (i*11) _ _ _ (by omega) 0 _ rfl
   unfold put11 at hwB
   rw[hwB]
   clear hwB hcs1 x0 x1 x2 x3 x4 x5 x6 x7 x8 x9 x10 hz bA
   have bA:wB.cell? ⟨bx,0,none⟩=some (.slice (some ⟨w.heap.size+1,0,none⟩) (i+2) (i+2)):=cell_of_row _ _ 0 _ _ _ HLB.out.1.box
   obtain⟨hu,hz⟩:=row_cells7 HLB.out.1.all (i+1) (by omega)
   obtain⟨u0',x0⟩:=hu 0 (by omega)
   obtain⟨u1',x1⟩:=hu 1 (by omega)
   obtain⟨u2',x2⟩:=hu 2 (by omega)
   obtain⟨u3',x3⟩:=hu 3 (by omega)
   obtain⟨u4',x4⟩:=hu 4 (by omega)
   obtain⟨u5',x5⟩:=hu 5 (by omega)
   obtain⟨u6',x6⟩:=hu 6 (by omega)
   obtain⟨u7',x7⟩:=hu 7 (by omega)
   obtain⟨u8',x8⟩:=hu 8 (by omega)
   obtain⟨u9',x9⟩:=hu 9 (by omega)
   obtain⟨u10',x10⟩:=hu 10 (by omega)
   simp only[Nat.add_zero] at x0
   have hidx:(i:Int)+1 < (i:Int)+2:=by omega
   have hidx0:(0:Int)<= (i:Int)+1:=by omega
   clear hu
   go_upto_region 24 with fail
   obtain⟨wC,hwC⟩:∃V,put11 wB (w.heap.size+1) ((i+1)*11) ⟨-202,0,0,0,0,0,0,0,0,[],[]⟩ (.slice none 0 0) (.slice none 0 0)=V:=⟨_,rfl⟩
   obtain⟨cs2,hcs2⟩:∃cs2,set11 cs1 ((i+1)*11) ⟨-202,0,0,0,0,0,0,0,0,[],[]⟩ (.slice none 0 0) (.slice none 0 0)=cs2:=⟨_,rfl⟩
   have HLC:Hid (Lz (w.heap.size+1) wC bx i (w.heap.size+1) (.slice av i cv) (.slice aS i cvs) (ps.map Le7.dq) (ps.map Le7.sq) cs2 ps i/\ Below (w.heap.size+1) w0 wC/\ cs2[i*11]?=some (.int .i64 (-201))/\ cs2[(i+1)*11]?=some (.int .i64 (-202))):=by
    rw[←hwC,←hcs2]
    have hcl:cs1.length=(i+2)*11:=HLB.out.1.all.1
    refine⟨HLB.out.1.put11 ((i+1)*11) _ _ _ (by omega),HLB.out.2.1.grown (put11_grown _ _ _ _ _ _) (by have:=HLB.out.2.1.size;have:=HLo.out;omega) (by intro j hj;simp only[aqG] at hj;omega),?_,?_⟩
    ·rw[set11_ne _ _ _ _ _ _ (.inl (by omega))];exact HLB.out.2.2
    ·exact set11_at cs1 ((i+1)*11) _ _ _ (by omega) 0 _ rfl
   unfold put11 at hwC
   rw[hwC]
   clear hwC hcs2 x0 x1 x2 x3 x4 x5 x6 x7 x8 x9 x10 hz bA HLB
   have k0:wC.cell? ⟨bx,0,none⟩=some (.slice (some ⟨w.heap.size+1,0,none⟩) (i+2) (i+2)):=cell_of_row _ _ 0 _ _ _ HLC.out.1.box
   have k1:wC.cell? ⟨bx,1,none⟩=some (.slice av i cv):=cell_of_row _ _ 1 _ _ _ HLC.out.1.box
   have k2:wC.cell? ⟨bx,2,none⟩=some (.slice aS i cvs):=cell_of_row _ _ 2 _ _ _ HLC.out.1.box
   have hrb:=(HLC.out.2.1.block w.heap.size (by omega)).trans HB0.out.2.1
   have r0:=cell_of_row _ _ 0 _ _ _ hrb
   have r1:=cell_of_row _ _ 1 _ _ _ hrb
   have r2:=cell_of_row _ _ 2 _ _ _ hrb
   have rz0:=frozen_of_row _ _ 0 _ _ hrb
   have rz1:=frozen_of_row _ _ 1 _ _ hrb
   have rz2:=frozen_of_row _ _ 2 _ _ hrb
   have HRB:Hid (wC.heap[w.heap.size]?=some (.cells #[.slice none 0 0,.slice none 0 0,.slice none 0 0] 133 (0,0))):=hrb
   clear hrb
   go_wp2
   have hV0:(wC.setCell ⟨w.heap.size,0,none⟩ (.slice (some ⟨w.heap.size+1,0,none⟩) (i+2) (i+2))).heap[w.heap.size]?=some (.cells #[.slice (some ⟨w.heap.size+1,0,none⟩) (i+2) (i+2),.slice none 0 0,.slice none 0 0] 133 (0,0)):=heap_setCell_same _ _ 0 _ _ _ HRB.out
   have hV1:((wC.setCell ⟨w.heap.size,0,none⟩ (.slice (some ⟨w.heap.size+1,0,none⟩) (i+2) (i+2))).setCell ⟨w.heap.size,1,none⟩ (.slice av i cv)).heap[w.heap.size]?=some (.cells #[.slice (some ⟨w.heap.size+1,0,none⟩) (i+2) (i+2),.slice av i cv,.slice none 0 0] 133 (0,0)):=heap_setCell_same _ _ 1 _ _ _ hV0
   have hV2:(((wC.setCell ⟨w.heap.size,0,none⟩ (.slice (some ⟨w.heap.size+1,0,none⟩) (i+2) (i+2))).setCell ⟨w.heap.size,1,none⟩ (.slice av i cv)).setCell ⟨w.heap.size,2,none⟩ (.slice aS i cvs)).heap[w.heap.size]?=some (.cells #[.slice (some ⟨w.heap.size+1,0,none⟩) (i+2) (i+2),.slice av i cv,.slice aS i cvs] 133 (0,0)):=heap_setCell_same _ _ 2 _ _ _ hV1
   have hs:∀k,k≠w.heap.size-> (((wC.setCell ⟨w.heap.size,0,none⟩ (.slice (some ⟨w.heap.size+1,0,none⟩) (i+2) (i+2))).setCell ⟨w.heap.size,1,none⟩ (.slice av i cv)).setCell ⟨w.heap.size,2,none⟩ (.slice aS i cvs)).heap[k]?=wC.heap[k]?:=λk hk=>(heap_setCell_other _ _ _ _ hk).trans ((heap_setCell_other _ _ _ _ hk).trans (heap_setCell_other _ _ _ _ hk))
   have hbe:Below w.heap.size w (((wC.setCell ⟨w.heap.size,0,none⟩ (.slice (some ⟨w.heap.size+1,0,none⟩) (i+2) (i+2))).setCell ⟨w.heap.size,1,none⟩ (.slice av i cv)).setCell ⟨w.heap.size,2,none⟩ (.slice aS i cvs)):=(((HB0.out.1.trans (HLC.out.2.1.mono (by omega))).setCell (p:=⟨w.heap.size,0,none⟩) (aqH _) _).setCell (p:=⟨w.heap.size,1,none⟩) (aqH _) _).setCell (p:=⟨w.heap.size,2,none⟩) (aqH _) _
   change bodyPost _ _ _ _ _ (((wC.setCell ⟨w.heap.size,0,none⟩ (.slice (some ⟨w.heap.size+1,0,none⟩) (i+2) (i+2))).setCell ⟨w.heap.size,1,none⟩ (.slice av i cv)).setCell ⟨w.heap.size,2,none⟩ (.slice aS i cvs))
   generalize ((wC.setCell ⟨w.heap.size,0,none⟩ (.slice (some ⟨w.heap.size+1,0,none⟩) (i+2) (i+2))).setCell ⟨w.heap.size,1,none⟩ (.slice av i cv)).setCell ⟨w.heap.size,2,none⟩ (.slice aS i cvs)=W9 at*
   have hlv:=λj=>cell_of_row _ w.heap.size j _ _ _ hV2
   clear k0 k1 k2 r0 r1 r2 rz0 rz1 rz2 hV0 hV1
   refine bodyPost_ret (v:=.agg #[.slice (some ⟨w.heap.size+1,0,none⟩) (i+2) (i+2),.slice av i cv,.slice aS i cvs]) (by simp[results,Tryz.results69,go_sem,hlv]) rfl ?_
   exact⟨_,_,_,cs2,ps,bx,rfl,HPS.out.1,HLC.out.1.same (λk _ hk=>hs k (by omega)),HLC.out.2.2.1,HLC.out.2.2.2,hbe⟩
end Go.Proofs.YtllhbhogfffedaaGreatDoor.K
