import Derived.Test.YtllhbhogfffedaaGreatDoorJnAwk
import Derived.Test.YtllhbhogfffedaaGreatDoorDkCr
set_option maxHeartbeats 8000000
set_option maxRecDepth 100000
namespace Go.Proofs.YtllhbhogfffedaaGreatDoor.K
open Go.RowKit
set_option linter.unusedVariables false
set_option linter.unusedSimpArgs false
def bxE (vf:Value) (D:Dk):Array Value:=#[vf,.int .i64 D.room,.int .i64 D.acts,.bool D.arm,.bool D.dn,.bool D.dw]
structure Ec (w:World) (x:Nat) (F:Nat-> Prop) (D:Dk) (vf:Value) (L:List Fv):Prop where
 map:L.map (·.1)=D.fs
 box:w.heap[x]?=some (.cells (bxE vf D) 90 (0,0))
 row:w.ownsRow 0 94 3 vf L.length (L.flatMap fcell)
 byt:∀(i:Nat) p,L[i]?=some p-> w.ownsRow 0 5 1 p.2 p.1.bs.length (p.1.bs.map (Value.int .u8))
 dis:∀(i j:Nat) p q g,L[i]?=some p-> L[j]?=some q-> p.2.ownBlock=some g-> q.2.ownBlock=some g-> i=j
 fx:F x
 fr:∀g,vf.ownBlock=some g-> F g
 fb:∀(i:Nat) p g,L[i]?=some p-> p.2.ownBlock=some g-> F g
def Em (w:World) (x:Nat) (F:Nat-> Prop) (D:Dk):Prop:=∃vf L,Ec w x F D vf L
section
variable {w w':World} {x:Nat} {F G:Nat-> Prop} {D:Dk} {vf:Value} {L:List Fv}
theorem Ec.xlt (h:Ec w x F D vf L):x < w.heap.size:=(Array.getElem?_eq_some_iff.1 h.box).1
theorem Ec.len (h:Ec w x F D vf L):D.fs.length=L.length:=by rw[←h.map];simp
theorem Ec.file (h:Ec w x F D vf L) {i:Nat} {p:Fv} (hp:L[i]?=some p):D.fs[i]?=some p.1:=by rw[←h.map,List.getElem?_map,hp];rfl
theorem Ec.same (h:Ec w x F D vf L) (hs:∀k,F k-> k < w.heap.size-> w'.heap[k]?=w.heap[k]?):Ec w' x F D vf L:=
 ⟨h.map,(hs x h.fx h.xlt).trans h.box,d_blk h.row (λg hg=>hs g (h.fr g hg) (d_lt h.row g hg).2),λi p hp=>d_blk (h.byt i p hp) (λg hg=>hs g (h.fb i p g hp hg) (d_lt (h.byt i p hp) g hg).2),h.dis,h.fx,h.fr,h.fb⟩
theorem Ec.mono (h:Ec w x F D vf L) (hf:∀k,F k-> k < w.heap.size-> G k):Ec w x G D vf L:=
 ⟨h.map,h.box,h.row,h.byt,h.dis,hf x h.fx h.xlt,λg hg=>hf g (h.fr g hg) (d_lt h.row g hg).2,λi p g hp hg=>hf g (h.fb i p g hp hg) (d_lt (h.byt i p hp) g hg).2⟩
theorem Em.same (h:Em w x F D) (hs:∀k,F k-> k < w.heap.size-> w'.heap[k]?=w.heap[k]?):Em w' x F D:=by
 obtain⟨vf,L,h⟩:=h;exact⟨vf,L,h.same hs⟩
theorem Em.mono (h:Em w x F D) (hf:∀k,F k-> k < w.heap.size-> G k):Em w x G D:=by
 obtain⟨vf,L,h⟩:=h;exact⟨vf,L,h.mono hf⟩
theorem Em.below (h:Em w x F D) (hb:Below w.heap.size w w'):Em w' x F D:=h.same (λk _ hk=>hb.block k hk)
theorem Ec.c (h:Ec w x F D vf L) (j:Nat):w.cell? ⟨x,j,none⟩=(bxE vf D)[j]?:=cell_of_row _ _ j _ _ _ h.box
theorem Ec.z (h:Ec w x F D vf L) (j:Nat):w.frozen? ⟨x,j,none⟩=false:=frozen_of_row _ _ j _ _ h.box
theorem Ec.at (h:Ec w x F D vf L) {i:Nat} {p:Fv} (hp:L[i]?=some p):∃g cap,vf=.slice (some ⟨g,0,none⟩) L.length cap/\ F g/\ g < w.heap.size/\ w.cell? ⟨g,i*3,none⟩=some (.string p.1.nm)/\ w.cell? ⟨g,i*3+1,none⟩=some p.2/\ w.cell? ⟨g,i*3+2,none⟩=some (.int .i64 p.1.sf)/\ ∀j,w.frozen? ⟨g,j,none⟩=false:=by
 have hi:=(List.getElem?_eq_some_iff.mp hp).1
 obtain⟨g,cap,hv⟩:=d_some h.row (by omega)
 obtain⟨k0,k1,k2⟩:=fcell_get hp
 subst hv
 exact⟨g,cap,rfl,h.fr g rfl,(d_lt h.row g rfl).2,(World.ownsRow.cellAt h.row _ (by omega)).trans k0,(World.ownsRow.cellAt h.row _ (by omega)).trans k1,(World.ownsRow.cellAt h.row _ (by omega)).trans k2,λj=>World.ownsRow.frozenAt h.row _⟩
end
section
variable {W w':World} {x gF nf cf i:Nat} {F:Nat-> Prop} {D:Dk} {vf:Value} {L:List Fv} {p:Fv}
theorem Ec.bx (h:Ec W x F D vf L) (hp:L[i]?=some p):p.2.ownBlock≠some x:=d_box (h.byt i p hp) h.box (by decide)
theorem Ec.rx (h:Ec W x F D vf L):vf.ownBlock≠some x:=d_box h.row h.box (by decide)
theorem Ec.rb (h:Ec W x F D vf L) (hp:L[i]?=some p) {g:Nat} (hg:vf.ownBlock=some g):p.2.ownBlock≠some g:=d_apart h.row (h.byt i p hp) (by decide) hg
theorem Ec.app (h:Ec W x F D (.slice (some ⟨gF,0,none⟩) nf cf) L) (hp:L[i]?=some p) {v':Value} {bs:List Int} (r1:w'.ownsRow 0 5 1 v' bs.length (bs.map (Value.int .u8))) (r2:W.grownBy w' p.2.ownBlock) (r3:v'.ownBlock=p.2.ownBlock∨∃g,v'.ownBlock=some g/\ W.heap.size<= g):
 Ec (w'.setCell ⟨gF,i*3+1,none⟩ v') x (up F W) (D.fs' (D.fs.set i ⟨p.1.nm,bs,p.1.sf⟩)) (.slice (some ⟨gF,0,none⟩) nf cf) (L.set i (⟨p.1.nm,bs,p.1.sf⟩,v')):=by
 obtain rfl:L.length=nf:=by obtain⟨a,c,e⟩:=d_shape h.row;simp only[Value.slice.injEq] at e;exact e.2.1.symm
 have hgx:gF≠x:=λe=>h.rx (by rw[e];rfl)
 have hgl:gF < W.heap.size:=(d_lt h.row gF rfl).2
 have hrow:w'.ownsRow 0 94 3 (.slice (some ⟨gF,0,none⟩) L.length cf) L.length (L.flatMap fcell):=d_blk h.row (λg hg=>r2.block g (d_lt h.row g hg).2 (λe=>h.rb hp hg e.symm))
 have hset:∀g,g≠gF-> (w'.setCell ⟨gF,i*3+1,none⟩ v').heap[g]?=w'.heap[g]?:=λg hg=>heap_setCell_other _ _ _ _ hg
 have hbj:∀(j:Nat) q,L[j]?=some q-> ∀g,q.2.ownBlock=some g-> g≠gF:=λj q hq g hg e=>h.rb hq rfl (by rw[←e];exact hg)
 have hv'g:∀g,v'.ownBlock=some g-> g≠gF:=λg hg e=>d_apart hrow r1 (by decide) (g:=gF) rfl (by rw[←e];exact hg)
 refine⟨by rw[List.map_set];simp only[Dk.fs',h.map],?_,?_,λj q hq=>?_,λj k q u g hj hk hg1 hg2=>?_,.inl h.fx,λg hg=>.inl (h.fr g hg),λj q g hj hg=>?_⟩
 ·exact(hset x (λe=>hgx e.symm)).trans ((r2.block x h.xlt (λe=>h.bx hp e.symm)).trans h.box)
 ·have h1:=World.ownsRow.stored hrow (i*3+1) v'
  rw[List.length_set,←fcell_set1 bs v' hp]
  exact h1.1
 ·rcases set_get hq with ⟨rfl,rfl⟩|⟨hne,hq'⟩
  ·exact d_blk r1 (λg hg=>hset g (hv'g g hg))
  ·refine d_blk (h.byt j q hq') (λg hg=>(hset g (hbj j q hq' g hg)).trans (r2.block g (d_lt (h.byt j q hq') g hg).2 (λe=>hne (h.dis j i q p g hq' hp hg e.symm))))
 ·have new:∀(j:Nat) q,j≠i-> L[j]?=some q-> q.2.ownBlock=some g-> v'.ownBlock=some g-> False:=λj q hji hq hg hg'=>by
   rcases r3 with e|⟨g',e,hl⟩
   ·exact hji (h.dis j i q p g hq hp hg (e ▸ hg'))
   ·have e2:g'=g:=Option.some.inj (e.symm.trans hg')
    have:=(d_lt (h.byt j q hq) g hg).2
    omega
  rcases set_get hj with ⟨rfl,rfl⟩|⟨hne,hj'⟩
  ·rcases set_get hk with ⟨rfl,rfl⟩|⟨hne2,hk'⟩
   ·rfl
   ·exact(new k u hne2 hk' hg2 hg1).elim
  ·rcases set_get hk with ⟨rfl,rfl⟩|⟨hne2,hk'⟩
   ·exact(new j q hne hj' hg1 hg2).elim
   ·exact h.dis j k q u g hj' hk' hg1 hg2
 ·rcases set_get hj with ⟨rfl,rfl⟩|⟨hne,hj'⟩
  ·rcases r3 with e|⟨g',e,hl⟩
   ·exact .inl (h.fb j p g hp (e ▸ hg))
   ·have e2:g'=g:=Option.some.inj (e.symm.trans hg)
    exact .inr (by omega)
  ·exact .inl (h.fb j q g hj' hg)
theorem Ec.new (h:Ec W x F D vf L) {v':Value} {s:ByteArray} (r1:w'.ownsRow 0 94 3 v' (L.length+1) (L.flatMap fcell++[.string s,.slice none 0 0,.int .i64 0])) (r2:W.grownBy w' vf.ownBlock) (r3:v'.ownBlock=vf.ownBlock∨∃g,v'.ownBlock=some g/\ W.heap.size<= g):
 Ec (w'.setCell ⟨x,0,none⟩ v') x (up F W) (D.fs' (D.fs++[⟨s,[],0⟩])) v' (L++[(⟨s,[],0⟩,.slice none 0 0)]):=by
 have hB:w'.heap[x]?=_:=(r2.block x h.xlt (λe=>h.rx e.symm)).trans h.box
 have hv:v'.ownBlock≠some x:=d_box r1 hB (by decide)
 have hset:∀g,g≠x-> (w'.setCell ⟨x,0,none⟩ v').heap[g]?=w'.heap[g]?:=λg hg=>heap_setCell_other _ _ _ _ hg
 have last:∀(j:Nat) q,(L++[((⟨s,[],0⟩:Fl),Value.slice none 0 0)])[j]?=some q-> L[j]?=some q∨q=(⟨s,[],0⟩,.slice none 0 0):=λj q hq=>by
  rcases Nat.lt_or_ge j L.length with e|e
  ·rw[List.getElem?_append_left e] at hq;exact .inl hq
  ·rw[List.getElem?_append_right e] at hq
   rcases Nat.eq_zero_or_pos (j - L.length) with e2|e2
   ·rw[e2] at hq;simp at hq;exact .inr hq.symm
   ·rw[List.getElem?_eq_none (by simp;omega)] at hq;cases hq
 refine⟨by rw[List.map_append,h.map];rfl,?_,?_,λj q hq=>?_,λj k q u g hj hk hg1 hg2=>?_,.inl h.fx,λg hg=>?_,λj q g hj hg=>?_⟩
 ·exact heap_setCell_same w' x 0 _ _ _ hB
 ·rw[List.length_append,List.flatMap_append]
  exact d_blk r1 (λg hg=>hset g (λe=>hv (by rw[←e];exact hg)))
 ·rcases last j q hq with hq'|rfl
  ·exact d_blk (h.byt j q hq') (λg hg=>(hset g (λe=>h.bx hq' (by rw[←e];exact hg))).trans (r2.block g (d_lt (h.byt j q hq') g hg).2 (λe=>h.rb hq' e.symm hg)))
  ·exact World.ownsRow_nil _ _ _ _
 ·rcases last j q hj with hj'|rfl
  ·rcases last k u hk with hk'|rfl
   ·exact h.dis j k q u g hj' hk' hg1 hg2
   ·cases hg2
  ·cases hg1
 ·rcases r3 with e|⟨g',e,hl⟩
  ·exact .inl (h.fr g (e ▸ hg))
  ·have e2:g'=g:=Option.some.inj (e.symm.trans hg)
   exact .inr (by omega)
 ·rcases last j q hj with hj'|rfl
  ·exact .inl (h.fb j q g hj' hg)
  ·cases hg
theorem Ec.boxed (h:Ec W x F D vf L) {D':Dk} (hf:D'.fs=D.fs) (hB:w'.heap[x]?=some (.cells (bxE vf D') 90 (0,0))) (hs:∀k,k≠x-> w'.heap[k]?=W.heap[k]?):Ec w' x F D' vf L:=
 ⟨by rw[h.map,hf],hB,d_blk h.row (λg hg=>hs g (λe=>h.rx (by rw[←e];exact hg))),λi p hp=>d_blk (h.byt i p hp) (λg hg=>hs g (λe=>h.bx hp (by rw[←e];exact hg))),h.dis,h.fx,h.fr,h.fb⟩
theorem Ec.cellF (h:Ec W x F D (.slice (some ⟨gF,0,none⟩) nf cf) L) (hp:L[i]?=some p) {k:Nat} {v:Value} {q:Fl} (hq:q.bs=p.1.bs) (hs:(L.flatMap fcell).set k v=(L.set i (q,p.2)).flatMap fcell):
 Ec (W.setCell ⟨gF,k,none⟩ v) x F (D.fs' (D.fs.set i q)) (.slice (some ⟨gF,0,none⟩) nf cf) (L.set i (q,p.2)):=by
 obtain rfl:L.length=nf:=by obtain⟨a,c,e⟩:=d_shape h.row;simp only[Value.slice.injEq] at e;exact e.2.1.symm
 have hgx:gF≠x:=λe=>h.rx (by rw[e];rfl)
 have hset:∀g,g≠gF-> (W.setCell ⟨gF,k,none⟩ v).heap[g]?=W.heap[g]?:=λg hg=>heap_setCell_other _ _ _ _ hg
 have hbj:∀(j:Nat) q,L[j]?=some q-> ∀g,q.2.ownBlock=some g-> g≠gF:=λj q hq g hg e=>h.rb hq rfl (by rw[←e];exact hg)
 refine⟨by rw[List.map_set];simp only[Dk.fs',h.map],(hset x (λe=>hgx e.symm)).trans h.box,?_,λj u hu=>?_,λj k' u u' g hj hk hg1 hg2=>?_,h.fx,h.fr,λj u g hj hg=>?_⟩
 ·rw[List.length_set,←hs];exact(World.ownsRow.stored h.row k v).1
 ·rcases set_get hu with ⟨rfl,rfl⟩|⟨hne,hu'⟩
  ·simp only[hq];exact d_blk (h.byt j p hp) (λg hg=>hset g (hbj j p hp g hg))
  ·exact d_blk (h.byt j u hu') (λg hg=>hset g (hbj j u hu' g hg))
 ·rcases set_get hj with ⟨rfl,rfl⟩|⟨hne,hj'⟩
  ·rcases set_get hk with ⟨rfl,rfl⟩|⟨hne2,hk'⟩
   ·rfl
   ·exact h.dis j k' p u' g hp hk' hg1 hg2
  ·rcases set_get hk with ⟨rfl,rfl⟩|⟨hne2,hk'⟩
   ·exact h.dis j k' u p g hj' hp hg1 hg2
   ·exact h.dis j k' u u' g hj' hk' hg1 hg2
 ·rcases set_get hj with ⟨rfl,rfl⟩|⟨hne,hj'⟩
  ·exact h.fb j p g hp hg
  ·exact h.fb j u g hj' hg
end
theorem Em.set {w:World} {x:Nat} {F:Nat-> Prop} {D:Dk} (h:Em w x F D) {D':Dk} (hf:D'.fs=D.fs) {j:Nat} {u:Value} (hb:∀vf,(bxE vf D).set! j u=bxE vf D'):Em (w.setCell ⟨x,j,none⟩ u) x F D':=by
 obtain⟨vf,L,h⟩:=h
 refine⟨vf,L,h.boxed hf ?_ (λk hk=>heap_setCell_other _ _ _ _ hk)⟩
 rw[←hb]
 exact heap_setCell_same w x j _ _ _ h.box
theorem Em.fx {w:World} {x:Nat} {F:Nat-> Prop} {D:Dk} (h:Em w x F D):F x:=by obtain⟨vf,L,h⟩:=h;exact h.fx
theorem Em.fc {w:World} {x:Nat} {F:Nat-> Prop} {D:Dk} (h:Em w x F D):Em w x (fc F w) D:=h.mono (λk h1 h2=>⟨h1,h2⟩)
theorem Em.cells {w:World} {x:Nat} {F:Nat-> Prop} {D:Dk} (h:Em w x F D):w.cell? ⟨x,1,none⟩=some (.int .i64 D.room)/\ w.cell? ⟨x,5,none⟩=some (.bool D.dw):=by obtain⟨vf,L,h⟩:=h;exact⟨h.c 1,h.c 5⟩
theorem efind_any (w:World) (x:Nat) (F:Nat-> Prop) (D:Dk) (s:ByteArray) (B:Nat) (h:Em w x F D) (hk:D.Ok B) (hB:B<= 1099511627776):Calls Tryz.prog 94 #[.pointer (some ⟨x,0,none⟩),.string s] w λe w'=>e=.returned (.int .i64 (fI D.fs s))/\ w'=w:=by
 obtain⟨vf,L,h⟩:=h
 have HD:Hid (Ec w x F D vf L):=h
 obtain⟨af,cf,hv⟩:=d_shape h.row
 obtain⟨n,hn⟩:∃n,L.length=n:=⟨_,rfl⟩
 have hnb:n<= 1099511627776:=by have:=hk.len;have:=h.len;omega
 rw[hn] at hv
 subst hv
 have HN:Hid (L.length=n):=hn
 have c0:w.cell? ⟨x,0,none⟩=some (.slice af n cf):=h.c 0
 clear h hn hk
 go_enter Tryz.func94,Tryz.ntmps94
 obtain⟨Z,hZ⟩:∃Z,w=Z:=⟨_,rfl⟩
 rw[hZ] at HD c0 ⊢
 go_wp2
 go_loopw [5] (λv wr=>LpF Z n L s v wr) (λv _=>n - (intOf v).toNat)
 case atStart=>exact lpF (i:=0) rfl (by omega) (λj p hj=>by omega)
 case round=>
  obtain⟨i,rfl,hi,hJ,hwr⟩:=hrel
  have HJ:Hid (∀j p,j < i-> L[j]?=some p-> isN s p.1=false):=hJ
  clear hJ
  rw[hwr]
  clear hwr
  by_cases hin:i=n
  ·subst hin
   have hz:¬(i:Int) < (i:Int):=by omega
   have HR:Hid (fI D.fs s=-1):=fI_none (fnd_none (λj g hj hg=>by
    rw[←HD.out.map,List.getElem?_map] at hg
    obtain⟨p,hp⟩:∃p,L[j]?=some p:=⟨_,List.getElem?_eq_getElem (by rw[HD.out.len] at hj;exact hj)⟩
    rw[hp] at hg
    simp at hg
    subst hg
    exact HJ.out j p (by rw[HD.out.len,HN.out] at hj;exact hj) hp))
   go_wp2
   go_ret
   exact⟨by rw[HR.out];rfl,rfl⟩
  ·have hz:(i:Int) < (n:Int):=by omega
   have hwi:IntKind.i64.wrap ((i:Int)+1)=(i:Int)+1:=by rw[IntKind.wrap_i64];omega
   obtain⟨p,hp⟩:∃p,L[i]?=some p:=⟨_,List.getElem?_eq_getElem (by rw[HN.out];omega)⟩
   obtain⟨g,cap,hv,_,_,k0,_⟩:=HD.out.at hp
   obtain⟨rfl,hmm,rfl⟩:af=some ⟨g,0,none⟩/\ n=L.length/\ cf=cap:=by simpa using hv
   clear hv hmm
   by_cases he:(p.1.nm.toList == s.toList)=true
   ·have HR:Hid (fI D.fs s=(i:Int)):=fI_some (fnd_some (λj f hj hf=>by
     rw[←HD.out.map,List.getElem?_map] at hf
     cases hq:L[j]? with
     |none=>rw[hq] at hf;cases hf
     |some r=>rw[hq] at hf;simp at hf;subst hf;exact HJ.out j r hj hq) (HD.out.file hp) he)
    clear hp
    go_wp2
    go_ret
    exact⟨by rw[HR.out];rfl,rfl⟩
   ·have he':(p.1.nm.toList == s.toList)=false:=by simpa using he
    have HJ2:Hid (∀j q,j < i+1-> L[j]?=some q-> isN s q.1=false):=λj q hj hq=>by
     by_cases e:j=i
     ·subst e;rw[hp] at hq;cases hq;exact he'
     ·exact HJ.out j q (by omega) hq
    clear hp he
    go_wp2
    exact⟨lpF (i:=i+1) (by simp) (by omega) HJ2.out,by simp[intOf];omega⟩
def tkE (D:Dk):Dk:=if actB D=true then {D with dw:=true} else {D with acts:=if D.arm=true then D.acts - 1 else D.acts}
theorem eact_any (w:World) (x:Nat) (F:Nat-> Prop) (D:Dk) (B:Nat) (h:Em w x F D) (hk:D.Ok B):Calls Tryz.prog 95 #[.pointer (some ⟨x,0,none⟩)] w λe w'=>e=.returned (.tuple #[.bool (if actB D=true then D.dn else true),.bool (actB D)])/\ Hid (Em w' x F (tkE D)/\ Kd F w w'/\ w'.heap.size=w.heap.size):=by
 have HP:Hid (Em w x F D):=h
 have HF:Hid (F x):=by obtain⟨_,_,h⟩:=h;exact h.fx
 obtain⟨vf,L,hc⟩:=h
 have K4:w.cell? ⟨x,2,none⟩=some (.int .i64 D.acts):=hc.c 2
 have k5:w.cell? ⟨x,3,none⟩=some (.bool D.arm):=hc.c 3
 have k6:w.cell? ⟨x,4,none⟩=some (.bool D.dn):=hc.c 4
 have k7:w.cell? ⟨x,5,none⟩=some (.bool D.dw):=hc.c 5
 have Z4:=hc.z 2
 have z7:=hc.z 5
 have hac:=hk.acts
 clear hc hk
 cases ha:D.arm with
 |false=>
  rw[ha] at k5
  have hb:actB D=false:=by unfold actB;rw[ha];rfl
  have HR:Hid (tkE D=D):=by show _=_;unfold tkE;rw[hb,if_neg (by simp),if_neg (by rw[ha];simp)]
  rw[hb]
  go_enter Tryz.func95,Tryz.ntmps95
  go_wp2
  go_ret2
  refine⟨by simp,?_⟩
  rw[HR.out]
  exact⟨HP.out,Kd.refl _ _,rfl⟩
 |true=>
  rw[ha] at k5
  by_cases h0:D.acts=0
  ·have hb:actB D=true:=by unfold actB;rw[ha,h0];rfl
   have HR:Hid (tkE D={D with dw:=true}):=by show _=_;unfold tkE;rw[hb];rfl
   rw[hb]
   rw[h0] at K4
   have k6':(w.setCell ⟨x,5,none⟩ (.bool true)).cell? ⟨x,4,none⟩=some (.bool D.dn):=(World.cell?_setCell_other _ _ _ _ (by simp)).trans k6
   go_enter Tryz.func95,Tryz.ntmps95
   go_wp2
   go_ret2
   refine⟨by simp,?_⟩
   rw[HR.out]
   exact⟨HP.out.set (D':={D with dw:=true}) rfl (λ_=>rfl),Kd.set HF.out,by simp[World.setCell]⟩
  ·have hb:actB D=false:=by unfold actB;rw[ha];simp[h0]
   have HR:Hid (tkE D={D with acts:=D.acts - 1}):=by show _=_;unfold tkE;rw[hb,if_neg (by simp),if_pos ha]
   have hzb:(D.acts == 0)=false:=by simp[h0]
   have hwa:IntKind.i64.wrap (D.acts - 1)=D.acts - 1:=by rw[IntKind.wrap_i64];omega
   rw[hb]
   go_enter Tryz.func95,Tryz.ntmps95
   go_wp2
   go_ret2
   refine⟨by simp,?_⟩
   rw[HR.out]
   exact⟨HP.out.set (D':={D with acts:=D.acts - 1}) rfl (λ_=>rfl),Kd.set HF.out,by simp[World.setCell]⟩
def anE (b:Bool):Int:=if b=true then 6 else 0
theorem eans_any (w:World) (b:Bool):Calls Tryz.prog 97 #[.bool b] w λe w'=>e=.returned (.int .i64 (anE b))/\ w'=w:=by
 cases b with
 |true=>
  go_enter Tryz.func97,Tryz.ntmps97
  go_wp2
  go_ret
  exact⟨rfl,rfl⟩
 |false=>
  go_enter Tryz.func97,Tryz.ntmps97
  go_wp2
  go_ret
  exact⟨rfl,rfl⟩
theorem eDown_any (w:World) (x:Nat) (F:Nat-> Prop) (D:Dk) (h:Em w x F D):Calls Tryz.prog 38 #[.pointer (some ⟨x,0,none⟩)] w λe w'=>e=.returned (.bool D.dw)/\ w'=w:=by
 have k5:=h.cells.2
 clear h
 go_enter Tryz.func38,Tryz.ntmps38
 go_wp2
 go_ret
 exact⟨rfl,rfl⟩
def enE (r:Nat):Int:=if r=0 then 0 else if r=1 then 5 else if r=2 then 6 else -1
def EP (x:Nat) (F:Nat-> Prop) (r:Dk×Nat) (w:World) (e:Ending) (w':World):Prop:=e=.returned (.int .i64 (enE r.2))/\ Em w' x (up F w) r.1/\ Kd F w w'
theorem EP.same {x:Nat} {F:Nat-> Prop} {D:Dk} {n:Nat} {w V:World} {e:Ending} (hb:Below w.heap.size w V) (he:e=.returned (.int .i64 (enE n))) (h1:Em w x F D):EP x F (D,n) w e V:=
 ⟨he,(h1.below hb).mono (λk h _=>.inl h),Kd.below hb⟩
theorem tkE_yes {D:Dk} {fs:List Fl} (h:(if actB D=true then D.dn else true)=true):actD D fs=(tkE D).fs' fs:=by
 unfold actD tkE
 by_cases hb:actB D=true
 ·rw[if_pos hb] at h;rw[if_pos hb,if_pos hb,if_pos h];rfl
 ·rw[if_neg hb,if_neg hb];rfl
theorem tkE_no {D:Dk} {fs:List Fl} (h:(if actB D=true then D.dn else true)=false):actD D fs=tkE D:=by
 unfold actD tkE
 by_cases hb:actB D=true
 ·rw[if_pos hb] at h;rw[if_pos hb,if_pos hb,if_neg (by simp[h])]
 ·rw[if_neg hb] at h;cases h
theorem tkE_ok {D:Dk} {B:Nat} (h:D.Ok B):(tkE D).Ok B:=by
 unfold tkE
 split
 ·exact⟨h.fs,h.len,h.used,h.room,h.acts⟩
 ·refine⟨h.fs,h.len,h.used,h.room,?_⟩
  rename_i hb
  have:=h.acts
  simp only
  split
  ·rename_i ha
   have h0:D.acts≠0:=λe=>hb (by unfold actB;simp[ha,e])
   omega
  ·exact this
theorem tkE_fs (D:Dk):(tkE D).fs=D.fs:=by unfold tkE;split<;>rfl
theorem EP.act {x:Nat} {F:Nat-> Prop} {D:Dk} {fs:List Fl} {w w2 V:World} {e:Ending} (hy:(if actB D=true then D.dn else true)=true) (h2:Kd F w w2/\ w2.heap.size=w.heap.size) (h3:Em V x (up F w2) ((tkE D).fs' fs)/\ Kd F w2 V) (he:e=.returned (.int .i64 (anE (actB D)))):EP x F (actD D fs,actR D) w e V:=by
 refine⟨by rw[he];unfold actR enE anE;split<;>rfl,?_,h2.1.trans h3.2⟩
 rw[tkE_yes hy]
 exact h3.1.mono (λk h _=>h.imp id (λq=>by rw[←h2.2];exact q))
theorem EP.not {x:Nat} {F:Nat-> Prop} {D:Dk} {fs:List Fl} {w w2:World} {e:Ending} (hy:(if actB D=true then D.dn else true)=false) (h2:Em w2 x F (tkE D)/\ Kd F w w2) (he:e=.returned (.int .i64 (anE (actB D)))):EP x F (actD D fs,actR D) w e w2:=by
 refine⟨by rw[he];unfold actR enE anE;split<;>rfl,?_,h2.2⟩
 rw[tkE_no hy]
 exact h2.1.mono (λk h _=>.inl h)
theorem eNew_any (w:World) (r:Int):Calls Tryz.prog 8 #[.int .i64 r] w λe w'=>e=.returned (.pointer (some ⟨w.heap.size,0,none⟩))/\ Em w' w.heap.size (λg=>g=w.heap.size) (dk0 (nn0 r))/\ w'.heap.size=w.heap.size+1/\ Below w.heap.size w w':=by
 obtain⟨M,hM⟩:∃M,max r 0=M:=⟨_,rfl⟩
 have HM:Hid (nn0 r=M):=by show _=_;rw[←hM];unfold nn0;split<;>omega
 obtain⟨W,hW⟩:∃W,w.alloc (.cells #[.slice none 0 0,.int .i64 M,.int .i64 0,.bool false,.bool false,.bool false] 90)=W:=⟨_,rfl⟩
 have HR:Hid (Em W w.heap.size (λg=>g=w.heap.size) (dk0 (nn0 r))/\ W.heap.size=w.heap.size+1/\ Below w.heap.size w W):=by
  rw[HM.out]
  have hb:W.heap[w.heap.size]?=some (.cells #[.slice none 0 0,.int .i64 M,.int .i64 0,.bool false,.bool false,.bool false] 90 (0,0)):=by
   rw[←hW]
   exact heap_alloc_new _ _
  refine⟨⟨.slice none 0 0,[],rfl,hb,World.ownsRow_nil _ _ _ _,λi p hp=>by simp at hp,λi j p q g hp=>by simp at hp,rfl,λg hg=>(by cases hg),λi p g hp=>by simp at hp⟩,by rw[←hW];simp,by rw[←hW];exact(Below.refl _ _).alloc (aqH _) _⟩
 clear HM
 go_enter Tryz.func8,Tryz.ntmps8
 go_wp2
 all_goals (
  go_ret
  try rw[hM]
  try rw[hW]
  exact⟨rfl,HR.out⟩)
theorem eArm_any (w:World) (x:Nat) (F:Nat-> Prop) (D:Dk) (N:Int) (dn:Bool) (hd:Em w x F D):Calls Tryz.prog 66 #[.pointer (some ⟨x,0,none⟩),.int .i64 N,.bool dn] w λe w'=>(∃v,e=.returned v)/\ Em w' x F (armD D N dn)/\ Kd F w w':=by
 obtain⟨vf,L,hc⟩:=hd
 obtain⟨M,hM⟩:∃M,max N 0=M:=⟨_,rfl⟩
 have HM:Hid (nn0 N=M):=by show _=_;rw[←hM];unfold nn0;split<;>omega
 have k2:w.cell? ⟨x,2,none⟩=some (.int .i64 D.acts):=hc.c 2
 have k3:w.cell? ⟨x,3,none⟩=some (.bool D.arm):=hc.c 3
 have k4:w.cell? ⟨x,4,none⟩=some (.bool D.dn):=hc.c 4
 have z2:=hc.z 2
 have z3:=hc.z 3
 have z4:=hc.z 4
 have HR:Hid (∀V:World,V.heap=(((w.setCell ⟨x,3,none⟩ (.bool true)).setCell ⟨x,2,none⟩ (.int .i64 M)).setCell ⟨x,4,none⟩ (.bool dn)).heap-> V.os=w.os-> V.tape=w.tape-> V.output=w.output-> Em V x F (armD D N dn)/\ Kd F w V):=λV hV h1 h2 h3=>by
  have e1:(w.setCell ⟨x,3,none⟩ (.bool true)).heap[x]?=_:=heap_setCell_same w x 3 _ _ _ hc.box
  have e2:((w.setCell ⟨x,3,none⟩ (.bool true)).setCell ⟨x,2,none⟩ (.int .i64 M)).heap[x]?=_:=heap_setCell_same _ x 2 _ _ _ e1
  have e3:(((w.setCell ⟨x,3,none⟩ (.bool true)).setCell ⟨x,2,none⟩ (.int .i64 M)).setCell ⟨x,4,none⟩ (.bool dn)).heap[x]?=_:=heap_setCell_same _ x 4 _ _ _ e2
  have ho:∀k,k≠x-> V.heap[k]?=w.heap[k]?:=λk hk=>by
   rw[hV]
   exact(heap_setCell_other _ _ _ _ hk).trans ((heap_setCell_other _ _ _ _ hk).trans (heap_setCell_other _ _ _ _ hk))
  refine⟨⟨vf,L,hc.boxed rfl ?_ ho⟩,⟨h1,h2,h3,by rw[hV];simp[World.setCell],λk hk hn=>ho k (λe=>hn (e ▸ hc.fx))⟩⟩
  rw[hV,e3]
  unfold armD
  rw[HM.out]
  rfl
 clear hc HM
 go_enter Tryz.func66,Tryz.ntmps66
 go_wp2
 all_goals (
  refine bodyPost_end (v:=.tuple #[]) (by simp[results,Tryz.results66,go_sem]) rfl ?_
  try rw[hM]
  refine⟨⟨_,rfl⟩,HR.out _ rfl rfl rfl rfl⟩)
theorem own_empty8 (w:World) {base:Nat} (hb:base<= w.heap.size):(w.alloc (.cells #[] 5)).ownsRow base 5 1 (.slice (some ⟨w.heap.size,0,none⟩) 0 0) 0 []:=⟨rfl,.inr ⟨w.heap.size,0,#[],rfl,hb,heap_alloc_new w _,aqH _,by unfold maxLen;omega,rfl,rfl⟩⟩
def RdE (D:Dk) (s:ByteArray) (w:World) (e:Ending) (w':World):Prop:=∃v,e=.returned (.tuple #[v,.int .i64 (enE (rdN D s))])/\ w'.ownsRow w.heap.size 5 1 v (rdB D s).length ((rdB D s).map (Value.int .u8))/\ Below w.heap.size w w'
theorem eRead_any (w:World) (x:Nat) (F:Nat-> Prop) (D:Dk) (s:ByteArray) (B:Nat) (h:Em w x F D) (hk:D.Ok B) (hB:B<= 1099511627776):
 Calls Tryz.prog 64 #[.pointer (some ⟨x,0,none⟩),.string s] w λe w'=>RdE D s w e w':=by
 obtain⟨K,hK⟩:∃K,fI D.fs s=K:=⟨_,rfl⟩
 have HFn:=efind_any w x F D s B h hk hB
 rw[hK] at HFn
 have HK:Hid (fI D.fs s=K):=hK
 have k5:=h.cells.2
 have HD:Hid (Em w x F D/\ D.Ok B):=⟨h,hk⟩
 obtain⟨i0,hi0,hs0,hs1,hs2⟩:=info_partsD infoU8
 clear h hk hK
 go_enter Tryz.func64,Tryz.ntmps64
 go_upto_region 2 with (go_at_call 94;refine HFn.mono ?_;rintro e w2 ⟨rfl,hw2⟩;rw[hw2];clear hw2)
 clear HFn
 cases hw:D.dw with
 |true=>
  rw[hw] at k5
  have HR:Hid (rdN D s=2/\ rdB D s=[]):=⟨by unfold rdN;rw[hw];rfl,by unfold rdB;rw[hw];rfl⟩
  go_wp2
  go_ret2
  exact⟨.slice none 0 0,by rw[HR.out.1];rfl,by rw[HR.out.2];exact World.ownsRow_nil _ _ _ _,Below.refl _ _⟩
 |false=>
  rw[hw] at k5
  cases hf:fnd D.fs s with
  |none=>
   have hK2:K=-1:=by rw[←HK.out];exact fI_none hf
   subst hK2
   have HR:Hid (rdN D s=3/\ rdB D s=[]):=⟨by unfold rdN;rw[hw,if_neg (by simp),if_pos hf],by unfold rdB;rw[hw,if_neg (by simp),hf]⟩
   clear hf
   go_wp2
   go_ret2
   exact⟨.slice none 0 0,by rw[HR.out.1];rfl,by rw[HR.out.2];exact World.ownsRow_nil _ _ _ _,Below.refl _ _⟩
  |some i=>
   have hK2:K=(i:Int):=by rw[←HK.out];exact fI_some hf
   have HR:Hid (rdN D s=0):=by show _=_;unfold rdN;rw[hw,if_neg (by simp),hf,if_neg (by simp)]
   have HF:Hid (fnd D.fs s=some i):=hf
   subst hK2
   have hz:¬(i:Int) < 0:=by omega
   have hz2:(0:Int)<= (i:Int):=by omega
   obtain⟨vf,L,hc⟩:=HD.out.1
   obtain⟨n,hn⟩:∃n,L.length=n:=⟨_,rfl⟩
   have hin:(i:Int) < (n:Int):=by have:=fnd_lt hf;rw[hc.len] at this;omega
   obtain⟨p,hp⟩:∃p,L[i]?=some p:=⟨_,List.getElem?_eq_getElem (by omega)⟩
   have hcA:=hc.same (w':=w.alloc (.cells #[] 5)) (λk _ hk=>((Below.refl _ _).alloc (aqH _) _).block k hk)
   obtain⟨gF,cf,hv,hFg,hgl,k0,k1,k2,kz⟩:=hcA.at hp
   rw[hn] at hv
   subst hv
   have c0:(w.alloc (.cells #[] 5)).cell? ⟨x,0,none⟩=some (.slice (some ⟨gF,0,none⟩) n cf):=hcA.c 0
   obtain⟨av,cv,hav⟩:=d_shape (hcA.byt i p hp)
   have hby:=hcA.byt i p hp
   have hfl:p.1.bs.length<= 1099511627776:=by have:=usd_get (hc.file hp);have:=HD.out.2.used;omega
   have HQ:Hid (rdB D s=p.1.bs):=by show _=_;unfold rdB;rw[hw,if_neg (by simp),HF.out];simp only;rw[hc.file hp]
   obtain⟨⟨nm,bs,sf⟩,pv⟩:=p
   simp only at hav k1 hby hfl HQ
   subst hav
   obtain⟨l1,l2,l3,l4⟩:=lies_own hby
   have HL:Hid (Lies .u8 (w.alloc (.cells #[] 5)) av bs/\ (av=none-> bs.length=0/\ cv=0)):=⟨l1,l2⟩
   clear hc hcA hp hf hn hby l1 l2 l3 l4 k0 k2 kz hFg hgl
   go_wp2_with (at_builtin;refine append_any _ rfl _ _ 35 rfl w.heap.size 5 i0 (.int .u8 0) 1 Tryz.underlying35 hi0 hs0 hs1 hs2 rfl _ _ _ rfl (own_empty8 w (aqH _)) .u8 av bs.length cv bs rfl HL.out.2 rfl HL.out.1 (by unfold maxLen;omega) (by omega) (by simp) ?_;intro vB w2 o2 g2;obtain⟨aB,cB,rfl⟩:=d_shape o2;have H2:Hid ((w.alloc (.cells #[] 5)).grownBy w2 (some w.heap.size)/\ w2.ownsRow w.heap.size 5 1 (.slice aB (0+bs.length) cB) (0+bs.length) ([]++bs.map (Value.int .u8))):=⟨g2,o2⟩;clear o2 g2;rw[Nat.zero_add] at H2 ⊢)
   go_ret2
   have hA:Below w.heap.size w (w.alloc (.cells #[] 5)):=(Below.refl _ _).alloc (aqH _) _
   exact⟨_,by rw[HR.out];rfl,by rw[HQ.out];exact H2.out.2,⟨H2.out.1.os.trans hA.os,H2.out.1.tape.trans hA.tape,H2.out.1.output.trans hA.output,Nat.le_trans hA.size H2.out.1.size,λk hk=>(H2.out.1.block k (Nat.lt_of_lt_of_le hk hA.size) (λe=>by cases e;omega)).trans (hA.block k hk)⟩⟩
theorem take_erase_same {α:Type} {L:List α} {k:Nat} {p:α} (h:L[k]?=some p):(L.take (k+1)).eraseIdx k=(L.take k).eraseIdx k:=by
 have hl:=(List.getElem?_eq_some_iff.mp h).1
 rw[List.take_add_one,h]
 rw[List.eraseIdx_append_of_length_le (by simp;omega),List.eraseIdx_of_length_le (l:=L.take k) (by simp;omega)]
 simp[Nat.min_eq_left (Nat.le_of_lt hl)]
theorem take_erase_more {α:Type} {L:List α} {k i:Nat} {p:α} (h:L[k]?=some p) (hne:k≠i):(L.take (k+1)).eraseIdx i=(L.take k).eraseIdx i++[p]:=by
 have hl:=(List.getElem?_eq_some_iff.mp h).1
 rw[List.take_add_one,h]
 rcases Nat.lt_or_ge i k with q|q
 ·rw[List.eraseIdx_append_of_lt_length (by simp;omega)];rfl
 ·rw[List.eraseIdx_of_length_le (by simp;omega),List.eraseIdx_of_length_le (by simp;omega)];rfl
theorem aw_bel {w wr w4:World} {v:Value} (hb:Below w.heap.size w wr) (hf:∀g,v.ownBlock=some g-> w.heap.size<= g) (hg:wr.grownBy w4 v.ownBlock):Below w.heap.size w w4:=
 ⟨hg.os.trans hb.os,hg.tape.trans hb.tape,hg.output.trans hb.output,Nat.le_trans hb.size hg.size,λj hj=>(hg.block j (Nat.lt_of_lt_of_le hj hb.size) (λe=>by have:=hf j e.symm;omega)).trans (hb.block j hj)⟩
theorem aw_fr {w wr:World} {v v4:Value} (hb:Below w.heap.size w wr) (hf:∀g,v.ownBlock=some g-> w.heap.size<= g) (ht:v4.ownBlock=v.ownBlock∨∃g,v4.ownBlock=some g/\ wr.heap.size<= g):∀g,v4.ownBlock=some g-> w.heap.size<= g:=λg hg=>by
 rcases ht with e|⟨g',e,hl⟩
 ·exact hf g (e ▸ hg)
 ·have:g'=g:=Option.some.inj (e.symm.trans hg)
  have:=hb.size
  omega
theorem infoFileE:(Tryz.prog.info? 94).map (λi=>(i.zero,i.size,i.bytes))=some (some (.agg #[.string ⟨#[]⟩,.slice none 0 0,.int .i64 0]),3,48):=by kernel_rfl
theorem Ec.erase {w w':World} {x k:Nat} {F:Nat-> Prop} {D:Dk} {vf v:Value} {L:List Fv} (h:Ec w x F D vf L) (hb:Below w.heap.size w w') (ho:w'.ownsRow 0 94 3 v (L.eraseIdx k).length ((L.eraseIdx k).flatMap fcell)) (hf:∀g,v.ownBlock=some g-> w.heap.size<= g):Ec (w'.setCell ⟨x,0,none⟩ v) x (up F w) (D.fs' (D.fs.eraseIdx k)) v (L.eraseIdx k):=by
 have hB:w'.heap[x]?=_:=(hb.block x h.xlt).trans h.box
 have hxl:=h.xlt
 have hset:∀g,g≠x-> (w'.setCell ⟨x,0,none⟩ v).heap[g]?=w'.heap[g]?:=λg hg=>heap_setCell_other _ _ _ _ hg
 refine⟨by rw[map_eraseIdx,h.map];rfl,heap_setCell_same w' x 0 _ _ _ hB,d_blk ho (λg hg=>hset g (λe=>by have:=hf g hg;omega)),λj q hq=>?_,λj j' q u g hj hk hg1 hg2=>?_,.inl h.fx,λg hg=>.inr (hf g hg),λj q g hj hg=>?_⟩
 ·obtain⟨m,hm,_⟩:=erase_get hq
  exact d_blk (h.byt m q hm) (λg hg=>(hset g (λe=>h.bx hm (by rw[←e];exact hg))).trans (hb.block g (d_lt (h.byt m q hm) g hg).2))
 ·obtain⟨m,hm,em⟩:=erase_get hj
  obtain⟨m',hm',em'⟩:=erase_get hk
  have:=h.dis m m' q u g hm hm' hg1 hg2
  subst this
  rw[em] at em'
  split at em'<;>split at em'<;>omega
 ·obtain⟨m,hm,_⟩:=erase_get hj
  exact .inl (h.fb m q g hm hg)
structure Wo (w wr:World) (Lo:List Fv) (v:Value):Prop where
 a:wr.ownsRow 0 94 3 v Lo.length (Lo.flatMap fcell)
 f:∀g,v.ownBlock=some g-> w.heap.size<= g
 bel:Below w.heap.size w wr
def Wj7 (w:World) (n i:Nat) (L:List Fv) (v5 v6:Value) (wr:World):Prop:=∃k:Nat,v6=.int .i64 k/\ k<= n/\ Wo w wr ((L.take k).eraseIdx i) v5
def WoP (x:Nat) (F:Nat-> Prop) (D:Dk) (i:Nat) (w:World) (e:Ending) (w':World):Prop:=∃a n c,e=.returned (.slice a n c)/\ Below w.heap.size w w'/\ Em (w'.setCell ⟨x,0,none⟩ (.slice a n c)) x (up F w) (D.fs' (D.fs.eraseIdx i))
theorem ewithout_any (w:World) (x i:Nat) (F:Nat-> Prop) (D:Dk) (B:Nat) (h:Em w x F D) (hk:D.Ok B) (hB:B<= 1099511627776):Calls Tryz.prog 96 #[.pointer (some ⟨x,0,none⟩),.int .i64 (i:Int)] w λe w'=>WoP x F D i w e w':=by
 obtain⟨vf,L,hc⟩:=h
 obtain⟨n,hn⟩:∃n,L.length=n:=⟨_,rfl⟩
 have hnb:n<= 1099511627776:=by have:=hk.len;have:=hc.len;omega
 obtain⟨an,cn,hvn⟩:=d_shape hc.row
 rw[hn] at hvn
 subst hvn
 have HC:Hid (Ec w x F D (.slice an n cn) L/\ L.length=n):=⟨hc,hn⟩
 obtain⟨i0,hi0,hs0,hs1,hs2⟩:=info_partsD infoFileE
 clear hc hn hk
 go_enter Tryz.func96,Tryz.ntmps96
 go_wp2
 go_loopw [5,6] (λv5 v6 wr=>Wj7 w n i L v5 v6 wr) (λ_ v _=>n - (intOf v).toNat)
 case atStart=>exact⟨0,rfl,by omega,⟨World.ownsRow_nil _ _ _ _,λg hg=>(by cases hg),Below.refl _ _⟩⟩
 case round=>
  obtain⟨k,rfl,hk,hA⟩:=hrel
  have HA:Hid (Wo w wr ((L.take k).eraseIdx i) u5):=hA
  have hcr:=HC.out.1.same (w':=wr) (λj _ hj=>hA.bel.block j hj)
  have c0:wr.cell? ⟨x,0,none⟩=some (.slice an n cn):=hcr.c 0
  obtain⟨a5,d5,hu5⟩:=d_shape hA.a
  obtain⟨m,hm⟩:∃m,((L.take k).eraseIdx i).length=m:=⟨_,rfl⟩
  rw[hm] at hu5
  subst hu5
  by_cases hkn:k=n
  ·have hkn2:=hkn.symm
   clear hkn
   subst hkn2
   have hz:¬(n:Int) < (n:Int):=by omega
   have HR:Hid (Below w.heap.size w wr/\ Em (wr.setCell ⟨x,0,none⟩ (.slice a5 m d5)) x (up F w) (D.fs' (D.fs.eraseIdx i))):=by
    have h9:=HA.out
    rw[List.take_of_length_le (by have:=HC.out.2;omega)] at h9
    exact⟨h9.bel,_,_,HC.out.1.erase h9.bel h9.a h9.f⟩
   clear hcr hA hm
   go_wp2
   go_ret
   exact⟨_,_,_,rfl,HR.out⟩
  ·have hz:(k:Int) < (n:Int):=by omega
   have hk0:(0:Int)<= (k:Int):=by omega
   have hwk:IntKind.i64.wrap ((k:Int)+1)=(k:Int)+1:=by rw[IntKind.wrap_i64];omega
   obtain⟨p,hp⟩:∃p,L[k]?=some p:=⟨_,List.getElem?_eq_getElem (by rw[HC.out.2];omega)⟩
   by_cases hki:k=i
   ·have HE:Hid (Wj7 w n i L (.slice a5 m d5) (.int .i64 ((k:Int)+1)) wr):=⟨k+1,by simp,by omega,by have h9:=HA.out;rw[←hki] at h9 ⊢;rw[take_erase_same hp];exact h9⟩
    have hne:((k:Int) != (i:Int))=false:=by simp[hki]
    clear hp hA hcr hm
    subst hki
    go_wp2
    exact⟨HE.out,by simp[intOf];omega⟩
   ·have hne:((k:Int) != (i:Int))=true:=by simp;omega
    obtain⟨gF,cf,hv,hFg,hgl,k0,k1,k2,kz⟩:=hcr.at hp
    obtain⟨rfl,_,rfl⟩:an=some ⟨gF,0,none⟩/\ n=L.length/\ cn=cf:=by simpa using hv
    obtain⟨ap,cp,hpv⟩:=d_shape (hcr.byt k p hp)
    obtain⟨⟨nm,bs,sf⟩,pv⟩:=p
    simp only at k0 k1 k2 hpv
    subst hpv
    have hmb:m<= 1099511627776:=by
     have h1:((L.take k).eraseIdx i).length<= (L.take k).length:=List.length_eraseIdx_le _ _
     rw[List.length_take] at h1
     omega
    have HM:Hid (((L.take k).eraseIdx i).length=m/\ (L.take (k+1)).eraseIdx i=(L.take k).eraseIdx i++[((⟨nm,bs,sf⟩:Fl),Value.slice ap bs.length cp)]):=⟨hm,take_erase_more hp hki⟩
    clear hp hv hA hcr hm kz hFg hgl
    go_upto_region 4 with (first
     |(at_builtin;refine wpList_append_own_at _ rfl _ _ 88 rfl 0 94 i0 (.agg #[.string ⟨#[]⟩,.slice none 0 0,.int .i64 0]) 3 48 Tryz.underlying88 hi0 hs0 hs1 hs2 rfl (by decide) (.slice a5 m d5) ((L.take k).eraseIdx i).length (((L.take k).eraseIdx i).flatMap fcell) rfl (World.ownsRow.alloc HA.out.a _) ⟨wr.heap.size,0,none⟩ 1 1 [.string nm,.slice ap bs.length cp,.int .i64 sf] rfl rfl (three_newD _ _ _ _ _) (by simp[Value.oneCell']) (by unfold maxLen;have:=HM.out.1;omega) (by have:=HM.out.1;omega) (by simp) ?_
       intro v4 w4 o4 g4 l4 t4;clear l4
       have H4:Hid (w4.ownsRow 0 94 3 v4 (((L.take k).eraseIdx i).length+1) (((L.take k).eraseIdx i).flatMap fcell++[.string nm,.slice ap bs.length cp,.int .i64 sf])/\ wr.grownBy w4 (Value.slice a5 m d5).ownBlock/\ (v4.ownBlock=(Value.slice a5 m d5).ownBlock∨∃g,v4.ownBlock=some g/\ wr.heap.size<= g)):=⟨o4,(World.grownBy_alloc wr _ _).trans g4,t4.imp id (λe=>⟨_,e,by simp⟩)⟩
       clear o4 g4 t4))
    have HE:Hid (Wj7 w n i L v4 (.int .i64 ((k:Int)+1)) w4):=by
     refine⟨k+1,by simp,by omega,?_⟩
     rw[HM.out.2]
     exact⟨by rw[List.length_append,List.flatMap_append];exact H4.out.1,aw_fr HA.out.bel HA.out.f H4.out.2.2,aw_bel HA.out.bel HA.out.f H4.out.2.1⟩
    clear H4 HA HM
    go_wp2
    exact⟨HE.out,by simp[intOf];omega⟩
theorem eSync_any (w:World) (x:Nat) (F:Nat-> Prop) (D:Dk) (s:ByteArray) (B:Nat) (h:Em w x F D) (hk:D.Ok B) (hB:B<= 1099511627776):Calls Tryz.prog 99 #[.pointer (some ⟨x,0,none⟩),.string s] w λe w'=>EP x F (fileD D s (λi=>synF D.fs i)) w e w':=by
 obtain⟨K,hK⟩:∃K,fI D.fs s=K:=⟨_,rfl⟩
 have HFn:=efind_any w x F D s B h hk hB
 rw[hK] at HFn
 have HK:Hid (fI D.fs s=K):=hK
 have k5:=h.cells.2
 have HD:Hid (Em w x F D/\ D.Ok B):=⟨h,hk⟩
 have HAct:=eact_any w x F D B h hk
 clear h hk hK
 go_enter Tryz.func99,Tryz.ntmps99
 go_upto_region 2 with (go_at_call 94;refine HFn.mono ?_;rintro e w2 ⟨rfl,hw2⟩;rw[hw2];clear hw2)
 clear HFn
 cases hw:D.dw with
 |true=>
  rw[hw] at k5
  have HR:Hid (fileD D s (λi=>synF D.fs i)=(D,2)):=by show _=_;unfold fileD;rw[hw];rfl
  clear HAct
  go_wp2
  go_ret
  rw[HR.out]
  exact EP.same (Below.refl _ _) rfl HD.out.1
 |false=>
  rw[hw] at k5
  cases hf:fnd D.fs s with
  |none=>
   have hK2:K=-1:=by rw[←HK.out];exact fI_none hf
   subst hK2
   have HR:Hid (fileD D s (λi=>synF D.fs i)=(D,3)):=by show _=_;unfold fileD;rw[hw,hf];rfl
   clear HAct hf
   go_wp2
   go_ret
   rw[HR.out]
   exact EP.same (Below.refl _ _) rfl HD.out.1
  |some i=>
   have hK2:K=(i:Int):=by rw[←HK.out];exact fI_some hf
   subst hK2
   have HR:Hid (fileD D s (λi=>synF D.fs i)=((actD D (synF D.fs i)),actR D)/\ i < D.fs.length):=⟨by show _=_;unfold fileD;rw[hw,hf];rfl,fnd_lt hf⟩
   have hz:¬(i:Int) < 0:=by omega
   have hz2:(0:Int)<= (i:Int):=by omega
   obtain⟨bd,hbd⟩:∃b,(if actB D=true then D.dn else true)=b:=⟨_,rfl⟩
   have HBd:Hid ((if actB D=true then D.dn else true)=bd):=hbd
   rw[hbd] at HAct
   obtain⟨ba,hba⟩:∃b,actB D=b:=⟨_,rfl⟩
   have HBa:Hid (actB D=ba):=hba
   rw[hba] at HAct
   clear hf hbd hba
   go_upto_region 7 with (go_at_call 95;refine HAct.mono ?_;rintro e w2 ⟨rfl,h2⟩)
   clear HAct k5
   cases bd with
   |false=>
    go_wp2_with (go_at_call 97;refine(eans_any _ ba).mono ?_;rintro e w3 ⟨rfl,hw3⟩;rw[hw3];clear hw3)
    go_ret
    rw[HR.out.1]
    exact EP.not HBd.out ⟨h2.out.1,h2.out.2.1⟩ (by rw[HBa.out];rfl)
   |true=>
    have HDt:Hid (Em w2 x F (tkE D)/\ (tkE D).Ok B/\ i < (tkE D).fs.length):=⟨h2.out.1,tkE_ok HD.out.2,by rw[tkE_fs];exact HR.out.2⟩
    obtain⟨vf,L,hc⟩:=HDt.out.1
    have hkl:=HDt.out.2.2
    obtain⟨p,hp⟩:∃p,L[i]?=some p:=⟨_,List.getElem?_eq_getElem (by rw[hc.len] at hkl;exact hkl)⟩
    obtain⟨gF,cf,hv,hFg,hgl,k0,k1,k2,kz⟩:=hc.at hp
    obtain⟨n,hn⟩:∃n,L.length=n:=⟨_,rfl⟩
    rw[hn] at hv
    subst hv
    obtain⟨av,cv,hav⟩:=d_shape (hc.byt i p hp)
    obtain⟨m,hm⟩:∃m,p.1.bs.length=m:=⟨_,rfl⟩
    rw[hav,hm] at k1
    have HC:Hid (Ec w2 x F (tkE D) (.slice (some ⟨gF,0,none⟩) n cf) L/\ L[i]?=some p/\ p.1.bs.length=m/\ F gF):=⟨hc,hp,hm,hFg⟩
    have hin:(i:Int) < (n:Int):=by rw[hc.len,hn] at hkl;omega
    have c0:w2.cell? ⟨x,0,none⟩=some (.slice (some ⟨gF,0,none⟩) n cf):=hc.c 0
    have z2:=kz (i*3+2)
    have hgx:gF≠x:=λe=>hc.rx (by rw[e];rfl)
    have HS:Hid (∀V:World,(∀j,j≠i*3+2-> V.cell? ⟨gF,j,none⟩=w2.cell? ⟨gF,j,none⟩)-> (∀g,g≠gF-> V.heap[g]?=w2.heap[g]?)-> V.cell? ⟨x,0,none⟩=some (.slice (some ⟨gF,0,none⟩) n cf)/\ V.cell? ⟨gF,i*3+1,none⟩=some (.slice av m cv)):=λV h1 h2=>
     ⟨(World.cell?_of_block (a:=⟨x,0,none⟩) (h2 _ (λe=>hgx e.symm))).trans c0,(h1 _ (by omega)).trans k1⟩
    have HFin:Hid (Em (w2.drew.setCell ⟨gF,i*3+2,none⟩ (.int .i64 (m:Int))) x (up F w2) ((tkE D).fs' (synF D.fs i))/\ Kd F w2 (w2.drew.setCell ⟨gF,i*3+2,none⟩ (.int .i64 (m:Int)))):=by
     have hr:=(hc.same (w':=w2.drew) (λ_ _ _=>rfl)).cellF hp (k:=i*3+2) (v:=.int .i64 (m:Int)) (q:=⟨p.1.nm,p.1.bs,(m:Int)⟩) rfl (fcell_set2 _ hp)
     refine⟨?_,(Kd.refl F w2).drew.trans (Kd.set hFg)⟩
     unfold synF
     have e0:=hc.file hp
     rw[tkE_fs] at e0 hr
     rw[setF_at e0,hm]
     exact⟨_,_,hr.mono (λk h _=>.inl h)⟩
    clear hc hp hav hm hn hkl k0 kz hFg
    go_wp2_with fail
    go_region_held3 (λV=>V.cell? ⟨x,0,none⟩=some (.slice (some ⟨gF,0,none⟩) n cf)/\ V.cell? ⟨gF,i*3+1,none⟩=some (.slice av m cv))
     (first|exact HS.out _ (λ_ _=>rfl) (λ_ _=>rfl)|exact HS.out _ (λj hj=>World.cell?_setCell_other _ _ _ _ (by simp[hj])) (λg hg=>heap_setCell_other _ _ _ _ hg))
     (fail)
    go_wp2_with (go_at_call 97;refine(eans_any _ ba).mono ?_;rintro e w4 ⟨rfl,hw4⟩;rw[hw4];clear hw4)
    go_ret
    rw[HR.out.1]
    exact EP.act HBd.out h2.out.2 HFin.out (by rw[HBa.out];rfl)
theorem eRemove_any (w:World) (x:Nat) (F:Nat-> Prop) (D:Dk) (s:ByteArray) (B:Nat) (h:Em w x F D) (hk:D.Ok B) (hB:B<= 1099511627776):Calls Tryz.prog 63 #[.pointer (some ⟨x,0,none⟩),.string s] w λe w'=>EP x F (fileD D s (λi=>D.fs.eraseIdx i)) w e w':=by
 obtain⟨K,hK⟩:∃K,fI D.fs s=K:=⟨_,rfl⟩
 have HFn:=efind_any w x F D s B h hk hB
 rw[hK] at HFn
 have HK:Hid (fI D.fs s=K):=hK
 have k5:=h.cells.2
 have HD:Hid (Em w x F D/\ D.Ok B):=⟨h,hk⟩
 have HAct:=eact_any w x F D B h hk
 clear h hk hK
 go_enter Tryz.func63,Tryz.ntmps63
 go_upto_region 2 with (go_at_call 94;refine HFn.mono ?_;rintro e w2 ⟨rfl,hw2⟩;rw[hw2];clear hw2)
 clear HFn
 cases hw:D.dw with
 |true=>
  rw[hw] at k5
  have HR:Hid (fileD D s (λi=>D.fs.eraseIdx i)=(D,2)):=by show _=_;unfold fileD;rw[hw];rfl
  clear HAct
  go_wp2
  go_ret
  rw[HR.out]
  exact EP.same (Below.refl _ _) rfl HD.out.1
 |false=>
  rw[hw] at k5
  cases hf:fnd D.fs s with
  |none=>
   have hK2:K=-1:=by rw[←HK.out];exact fI_none hf
   subst hK2
   have HR:Hid (fileD D s (λi=>D.fs.eraseIdx i)=(D,3)):=by show _=_;unfold fileD;rw[hw,hf];rfl
   clear HAct hf
   go_wp2
   go_ret
   rw[HR.out]
   exact EP.same (Below.refl _ _) rfl HD.out.1
  |some i=>
   have hK2:K=(i:Int):=by rw[←HK.out];exact fI_some hf
   subst hK2
   have HR:Hid (fileD D s (λi=>D.fs.eraseIdx i)=((actD D (D.fs.eraseIdx i)),actR D)/\ i < D.fs.length):=⟨by show _=_;unfold fileD;rw[hw,hf];rfl,fnd_lt hf⟩
   have hz:¬(i:Int) < 0:=by omega
   have hz2:(0:Int)<= (i:Int):=by omega
   obtain⟨bd,hbd⟩:∃b,(if actB D=true then D.dn else true)=b:=⟨_,rfl⟩
   have HBd:Hid ((if actB D=true then D.dn else true)=bd):=hbd
   rw[hbd] at HAct
   obtain⟨ba,hba⟩:∃b,actB D=b:=⟨_,rfl⟩
   have HBa:Hid (actB D=ba):=hba
   rw[hba] at HAct
   clear hf hbd hba
   go_upto_region 7 with (go_at_call 95;refine HAct.mono ?_;rintro e w2 ⟨rfl,h2⟩)
   clear HAct k5
   cases bd with
   |false=>
    go_wp2_with (go_at_call 97;refine(eans_any _ ba).mono ?_;rintro e w3 ⟨rfl,hw3⟩;rw[hw3];clear hw3)
    go_ret
    rw[HR.out.1]
    exact EP.not HBd.out ⟨h2.out.1,h2.out.2.1⟩ (by rw[HBa.out];rfl)
   |true=>
    have HDt:Hid (Em w2 x F (tkE D)/\ (tkE D).Ok B/\ i < (tkE D).fs.length):=⟨h2.out.1,tkE_ok HD.out.2,by rw[tkE_fs];exact HR.out.2⟩
    have HW:=ewithout_any w2 x i F (tkE D) B HDt.out.1 HDt.out.2.1 hB
    have HX:Hid (∀V,Below w2.heap.size w2 V-> (∃a n c,V.cell? ⟨x,0,none⟩=some (.slice a n c))/\ V.frozen? ⟨x,0,none⟩=false):=λV hV=>by
     obtain⟨vf,L,hc⟩:=HDt.out.1.below hV
     obtain⟨a,c,e⟩:=d_shape hc.row
     exact⟨⟨a,_,c,(hc.c 0).trans (by rw[e];rfl)⟩,hc.z 0⟩
    have hFx:=HDt.out.1.fx
    go_upto_region 9 with (go_at_call 96;refine HW.mono ?_;rintro e w3 ⟨av,nv,cv,rfl,hb3,he3⟩;have H3:Hid (Below w2.heap.size w2 w3/\ Em (w3.setCell ⟨x,0,none⟩ (.slice av nv cv)) x (up F w2) ((tkE D).fs' ((tkE D).fs.eraseIdx i))):=⟨hb3,he3⟩;obtain⟨⟨aa,na,ca,hcx⟩,hzx⟩:=HX.out w3 hb3;clear hb3 he3)
    have HFin:Hid (Em (w3.setCell ⟨x,0,none⟩ (.slice av nv cv)) x (up F w2) ((tkE D).fs' (D.fs.eraseIdx i))/\ Kd F w2 (w3.setCell ⟨x,0,none⟩ (.slice av nv cv))):=by
     have e0:=H3.out.2
     rw[tkE_fs] at e0
     exact⟨e0,(Kd.below H3.out.1).trans (Kd.set hFx)⟩
    clear HW HX hcx hzx
    go_wp2_with (go_at_call 97;refine(eans_any _ ba).mono ?_;rintro e w4 ⟨rfl,hw4⟩;rw[hw4];clear hw4)
    go_ret
    rw[HR.out.1]
    exact EP.act HBd.out h2.out.2 HFin.out (by rw[HBa.out];rfl)
theorem eRename_any (w:World) (x:Nat) (F:Nat-> Prop) (D:Dk) (s:ByteArray) (s2:ByteArray) (B:Nat) (h:Em w x F D) (hk:D.Ok B) (hB:B<= 1099511627776):Calls Tryz.prog 100 #[.pointer (some ⟨x,0,none⟩),.string s,.string s2] w λe w'=>EP x F (fileD D s (λi=>renF D.fs i s2)) w e w':=by
 obtain⟨K,hK⟩:∃K,fI D.fs s=K:=⟨_,rfl⟩
 have HFn:=efind_any w x F D s B h hk hB
 rw[hK] at HFn
 have HK:Hid (fI D.fs s=K):=hK
 have k5:=h.cells.2
 have HD:Hid (Em w x F D/\ D.Ok B):=⟨h,hk⟩
 have HAct:=eact_any w x F D B h hk
 clear h hk hK
 go_enter Tryz.func100,Tryz.ntmps100
 go_upto_region 2 with (go_at_call 94;refine HFn.mono ?_;rintro e w2 ⟨rfl,hw2⟩;rw[hw2];clear hw2)
 clear HFn
 cases hw:D.dw with
 |true=>
  rw[hw] at k5
  have HR:Hid (fileD D s (λi=>renF D.fs i s2)=(D,2)):=by show _=_;unfold fileD;rw[hw];rfl
  clear HAct
  go_wp2
  go_ret
  rw[HR.out]
  exact EP.same (Below.refl _ _) rfl HD.out.1
 |false=>
  rw[hw] at k5
  cases hf:fnd D.fs s with
  |none=>
   have hK2:K=-1:=by rw[←HK.out];exact fI_none hf
   subst hK2
   have HR:Hid (fileD D s (λi=>renF D.fs i s2)=(D,3)):=by show _=_;unfold fileD;rw[hw,hf];rfl
   clear HAct hf
   go_wp2
   go_ret
   rw[HR.out]
   exact EP.same (Below.refl _ _) rfl HD.out.1
  |some i=>
   have hK2:K=(i:Int):=by rw[←HK.out];exact fI_some hf
   subst hK2
   have HR:Hid (fileD D s (λi=>renF D.fs i s2)=((actD D (renF D.fs i s2)),actR D)/\ i < D.fs.length):=⟨by show _=_;unfold fileD;rw[hw,hf];rfl,fnd_lt hf⟩
   have hz:¬(i:Int) < 0:=by omega
   have hz2:(0:Int)<= (i:Int):=by omega
   obtain⟨bd,hbd⟩:∃b,(if actB D=true then D.dn else true)=b:=⟨_,rfl⟩
   have HBd:Hid ((if actB D=true then D.dn else true)=bd):=hbd
   rw[hbd] at HAct
   obtain⟨ba,hba⟩:∃b,actB D=b:=⟨_,rfl⟩
   have HBa:Hid (actB D=ba):=hba
   rw[hba] at HAct
   clear hf hbd hba
   go_upto_region 7 with (go_at_call 95;refine HAct.mono ?_;rintro e w2 ⟨rfl,h2⟩)
   clear HAct k5
   cases bd with
   |false=>
    go_wp2_with (go_at_call 97;refine(eans_any _ ba).mono ?_;rintro e w3 ⟨rfl,hw3⟩;rw[hw3];clear hw3)
    go_ret
    rw[HR.out.1]
    exact EP.not HBd.out ⟨h2.out.1,h2.out.2.1⟩ (by rw[HBa.out];rfl)
   |true=>
    have HDt:Hid (Em w2 x F (tkE D)/\ (tkE D).Ok B/\ i < (tkE D).fs.length):=⟨h2.out.1,tkE_ok HD.out.2,by rw[tkE_fs];exact HR.out.2⟩
    obtain⟨vf,L,hc⟩:=HDt.out.1
    have hkl:=HDt.out.2.2
    obtain⟨p,hp⟩:∃p,L[i]?=some p:=⟨_,List.getElem?_eq_getElem (by rw[hc.len] at hkl;exact hkl)⟩
    obtain⟨gF,cf,hv,hFg,hgl,k0,k1,k2,kz⟩:=hc.at hp
    obtain⟨n,hn⟩:∃n,L.length=n:=⟨_,rfl⟩
    rw[hn] at hv
    subst hv
    have hin:(i:Int) < (n:Int):=by rw[hc.len,hn] at hkl;omega
    have c0:w2.cell? ⟨x,0,none⟩=some (.slice (some ⟨gF,0,none⟩) n cf):=hc.c 0
    have z0:=kz (i*3)
    obtain⟨K2,hK2⟩:∃K,fI (tkE D).fs s2=K:=⟨_,rfl⟩
    have HF2:=efind_any w2 x F (tkE D) s2 B HDt.out.1 HDt.out.2.1 hB
    rw[hK2] at HF2
    have HK2:Hid (fI D.fs s2=K2):=by show _=_;rw[←hK2,tkE_fs]
    obtain⟨w3,hw3⟩:∃V,w2.setCell ⟨gF,i*3,none⟩ (.string s2)=V:=⟨_,rfl⟩
    have HNm:Hid (Em w3 x F ((tkE D).fs' (namF D.fs i s2))/\ Kd F w2 w3/\ w3.heap.size=w2.heap.size):=by
     rw[←hw3]
     have hr:=hc.cellF hp (k:=i*3) (v:=.string s2) (q:=⟨s2,p.1.bs,p.1.sf⟩) rfl (fcell_set0 _ hp)
     have e0:=hc.file hp
     rw[tkE_fs] at e0 hr
     refine⟨?_,Kd.set hFg,by simp[World.setCell]⟩
     unfold namF
     rw[setF_at e0]
     exact⟨_,_,hr⟩
    clear hc hp hn hkl k1 k2 kz hFg hgl hK2
    go_upto_region 9 with (go_at_call 94;refine HF2.mono ?_;rintro e w4 ⟨rfl,hw4⟩;rw[hw4];clear hw4)
    clear HF2
    go_upto_region 10 with fail
    try rw[hw3]
    clear hw3 k0 c0 z0
    have HFs:Hid (renF D.fs i s2=namF D.fs i s2-> Em w3 x (up F w2) ((tkE D).fs' (renF D.fs i s2))/\ Kd F w2 w3):=λe=>by
     rw[e]
     exact⟨HNm.out.1.mono (λk h _=>.inl h),HNm.out.2.1⟩
    cases hf2:fnd D.fs s2 with
    |none=>
     have hKn:K2=-1:=by rw[←HK2.out];exact fI_none hf2
     subst hKn
     have HFin:=HFs.out (by unfold renF;rw[hf2])
     have HFin:Hid (Em w3 x (up F w2) ((tkE D).fs' (renF D.fs i s2))/\ Kd F w2 w3):=HFin
     clear hf2 HFs HNm
     go_wp2_with (go_at_call 97;refine(eans_any _ ba).mono ?_;rintro e w4 ⟨rfl,hw4⟩;rw[hw4];clear hw4)
     go_ret
     rw[HR.out.1]
     exact EP.act HBd.out h2.out.2 HFin.out (by rw[HBa.out];rfl)
    |some k=>
     have hKn:K2=(k:Int):=by rw[←HK2.out];exact fI_some hf2
     subst hKn
     have hk0:(0:Int)<= (k:Int):=by omega
     by_cases hki:k=i
     ·have HFin:=HFs.out (by unfold renF;rw[hf2];simp only[hki,if_true])
      have HFin:Hid (Em w3 x (up F w2) ((tkE D).fs' (renF D.fs i s2))/\ Kd F w2 w3):=HFin
      have hne:((k:Int) != (i:Int))=false:=by simp[hki]
      clear hf2 HFs HNm hki
      go_wp2_with (go_at_call 97;refine(eans_any _ ba).mono ?_;rintro e w4 ⟨rfl,hw4⟩;rw[hw4];clear hw4)
      go_ret
      rw[HR.out.1]
      exact EP.act HBd.out h2.out.2 HFin.out (by rw[HBa.out];rfl)
     ·have hne:((k:Int) != (i:Int))=true:=by simp;omega
      have HRn:Hid (renF D.fs i s2=(namF D.fs i s2).eraseIdx k):=by show _=_;unfold renF;rw[hf2];simp only[hki,if_false]
      clear hf2 hki HFs
      have HOk:Hid (((tkE D).fs' (namF D.fs i s2)).Ok B):=by
       have h9:=fsok_nam (i:=i) (s:=s2) HD.out.2.files
       have h8:=HDt.out.2.1
       exact⟨h9.fs,h9.len,h9.used,h8.room,h8.acts⟩
      have HW:=ewithout_any w3 x k F ((tkE D).fs' (namF D.fs i s2)) B HNm.out.1 HOk.out hB
      have HX:Hid (∀V,Below w3.heap.size w3 V-> (∃a n c,V.cell? ⟨x,0,none⟩=some (.slice a n c))/\ V.frozen? ⟨x,0,none⟩=false):=λV hV=>by
       obtain⟨vf,L,hc⟩:=HNm.out.1.below hV
       obtain⟨a,c,e⟩:=d_shape hc.row
       exact⟨⟨a,_,c,(hc.c 0).trans (by rw[e];rfl)⟩,hc.z 0⟩
      have hFx:=HDt.out.1.fx
      go_upto_region 12 with (go_at_call 96;refine HW.mono ?_;rintro e w5 ⟨av,nv,cv,rfl,hb3,he3⟩;have H3:Hid (Below w3.heap.size w3 w5/\ Em (w5.setCell ⟨x,0,none⟩ (.slice av nv cv)) x (up F w3) (((tkE D).fs' (namF D.fs i s2)).fs' (((tkE D).fs' (namF D.fs i s2)).fs.eraseIdx k))):=⟨hb3,he3⟩;obtain⟨⟨aa,na,ca,hcx⟩,hzx⟩:=HX.out w5 hb3;clear hb3 he3)
      have HFin:Hid (Em (w5.setCell ⟨x,0,none⟩ (.slice av nv cv)) x (up F w2) ((tkE D).fs' (renF D.fs i s2))/\ Kd F w2 (w5.setCell ⟨x,0,none⟩ (.slice av nv cv))):=by
       rw[HRn.out]
       have e0:=H3.out.2
       refine⟨e0.mono (λk h _=>h.imp id (λq=>by rw[←HNm.out.2.2];exact q)),HNm.out.2.1.trans ((Kd.below H3.out.1).trans (Kd.set hFx))⟩
      clear HW HX hcx hzx
      go_wp2_with (go_at_call 97;refine(eans_any _ ba).mono ?_;rintro e w4 ⟨rfl,hw4⟩;rw[hw4];clear hw4)
      go_ret
      rw[HR.out.1]
      exact EP.act HBd.out h2.out.2 HFin.out (by rw[HBa.out];rfl)
end Go.Proofs.YtllhbhogfffedaaGreatDoor.K
