import Derived.Test.YtllhbhogfffedaaGreatDoorDkMem
set_option maxHeartbeats 4000000
set_option maxRecDepth 100000
namespace Go.Proofs.YtllhbhogfffedaaGreatDoor.K
open Go.RowKit
attribute [local go_sem] Oper.semAt_some
set_option linter.unusedVariables false
set_option linter.unusedSimpArgs false
theorem appRoom_opD {P:Program} {ops:Array Oper} {Q:Exit-> Act-> World-> Prop} {j:Nat} {K:Act-> World-> Prop} {a:Act} {w:World} {o:Oper} (hj:ops[j]?=some o) (hgd:o.guard=none) (s x:Operand) (t:TypeId)
 (hop:o.op=Op.call {callee:=Callee.builtin Builtin.append,args:=#[s,x],argTypes:=#[t,t]}) (e:TypeId) (i:TypeInfo) (size:Nat) (h1:P.underlying t=some (.slice e)) (h2:P.info? e=some i) (h4:i.size=size)
 (b n cap:Nat) (hs:a.eval s=.slice (some ⟨b,0,none⟩) n cap) (ad:Addr) (m c:Nat) (news:List Value) (hx:a.eval x=.slice (some ad) m c) (hn:news.length=m*size) (hc:∀j u,news[j]?=some u-> w.cell? (ad.add j)=some u) (h1c:∀u∈news,u.oneCell'=true)
 (hroom:n+m<= cap) (hspare:∀j,j < news.length-> (w.cell? ⟨b,n*size+j,none⟩).isSome=true/\ w.frozen? ⟨b,n*size+j,none⟩=false)
 (hK:K (a.put o.dst (.slice (some ⟨b,0,none⟩) (n+m) cap)) (w.setCells b (n*size) news)):wpOp P ops Q j K a w:=by
 unfold wpOp
 simp only[hj]
 have hw:Region.wanted o (yielded ops a.tmps)=true:=by simp[Region.wanted,hgd]
 rw[if_pos hw]
 left
 subst h4
 have hrun:=run_append_room_cells (P:=P) (w:=w) t o.type e i h1 h2 b 0 n cap ad m c news hn hc h1c hroom (λj hj=>by rw[Nat.zero_add];exact(hspare j hj).1) (λj hj=>by rw[Nat.zero_add];exact(hspare j hj).2)
 rw[Nat.zero_add] at hrun
 unfold Oper.wp
 simp[execOp,hop,resolve,invoke,builtin,hs,hx,hrun,Result.andThen]
 exact hK
theorem setCells_other (g:Nat):∀(vs:List Value) (o:Nat) (w:World) (k:Nat),k≠g-> (w.setCells g o vs).heap[k]?=w.heap[k]?
 |[],_,_,_,_=>rfl
 |v::r,o,w,k,h=>by
  show ((w.setCell ⟨g,o,none⟩ v).setCells g (o+1) r).heap[k]?=_
  rw[setCells_other g r (o+1) _ k h]
  exact heap_setCell_other _ _ _ _ h
theorem setCells_size (g:Nat):∀(vs:List Value) (o:Nat) (w:World),(w.setCells g o vs).heap.size=w.heap.size
 |[],_,_=>rfl
 |v::r,o,w=>by
  show ((w.setCell ⟨g,o,none⟩ v).setCells g (o+1) r).heap.size=_
  rw[setCells_size g r (o+1) _]
  simp[World.setCell]
theorem setCells_out (g:Nat):∀(vs:List Value) (o:Nat) (w:World),(w.setCells g o vs).os=w.os/\ (w.setCells g o vs).tape=w.tape/\ (w.setCells g o vs).output=w.output
 |[],_,_=>⟨rfl,rfl,rfl⟩
 |v::r,o,w=>setCells_out g r (o+1) (w.setCell ⟨g,o,none⟩ v)
def setL (xs:List Value):Nat-> List Value-> List Value
 |_,[]=>xs
 |o,v::r=>setL (xs.set o v) (o+1) r
theorem setL_eq:∀(vs:List Value) (o:Nat) (xs:List Value),o+vs.length<= xs.length-> setL xs o vs=xs.take o++vs++xs.drop (o+vs.length)
 |[],o,xs,h=>by simp[setL]
 |v::r,o,xs,h=>by
  simp only[List.length_cons] at h
  rw[setL,setL_eq r (o+1) (xs.set o v) (by simp;omega)]
  rw[List.take_set,List.drop_set_of_lt (by omega)]
  have h1:(xs.take (o+1)).set o v=xs.take o++[v]:=by
   rw[List.take_add_one,List.getElem?_eq_getElem (by omega)]
   simp only[Option.toList]
   rw[List.set_append_right _ _ (by simp;omega)]
   simp[Nat.min_eq_left (by omega:o<= xs.length)]
  rw[h1,List.length_cons,show o+(r.length+1)=o+1+r.length by omega]
  simp only[List.append_assoc,List.cons_append,List.nil_append]
theorem own_setCells {base n cap g sz:Nat} {e:TypeId}:∀(vs:List Value) (o:Nat) (w:World) (xs:List Value),w.ownsRow base e sz (.slice (some ⟨g,0,none⟩) n cap) n xs-> (w.setCells g o vs).ownsRow base e sz (.slice (some ⟨g,0,none⟩) n cap) n (setL xs o vs)
 |[],_,_,_,h=>h
 |v::r,o,w,xs,h=>own_setCells r (o+1) _ _ (World.ownsRow.stored h o v).1
theorem own_shrink {w:World} {base n m cap g sz:Nat} {e:TypeId} {xs:List Value} (h:w.ownsRow base e sz (.slice (some ⟨g,0,none⟩) n cap) n xs) (hm:m<= n):w.ownsRow base e sz (.slice (some ⟨g,0,none⟩) m cap) m (xs.take (m*sz)):=by
 obtain⟨h1,⟨h2,_⟩|⟨g',cap',cur,h2,h3,h4,h5,h6,h7,h8⟩⟩:=h
 ·cases h2
 ·cases h2
  have hms:m*sz<= n*sz:=Nat.mul_le_mul_right _ hm
  refine⟨by rw[List.length_take,h1];omega,.inr ⟨g,cap,cur,rfl,h3,h4,by omega,h6,h7,?_⟩⟩
  rw[←h8,List.take_take,Nat.min_eq_left hms]
theorem fcell_take:∀(L:List Fv) (k:Nat),(L.flatMap fcell).take (k*3)=(L.take k).flatMap fcell
 |[],k=>by simp
 |p::r,0=>by simp
 |p::r,k+1=>by
  rw[List.flatMap_cons,List.take_succ_cons,List.flatMap_cons,←fcell_take r k,show (k+1)*3=(fcell p).length+k*3 by simp[fcell];omega,List.take_length_add_append]
theorem fcell_drop:∀(L:List Fv) (k:Nat),(L.flatMap fcell).drop (k*3)=(L.drop k).flatMap fcell
 |[],k=>by simp
 |p::r,0=>by simp
 |p::r,k+1=>by
  rw[List.flatMap_cons,List.drop_succ_cons,←fcell_drop r k,show (k+1)*3=(fcell p).length+k*3 by simp[fcell];omega,List.drop_length_add_append]
theorem erase_get {α:Type} {l:List α} {k j:Nat} {y:α} (h:(l.eraseIdx k)[j]?=some y):∃i,l[i]?=some y/\ i=if j < k then j else j+1:=by
 rw[List.getElem?_eraseIdx] at h
 by_cases e:j < k
 ·rw[if_pos e] at h;exact⟨j,h,by rw[if_pos e]⟩
 ·rw[if_neg e] at h;exact⟨j+1,h,by rw[if_neg e]⟩
theorem map_eraseIdx {α β:Type} (f:α-> β):∀(l:List α) (k:Nat),(l.eraseIdx k).map f=(l.map f).eraseIdx k
 |[],k=>by simp
 |x::r,0=>by simp
 |x::r,k+1=>by simp[map_eraseIdx f r k]
theorem Dc.rem {W:World} {x gF n cf k:Nat} {F:Nat-> Prop} {D:Dk} {L:List Fv} (h:Dc W x F D (.slice (some ⟨gF,0,none⟩) n cf) L) (hk:k < n):
 Dc ((W.setCells gF (k*3) ((L.drop (k+1)).flatMap fcell)).setCell ⟨x,0,none⟩ (.slice (some ⟨gF,0,none⟩) (n - 1) cf)) x F (D.fs' (D.fs.eraseIdx k)) (.slice (some ⟨gF,0,none⟩) (n - 1) cf) (L.eraseIdx k):=by
 obtain rfl:L.length=n:=by obtain⟨a,c,e⟩:=d_shape h.row;simp only[Value.slice.injEq] at e;exact e.2.1.symm
 have hgx:gF≠x:=λe=>h.rx (by rw[e];rfl)
 have hset:∀g,g≠gF-> g≠x-> ((W.setCells gF (k*3) ((L.drop (k+1)).flatMap fcell)).setCell ⟨x,0,none⟩ (.slice (some ⟨gF,0,none⟩) (L.length - 1) cf)).heap[g]?=W.heap[g]?:=λg h1 h2=>(heap_setCell_other _ _ _ _ h2).trans (setCells_other _ _ _ _ _ h1)
 have hbj:∀(j:Nat) q,L[j]?=some q-> ∀g,q.2.ownBlock=some g-> g≠gF/\ g≠x:=λj q hq g hg=>⟨λe=>h.rb hq rfl (by rw[←e];exact hg),λe=>h.bx hq (by rw[←e];exact hg)⟩
 have hlen:(L.eraseIdx k).length=L.length - 1:=List.length_eraseIdx_of_lt hk
 refine⟨by rw[map_eraseIdx,h.map];rfl,?_,?_,λj q hq=>?_,λj j' q u g hj hk hg1 hg2=>?_,h.fx,λg hg=>by cases hg;exact h.fr gF rfl,λj q g hj hg=>?_⟩
 ·have hB:=(setCells_other gF ((L.drop (k+1)).flatMap fcell) (k*3) W x (λe=>hgx e.symm)).trans h.box
  exact heap_setCell_same _ x 0 _ _ _ hB
 ·rw[hlen]
  have h1:=own_setCells ((L.drop (k+1)).flatMap fcell) (k*3) W _ h.row
  have h2:=own_shrink h1 (Nat.sub_le L.length 1)
  have hll:((L.drop (k+1)).flatMap fcell).length=(L.length - (k+1))*3:=by rw[fcell_len,List.length_drop]
  rw[setL_eq _ _ _ (by rw[hll,fcell_len];omega)] at h2
  have h3:(List.take ((L.length - 1)*3) (List.take (k*3) (L.flatMap fcell)++(L.drop (k+1)).flatMap fcell++List.drop (k*3+((L.drop (k+1)).flatMap fcell).length) (L.flatMap fcell)))=(L.eraseIdx k).flatMap fcell:=by
   rw[List.take_left' (by rw[List.length_append,hll,List.length_take,fcell_len];omega),List.eraseIdx_eq_take_drop_succ,List.flatMap_append,fcell_take]
  rw[h3] at h2
  exact d_blk h2 (λg hg=>by cases hg;exact heap_setCell_other _ _ _ _ hgx)
 ·obtain⟨i,hi,_⟩:=erase_get hq
  exact d_blk (h.byt i q hi) (λg hg=>hset g (hbj i q hi g hg).1 (hbj i q hi g hg).2)
 ·obtain⟨i,hi,ei⟩:=erase_get hj
  obtain⟨i',hi',ei'⟩:=erase_get hk
  have:=h.dis i i' q u g hi hi' hg1 hg2
  subst this
  rw[ei] at ei'
  split at ei'<;>split at ei'<;>omega
 ·obtain⟨i,hi,_⟩:=erase_get hj
  exact h.fb i q g hi hg
def regRemAOps:Array Oper:=#[⟨some 2,.load 46 (.tmp 0),46, "disk.go:178",#[],none⟩,
 ⟨some 3,.nilCheck (.tmp 2),0, "disk.go:178",#[⟨0,.data⟩],none⟩,
 ⟨some 4,.fieldAddr 102 (.tmp 3) 0,0, "disk.go:178",#[⟨1,.data⟩],none⟩,
 ⟨some 5,.load 83 (.tmp 4),83, "disk.go:178",#[⟨2,.data⟩],none⟩,
 ⟨some 6,.load 46 (.tmp 0),46, "disk.go:178",#[],none⟩,
 ⟨some 7,.nilCheck (.tmp 6),0, "disk.go:178",#[⟨4,.data⟩],none⟩,
 ⟨some 8,.fieldAddr 102 (.tmp 7) 0,0, "disk.go:178",#[⟨5,.data⟩],none⟩,
 ⟨some 9,.load 83 (.tmp 8),83, "disk.go:178",#[⟨6,.data⟩],none⟩,
 ⟨some 10,.nilCheck (.tmp 9),0, "disk.go:178",#[⟨7,.data⟩],none⟩,
 ⟨some 11,.fieldAddr 85 (.tmp 10) 0,0, "disk.go:178",#[⟨8,.data⟩],none⟩,
 ⟨some 12,.load 72 (.tmp 11),72, "disk.go:178",#[⟨9,.data⟩],none⟩,
 ⟨some 13,.load 3 (.tmp 1),3, "disk.go:178",#[],none⟩,
 ⟨some 14,.slice 72 (.tmp 12) none (some (.tmp 13)) none,72, "disk.go:178",#[⟨10,.data⟩,⟨11,.data⟩],none⟩,
 ⟨some 15,.load 46 (.tmp 0),46, "disk.go:178",#[],none⟩,
 ⟨some 16,.nilCheck (.tmp 15),0, "disk.go:178",#[⟨13,.data⟩],none⟩,
 ⟨some 17,.fieldAddr 102 (.tmp 16) 0,0, "disk.go:178",#[⟨14,.data⟩],none⟩,
 ⟨some 18,.load 83 (.tmp 17),83, "disk.go:178",#[⟨15,.data⟩],none⟩,
 ⟨some 19,.nilCheck (.tmp 18),0, "disk.go:178",#[⟨16,.data⟩],none⟩,
 ⟨some 20,.fieldAddr 85 (.tmp 19) 0,0, "disk.go:178",#[⟨17,.data⟩],none⟩,
 ⟨some 21,.load 72 (.tmp 20),72, "disk.go:178",#[⟨18,.data⟩],none⟩,
 ⟨some 22,.load 3 (.tmp 1),3, "disk.go:178",#[],none⟩,
 ⟨some 23,.binOp BinOp.add 3 (.tmp 22) (Operand.const (Value.int IntKind.i64 1)) 3,3, "disk.go:178",#[⟨20,.data⟩],none⟩,
 ⟨some 24,.slice 72 (.tmp 21) (some (.tmp 23)) none none,72, "disk.go:178",#[⟨19,.data⟩,⟨21,.data⟩],none⟩,
 ⟨some 25,.call {callee:=Callee.builtin Builtin.append,args:=#[.tmp 14,.tmp 24],argTypes:=#[72,72]},72, "disk.go:178",#[⟨12,.data⟩,⟨22,.data⟩],none⟩,
 ⟨some 26,.nilCheck (.tmp 5),0, "disk.go:178",#[⟨3,.data⟩,⟨0,.phase⟩,⟨1,.phase⟩,⟨2,.phase⟩,⟨3,.phase⟩,⟨4,.phase⟩,⟨5,.phase⟩,⟨6,.phase⟩,⟨7,.phase⟩,⟨8,.phase⟩,⟨9,.phase⟩,⟨10,.phase⟩,⟨11,.phase⟩,⟨12,.phase⟩,⟨13,.phase⟩,⟨14,.phase⟩,⟨15,.phase⟩,⟨16,.phase⟩,⟨17,.phase⟩,⟨18,.phase⟩,⟨19,.phase⟩,⟨20,.phase⟩,⟨21,.phase⟩,⟨22,.phase⟩,⟨23,.phase⟩],none⟩,
 ⟨some 27,.fieldAddr 85 (.tmp 26) 0,0, "disk.go:178",#[⟨24,.data⟩,⟨0,.phase⟩,⟨1,.phase⟩,⟨2,.phase⟩,⟨3,.phase⟩,⟨4,.phase⟩,⟨5,.phase⟩,⟨6,.phase⟩,⟨7,.phase⟩,⟨8,.phase⟩,⟨9,.phase⟩,⟨10,.phase⟩,⟨11,.phase⟩,⟨12,.phase⟩,⟨13,.phase⟩,⟨14,.phase⟩,⟨15,.phase⟩,⟨16,.phase⟩,⟨17,.phase⟩,⟨18,.phase⟩,⟨19,.phase⟩,⟨20,.phase⟩,⟨21,.phase⟩,⟨22,.phase⟩,⟨23,.phase⟩],none⟩,
 ⟨none,.store 72 (.tmp 27) (.tmp 25),0, "disk.go:178",#[⟨25,.data⟩,⟨23,.data⟩,⟨23,.chain⟩,⟨0,.phase⟩,⟨1,.phase⟩,⟨2,.phase⟩,⟨3,.phase⟩,⟨4,.phase⟩,⟨5,.phase⟩,⟨6,.phase⟩,⟨7,.phase⟩,⟨8,.phase⟩,⟨9,.phase⟩,⟨10,.phase⟩,⟨11,.phase⟩,⟨12,.phase⟩,⟨13,.phase⟩,⟨14,.phase⟩,⟨15,.phase⟩,⟨16,.phase⟩,⟨17,.phase⟩,⟨18,.phase⟩,⟨19,.phase⟩,⟨20,.phase⟩,⟨21,.phase⟩,⟨22,.phase⟩,⟨23,.phase⟩],none⟩]
theorem regRemA (Q:Exit-> Act-> World-> Prop) (Db Ib d x gF k:Nat) (bx:Array Value) (n cf:Nat) (news:List Value) {t2 t3 t4 t5 t6 t7 t8 t9 t10 t11 t12 t13 t14 t15 t16 t17 t18 t19 t20 t21 t22 t23 t24 t25 t26 t27:Value} (W:World)
 (hkn:(k:Int) < (n:Int)) (hk1:(k:Int)+1<= (n:Int)) (hnc:(n:Int)<= (cf:Int)) (hkc:(k:Int)<= (cf:Int)) (hcf:¬cf=k+1) (hnl:news.length=(n - (k+1))*3) (hnews:∀j u,news[j]?=some u-> W.drew.cell? ((⟨gF,(k+1)*3,none⟩:Addr).add j)=some u) (h1c:∀u∈news,u.oneCell'=true) (hspare:∀j,j < news.length-> (W.drew.cell? ⟨gF,k*3+j,none⟩).isSome=true/\ W.drew.frozen? ⟨gF,k*3+j,none⟩=false) (hk0:(0:Int)<= (k:Int)) (hwk:IntKind.i64.wrap ((k:Int)+1)=(k:Int)+1) (hB:W.heap[x]?=some (.cells bx 85 (0,0))) (hb0':bx[0]?=some (.slice (some ⟨gF,0,none⟩) n cf)) (hgx:gF≠x) (hcv:∀V:World,(∀g,g≠gF-> g≠x-> V.heap[g]?=W.heap[g]?)-> V.cell? ⟨Db,0,none⟩=some (.pointer (some ⟨d,0,none⟩))/\ V.cell? ⟨d,0,none⟩=some (.pointer (some ⟨x,0,none⟩))/\ V.cell? ⟨Ib,0,none⟩=some (.int .i64 (k:Int))) (hcx:∀y,((W.drew.setCells gF (k*3) news).setCell ⟨x,0,none⟩ y).cell? ⟨Db,0,none⟩=some (.pointer (some ⟨d,0,none⟩))/\ ((W.drew.setCells gF (k*3) news).setCell ⟨x,0,none⟩ y).cell? ⟨d,0,none⟩=some (.pointer (some ⟨x,0,none⟩))/\ ((W.drew.setCells gF (k*3) news).setCell ⟨x,0,none⟩ y).cell? ⟨Ib,0,none⟩=some (.int .i64 (k:Int)))
 (h:Q .normal {tmps:=(.pointer (some ⟨Db,0,none⟩)::.pointer (some ⟨Ib,0,none⟩)::.pointer (some ⟨d,0,none⟩)::.pointer (some ⟨d,0,none⟩)::.pointer (some ⟨d,0,none⟩)::.pointer (some ⟨x,0,none⟩)::.pointer (some ⟨d,0,none⟩)::.pointer (some ⟨d,0,none⟩)::.pointer (some ⟨d,0,none⟩)::.pointer (some ⟨x,0,none⟩)::.pointer (some ⟨x,0,none⟩)::.pointer (some ⟨x,0,none⟩)::.slice (some ⟨gF,0,none⟩) n cf::.int .i64 (k:Int)::.slice (some ⟨gF,0,none⟩) k cf::.pointer (some ⟨d,0,none⟩)::.pointer (some ⟨d,0,none⟩)::.pointer (some ⟨d,0,none⟩)::.pointer (some ⟨x,0,none⟩)::.pointer (some ⟨x,0,none⟩)::.pointer (some ⟨x,0,none⟩)::.slice (some ⟨gF,0,none⟩) n cf::.int .i64 (k:Int)::.int .i64 ((k:Int)+1)::.slice (some ⟨gF,(k+1)*3,none⟩) (n - (k+1)) (cf - (k+1))::.slice (some ⟨gF,0,none⟩) (k+(n - (k+1))) cf::.pointer (some ⟨x,0,none⟩)::.pointer (some ⟨x,0,none⟩)::[]).toArray,defers:=[]} ((W.drew.setCells gF (k*3) news).setCell ⟨x,0,none⟩ (.slice (some ⟨gF,0,none⟩) (k+(n - (k+1))) cf))):
 (Code.region 0 regRemAOps true).wp Tryz.prog Q {tmps:=(.pointer (some ⟨Db,0,none⟩)::.pointer (some ⟨Ib,0,none⟩)::t2::t3::t4::t5::t6::t7::t8::t9::t10::t11::t12::t13::t14::t15::t16::t17::t18::t19::t20::t21::t22::t23::t24::t25::t26::t27::[]).toArray,defers:=[]} W:=by
 refine Code.wp_mono (λ_ _ _ h=>calmD_le h) ?_
 unfold regRemAOps
 have hp:∀c a a' w,calmD Q (.panic c) a w-> calmD Q (.panic c) a' w:=λ_ _ _ _ h=>h
 refine wp_region_held (S:=λV=>V.cell? ⟨Db,0,none⟩=some (.pointer (some ⟨d,0,none⟩))/\ V.cell? ⟨d,0,none⟩=some (.pointer (some ⟨x,0,none⟩))/\ V.cell? ⟨Ib,0,none⟩=some (.int .i64 (k:Int))) (by kernel_rfl) ?_
 change wpAnyH _ _ _ _ _ _ _ _ W.drew
 have hS:=hcv W.drew (λ_ _ _=>rfl)
 have hb0:W.drew.cell? ⟨x,0,none⟩=some (.slice (some ⟨gF,0,none⟩) n cf):=(cell_of_row _ _ 0 _ _ _ (show W.drew.heap[x]?=_ from hB)).trans hb0'
 obtain⟨i0,hi,hz0,hz1,hz2⟩:=info_partsD infoFile
 have hk2:(0:Int)<= (k:Int)+1:=by omega
 refine wpAnyH_takes (by kernel_rfl) hp hS [(0,some 2,.pointer (some ⟨d,0,none⟩)),(1,some 3,.pointer (some ⟨d,0,none⟩)),(2,some 4,.pointer (some ⟨d,0,none⟩)),(3,some 5,.pointer (some ⟨x,0,none⟩)),(4,some 6,.pointer (some ⟨d,0,none⟩)),(5,some 7,.pointer (some ⟨d,0,none⟩)),(6,some 8,.pointer (some ⟨d,0,none⟩)),(7,some 9,.pointer (some ⟨x,0,none⟩)),(8,some 10,.pointer (some ⟨x,0,none⟩)),(9,some 11,.pointer (some ⟨x,0,none⟩)),(11,some 13,.int .i64 (k:Int)),(13,some 15,.pointer (some ⟨d,0,none⟩)),(14,some 16,.pointer (some ⟨d,0,none⟩)),(15,some 17,.pointer (some ⟨d,0,none⟩)),(16,some 18,.pointer (some ⟨x,0,none⟩)),(17,some 19,.pointer (some ⟨x,0,none⟩)),(18,some 20,.pointer (some ⟨x,0,none⟩)),(20,some 22,.int .i64 (k:Int)),(21,some 23,.int .i64 ((k:Int)+1))] (by kernel_rfl) ?_ ?_
 ·repeat (refine tkY_cons rfl (λV hV=>?_) ?_;(·have s0:=hV;(try obtain⟨s1,s2⟩:=s0);go_split_ands;go_simp;all_goals (first|assumption|omega));simp only[Act.put,aqA,aqB,aqC])
  exact True.intro
 simp only[tkA,Act.put,aqA,aqB,aqC]
 refine wpAnyH_ready (rs:=[10,19]) (by kernel_rfl) (by simp) ?_
 refine(AllReadyH.cons rfl (λK hK=>?_) (AllReadyH.cons rfl (λK hK=>?_) AllReadyH.nil))
 ·go_simp
  refine hK.out _ _ hS (λ_=>?_)
  clear hK K
  try simp only[Act.put,aqA,aqB,aqC]
  refine wpAnyH_takes (by kernel_rfl) hp hS [(12,some 14,.slice (some ⟨gF,0,none⟩) k cf)] (by kernel_rfl) ?_ ?_
  ·repeat (refine tkY_cons rfl (λV hV=>?_) ?_;(·have s0:=hV;(try obtain⟨s1,s2⟩:=s0);go_split_ands;go_simp;all_goals (first|assumption|omega));simp only[Act.put,aqA,aqB,aqC])
   exact True.intro
  simp only[tkA,Act.put,aqA,aqB,aqC]
  refine wpAnyH_ready (rs:=[19]) (by kernel_rfl) (by simp) ?_
  refine(AllReadyH.cons rfl (λK hK=>?_) AllReadyH.nil)
  go_simp
  refine hK.out _ _ hS (λ_=>?_)
  clear hK K
  try simp only[Act.put,aqA,aqB,aqC]
  refine wpAnyH_takes (by kernel_rfl) hp hS [(22,some 24,.slice (some ⟨gF,(k+1)*3,none⟩) (n - (k+1)) (cf - (k+1)))] (by kernel_rfl) ?_ ?_
  ·repeat (refine tkY_cons rfl (λV hV=>?_) ?_;(·have s0:=hV;(try obtain⟨s1,s2⟩:=s0);go_split_ands;go_simp;all_goals (first|assumption|omega));simp only[Act.put,aqA,aqB,aqC])
   exact True.intro
  simp only[tkA,Act.put,aqA,aqB,aqC]
  refine wpAnyH_all (rs:=[23]) (by kernel_rfl) (by simp) ?_
  intro i hiX
  obtain rfl:i=23:=by simpa using hiX
  refine appRoom_opD (j:=23) rfl rfl (.tmp 14) (.tmp 24) 72 rfl 75 i0 3 Tryz.underlying72 hi hz1 gF k cf (by simp[Act.eval]) ⟨gF,(k+1)*3,none⟩ (n - (k+1)) (cf - (k+1)) news (by simp[Act.eval]) hnl hnews h1c (by omega) hspare ?_
  have hS2:=hcv (W.drew.setCells gF (k*3) news) (λg h1 h2=>setCells_other _ _ _ W.drew g h1)
  refine⟨hS2,?_⟩
  have hQ2:(W.drew.setCells gF (k*3) news).heap[x]?=some (.cells bx 85 (0,0)):=(setCells_other _ _ _ W.drew x (λe=>hgx e.symm)).trans hB
  have hfz:(W.drew.setCells gF (k*3) news).frozen? ⟨x,0,none⟩=false:=frozen_of_row _ _ 0 _ _ hQ2
  have hbv:(W.drew.setCells gF (k*3) news).cell? ⟨x,0,none⟩=some (.slice (some ⟨gF,0,none⟩) n cf):=(cell_of_row _ _ 0 _ _ _ hQ2).trans hb0'
  try simp only[Act.put,aqA,aqB,aqC]
  refine wpAnyH_takes (by kernel_rfl) hp hS2 [(24,some 26,.pointer (some ⟨x,0,none⟩)),(25,some 27,.pointer (some ⟨x,0,none⟩))] (by kernel_rfl) ?_ ?_
  ·repeat (refine tkY_cons rfl (λV hV=>?_) ?_;(·have s0:=hV;(try obtain⟨s1,s2⟩:=s0);go_split_ands;go_simp;all_goals (first|assumption|omega));simp only[Act.put,aqA,aqB,aqC])
   exact True.intro
  simp only[tkA,Act.put,aqA,aqB,aqC]
  refine wpAnyH_ready (rs:=[26]) (by kernel_rfl) (by simp) ?_
  refine(AllReadyH.cons rfl (λK hK=>?_) AllReadyH.nil)
  go_simp
  refine hK.out _ _ (hcx (.slice (some ⟨gF,0,none⟩) (k+(n - (k+1))) cf)) (λ_=>?_)
  clear hK K
  try simp only[Act.put,aqA,aqB,aqC]
  exact wpAnyH_done (Q:=calmD Q) (by kernel_rfl) h _
 ·go_simp
  refine hK.out _ _ hS (λ_=>?_)
  clear hK K
  try simp only[Act.put,aqA,aqB,aqC]
  refine wpAnyH_takes (by kernel_rfl) hp hS [(22,some 24,.slice (some ⟨gF,(k+1)*3,none⟩) (n - (k+1)) (cf - (k+1)))] (by kernel_rfl) ?_ ?_
  ·repeat (refine tkY_cons rfl (λV hV=>?_) ?_;(·have s0:=hV;(try obtain⟨s1,s2⟩:=s0);go_split_ands;go_simp;all_goals (first|assumption|omega));simp only[Act.put,aqA,aqB,aqC])
   exact True.intro
  simp only[tkA,Act.put,aqA,aqB,aqC]
  refine wpAnyH_ready (rs:=[10]) (by kernel_rfl) (by simp) ?_
  refine(AllReadyH.cons rfl (λK hK=>?_) AllReadyH.nil)
  go_simp
  refine hK.out _ _ hS (λ_=>?_)
  clear hK K
  try simp only[Act.put,aqA,aqB,aqC]
  refine wpAnyH_takes (by kernel_rfl) hp hS [(12,some 14,.slice (some ⟨gF,0,none⟩) k cf)] (by kernel_rfl) ?_ ?_
  ·repeat (refine tkY_cons rfl (λV hV=>?_) ?_;(·have s0:=hV;(try obtain⟨s1,s2⟩:=s0);go_split_ands;go_simp;all_goals (first|assumption|omega));simp only[Act.put,aqA,aqB,aqC])
   exact True.intro
  simp only[tkA,Act.put,aqA,aqB,aqC]
  refine wpAnyH_all (rs:=[23]) (by kernel_rfl) (by simp) ?_
  intro i hiX
  obtain rfl:i=23:=by simpa using hiX
  refine appRoom_opD (j:=23) rfl rfl (.tmp 14) (.tmp 24) 72 rfl 75 i0 3 Tryz.underlying72 hi hz1 gF k cf (by simp[Act.eval]) ⟨gF,(k+1)*3,none⟩ (n - (k+1)) (cf - (k+1)) news (by simp[Act.eval]) hnl hnews h1c (by omega) hspare ?_
  have hS2:=hcv (W.drew.setCells gF (k*3) news) (λg h1 h2=>setCells_other _ _ _ W.drew g h1)
  refine⟨hS2,?_⟩
  have hQ2:(W.drew.setCells gF (k*3) news).heap[x]?=some (.cells bx 85 (0,0)):=(setCells_other _ _ _ W.drew x (λe=>hgx e.symm)).trans hB
  have hfz:(W.drew.setCells gF (k*3) news).frozen? ⟨x,0,none⟩=false:=frozen_of_row _ _ 0 _ _ hQ2
  have hbv:(W.drew.setCells gF (k*3) news).cell? ⟨x,0,none⟩=some (.slice (some ⟨gF,0,none⟩) n cf):=(cell_of_row _ _ 0 _ _ _ hQ2).trans hb0'
  try simp only[Act.put,aqA,aqB,aqC]
  refine wpAnyH_takes (by kernel_rfl) hp hS2 [(24,some 26,.pointer (some ⟨x,0,none⟩)),(25,some 27,.pointer (some ⟨x,0,none⟩))] (by kernel_rfl) ?_ ?_
  ·repeat (refine tkY_cons rfl (λV hV=>?_) ?_;(·have s0:=hV;(try obtain⟨s1,s2⟩:=s0);go_split_ands;go_simp;all_goals (first|assumption|omega));simp only[Act.put,aqA,aqB,aqC])
   exact True.intro
  simp only[tkA,Act.put,aqA,aqB,aqC]
  refine wpAnyH_ready (rs:=[26]) (by kernel_rfl) (by simp) ?_
  refine(AllReadyH.cons rfl (λK hK=>?_) AllReadyH.nil)
  go_simp
  refine hK.out _ _ (hcx (.slice (some ⟨gF,0,none⟩) (k+(n - (k+1))) cf)) (λ_=>?_)
  clear hK K
  try simp only[Act.put,aqA,aqB,aqC]
  exact wpAnyH_done (Q:=calmD Q) (by kernel_rfl) h _
def regRenAOps:Array Oper:=#[⟨some 28,.load 46 (.tmp 0),46, "disk.go:164",#[],none⟩,
 ⟨some 29,.nilCheck (.tmp 28),0, "disk.go:164",#[⟨0,.data⟩],none⟩,
 ⟨some 30,.fieldAddr 102 (.tmp 29) 0,0, "disk.go:164",#[⟨1,.data⟩],none⟩,
 ⟨some 31,.load 83 (.tmp 30),83, "disk.go:164",#[⟨2,.data⟩],none⟩,
 ⟨some 32,.load 46 (.tmp 0),46, "disk.go:164",#[],none⟩,
 ⟨some 33,.nilCheck (.tmp 32),0, "disk.go:164",#[⟨4,.data⟩],none⟩,
 ⟨some 34,.fieldAddr 102 (.tmp 33) 0,0, "disk.go:164",#[⟨5,.data⟩],none⟩,
 ⟨some 35,.load 83 (.tmp 34),83, "disk.go:164",#[⟨6,.data⟩],none⟩,
 ⟨some 36,.nilCheck (.tmp 35),0, "disk.go:164",#[⟨7,.data⟩],none⟩,
 ⟨some 37,.fieldAddr 85 (.tmp 36) 0,0, "disk.go:164",#[⟨8,.data⟩],none⟩,
 ⟨some 38,.load 72 (.tmp 37),72, "disk.go:164",#[⟨9,.data⟩],none⟩,
 ⟨some 39,.move (.tmp 3),3, "disk.go:164",#[],none⟩,
 ⟨some 40,.slice 72 (.tmp 38) none (some (.tmp 39)) none,72, "disk.go:164",#[⟨10,.data⟩,⟨11,.data⟩],none⟩,
 ⟨some 41,.load 46 (.tmp 0),46, "disk.go:164",#[],none⟩,
 ⟨some 42,.nilCheck (.tmp 41),0, "disk.go:164",#[⟨13,.data⟩],none⟩,
 ⟨some 43,.fieldAddr 102 (.tmp 42) 0,0, "disk.go:164",#[⟨14,.data⟩],none⟩,
 ⟨some 44,.load 83 (.tmp 43),83, "disk.go:164",#[⟨15,.data⟩],none⟩,
 ⟨some 45,.nilCheck (.tmp 44),0, "disk.go:164",#[⟨16,.data⟩],none⟩,
 ⟨some 46,.fieldAddr 85 (.tmp 45) 0,0, "disk.go:164",#[⟨17,.data⟩],none⟩,
 ⟨some 47,.load 72 (.tmp 46),72, "disk.go:164",#[⟨18,.data⟩],none⟩,
 ⟨some 48,.move (.tmp 3),3, "disk.go:164",#[],none⟩,
 ⟨some 49,.binOp BinOp.add 3 (.tmp 48) (Operand.const (Value.int IntKind.i64 1)) 3,3, "disk.go:164",#[⟨20,.data⟩],none⟩,
 ⟨some 50,.slice 72 (.tmp 47) (some (.tmp 49)) none none,72, "disk.go:164",#[⟨19,.data⟩,⟨21,.data⟩],none⟩,
 ⟨some 51,.call {callee:=Callee.builtin Builtin.append,args:=#[.tmp 40,.tmp 50],argTypes:=#[72,72]},72, "disk.go:164",#[⟨12,.data⟩,⟨22,.data⟩],none⟩,
 ⟨some 52,.nilCheck (.tmp 31),0, "disk.go:164",#[⟨3,.data⟩,⟨0,.phase⟩,⟨1,.phase⟩,⟨2,.phase⟩,⟨3,.phase⟩,⟨4,.phase⟩,⟨5,.phase⟩,⟨6,.phase⟩,⟨7,.phase⟩,⟨8,.phase⟩,⟨9,.phase⟩,⟨10,.phase⟩,⟨11,.phase⟩,⟨12,.phase⟩,⟨13,.phase⟩,⟨14,.phase⟩,⟨15,.phase⟩,⟨16,.phase⟩,⟨17,.phase⟩,⟨18,.phase⟩,⟨19,.phase⟩,⟨20,.phase⟩,⟨21,.phase⟩,⟨22,.phase⟩,⟨23,.phase⟩],none⟩,
 ⟨some 53,.fieldAddr 85 (.tmp 52) 0,0, "disk.go:164",#[⟨24,.data⟩,⟨0,.phase⟩,⟨1,.phase⟩,⟨2,.phase⟩,⟨3,.phase⟩,⟨4,.phase⟩,⟨5,.phase⟩,⟨6,.phase⟩,⟨7,.phase⟩,⟨8,.phase⟩,⟨9,.phase⟩,⟨10,.phase⟩,⟨11,.phase⟩,⟨12,.phase⟩,⟨13,.phase⟩,⟨14,.phase⟩,⟨15,.phase⟩,⟨16,.phase⟩,⟨17,.phase⟩,⟨18,.phase⟩,⟨19,.phase⟩,⟨20,.phase⟩,⟨21,.phase⟩,⟨22,.phase⟩,⟨23,.phase⟩],none⟩,
 ⟨none,.store 72 (.tmp 53) (.tmp 51),0, "disk.go:164",#[⟨25,.data⟩,⟨23,.data⟩,⟨23,.chain⟩,⟨0,.phase⟩,⟨1,.phase⟩,⟨2,.phase⟩,⟨3,.phase⟩,⟨4,.phase⟩,⟨5,.phase⟩,⟨6,.phase⟩,⟨7,.phase⟩,⟨8,.phase⟩,⟨9,.phase⟩,⟨10,.phase⟩,⟨11,.phase⟩,⟨12,.phase⟩,⟨13,.phase⟩,⟨14,.phase⟩,⟨15,.phase⟩,⟨16,.phase⟩,⟨17,.phase⟩,⟨18,.phase⟩,⟨19,.phase⟩,⟨20,.phase⟩,⟨21,.phase⟩,⟨22,.phase⟩,⟨23,.phase⟩],none⟩]
theorem regRenA (Q:Exit-> Act-> World-> Prop) (Db d x gF k:Nat) (bx:Array Value) (n cf:Nat) (news:List Value) {t1 t2 t4 t5 t6 t7 t8 t9 t10 t11 t12 t13 t14 t15 t16 t17 t18 t19 t20 t21 t22 t23 t24 t25 t26 t27 t28 t29 t30 t31 t32 t33 t34 t35 t36 t37 t38 t39 t40 t41 t42 t43 t44 t45 t46 t47 t48 t49 t50 t51 t52 t53:Value} (W:World)
 (hkn:(k:Int) < (n:Int)) (hk1:(k:Int)+1<= (n:Int)) (hnc:(n:Int)<= (cf:Int)) (hkc:(k:Int)<= (cf:Int)) (hcf:¬cf=k+1) (hnl:news.length=(n - (k+1))*3) (hnews:∀j u,news[j]?=some u-> W.drew.cell? ((⟨gF,(k+1)*3,none⟩:Addr).add j)=some u) (h1c:∀u∈news,u.oneCell'=true) (hspare:∀j,j < news.length-> (W.drew.cell? ⟨gF,k*3+j,none⟩).isSome=true/\ W.drew.frozen? ⟨gF,k*3+j,none⟩=false) (hk0:(0:Int)<= (k:Int)) (hwk:IntKind.i64.wrap ((k:Int)+1)=(k:Int)+1) (hB:W.heap[x]?=some (.cells bx 85 (0,0))) (hb0':bx[0]?=some (.slice (some ⟨gF,0,none⟩) n cf)) (hgx:gF≠x) (hcv:∀V:World,(∀g,g≠gF-> g≠x-> V.heap[g]?=W.heap[g]?)-> V.cell? ⟨Db,0,none⟩=some (.pointer (some ⟨d,0,none⟩))/\ V.cell? ⟨d,0,none⟩=some (.pointer (some ⟨x,0,none⟩))) (hcx:∀y,((W.drew.setCells gF (k*3) news).setCell ⟨x,0,none⟩ y).cell? ⟨Db,0,none⟩=some (.pointer (some ⟨d,0,none⟩))/\ ((W.drew.setCells gF (k*3) news).setCell ⟨x,0,none⟩ y).cell? ⟨d,0,none⟩=some (.pointer (some ⟨x,0,none⟩)))
 (h:Q .normal {tmps:=(.pointer (some ⟨Db,0,none⟩)::t1::t2::.int .i64 (k:Int)::t4::t5::t6::t7::t8::t9::t10::t11::t12::t13::t14::t15::t16::t17::t18::t19::t20::t21::t22::t23::t24::t25::t26::t27::.pointer (some ⟨d,0,none⟩)::.pointer (some ⟨d,0,none⟩)::.pointer (some ⟨d,0,none⟩)::.pointer (some ⟨x,0,none⟩)::.pointer (some ⟨d,0,none⟩)::.pointer (some ⟨d,0,none⟩)::.pointer (some ⟨d,0,none⟩)::.pointer (some ⟨x,0,none⟩)::.pointer (some ⟨x,0,none⟩)::.pointer (some ⟨x,0,none⟩)::.slice (some ⟨gF,0,none⟩) n cf::.int .i64 (k:Int)::.slice (some ⟨gF,0,none⟩) k cf::.pointer (some ⟨d,0,none⟩)::.pointer (some ⟨d,0,none⟩)::.pointer (some ⟨d,0,none⟩)::.pointer (some ⟨x,0,none⟩)::.pointer (some ⟨x,0,none⟩)::.pointer (some ⟨x,0,none⟩)::.slice (some ⟨gF,0,none⟩) n cf::.int .i64 (k:Int)::.int .i64 ((k:Int)+1)::.slice (some ⟨gF,(k+1)*3,none⟩) (n - (k+1)) (cf - (k+1))::.slice (some ⟨gF,0,none⟩) (k+(n - (k+1))) cf::.pointer (some ⟨x,0,none⟩)::.pointer (some ⟨x,0,none⟩)::[]).toArray,defers:=[]} ((W.drew.setCells gF (k*3) news).setCell ⟨x,0,none⟩ (.slice (some ⟨gF,0,none⟩) (k+(n - (k+1))) cf))):
 (Code.region 3 regRenAOps true).wp Tryz.prog Q {tmps:=(.pointer (some ⟨Db,0,none⟩)::t1::t2::.int .i64 (k:Int)::t4::t5::t6::t7::t8::t9::t10::t11::t12::t13::t14::t15::t16::t17::t18::t19::t20::t21::t22::t23::t24::t25::t26::t27::t28::t29::t30::t31::t32::t33::t34::t35::t36::t37::t38::t39::t40::t41::t42::t43::t44::t45::t46::t47::t48::t49::t50::t51::t52::t53::[]).toArray,defers:=[]} W:=by
 refine Code.wp_mono (λ_ _ _ h=>calmD_le h) ?_
 unfold regRenAOps
 have hp:∀c a a' w,calmD Q (.panic c) a w-> calmD Q (.panic c) a' w:=λ_ _ _ _ h=>h
 refine wp_region_held (S:=λV=>V.cell? ⟨Db,0,none⟩=some (.pointer (some ⟨d,0,none⟩))/\ V.cell? ⟨d,0,none⟩=some (.pointer (some ⟨x,0,none⟩))) (by kernel_rfl) ?_
 change wpAnyH _ _ _ _ _ _ _ _ W.drew
 have hS:=hcv W.drew (λ_ _ _=>rfl)
 have hb0:W.drew.cell? ⟨x,0,none⟩=some (.slice (some ⟨gF,0,none⟩) n cf):=(cell_of_row _ _ 0 _ _ _ (show W.drew.heap[x]?=_ from hB)).trans hb0'
 obtain⟨i0,hi,hz0,hz1,hz2⟩:=info_partsD infoFile
 have hk2:(0:Int)<= (k:Int)+1:=by omega
 refine wpAnyH_takes (by kernel_rfl) hp hS [(0,some 28,.pointer (some ⟨d,0,none⟩)),(1,some 29,.pointer (some ⟨d,0,none⟩)),(2,some 30,.pointer (some ⟨d,0,none⟩)),(3,some 31,.pointer (some ⟨x,0,none⟩)),(4,some 32,.pointer (some ⟨d,0,none⟩)),(5,some 33,.pointer (some ⟨d,0,none⟩)),(6,some 34,.pointer (some ⟨d,0,none⟩)),(7,some 35,.pointer (some ⟨x,0,none⟩)),(8,some 36,.pointer (some ⟨x,0,none⟩)),(9,some 37,.pointer (some ⟨x,0,none⟩)),(11,some 39,.int .i64 (k:Int)),(13,some 41,.pointer (some ⟨d,0,none⟩)),(14,some 42,.pointer (some ⟨d,0,none⟩)),(15,some 43,.pointer (some ⟨d,0,none⟩)),(16,some 44,.pointer (some ⟨x,0,none⟩)),(17,some 45,.pointer (some ⟨x,0,none⟩)),(18,some 46,.pointer (some ⟨x,0,none⟩)),(20,some 48,.int .i64 (k:Int)),(21,some 49,.int .i64 ((k:Int)+1))] (by kernel_rfl) ?_ ?_
 ·repeat (refine tkY_cons rfl (λV hV=>?_) ?_;(·have s0:=hV;(try obtain⟨s1,s2⟩:=s0);go_split_ands;go_simp;all_goals (first|assumption|omega));simp only[Act.put,aqA,aqB,aqC])
  exact True.intro
 simp only[tkA,Act.put,aqA,aqB,aqC]
 refine wpAnyH_ready (rs:=[10,19]) (by kernel_rfl) (by simp) ?_
 refine(AllReadyH.cons rfl (λK hK=>?_) (AllReadyH.cons rfl (λK hK=>?_) AllReadyH.nil))
 ·go_simp
  refine hK.out _ _ hS (λ_=>?_)
  clear hK K
  try simp only[Act.put,aqA,aqB,aqC]
  refine wpAnyH_takes (by kernel_rfl) hp hS [(12,some 40,.slice (some ⟨gF,0,none⟩) k cf)] (by kernel_rfl) ?_ ?_
  ·repeat (refine tkY_cons rfl (λV hV=>?_) ?_;(·have s0:=hV;(try obtain⟨s1,s2⟩:=s0);go_split_ands;go_simp;all_goals (first|assumption|omega));simp only[Act.put,aqA,aqB,aqC])
   exact True.intro
  simp only[tkA,Act.put,aqA,aqB,aqC]
  refine wpAnyH_ready (rs:=[19]) (by kernel_rfl) (by simp) ?_
  refine(AllReadyH.cons rfl (λK hK=>?_) AllReadyH.nil)
  go_simp
  refine hK.out _ _ hS (λ_=>?_)
  clear hK K
  try simp only[Act.put,aqA,aqB,aqC]
  refine wpAnyH_takes (by kernel_rfl) hp hS [(22,some 50,.slice (some ⟨gF,(k+1)*3,none⟩) (n - (k+1)) (cf - (k+1)))] (by kernel_rfl) ?_ ?_
  ·repeat (refine tkY_cons rfl (λV hV=>?_) ?_;(·have s0:=hV;(try obtain⟨s1,s2⟩:=s0);go_split_ands;go_simp;all_goals (first|assumption|omega));simp only[Act.put,aqA,aqB,aqC])
   exact True.intro
  simp only[tkA,Act.put,aqA,aqB,aqC]
  refine wpAnyH_all (rs:=[23]) (by kernel_rfl) (by simp) ?_
  intro i hiX
  obtain rfl:i=23:=by simpa using hiX
  refine appRoom_opD (j:=23) rfl rfl (.tmp 40) (.tmp 50) 72 rfl 75 i0 3 Tryz.underlying72 hi hz1 gF k cf (by simp[Act.eval]) ⟨gF,(k+1)*3,none⟩ (n - (k+1)) (cf - (k+1)) news (by simp[Act.eval]) hnl hnews h1c (by omega) hspare ?_
  have hS2:=hcv (W.drew.setCells gF (k*3) news) (λg h1 h2=>setCells_other _ _ _ W.drew g h1)
  refine⟨hS2,?_⟩
  have hQ2:(W.drew.setCells gF (k*3) news).heap[x]?=some (.cells bx 85 (0,0)):=(setCells_other _ _ _ W.drew x (λe=>hgx e.symm)).trans hB
  have hfz:(W.drew.setCells gF (k*3) news).frozen? ⟨x,0,none⟩=false:=frozen_of_row _ _ 0 _ _ hQ2
  have hbv:(W.drew.setCells gF (k*3) news).cell? ⟨x,0,none⟩=some (.slice (some ⟨gF,0,none⟩) n cf):=(cell_of_row _ _ 0 _ _ _ hQ2).trans hb0'
  try simp only[Act.put,aqA,aqB,aqC]
  refine wpAnyH_takes (by kernel_rfl) hp hS2 [(24,some 52,.pointer (some ⟨x,0,none⟩)),(25,some 53,.pointer (some ⟨x,0,none⟩))] (by kernel_rfl) ?_ ?_
  ·repeat (refine tkY_cons rfl (λV hV=>?_) ?_;(·have s0:=hV;(try obtain⟨s1,s2⟩:=s0);go_split_ands;go_simp;all_goals (first|assumption|omega));simp only[Act.put,aqA,aqB,aqC])
   exact True.intro
  simp only[tkA,Act.put,aqA,aqB,aqC]
  refine wpAnyH_ready (rs:=[26]) (by kernel_rfl) (by simp) ?_
  refine(AllReadyH.cons rfl (λK hK=>?_) AllReadyH.nil)
  go_simp
  refine hK.out _ _ (hcx (.slice (some ⟨gF,0,none⟩) (k+(n - (k+1))) cf)) (λ_=>?_)
  clear hK K
  try simp only[Act.put,aqA,aqB,aqC]
  exact wpAnyH_done (Q:=calmD Q) (by kernel_rfl) h _
 ·go_simp
  refine hK.out _ _ hS (λ_=>?_)
  clear hK K
  try simp only[Act.put,aqA,aqB,aqC]
  refine wpAnyH_takes (by kernel_rfl) hp hS [(22,some 50,.slice (some ⟨gF,(k+1)*3,none⟩) (n - (k+1)) (cf - (k+1)))] (by kernel_rfl) ?_ ?_
  ·repeat (refine tkY_cons rfl (λV hV=>?_) ?_;(·have s0:=hV;(try obtain⟨s1,s2⟩:=s0);go_split_ands;go_simp;all_goals (first|assumption|omega));simp only[Act.put,aqA,aqB,aqC])
   exact True.intro
  simp only[tkA,Act.put,aqA,aqB,aqC]
  refine wpAnyH_ready (rs:=[10]) (by kernel_rfl) (by simp) ?_
  refine(AllReadyH.cons rfl (λK hK=>?_) AllReadyH.nil)
  go_simp
  refine hK.out _ _ hS (λ_=>?_)
  clear hK K
  try simp only[Act.put,aqA,aqB,aqC]
  refine wpAnyH_takes (by kernel_rfl) hp hS [(12,some 40,.slice (some ⟨gF,0,none⟩) k cf)] (by kernel_rfl) ?_ ?_
  ·repeat (refine tkY_cons rfl (λV hV=>?_) ?_;(·have s0:=hV;(try obtain⟨s1,s2⟩:=s0);go_split_ands;go_simp;all_goals (first|assumption|omega));simp only[Act.put,aqA,aqB,aqC])
   exact True.intro
  simp only[tkA,Act.put,aqA,aqB,aqC]
  refine wpAnyH_all (rs:=[23]) (by kernel_rfl) (by simp) ?_
  intro i hiX
  obtain rfl:i=23:=by simpa using hiX
  refine appRoom_opD (j:=23) rfl rfl (.tmp 40) (.tmp 50) 72 rfl 75 i0 3 Tryz.underlying72 hi hz1 gF k cf (by simp[Act.eval]) ⟨gF,(k+1)*3,none⟩ (n - (k+1)) (cf - (k+1)) news (by simp[Act.eval]) hnl hnews h1c (by omega) hspare ?_
  have hS2:=hcv (W.drew.setCells gF (k*3) news) (λg h1 h2=>setCells_other _ _ _ W.drew g h1)
  refine⟨hS2,?_⟩
  have hQ2:(W.drew.setCells gF (k*3) news).heap[x]?=some (.cells bx 85 (0,0)):=(setCells_other _ _ _ W.drew x (λe=>hgx e.symm)).trans hB
  have hfz:(W.drew.setCells gF (k*3) news).frozen? ⟨x,0,none⟩=false:=frozen_of_row _ _ 0 _ _ hQ2
  have hbv:(W.drew.setCells gF (k*3) news).cell? ⟨x,0,none⟩=some (.slice (some ⟨gF,0,none⟩) n cf):=(cell_of_row _ _ 0 _ _ _ hQ2).trans hb0'
  try simp only[Act.put,aqA,aqB,aqC]
  refine wpAnyH_takes (by kernel_rfl) hp hS2 [(24,some 52,.pointer (some ⟨x,0,none⟩)),(25,some 53,.pointer (some ⟨x,0,none⟩))] (by kernel_rfl) ?_ ?_
  ·repeat (refine tkY_cons rfl (λV hV=>?_) ?_;(·have s0:=hV;(try obtain⟨s1,s2⟩:=s0);go_split_ands;go_simp;all_goals (first|assumption|omega));simp only[Act.put,aqA,aqB,aqC])
   exact True.intro
  simp only[tkA,Act.put,aqA,aqB,aqC]
  refine wpAnyH_ready (rs:=[26]) (by kernel_rfl) (by simp) ?_
  refine(AllReadyH.cons rfl (λK hK=>?_) AllReadyH.nil)
  go_simp
  refine hK.out _ _ (hcx (.slice (some ⟨gF,0,none⟩) (k+(n - (k+1))) cf)) (λ_=>?_)
  clear hK K
  try simp only[Act.put,aqA,aqB,aqC]
  exact wpAnyH_done (Q:=calmD Q) (by kernel_rfl) h _
theorem regRemB (Q:Exit-> Act-> World-> Prop) (Db Ib d x gF k:Nat) (bx:Array Value) {t2 t3 t4 t5 t6 t7 t8 t9 t10 t11 t12 t13 t14 t15 t16 t17 t18 t19 t20 t21 t22 t23 t24 t25 t26 t27:Value} (W:World)
 (hk0:(0:Int)<= (k:Int)) (hwk:IntKind.i64.wrap ((k:Int)+1)=(k:Int)+1) (hB:W.heap[x]?=some (.cells bx 85 (0,0))) (hb0':bx[0]?=some (.slice (some ⟨gF,0,none⟩) (k+1) (k+1))) (hgx:gF≠x) (hcv:∀V:World,(∀g,g≠gF-> g≠x-> V.heap[g]?=W.heap[g]?)-> V.cell? ⟨Db,0,none⟩=some (.pointer (some ⟨d,0,none⟩))/\ V.cell? ⟨d,0,none⟩=some (.pointer (some ⟨x,0,none⟩))/\ V.cell? ⟨Ib,0,none⟩=some (.int .i64 (k:Int))) (hcx:∀y,((W.drew.setCells gF (k*3) []).setCell ⟨x,0,none⟩ y).cell? ⟨Db,0,none⟩=some (.pointer (some ⟨d,0,none⟩))/\ ((W.drew.setCells gF (k*3) []).setCell ⟨x,0,none⟩ y).cell? ⟨d,0,none⟩=some (.pointer (some ⟨x,0,none⟩))/\ ((W.drew.setCells gF (k*3) []).setCell ⟨x,0,none⟩ y).cell? ⟨Ib,0,none⟩=some (.int .i64 (k:Int)))
 (h:Q .normal {tmps:=(.pointer (some ⟨Db,0,none⟩)::.pointer (some ⟨Ib,0,none⟩)::.pointer (some ⟨d,0,none⟩)::.pointer (some ⟨d,0,none⟩)::.pointer (some ⟨d,0,none⟩)::.pointer (some ⟨x,0,none⟩)::.pointer (some ⟨d,0,none⟩)::.pointer (some ⟨d,0,none⟩)::.pointer (some ⟨d,0,none⟩)::.pointer (some ⟨x,0,none⟩)::.pointer (some ⟨x,0,none⟩)::.pointer (some ⟨x,0,none⟩)::.slice (some ⟨gF,0,none⟩) (k+1) (k+1)::.int .i64 (k:Int)::.slice (some ⟨gF,0,none⟩) k (k+1)::.pointer (some ⟨d,0,none⟩)::.pointer (some ⟨d,0,none⟩)::.pointer (some ⟨d,0,none⟩)::.pointer (some ⟨x,0,none⟩)::.pointer (some ⟨x,0,none⟩)::.pointer (some ⟨x,0,none⟩)::.slice (some ⟨gF,0,none⟩) (k+1) (k+1)::.int .i64 (k:Int)::.int .i64 ((k:Int)+1)::.slice (some ⟨gF,0,none⟩) 0 0::.slice (some ⟨gF,0,none⟩) (k+0) (k+1)::.pointer (some ⟨x,0,none⟩)::.pointer (some ⟨x,0,none⟩)::[]).toArray,defers:=[]} ((W.drew.setCells gF (k*3) []).setCell ⟨x,0,none⟩ (.slice (some ⟨gF,0,none⟩) (k+0) (k+1)))):
 (Code.region 0 regRemAOps true).wp Tryz.prog Q {tmps:=(.pointer (some ⟨Db,0,none⟩)::.pointer (some ⟨Ib,0,none⟩)::t2::t3::t4::t5::t6::t7::t8::t9::t10::t11::t12::t13::t14::t15::t16::t17::t18::t19::t20::t21::t22::t23::t24::t25::t26::t27::[]).toArray,defers:=[]} W:=by
 refine Code.wp_mono (λ_ _ _ h=>calmD_le h) ?_
 unfold regRemAOps
 have hp:∀c a a' w,calmD Q (.panic c) a w-> calmD Q (.panic c) a' w:=λ_ _ _ _ h=>h
 refine wp_region_held (S:=λV=>V.cell? ⟨Db,0,none⟩=some (.pointer (some ⟨d,0,none⟩))/\ V.cell? ⟨d,0,none⟩=some (.pointer (some ⟨x,0,none⟩))/\ V.cell? ⟨Ib,0,none⟩=some (.int .i64 (k:Int))) (by kernel_rfl) ?_
 change wpAnyH _ _ _ _ _ _ _ _ W.drew
 have hS:=hcv W.drew (λ_ _ _=>rfl)
 have hb0:W.drew.cell? ⟨x,0,none⟩=some (.slice (some ⟨gF,0,none⟩) (k+1) (k+1)):=(cell_of_row _ _ 0 _ _ _ (show W.drew.heap[x]?=_ from hB)).trans hb0'
 obtain⟨i0,hi,hz0,hz1,hz2⟩:=info_partsD infoFile
 have hk2:(0:Int)<= (k:Int)+1:=by omega
 have hkk:(k:Int)<= (k:Int)+1:=by omega
 refine wpAnyH_takes (by kernel_rfl) hp hS [(0,some 2,.pointer (some ⟨d,0,none⟩)),(1,some 3,.pointer (some ⟨d,0,none⟩)),(2,some 4,.pointer (some ⟨d,0,none⟩)),(3,some 5,.pointer (some ⟨x,0,none⟩)),(4,some 6,.pointer (some ⟨d,0,none⟩)),(5,some 7,.pointer (some ⟨d,0,none⟩)),(6,some 8,.pointer (some ⟨d,0,none⟩)),(7,some 9,.pointer (some ⟨x,0,none⟩)),(8,some 10,.pointer (some ⟨x,0,none⟩)),(9,some 11,.pointer (some ⟨x,0,none⟩)),(11,some 13,.int .i64 (k:Int)),(13,some 15,.pointer (some ⟨d,0,none⟩)),(14,some 16,.pointer (some ⟨d,0,none⟩)),(15,some 17,.pointer (some ⟨d,0,none⟩)),(16,some 18,.pointer (some ⟨x,0,none⟩)),(17,some 19,.pointer (some ⟨x,0,none⟩)),(18,some 20,.pointer (some ⟨x,0,none⟩)),(20,some 22,.int .i64 (k:Int)),(21,some 23,.int .i64 ((k:Int)+1))] (by kernel_rfl) ?_ ?_
 ·repeat (refine tkY_cons rfl (λV hV=>?_) ?_;(·have s0:=hV;(try obtain⟨s1,s2⟩:=s0);go_split_ands;go_simp;all_goals (first|assumption|omega));simp only[Act.put,aqA,aqB,aqC])
  exact True.intro
 simp only[tkA,Act.put,aqA,aqB,aqC]
 refine wpAnyH_ready (rs:=[10,19]) (by kernel_rfl) (by simp) ?_
 refine(AllReadyH.cons rfl (λK hK=>?_) (AllReadyH.cons rfl (λK hK=>?_) AllReadyH.nil))
 ·go_simp
  refine hK.out _ _ hS (λ_=>?_)
  clear hK K
  try simp only[Act.put,aqA,aqB,aqC]
  refine wpAnyH_takes (by kernel_rfl) hp hS [(12,some 14,.slice (some ⟨gF,0,none⟩) k (k+1))] (by kernel_rfl) ?_ ?_
  ·repeat (refine tkY_cons rfl (λV hV=>?_) ?_;(·have s0:=hV;(try obtain⟨s1,s2⟩:=s0);go_split_ands;go_simp;all_goals (first|assumption|omega));simp only[Act.put,aqA,aqB,aqC])
   exact True.intro
  simp only[tkA,Act.put,aqA,aqB,aqC]
  refine wpAnyH_ready (rs:=[19]) (by kernel_rfl) (by simp) ?_
  refine(AllReadyH.cons rfl (λK hK=>?_) AllReadyH.nil)
  go_simp
  refine hK.out _ _ hS (λ_=>?_)
  clear hK K
  try simp only[Act.put,aqA,aqB,aqC]
  refine wpAnyH_takes (by kernel_rfl) hp hS [(22,some 24,.slice (some ⟨gF,0,none⟩) 0 0)] (by kernel_rfl) ?_ ?_
  ·repeat (refine tkY_cons rfl (λV hV=>?_) ?_;(·have s0:=hV;(try obtain⟨s1,s2⟩:=s0);go_split_ands;go_simp;all_goals (first|assumption|omega));simp only[Act.put,aqA,aqB,aqC])
   exact True.intro
  simp only[tkA,Act.put,aqA,aqB,aqC]
  refine wpAnyH_all (rs:=[23]) (by kernel_rfl) (by simp) ?_
  intro i hiX
  obtain rfl:i=23:=by simpa using hiX
  refine appRoom_opD (j:=23) rfl rfl (.tmp 14) (.tmp 24) 72 rfl 75 i0 3 Tryz.underlying72 hi hz1 gF k (k+1) (by simp[Act.eval]) ⟨gF,0,none⟩ 0 0 [] (by simp[Act.eval]) rfl (by simp) (by simp) (by omega) (by simp) ?_
  have hS2:=hcv (W.drew.setCells gF (k*3) []) (λg h1 h2=>setCells_other _ _ _ W.drew g h1)
  refine⟨hS2,?_⟩
  have hQ2:(W.drew.setCells gF (k*3) []).heap[x]?=some (.cells bx 85 (0,0)):=(setCells_other _ _ _ W.drew x (λe=>hgx e.symm)).trans hB
  have hfz:(W.drew.setCells gF (k*3) []).frozen? ⟨x,0,none⟩=false:=frozen_of_row _ _ 0 _ _ hQ2
  have hbv:(W.drew.setCells gF (k*3) []).cell? ⟨x,0,none⟩=some (.slice (some ⟨gF,0,none⟩) (k+1) (k+1)):=(cell_of_row _ _ 0 _ _ _ hQ2).trans hb0'
  try simp only[Act.put,aqA,aqB,aqC]
  refine wpAnyH_takes (by kernel_rfl) hp hS2 [(24,some 26,.pointer (some ⟨x,0,none⟩)),(25,some 27,.pointer (some ⟨x,0,none⟩))] (by kernel_rfl) ?_ ?_
  ·repeat (refine tkY_cons rfl (λV hV=>?_) ?_;(·have s0:=hV;(try obtain⟨s1,s2⟩:=s0);go_split_ands;go_simp;all_goals (first|assumption|omega));simp only[Act.put,aqA,aqB,aqC])
   exact True.intro
  simp only[tkA,Act.put,aqA,aqB,aqC]
  refine wpAnyH_ready (rs:=[26]) (by kernel_rfl) (by simp) ?_
  refine(AllReadyH.cons rfl (λK hK=>?_) AllReadyH.nil)
  go_simp
  refine hK.out _ _ (hcx (.slice (some ⟨gF,0,none⟩) (k+0) (k+1))) (λ_=>?_)
  clear hK K
  try simp only[Act.put,aqA,aqB,aqC]
  exact wpAnyH_done (Q:=calmD Q) (by kernel_rfl) h _
 ·go_simp
  refine hK.out _ _ hS (λ_=>?_)
  clear hK K
  try simp only[Act.put,aqA,aqB,aqC]
  refine wpAnyH_takes (by kernel_rfl) hp hS [(22,some 24,.slice (some ⟨gF,0,none⟩) 0 0)] (by kernel_rfl) ?_ ?_
  ·repeat (refine tkY_cons rfl (λV hV=>?_) ?_;(·have s0:=hV;(try obtain⟨s1,s2⟩:=s0);go_split_ands;go_simp;all_goals (first|assumption|omega));simp only[Act.put,aqA,aqB,aqC])
   exact True.intro
  simp only[tkA,Act.put,aqA,aqB,aqC]
  refine wpAnyH_ready (rs:=[10]) (by kernel_rfl) (by simp) ?_
  refine(AllReadyH.cons rfl (λK hK=>?_) AllReadyH.nil)
  go_simp
  refine hK.out _ _ hS (λ_=>?_)
  clear hK K
  try simp only[Act.put,aqA,aqB,aqC]
  refine wpAnyH_takes (by kernel_rfl) hp hS [(12,some 14,.slice (some ⟨gF,0,none⟩) k (k+1))] (by kernel_rfl) ?_ ?_
  ·repeat (refine tkY_cons rfl (λV hV=>?_) ?_;(·have s0:=hV;(try obtain⟨s1,s2⟩:=s0);go_split_ands;go_simp;all_goals (first|assumption|omega));simp only[Act.put,aqA,aqB,aqC])
   exact True.intro
  simp only[tkA,Act.put,aqA,aqB,aqC]
  refine wpAnyH_all (rs:=[23]) (by kernel_rfl) (by simp) ?_
  intro i hiX
  obtain rfl:i=23:=by simpa using hiX
  refine appRoom_opD (j:=23) rfl rfl (.tmp 14) (.tmp 24) 72 rfl 75 i0 3 Tryz.underlying72 hi hz1 gF k (k+1) (by simp[Act.eval]) ⟨gF,0,none⟩ 0 0 [] (by simp[Act.eval]) rfl (by simp) (by simp) (by omega) (by simp) ?_
  have hS2:=hcv (W.drew.setCells gF (k*3) []) (λg h1 h2=>setCells_other _ _ _ W.drew g h1)
  refine⟨hS2,?_⟩
  have hQ2:(W.drew.setCells gF (k*3) []).heap[x]?=some (.cells bx 85 (0,0)):=(setCells_other _ _ _ W.drew x (λe=>hgx e.symm)).trans hB
  have hfz:(W.drew.setCells gF (k*3) []).frozen? ⟨x,0,none⟩=false:=frozen_of_row _ _ 0 _ _ hQ2
  have hbv:(W.drew.setCells gF (k*3) []).cell? ⟨x,0,none⟩=some (.slice (some ⟨gF,0,none⟩) (k+1) (k+1)):=(cell_of_row _ _ 0 _ _ _ hQ2).trans hb0'
  try simp only[Act.put,aqA,aqB,aqC]
  refine wpAnyH_takes (by kernel_rfl) hp hS2 [(24,some 26,.pointer (some ⟨x,0,none⟩)),(25,some 27,.pointer (some ⟨x,0,none⟩))] (by kernel_rfl) ?_ ?_
  ·repeat (refine tkY_cons rfl (λV hV=>?_) ?_;(·have s0:=hV;(try obtain⟨s1,s2⟩:=s0);go_split_ands;go_simp;all_goals (first|assumption|omega));simp only[Act.put,aqA,aqB,aqC])
   exact True.intro
  simp only[tkA,Act.put,aqA,aqB,aqC]
  refine wpAnyH_ready (rs:=[26]) (by kernel_rfl) (by simp) ?_
  refine(AllReadyH.cons rfl (λK hK=>?_) AllReadyH.nil)
  go_simp
  refine hK.out _ _ (hcx (.slice (some ⟨gF,0,none⟩) (k+0) (k+1))) (λ_=>?_)
  clear hK K
  try simp only[Act.put,aqA,aqB,aqC]
  exact wpAnyH_done (Q:=calmD Q) (by kernel_rfl) h _
theorem regRenB (Q:Exit-> Act-> World-> Prop) (Db d x gF k:Nat) (bx:Array Value) {t1 t2 t4 t5 t6 t7 t8 t9 t10 t11 t12 t13 t14 t15 t16 t17 t18 t19 t20 t21 t22 t23 t24 t25 t26 t27 t28 t29 t30 t31 t32 t33 t34 t35 t36 t37 t38 t39 t40 t41 t42 t43 t44 t45 t46 t47 t48 t49 t50 t51 t52 t53:Value} (W:World)
 (hk0:(0:Int)<= (k:Int)) (hwk:IntKind.i64.wrap ((k:Int)+1)=(k:Int)+1) (hB:W.heap[x]?=some (.cells bx 85 (0,0))) (hb0':bx[0]?=some (.slice (some ⟨gF,0,none⟩) (k+1) (k+1))) (hgx:gF≠x) (hcv:∀V:World,(∀g,g≠gF-> g≠x-> V.heap[g]?=W.heap[g]?)-> V.cell? ⟨Db,0,none⟩=some (.pointer (some ⟨d,0,none⟩))/\ V.cell? ⟨d,0,none⟩=some (.pointer (some ⟨x,0,none⟩))) (hcx:∀y,((W.drew.setCells gF (k*3) []).setCell ⟨x,0,none⟩ y).cell? ⟨Db,0,none⟩=some (.pointer (some ⟨d,0,none⟩))/\ ((W.drew.setCells gF (k*3) []).setCell ⟨x,0,none⟩ y).cell? ⟨d,0,none⟩=some (.pointer (some ⟨x,0,none⟩)))
 (h:Q .normal {tmps:=(.pointer (some ⟨Db,0,none⟩)::t1::t2::.int .i64 (k:Int)::t4::t5::t6::t7::t8::t9::t10::t11::t12::t13::t14::t15::t16::t17::t18::t19::t20::t21::t22::t23::t24::t25::t26::t27::.pointer (some ⟨d,0,none⟩)::.pointer (some ⟨d,0,none⟩)::.pointer (some ⟨d,0,none⟩)::.pointer (some ⟨x,0,none⟩)::.pointer (some ⟨d,0,none⟩)::.pointer (some ⟨d,0,none⟩)::.pointer (some ⟨d,0,none⟩)::.pointer (some ⟨x,0,none⟩)::.pointer (some ⟨x,0,none⟩)::.pointer (some ⟨x,0,none⟩)::.slice (some ⟨gF,0,none⟩) (k+1) (k+1)::.int .i64 (k:Int)::.slice (some ⟨gF,0,none⟩) k (k+1)::.pointer (some ⟨d,0,none⟩)::.pointer (some ⟨d,0,none⟩)::.pointer (some ⟨d,0,none⟩)::.pointer (some ⟨x,0,none⟩)::.pointer (some ⟨x,0,none⟩)::.pointer (some ⟨x,0,none⟩)::.slice (some ⟨gF,0,none⟩) (k+1) (k+1)::.int .i64 (k:Int)::.int .i64 ((k:Int)+1)::.slice (some ⟨gF,0,none⟩) 0 0::.slice (some ⟨gF,0,none⟩) (k+0) (k+1)::.pointer (some ⟨x,0,none⟩)::.pointer (some ⟨x,0,none⟩)::[]).toArray,defers:=[]} ((W.drew.setCells gF (k*3) []).setCell ⟨x,0,none⟩ (.slice (some ⟨gF,0,none⟩) (k+0) (k+1)))):
 (Code.region 3 regRenAOps true).wp Tryz.prog Q {tmps:=(.pointer (some ⟨Db,0,none⟩)::t1::t2::.int .i64 (k:Int)::t4::t5::t6::t7::t8::t9::t10::t11::t12::t13::t14::t15::t16::t17::t18::t19::t20::t21::t22::t23::t24::t25::t26::t27::t28::t29::t30::t31::t32::t33::t34::t35::t36::t37::t38::t39::t40::t41::t42::t43::t44::t45::t46::t47::t48::t49::t50::t51::t52::t53::[]).toArray,defers:=[]} W:=by
 refine Code.wp_mono (λ_ _ _ h=>calmD_le h) ?_
 unfold regRenAOps
 have hp:∀c a a' w,calmD Q (.panic c) a w-> calmD Q (.panic c) a' w:=λ_ _ _ _ h=>h
 refine wp_region_held (S:=λV=>V.cell? ⟨Db,0,none⟩=some (.pointer (some ⟨d,0,none⟩))/\ V.cell? ⟨d,0,none⟩=some (.pointer (some ⟨x,0,none⟩))) (by kernel_rfl) ?_
 change wpAnyH _ _ _ _ _ _ _ _ W.drew
 have hS:=hcv W.drew (λ_ _ _=>rfl)
 have hb0:W.drew.cell? ⟨x,0,none⟩=some (.slice (some ⟨gF,0,none⟩) (k+1) (k+1)):=(cell_of_row _ _ 0 _ _ _ (show W.drew.heap[x]?=_ from hB)).trans hb0'
 obtain⟨i0,hi,hz0,hz1,hz2⟩:=info_partsD infoFile
 have hk2:(0:Int)<= (k:Int)+1:=by omega
 have hkk:(k:Int)<= (k:Int)+1:=by omega
 refine wpAnyH_takes (by kernel_rfl) hp hS [(0,some 28,.pointer (some ⟨d,0,none⟩)),(1,some 29,.pointer (some ⟨d,0,none⟩)),(2,some 30,.pointer (some ⟨d,0,none⟩)),(3,some 31,.pointer (some ⟨x,0,none⟩)),(4,some 32,.pointer (some ⟨d,0,none⟩)),(5,some 33,.pointer (some ⟨d,0,none⟩)),(6,some 34,.pointer (some ⟨d,0,none⟩)),(7,some 35,.pointer (some ⟨x,0,none⟩)),(8,some 36,.pointer (some ⟨x,0,none⟩)),(9,some 37,.pointer (some ⟨x,0,none⟩)),(11,some 39,.int .i64 (k:Int)),(13,some 41,.pointer (some ⟨d,0,none⟩)),(14,some 42,.pointer (some ⟨d,0,none⟩)),(15,some 43,.pointer (some ⟨d,0,none⟩)),(16,some 44,.pointer (some ⟨x,0,none⟩)),(17,some 45,.pointer (some ⟨x,0,none⟩)),(18,some 46,.pointer (some ⟨x,0,none⟩)),(20,some 48,.int .i64 (k:Int)),(21,some 49,.int .i64 ((k:Int)+1))] (by kernel_rfl) ?_ ?_
 ·repeat (refine tkY_cons rfl (λV hV=>?_) ?_;(·have s0:=hV;(try obtain⟨s1,s2⟩:=s0);go_split_ands;go_simp;all_goals (first|assumption|omega));simp only[Act.put,aqA,aqB,aqC])
  exact True.intro
 simp only[tkA,Act.put,aqA,aqB,aqC]
 refine wpAnyH_ready (rs:=[10,19]) (by kernel_rfl) (by simp) ?_
 refine(AllReadyH.cons rfl (λK hK=>?_) (AllReadyH.cons rfl (λK hK=>?_) AllReadyH.nil))
 ·go_simp
  refine hK.out _ _ hS (λ_=>?_)
  clear hK K
  try simp only[Act.put,aqA,aqB,aqC]
  refine wpAnyH_takes (by kernel_rfl) hp hS [(12,some 40,.slice (some ⟨gF,0,none⟩) k (k+1))] (by kernel_rfl) ?_ ?_
  ·repeat (refine tkY_cons rfl (λV hV=>?_) ?_;(·have s0:=hV;(try obtain⟨s1,s2⟩:=s0);go_split_ands;go_simp;all_goals (first|assumption|omega));simp only[Act.put,aqA,aqB,aqC])
   exact True.intro
  simp only[tkA,Act.put,aqA,aqB,aqC]
  refine wpAnyH_ready (rs:=[19]) (by kernel_rfl) (by simp) ?_
  refine(AllReadyH.cons rfl (λK hK=>?_) AllReadyH.nil)
  go_simp
  refine hK.out _ _ hS (λ_=>?_)
  clear hK K
  try simp only[Act.put,aqA,aqB,aqC]
  refine wpAnyH_takes (by kernel_rfl) hp hS [(22,some 50,.slice (some ⟨gF,0,none⟩) 0 0)] (by kernel_rfl) ?_ ?_
  ·repeat (refine tkY_cons rfl (λV hV=>?_) ?_;(·have s0:=hV;(try obtain⟨s1,s2⟩:=s0);go_split_ands;go_simp;all_goals (first|assumption|omega));simp only[Act.put,aqA,aqB,aqC])
   exact True.intro
  simp only[tkA,Act.put,aqA,aqB,aqC]
  refine wpAnyH_all (rs:=[23]) (by kernel_rfl) (by simp) ?_
  intro i hiX
  obtain rfl:i=23:=by simpa using hiX
  refine appRoom_opD (j:=23) rfl rfl (.tmp 40) (.tmp 50) 72 rfl 75 i0 3 Tryz.underlying72 hi hz1 gF k (k+1) (by simp[Act.eval]) ⟨gF,0,none⟩ 0 0 [] (by simp[Act.eval]) rfl (by simp) (by simp) (by omega) (by simp) ?_
  have hS2:=hcv (W.drew.setCells gF (k*3) []) (λg h1 h2=>setCells_other _ _ _ W.drew g h1)
  refine⟨hS2,?_⟩
  have hQ2:(W.drew.setCells gF (k*3) []).heap[x]?=some (.cells bx 85 (0,0)):=(setCells_other _ _ _ W.drew x (λe=>hgx e.symm)).trans hB
  have hfz:(W.drew.setCells gF (k*3) []).frozen? ⟨x,0,none⟩=false:=frozen_of_row _ _ 0 _ _ hQ2
  have hbv:(W.drew.setCells gF (k*3) []).cell? ⟨x,0,none⟩=some (.slice (some ⟨gF,0,none⟩) (k+1) (k+1)):=(cell_of_row _ _ 0 _ _ _ hQ2).trans hb0'
  try simp only[Act.put,aqA,aqB,aqC]
  refine wpAnyH_takes (by kernel_rfl) hp hS2 [(24,some 52,.pointer (some ⟨x,0,none⟩)),(25,some 53,.pointer (some ⟨x,0,none⟩))] (by kernel_rfl) ?_ ?_
  ·repeat (refine tkY_cons rfl (λV hV=>?_) ?_;(·have s0:=hV;(try obtain⟨s1,s2⟩:=s0);go_split_ands;go_simp;all_goals (first|assumption|omega));simp only[Act.put,aqA,aqB,aqC])
   exact True.intro
  simp only[tkA,Act.put,aqA,aqB,aqC]
  refine wpAnyH_ready (rs:=[26]) (by kernel_rfl) (by simp) ?_
  refine(AllReadyH.cons rfl (λK hK=>?_) AllReadyH.nil)
  go_simp
  refine hK.out _ _ (hcx (.slice (some ⟨gF,0,none⟩) (k+0) (k+1))) (λ_=>?_)
  clear hK K
  try simp only[Act.put,aqA,aqB,aqC]
  exact wpAnyH_done (Q:=calmD Q) (by kernel_rfl) h _
 ·go_simp
  refine hK.out _ _ hS (λ_=>?_)
  clear hK K
  try simp only[Act.put,aqA,aqB,aqC]
  refine wpAnyH_takes (by kernel_rfl) hp hS [(22,some 50,.slice (some ⟨gF,0,none⟩) 0 0)] (by kernel_rfl) ?_ ?_
  ·repeat (refine tkY_cons rfl (λV hV=>?_) ?_;(·have s0:=hV;(try obtain⟨s1,s2⟩:=s0);go_split_ands;go_simp;all_goals (first|assumption|omega));simp only[Act.put,aqA,aqB,aqC])
   exact True.intro
  simp only[tkA,Act.put,aqA,aqB,aqC]
  refine wpAnyH_ready (rs:=[10]) (by kernel_rfl) (by simp) ?_
  refine(AllReadyH.cons rfl (λK hK=>?_) AllReadyH.nil)
  go_simp
  refine hK.out _ _ hS (λ_=>?_)
  clear hK K
  try simp only[Act.put,aqA,aqB,aqC]
  refine wpAnyH_takes (by kernel_rfl) hp hS [(12,some 40,.slice (some ⟨gF,0,none⟩) k (k+1))] (by kernel_rfl) ?_ ?_
  ·repeat (refine tkY_cons rfl (λV hV=>?_) ?_;(·have s0:=hV;(try obtain⟨s1,s2⟩:=s0);go_split_ands;go_simp;all_goals (first|assumption|omega));simp only[Act.put,aqA,aqB,aqC])
   exact True.intro
  simp only[tkA,Act.put,aqA,aqB,aqC]
  refine wpAnyH_all (rs:=[23]) (by kernel_rfl) (by simp) ?_
  intro i hiX
  obtain rfl:i=23:=by simpa using hiX
  refine appRoom_opD (j:=23) rfl rfl (.tmp 40) (.tmp 50) 72 rfl 75 i0 3 Tryz.underlying72 hi hz1 gF k (k+1) (by simp[Act.eval]) ⟨gF,0,none⟩ 0 0 [] (by simp[Act.eval]) rfl (by simp) (by simp) (by omega) (by simp) ?_
  have hS2:=hcv (W.drew.setCells gF (k*3) []) (λg h1 h2=>setCells_other _ _ _ W.drew g h1)
  refine⟨hS2,?_⟩
  have hQ2:(W.drew.setCells gF (k*3) []).heap[x]?=some (.cells bx 85 (0,0)):=(setCells_other _ _ _ W.drew x (λe=>hgx e.symm)).trans hB
  have hfz:(W.drew.setCells gF (k*3) []).frozen? ⟨x,0,none⟩=false:=frozen_of_row _ _ 0 _ _ hQ2
  have hbv:(W.drew.setCells gF (k*3) []).cell? ⟨x,0,none⟩=some (.slice (some ⟨gF,0,none⟩) (k+1) (k+1)):=(cell_of_row _ _ 0 _ _ _ hQ2).trans hb0'
  try simp only[Act.put,aqA,aqB,aqC]
  refine wpAnyH_takes (by kernel_rfl) hp hS2 [(24,some 52,.pointer (some ⟨x,0,none⟩)),(25,some 53,.pointer (some ⟨x,0,none⟩))] (by kernel_rfl) ?_ ?_
  ·repeat (refine tkY_cons rfl (λV hV=>?_) ?_;(·have s0:=hV;(try obtain⟨s1,s2⟩:=s0);go_split_ands;go_simp;all_goals (first|assumption|omega));simp only[Act.put,aqA,aqB,aqC])
   exact True.intro
  simp only[tkA,Act.put,aqA,aqB,aqC]
  refine wpAnyH_ready (rs:=[26]) (by kernel_rfl) (by simp) ?_
  refine(AllReadyH.cons rfl (λK hK=>?_) AllReadyH.nil)
  go_simp
  refine hK.out _ _ (hcx (.slice (some ⟨gF,0,none⟩) (k+0) (k+1))) (λ_=>?_)
  clear hK K
  try simp only[Act.put,aqA,aqB,aqC]
  exact wpAnyH_done (Q:=calmD Q) (by kernel_rfl) h _
end Go.Proofs.YtllhbhogfffedaaGreatDoor.K
