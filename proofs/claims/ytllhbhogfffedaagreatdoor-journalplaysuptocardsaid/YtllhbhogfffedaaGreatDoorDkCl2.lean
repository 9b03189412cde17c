import Derived.Test.YtllhbhogfffedaaGreatDoorDkRem
import Derived.Deep.CutRange
set_option maxHeartbeats 8000000
set_option maxRecDepth 100000
namespace Go.Proofs.YtllhbhogfffedaaGreatDoor.K
open Go.RowKit
attribute [local go_sem] Oper.semAt_some
set_option linter.unusedVariables false
set_option linter.unusedSimpArgs false
theorem Dc.rest {W:World} {x gF n cf k:Nat} {F:Nat-> Prop} {D:Dk} {L:List Fv} (h:Dc W x F D (.slice (some ⟨gF,0,none⟩) n cf) L) (hk:k < n):
 ((L.drop (k+1)).flatMap fcell).length=(n - (k+1))*3/\ (∀j u,((L.drop (k+1)).flatMap fcell)[j]?=some u-> W.drew.cell? ((⟨gF,(k+1)*3,none⟩:Addr).add j)=some u)/\ (∀u∈(L.drop (k+1)).flatMap fcell,u.oneCell'=true)/\
   (∀j,j < ((L.drop (k+1)).flatMap fcell).length-> (W.drew.cell? ⟨gF,k*3+j,none⟩).isSome=true/\ W.drew.frozen? ⟨gF,k*3+j,none⟩=false)/\ n<= cf:=by
 obtain rfl:L.length=n:=by obtain⟨a,c,e⟩:=d_shape h.row;simp only[Value.slice.injEq] at e;exact e.2.1.symm
 have hl:((L.drop (k+1)).flatMap fcell).length=(L.length - (k+1))*3:=by rw[fcell_len,List.length_drop]
 have hrow:W.drew.ownsRow 0 75 3 (.slice (some ⟨gF,0,none⟩) L.length cf) L.length (L.flatMap fcell):=h.row
 have hll:=fcell_len L
 refine⟨hl,λj u hj=>?_,λu hu=>?_,λj hj=>⟨?_,World.ownsRow.frozenAt hrow _⟩,?_⟩
 ·have hj':j < (L.length - (k+1))*3:=by rw[←hl];exact(List.getElem?_eq_some_iff.mp hj).1
  rw[←fcell_drop,List.getElem?_drop] at hj
  have e2:(⟨gF,(k+1)*3,none⟩:Addr).add j=⟨gF,(k+1)*3+j,none⟩:=by unfold Addr.add;split<;>simp_all
  rw[e2]
  exact(World.ownsRow.cellAt hrow _ (by omega)).trans hj
 ·obtain⟨p,hp,hu'⟩:=List.mem_flatMap.mp hu
  obtain⟨i,hi⟩:=List.getElem?_of_mem (List.mem_of_mem_drop hp)
  obtain⟨a,c,e⟩:=d_shape (h.byt i p hi)
  simp only[fcell,List.mem_cons,List.not_mem_nil,or_false] at hu'
  rcases hu' with rfl|rfl|rfl
  ·rfl
  ·rw[e];rfl
  ·rfl
 ·rw[World.ownsRow.cellAt hrow _ (by omega)]
  rw[List.getElem?_eq_getElem (by omega)]
  rfl
 ·obtain⟨_,⟨e,_⟩|⟨g',cap,cur,e,_,_,h5,_⟩⟩:=h.row
  ·cases e
  ·cases e;exact h5
theorem kd_rem {W:World} {gF x o:Nat} {F:Nat-> Prop} {vs:List Value} {y:Value} (hg:F gF) (hx:F x):Kd F W ((W.drew.setCells gF o vs).setCell ⟨x,0,none⟩ y):=by
 obtain⟨h1,h2,h3⟩:=setCells_out gF vs o W.drew
 refine⟨h1,h2,h3,?_,λk hk hn=>?_⟩
 ·have h5:((W.drew.setCells gF o vs).setCell ⟨x,0,none⟩ y).heap.size=(W.drew.setCells gF o vs).heap.size:=by simp[World.setCell]
  rw[h5,setCells_size]
  exact aqH _
 ·exact(heap_setCell_other _ _ _ _ (λe=>hn (by rw[show k=x from e];exact hx))).trans (setCells_other _ _ _ W.drew k (λe=>hn (e ▸ hg)))
theorem regRemD (Q:Exit-> Act-> World-> Prop) (Db Ib d x gF n cf k:Nat) (F:Nat-> Prop) (D:Dk) (L:List Fv) {t2 t3 t4 t5 t6 t7 t8 t9 t10 t11 t12 t13 t14 t15 t16 t17 t18 t19 t20 t21 t22 t23 t24 t25 t26 t27:Value} (W:World)
 (hc:Dc W x F D (.slice (some ⟨gF,0,none⟩) n cf) L) (hk:k < n) (hn:n<= 1099511627776) (hD:W.cell? ⟨Db,0,none⟩=some (.pointer (some ⟨d,0,none⟩))) (hd:W.cell? ⟨d,0,none⟩=some (.pointer (some ⟨x,0,none⟩))) (nD:¬F Db) (nd:¬F d) (hI:W.cell? ⟨Ib,0,none⟩=some (.int .i64 (k:Int))) (nI:¬F Ib)
 (h:∀u1 u2 w',Dc w' x F (D.fs' (D.fs.eraseIdx k)) (.slice (some ⟨gF,0,none⟩) (n - 1) cf) (L.eraseIdx k)-> Kd F W w'-> Q .normal {tmps:=(.pointer (some ⟨Db,0,none⟩)::.pointer (some ⟨Ib,0,none⟩)::.pointer (some ⟨d,0,none⟩)::.pointer (some ⟨d,0,none⟩)::.pointer (some ⟨d,0,none⟩)::.pointer (some ⟨x,0,none⟩)::.pointer (some ⟨d,0,none⟩)::.pointer (some ⟨d,0,none⟩)::.pointer (some ⟨d,0,none⟩)::.pointer (some ⟨x,0,none⟩)::.pointer (some ⟨x,0,none⟩)::.pointer (some ⟨x,0,none⟩)::.slice (some ⟨gF,0,none⟩) n cf::.int .i64 (k:Int)::.slice (some ⟨gF,0,none⟩) k cf::.pointer (some ⟨d,0,none⟩)::.pointer (some ⟨d,0,none⟩)::.pointer (some ⟨d,0,none⟩)::.pointer (some ⟨x,0,none⟩)::.pointer (some ⟨x,0,none⟩)::.pointer (some ⟨x,0,none⟩)::.slice (some ⟨gF,0,none⟩) n cf::.int .i64 (k:Int)::.int .i64 ((k:Int)+1)::u1::u2::.pointer (some ⟨x,0,none⟩)::.pointer (some ⟨x,0,none⟩)::[]).toArray,defers:=[]} w'):
 (Code.region 0 regRemAOps true).wp Tryz.prog Q {tmps:=(.pointer (some ⟨Db,0,none⟩)::.pointer (some ⟨Ib,0,none⟩)::t2::t3::t4::t5::t6::t7::t8::t9::t10::t11::t12::t13::t14::t15::t16::t17::t18::t19::t20::t21::t22::t23::t24::t25::t26::t27::[]).toArray,defers:=[]} W:=by
 obtain⟨q1,q2,q3,q4,q5⟩:=hc.rest hk
 have hFg:F gF:=hc.fr gF rfl
 have hgx:gF≠x:=λe=>hc.rx (by rw[e];rfl)
 have hwk:IntKind.i64.wrap ((k:Int)+1)=(k:Int)+1:=by rw[IntKind.wrap_i64];omega
 have cel:∀(b:Nat) (v:Value) (V:World),W.cell? ⟨b,0,none⟩=some v-> ¬F b-> (∀g,g≠gF-> g≠x-> V.heap[g]?=W.heap[g]?)-> V.cell? ⟨b,0,none⟩=some v:=λb v V hv hb hV=>(World.cell?_of_block (a:=⟨b,0,none⟩) (hV b (λe=>hb (e ▸ hFg)) (λe=>hb (e ▸ hc.fx)))).trans hv
 have hcv:∀V:World,(∀g,g≠gF-> g≠x-> V.heap[g]?=W.heap[g]?)-> V.cell? ⟨Db,0,none⟩=some (.pointer (some ⟨d,0,none⟩))/\ V.cell? ⟨d,0,none⟩=some (.pointer (some ⟨x,0,none⟩))/\ V.cell? ⟨Ib,0,none⟩=some (.int .i64 (k:Int)):=λV hV=>⟨cel Db _ V hD nD hV,cel d _ V hd nd hV,cel Ib _ V hI nI hV⟩
 have hres:=Dc.rem (hc.same (w':=W.drew) (λ_ _ _=>rfl)) hk
 by_cases hcf:cf=k+1
 ·obtain rfl:k+1=cf:=hcf.symm
  obtain rfl:k+1=n:=by omega
  have hnil:(L.drop (k+1)).flatMap fcell=[]:=by
   have:=hc.nf
   rw[List.drop_of_length_le (by omega)];rfl
  rw[hnil] at hres
  refine regRemB Q Db Ib d x gF k (bxD (.slice (some ⟨gF,0,none⟩) (k+1) (k+1)) D) W (by omega) hwk hc.box rfl hgx hcv (λy=>hcv _ (λg h1 h2=>(heap_setCell_other _ _ _ _ h2).trans (setCells_other _ _ _ W.drew g h1))) ?_
  exact h _ _ _ hres (kd_rem hFg hc.fx)
 ·have e9:k+(n - (k+1))=n - 1:=by omega
  refine regRemA Q Db Ib d x gF k (bxD (.slice (some ⟨gF,0,none⟩) n cf) D) n cf ((L.drop (k+1)).flatMap fcell) W (by omega) (by omega) (by omega) (by omega) hcf q1 q2 q3 q4 (by omega) hwk hc.box rfl hgx hcv (λy=>hcv _ (λg h1 h2=>(heap_setCell_other _ _ _ _ h2).trans (setCells_other _ _ _ W.drew g h1))) ?_
  rw[e9]
  exact h _ _ _ hres (kd_rem hFg hc.fx)
theorem regRenD (Q:Exit-> Act-> World-> Prop) (Db d x gF n cf k:Nat) (F:Nat-> Prop) (D:Dk) (L:List Fv) {t1 t2 t4 t5 t6 t7 t8 t9 t10 t11 t12 t13 t14 t15 t16 t17 t18 t19 t20 t21 t22 t23 t24 t25 t26 t27 t28 t29 t30 t31 t32 t33 t34 t35 t36 t37 t38 t39 t40 t41 t42 t43 t44 t45 t46 t47 t48 t49 t50 t51 t52 t53:Value} (W:World)
 (hc:Dc W x F D (.slice (some ⟨gF,0,none⟩) n cf) L) (hk:k < n) (hn:n<= 1099511627776) (hD:W.cell? ⟨Db,0,none⟩=some (.pointer (some ⟨d,0,none⟩))) (hd:W.cell? ⟨d,0,none⟩=some (.pointer (some ⟨x,0,none⟩))) (nD:¬F Db) (nd:¬F d)
 (h:∀u1 u2 w',Dc w' x F (D.fs' (D.fs.eraseIdx k)) (.slice (some ⟨gF,0,none⟩) (n - 1) cf) (L.eraseIdx k)-> Kd F W w'-> Q .normal {tmps:=(.pointer (some ⟨Db,0,none⟩)::t1::t2::.int .i64 (k:Int)::t4::t5::t6::t7::t8::t9::t10::t11::t12::t13::t14::t15::t16::t17::t18::t19::t20::t21::t22::t23::t24::t25::t26::t27::.pointer (some ⟨d,0,none⟩)::.pointer (some ⟨d,0,none⟩)::.pointer (some ⟨d,0,none⟩)::.pointer (some ⟨x,0,none⟩)::.pointer (some ⟨d,0,none⟩)::.pointer (some ⟨d,0,none⟩)::.pointer (some ⟨d,0,none⟩)::.pointer (some ⟨x,0,none⟩)::.pointer (some ⟨x,0,none⟩)::.pointer (some ⟨x,0,none⟩)::.slice (some ⟨gF,0,none⟩) n cf::.int .i64 (k:Int)::.slice (some ⟨gF,0,none⟩) k cf::.pointer (some ⟨d,0,none⟩)::.pointer (some ⟨d,0,none⟩)::.pointer (some ⟨d,0,none⟩)::.pointer (some ⟨x,0,none⟩)::.pointer (some ⟨x,0,none⟩)::.pointer (some ⟨x,0,none⟩)::.slice (some ⟨gF,0,none⟩) n cf::.int .i64 (k:Int)::.int .i64 ((k:Int)+1)::u1::u2::.pointer (some ⟨x,0,none⟩)::.pointer (some ⟨x,0,none⟩)::[]).toArray,defers:=[]} w'):
 (Code.region 3 regRenAOps true).wp Tryz.prog Q {tmps:=(.pointer (some ⟨Db,0,none⟩)::t1::t2::.int .i64 (k:Int)::t4::t5::t6::t7::t8::t9::t10::t11::t12::t13::t14::t15::t16::t17::t18::t19::t20::t21::t22::t23::t24::t25::t26::t27::t28::t29::t30::t31::t32::t33::t34::t35::t36::t37::t38::t39::t40::t41::t42::t43::t44::t45::t46::t47::t48::t49::t50::t51::t52::t53::[]).toArray,defers:=[]} W:=by
 obtain⟨q1,q2,q3,q4,q5⟩:=hc.rest hk
 have hFg:F gF:=hc.fr gF rfl
 have hgx:gF≠x:=λe=>hc.rx (by rw[e];rfl)
 have hwk:IntKind.i64.wrap ((k:Int)+1)=(k:Int)+1:=by rw[IntKind.wrap_i64];omega
 have cel:∀(b:Nat) (v:Value) (V:World),W.cell? ⟨b,0,none⟩=some v-> ¬F b-> (∀g,g≠gF-> g≠x-> V.heap[g]?=W.heap[g]?)-> V.cell? ⟨b,0,none⟩=some v:=λb v V hv hb hV=>(World.cell?_of_block (a:=⟨b,0,none⟩) (hV b (λe=>hb (e ▸ hFg)) (λe=>hb (e ▸ hc.fx)))).trans hv
 have hcv:∀V:World,(∀g,g≠gF-> g≠x-> V.heap[g]?=W.heap[g]?)-> V.cell? ⟨Db,0,none⟩=some (.pointer (some ⟨d,0,none⟩))/\ V.cell? ⟨d,0,none⟩=some (.pointer (some ⟨x,0,none⟩)):=λV hV=>⟨cel Db _ V hD nD hV,cel d _ V hd nd hV⟩
 have hres:=Dc.rem (hc.same (w':=W.drew) (λ_ _ _=>rfl)) hk
 by_cases hcf:cf=k+1
 ·obtain rfl:k+1=cf:=hcf.symm
  obtain rfl:k+1=n:=by omega
  have hnil:(L.drop (k+1)).flatMap fcell=[]:=by
   have:=hc.nf
   rw[List.drop_of_length_le (by omega)];rfl
  rw[hnil] at hres
  refine regRenB Q Db d x gF k (bxD (.slice (some ⟨gF,0,none⟩) (k+1) (k+1)) D) W (by omega) hwk hc.box rfl hgx hcv (λy=>hcv _ (λg h1 h2=>(heap_setCell_other _ _ _ _ h2).trans (setCells_other _ _ _ W.drew g h1))) ?_
  exact h _ _ _ hres (kd_rem hFg hc.fx)
 ·have e9:k+(n - (k+1))=n - 1:=by omega
  refine regRenA Q Db d x gF k (bxD (.slice (some ⟨gF,0,none⟩) n cf) D) n cf ((L.drop (k+1)).flatMap fcell) W (by omega) (by omega) (by omega) (by omega) hcf q1 q2 q3 q4 (by omega) hwk hc.box rfl hgx hcv (λy=>hcv _ (λg h1 h2=>(heap_setCell_other _ _ _ _ h2).trans (setCells_other _ _ _ W.drew g h1))) ?_
  rw[e9]
  exact h _ _ _ hres (kd_rem hFg hc.fx)
theorem clRem_any (w:World) (Db Ib d x k:Nat) (F:Nat-> Prop) (D:Dk) (B:Nat) (h:Dm w x F D) (hk:D.Ok B) (hB:B<= 1099511627776) (hkl:k < D.fs.length)
 (hD:w.cell? ⟨Db,0,none⟩=some (.pointer (some ⟨d,0,none⟩))) (hd:w.cell? ⟨d,0,none⟩=some (.pointer (some ⟨x,0,none⟩))) (hI:w.cell? ⟨Ib,0,none⟩=some (.int .i64 (k:Int))) (nD:¬F Db) (nd:¬F d) (nI:¬F Ib):
 Calls Tryz.prog 101 #[.pointer (some ⟨Db,0,none⟩),.pointer (some ⟨Ib,0,none⟩)] w λe w'=>ClP x F D (D.fs.eraseIdx k) w e w':=by
 obtain⟨vf,L,hc⟩:=h
 obtain⟨gF,cf,hv⟩:=d_some hc.row (by have:=hc.len;omega)
 obtain⟨n,hn⟩:∃n,L.length=n:=⟨_,rfl⟩
 rw[hn] at hv
 subst hv
 have HC:Hid (Dc w x F D (.slice (some ⟨gF,0,none⟩) n cf) L):=hc
 have HL:Hid (k < n/\ n<= 1099511627776):=⟨by rw[←hn,←hc.len];exact hkl,by have:=hk.len;have:=hc.len;omega⟩
 have HX:Hid ((w.cell? ⟨Db,0,none⟩=some (.pointer (some ⟨d,0,none⟩)))/\ (w.cell? ⟨d,0,none⟩=some (.pointer (some ⟨x,0,none⟩)))/\ (w.cell? ⟨Ib,0,none⟩=some (.int .i64 (k:Int)))/\ (¬F Db)/\ (¬F d)/\ (¬F Ib)):=⟨hD,hd,hI,nD,nd,nI⟩
 clear hc hn hk hkl hD hd hI nD nd nI
 go_enter Tryz.func101,Tryz.ntmps101
 go_wp2_with fail
 refine regRemD _ Db Ib d x gF n cf k F D L w HC.out HL.out.1 HL.out.2 HX.out.1 HX.out.2.1 HX.out.2.2.2.1 HX.out.2.2.2.2.1 HX.out.2.2.1 HX.out.2.2.2.2.2 ?_
 intro u1 u2 w' hc' hk'
 refine bodyPost_end (v:=.tuple #[]) (by simp[results,Tryz.results101,go_sem]) rfl ?_
 exact⟨⟨_,rfl⟩,⟨_,_,hc'.mono (λk h _=>.inl h)⟩,hk'⟩
def setF (fs:List Fl) (i:Nat) (g:Fl-> Fl):List Fl:=match fs[i]? with|some f=>fs.set i (g f)|none=>fs
theorem setF_at {fs:List Fl} {i:Nat} {g:Fl-> Fl} {f:Fl} (h:fs[i]?=some f):setF fs i g=fs.set i (g f):=by unfold setF;rw[h]
def synF (fs:List Fl) (i:Nat):List Fl:=setF fs i (λf=>⟨f.nm,f.bs,(f.bs.length:Int)⟩)
theorem clSyn_any (w:World) (Db Ib d x i:Nat) (F:Nat-> Prop) (D:Dk) (B:Nat) (h:Dm w x F D) (hk:D.Ok B) (hB:B<= 1099511627776) (hkl:i < D.fs.length)
 (hD:w.cell? ⟨Db,0,none⟩=some (.pointer (some ⟨d,0,none⟩))) (hd:w.cell? ⟨d,0,none⟩=some (.pointer (some ⟨x,0,none⟩))) (hI:w.cell? ⟨Ib,0,none⟩=some (.int .i64 (i:Int))) (nD:¬F Db) (nd:¬F d) (nI:¬F Ib):
 Calls Tryz.prog 60 #[.pointer (some ⟨Db,0,none⟩),.pointer (some ⟨Ib,0,none⟩)] w λe w'=>ClP x F D (synF D.fs i) w e w':=by
 obtain⟨vf,L,hc⟩:=h
 obtain⟨p,hp⟩:∃p,L[i]?=some p:=⟨_,List.getElem?_eq_getElem (by rw[hc.len] at hkl;exact hkl)⟩
 obtain⟨gF,cf,hv,hFg,hgl,k0,k1,k2,kz⟩:=hc.at hp
 obtain⟨n,hn⟩:∃n,L.length=n:=⟨_,rfl⟩
 rw[hn] at hv
 subst hv
 obtain⟨av,cv,hav⟩:=d_shape (hc.byt i p hp)
 obtain⟨m,hm⟩:∃m,p.1.bs.length=m:=⟨_,rfl⟩
 rw[hav,hm] at k1
 have HC:Hid (Dc w x F D (.slice (some ⟨gF,0,none⟩) n cf) L/\ L[i]?=some p/\ p.1.bs.length=m/\ F gF):=⟨hc,hp,hm,hFg⟩
 have hin:(i:Int) < (n:Int):=by rw[hc.len,hn] at hkl;omega
 have hi0:(0:Int)<= (i:Int):=by omega
 have c0:w.cell? ⟨x,0,none⟩=some (.slice (some ⟨gF,0,none⟩) n cf):=hc.c 0
 have z2:=kz (i*3+2)
 have HF:Hid ((¬F Db)/\ (¬F d)/\ (¬F Ib)):=⟨nD,nd,nI⟩
 have hgx:gF≠x:=λe=>hc.rx (by rw[e];rfl)
 have e1:Db≠gF:=λe=>nD (e ▸ hFg)
 have e2:d≠gF:=λe=>nd (e ▸ hFg)
 have e3:Ib≠gF:=λe=>nI (e ▸ hFg)
 have HS:Hid (∀V:World,(∀j,j≠i*3+2-> V.cell? ⟨gF,j,none⟩=w.cell? ⟨gF,j,none⟩)-> (∀g,g≠gF-> V.heap[g]?=w.heap[g]?)-> V.cell? ⟨Db,0,none⟩=some (.pointer (some ⟨d,0,none⟩))/\ V.cell? ⟨d,0,none⟩=some (.pointer (some ⟨x,0,none⟩))/\ V.cell? ⟨Ib,0,none⟩=some (.int .i64 (i:Int))/\ V.cell? ⟨x,0,none⟩=some (.slice (some ⟨gF,0,none⟩) n cf)/\ V.cell? ⟨gF,i*3+1,none⟩=some (.slice av m cv)):=λV h1 h2=>
  ⟨(World.cell?_of_block (a:=⟨Db,0,none⟩) (h2 _ e1)).trans hD,(World.cell?_of_block (a:=⟨d,0,none⟩) (h2 _ e2)).trans hd,(World.cell?_of_block (a:=⟨Ib,0,none⟩) (h2 _ e3)).trans hI,(World.cell?_of_block (a:=⟨x,0,none⟩) (h2 _ (λe=>hgx e.symm))).trans c0,(h1 _ (by omega)).trans k1⟩
 clear hc hp hav hm hn hk hkl nD nd nI k0 kz hFg
 go_enter Tryz.func60,Tryz.ntmps60
 go_wp2_with fail
 go_region_held3 (λV=>V.cell? ⟨Db,0,none⟩=some (.pointer (some ⟨d,0,none⟩))/\ V.cell? ⟨d,0,none⟩=some (.pointer (some ⟨x,0,none⟩))/\ V.cell? ⟨Ib,0,none⟩=some (.int .i64 (i:Int))/\ V.cell? ⟨x,0,none⟩=some (.slice (some ⟨gF,0,none⟩) n cf)/\ V.cell? ⟨gF,i*3+1,none⟩=some (.slice av m cv))
  (first|exact HS.out _ (λ_ _=>rfl) (λ_ _=>rfl)|exact HS.out _ (λj hj=>World.cell?_setCell_other _ _ _ _ (by simp[hj])) (λg hg=>heap_setCell_other _ _ _ _ hg))
  (fail)
 refine bodyPost_end (v:=.tuple #[]) (by simp[results,Tryz.results60,go_sem]) rfl ?_
 obtain⟨hc,hp,hm,hFg⟩:=HC.out
 have hr:=(hc.same (w':=w.drew) (λ_ _ _=>rfl)).cellF hp (k:=i*3+2) (v:=.int .i64 (m:Int)) (q:=⟨p.1.nm,p.1.bs,(m:Int)⟩) rfl (fcell_set2 _ hp)
 refine⟨⟨_,rfl⟩,?_,(Kd.refl F w).drew.trans (Kd.set hFg)⟩
 unfold synF
 rw[setF_at (hc.file hp),hm]
 exact⟨_,_,hr.mono (λk h _=>.inl h)⟩
end Go.Proofs.YtllhbhogfffedaaGreatDoor.K
namespace Go.Proofs.YtllhbhogfffedaaGreatDoor.K
open Go.RowKit
attribute [local go_sem] Oper.semAt_some
set_option linter.unusedVariables false
set_option linter.unusedSimpArgs false
def namF (fs:List Fl) (i:Nat) (s:ByteArray):List Fl:=setF fs i (λf=>⟨s,f.bs,f.sf⟩)
def renF (fs:List Fl) (i:Nat) (s:ByteArray):List Fl:=match fnd fs s with
 |some k=>if k=i then namF fs i s else (namF fs i s).eraseIdx k
 |none=>namF fs i s
theorem Dm.up {w w':World} {x:Nat} {F:Nat-> Prop} {D:Dk} (h:Dm w' x F D):Dm w' x (up F w) D:=h.mono (λk h _=>.inl h)
theorem clRen_any (w:World) (Db Tb Ib d x i:Nat) (F:Nat-> Prop) (D:Dk) (s:ByteArray) (B:Nat) (h:Dm w x F D) (hk:D.Ok B) (hB:B<= 1099511627776) (hkl:i < D.fs.length)
 (hD:w.cell? ⟨Db,0,none⟩=some (.pointer (some ⟨d,0,none⟩))) (hd:w.cell? ⟨d,0,none⟩=some (.pointer (some ⟨x,0,none⟩))) (hT:w.cell? ⟨Tb,0,none⟩=some (.string s)) (hI:w.cell? ⟨Ib,0,none⟩=some (.int .i64 (i:Int))) (nD:¬F Db) (nd:¬F d) (nT:¬F Tb) (nI:¬F Ib):
 Calls Tryz.prog 84 #[.pointer (some ⟨Db,0,none⟩),.pointer (some ⟨Tb,0,none⟩),.pointer (some ⟨Ib,0,none⟩)] w λe w'=>ClP x F D (renF D.fs i s) w e w':=by
 have hfn:=find_any w.drew x F D s B (h.same (λ_ _ _=>rfl)) hk hB
 obtain⟨vf,L,hc⟩:=h
 obtain⟨p,hp⟩:∃p,L[i]?=some p:=⟨_,List.getElem?_eq_getElem (by rw[hc.len] at hkl;exact hkl)⟩
 obtain⟨gF,cf,hv,hFg,hgl,k0,k1,k2,kz⟩:=hc.at hp
 obtain⟨n,hn⟩:∃n,L.length=n:=⟨_,rfl⟩
 rw[hn] at hv
 subst hv
 have HC:Hid (Dc w x F D (.slice (some ⟨gF,0,none⟩) n cf) L/\ L[i]?=some p/\ F gF/\ L.length=n):=⟨hc,hp,hFg,hn⟩
 have hin:(i:Int) < (n:Int):=by rw[hc.len,hn] at hkl;omega
 have hi0:(0:Int)<= (i:Int):=by omega
 have HNb:Hid (n<= 1099511627776):=by show n<= _;have:=hk.len;have:=hc.len;omega
 have c0:w.cell? ⟨x,0,none⟩=some (.slice (some ⟨gF,0,none⟩) n cf):=hc.c 0
 have z0:=kz (i*3)
 have hgx:gF≠x:=λe=>hc.rx (by rw[e];rfl)
 have e1:Db≠gF:=λe=>nD (e ▸ hFg)
 have e2:d≠gF:=λe=>nd (e ▸ hFg)
 have e3:Ib≠gF:=λe=>nI (e ▸ hFg)
 have e4:Tb≠gF:=λe=>nT (e ▸ hFg)
 have HF:Hid ((¬F Db)/\ (¬F d)/\ (¬F Ib)/\ (¬F Tb)):=⟨nD,nd,nI,nT⟩
 have HS:Hid (∀V:World,(∀g,g≠gF-> V.heap[g]?=w.heap[g]?)-> V.cell? ⟨Db,0,none⟩=some (.pointer (some ⟨d,0,none⟩))/\ V.cell? ⟨d,0,none⟩=some (.pointer (some ⟨x,0,none⟩))/\ V.cell? ⟨Ib,0,none⟩=some (.int .i64 (i:Int))/\ V.cell? ⟨x,0,none⟩=some (.slice (some ⟨gF,0,none⟩) n cf)/\ V.cell? ⟨Tb,0,none⟩=some (.string s)):=λV h2=>
  ⟨(World.cell?_of_block (a:=⟨Db,0,none⟩) (h2 _ e1)).trans hD,(World.cell?_of_block (a:=⟨d,0,none⟩) (h2 _ e2)).trans hd,(World.cell?_of_block (a:=⟨Ib,0,none⟩) (h2 _ e3)).trans hI,(World.cell?_of_block (a:=⟨x,0,none⟩) (h2 _ (λe=>hgx e.symm))).trans c0,(World.cell?_of_block (a:=⟨Tb,0,none⟩) (h2 _ e4)).trans hT⟩
 clear hc hp hn hk hkl nD nd nI nT k1 k2 kz hFg
 go_enter Tryz.func84,Tryz.ntmps84
 go_wp2_with fail
 go_region_held3 (λV=>V.cell? ⟨Db,0,none⟩=some (.pointer (some ⟨d,0,none⟩))/\ V.cell? ⟨d,0,none⟩=some (.pointer (some ⟨x,0,none⟩))/\ V.cell? ⟨Tb,0,none⟩=some (.string s))
  (first|exact⟨hD,hd,hT⟩)
  (first
   |(go_at_call 59
     refine hfn.mono ?_
     rintro e w1 ⟨rfl,hw1⟩
     rw[hw1]
     clear hw1))
 clear hfn
 obtain⟨V1,hV1⟩:∃V,w.drew=V:=⟨_,rfl⟩
 rw[hV1]
 have y1:=(HS.out V1 (λ_ _=>by rw[←hV1];rfl))
 have HV1:Hid (∀g:Nat,V1.heap[g]?=w.heap[g]?):=λg=>by rw[←hV1];rfl
 have k0':V1.cell? ⟨gF,i*3,none⟩=some (.string p.1.nm):=by rw[←hV1];exact k0
 have z0':V1.frozen? ⟨gF,i*3,none⟩=false:=by rw[←hV1];exact z0
 have HO1:Hid (V1.os=w.os/\ V1.tape=w.tape/\ V1.output=w.output/\ V1.heap.size=w.heap.size):=by rw[←hV1];exact⟨rfl,rfl,rfl,rfl⟩
 obtain⟨y11,y12,y13,y14,y15⟩:=y1
 clear hV1 hD hd hT hI c0 k0 z0
 obtain⟨K,hK⟩:∃K,fI D.fs s=K:=⟨_,rfl⟩
 have HK:Hid (fI D.fs s=K):=hK
 rw[hK]
 clear hK
 go_wp2_with fail
 go_region_held3 (λV=>V.cell? ⟨Db,0,none⟩=some (.pointer (some ⟨d,0,none⟩))/\ V.cell? ⟨d,0,none⟩=some (.pointer (some ⟨x,0,none⟩))/\ V.cell? ⟨Ib,0,none⟩=some (.int .i64 (i:Int))/\ V.cell? ⟨x,0,none⟩=some (.slice (some ⟨gF,0,none⟩) n cf)/\ V.cell? ⟨Tb,0,none⟩=some (.string s))
  (first|exact⟨y11,y12,y13,y14,y15⟩|exact HS.out _ (λg hg=>(heap_setCell_other _ _ _ _ hg).trans (HV1.out g)))
  (fail)
 obtain⟨V2,hV2⟩:∃V,(V1.setCell ⟨gF,i*3,none⟩ (.string s)).drew=V:=⟨_,rfl⟩
 rw[hV2]
 have HD2:Hid (Dc V2 x F (D.fs' (namF D.fs i s)) (.slice (some ⟨gF,0,none⟩) n cf) (L.set i (⟨s,p.1.bs,p.1.sf⟩,p.2))/\ Kd F w V2):=by
  obtain⟨hc,hp,hFg,_⟩:=HC.out
  have hr:Dc (V1.setCell ⟨gF,i*3,none⟩ (.string s)).drew x F (D.fs' (D.fs.set i ⟨s,p.1.bs,p.1.sf⟩)) (.slice (some ⟨gF,0,none⟩) n cf) (L.set i (⟨s,p.1.bs,p.1.sf⟩,p.2)):=(hc.same (w':=V1.drew) (λk _ _=>HV1.out k)).cellF hp (k:=i*3) (v:=.string s) (q:=⟨s,p.1.bs,p.1.sf⟩) rfl (fcell_set0 _ hp)
  rw[hV2] at hr
  refine⟨by unfold namF;rw[setF_at (hc.file hp)];exact hr,?_⟩
  have h1:Kd F w V1.drew:=⟨HO1.out.1,HO1.out.2.1,HO1.out.2.2.1,by rw[show V1.drew.heap.size=V1.heap.size from rfl,HO1.out.2.2.2];exact aqH _,λk _ _=>HV1.out k⟩
  rw[←hV2]
  exact(h1.trans (Kd.set hFg):Kd F w (V1.drew.setCell ⟨gF,i*3,none⟩ (.string s)))
 obtain⟨x1,x2,x3,x4,x5⟩:=HS.out V2 (λg hg=>by rw[←hV2];exact(heap_setCell_other _ _ _ _ hg).trans (HV1.out g))
 have HX2:Hid (V2.cell? ⟨Db,0,none⟩=some (.pointer (some ⟨d,0,none⟩))/\ V2.cell? ⟨d,0,none⟩=some (.pointer (some ⟨x,0,none⟩))):=⟨x1,x2⟩
 clear hV2 y11 y12 y13 y14 y15 k0' z0' x1 x2 x4 x5
 cases hf:fnd D.fs s with
 |none=>
  have hK2:K=-1:=by rw[←HK.out];exact fI_none hf
  subst hK2
  have HR:Hid (renF D.fs i s=namF D.fs i s):=by show _=_;unfold renF;rw[hf]
  clear hf
  go_wp2
  refine bodyPost_end (v:=.tuple #[]) (by simp[results,Tryz.results84,go_sem]) rfl ?_
  exact⟨⟨_,rfl⟩,by rw[HR.out];exact Dm.up ⟨_,_,HD2.out.1⟩,HD2.out.2⟩
 |some k=>
  have hK2:K=(k:Int):=by rw[←HK.out];exact fI_some hf
  subst hK2
  have hz:¬(k:Int) < 0:=by omega
  have hz':(k:Int)≥0:=by omega
  by_cases hki:k=i
  ·have HR:Hid (renF D.fs i s=namF D.fs i s):=by show _=_;unfold renF;rw[hf];simp only[hki,if_true]
   subst hki
   clear hf
   go_wp2
   refine bodyPost_end (v:=.tuple #[]) (by simp[results,Tryz.results84,go_sem]) rfl ?_
   exact⟨⟨_,rfl⟩,by rw[HR.out];exact Dm.up ⟨_,_,HD2.out.1⟩,HD2.out.2⟩
  ·have HR:Hid (renF D.fs i s=(namF D.fs i s).eraseIdx k):=by show _=_;unfold renF;rw[hf];simp only[hki,if_false]
   have hne:((k:Int) != (i:Int))=true:=by simp;omega
   have hne2:¬(k:Int)=(i:Int):=by omega
   have HL:Hid (k < n):=by show k < n;have:=fnd_lt hf;rw[HC.out.1.len,HC.out.2.2.2] at this;exact this
   clear hf hki
   go_wp2_with fail
   refine regRenD _ Db d x gF n cf k F (D.fs' (namF D.fs i s)) _ V2 HD2.out.1 HL.out HNb.out HX2.out.1 HX2.out.2 HF.out.1 HF.out.2.1 ?_
   intro u1 u2 w' hc' hk'
   refine bodyPost_end (v:=.tuple #[]) (by simp[results,Tryz.results84,go_sem]) rfl ?_
   exact⟨⟨_,rfl⟩,by rw[HR.out];exact Dm.up ⟨_,_,hc'⟩,HD2.out.2.trans hk'⟩
def regCutSOps:Array Oper:=#[⟨some 13,.move (.tmp 3),111, "disk.go:192",#[],none⟩,
 ⟨some 14,.move (.tmp 3),111, "disk.go:192",#[],none⟩,
 ⟨some 15,.nilCheck (.tmp 14),0, "disk.go:192",#[⟨1,.data⟩],none⟩,
 ⟨some 16,.fieldAddr 75 (.tmp 15) 1,0, "disk.go:192",#[⟨2,.data⟩],none⟩,
 ⟨some 17,.load 35 (.tmp 16),35, "disk.go:192",#[⟨3,.data⟩],none⟩,
 ⟨some 18,.load 3 (.tmp 2),3, "disk.go:192",#[],none⟩,
 ⟨some 19,.call {callee:=Callee.builtin Builtin.max,args:=#[.tmp 18,Operand.const (Value.int IntKind.i64 0)],argTypes:=#[3,3]},3, "disk.go:192",#[⟨5,.data⟩],none⟩,
 ⟨some 20,.move (.tmp 3),111, "disk.go:192",#[],none⟩,
 ⟨some 21,.nilCheck (.tmp 20),0, "disk.go:192",#[⟨7,.data⟩],none⟩,
 ⟨some 22,.fieldAddr 75 (.tmp 21) 1,0, "disk.go:192",#[⟨8,.data⟩],none⟩,
 ⟨some 23,.load 35 (.tmp 22),35, "disk.go:192",#[⟨9,.data⟩],none⟩,
 ⟨some 24,.call {callee:=Callee.builtin Builtin.len,args:=#[.tmp 23],argTypes:=#[35]},3, "disk.go:192",#[⟨10,.data⟩],none⟩,
 ⟨some 25,.call {callee:=Callee.builtin Builtin.min,args:=#[.tmp 19,.tmp 24],argTypes:=#[3,3]},3, "disk.go:192",#[⟨6,.data⟩,⟨11,.data⟩],none⟩,
 ⟨some 26,.slice 35 (.tmp 17) none (some (.tmp 25)) none,35, "disk.go:192",#[⟨4,.data⟩,⟨12,.data⟩],none⟩,
 ⟨some 27,.nilCheck (.tmp 13),0, "disk.go:192",#[⟨0,.data⟩,⟨0,.phase⟩,⟨1,.phase⟩,⟨2,.phase⟩,⟨3,.phase⟩,⟨4,.phase⟩,⟨5,.phase⟩,⟨6,.phase⟩,⟨7,.phase⟩,⟨8,.phase⟩,⟨9,.phase⟩,⟨10,.phase⟩,⟨11,.phase⟩,⟨12,.phase⟩,⟨13,.phase⟩],none⟩,
 ⟨some 28,.fieldAddr 75 (.tmp 27) 1,0, "disk.go:192",#[⟨14,.data⟩,⟨0,.phase⟩,⟨1,.phase⟩,⟨2,.phase⟩,⟨3,.phase⟩,⟨4,.phase⟩,⟨5,.phase⟩,⟨6,.phase⟩,⟨7,.phase⟩,⟨8,.phase⟩,⟨9,.phase⟩,⟨10,.phase⟩,⟨11,.phase⟩,⟨12,.phase⟩,⟨13,.phase⟩],none⟩,
 ⟨none,.store 35 (.tmp 28) (.tmp 26),0, "disk.go:192",#[⟨15,.data⟩,⟨13,.data⟩,⟨0,.phase⟩,⟨1,.phase⟩,⟨2,.phase⟩,⟨3,.phase⟩,⟨4,.phase⟩,⟨5,.phase⟩,⟨6,.phase⟩,⟨7,.phase⟩,⟨8,.phase⟩,⟨9,.phase⟩,⟨10,.phase⟩,⟨11,.phase⟩,⟨12,.phase⟩,⟨13,.phase⟩],none⟩]
theorem regCutS (Q:Exit-> Act-> World-> Prop) (Sb gF i:Nat) (N M:Int) (gv nv cv k:Nat) {t0 t1 t4 t5 t6 t7 t8 t9 t10 t11 t12 t13 t14 t15 t16 t17 t18 t19 t20 t21 t22 t23 t24 t25 t26 t27 t28 t29 t30 t31 t32 t33 t34 t35 t36:Value} (W:World)
 (hk0:(0:Int)<= (k:Int)) (hkc:(k:Int)<= (cv:Int)) (hM:(if N < 0 then 0 else N)=M) (hm:(if (nv:Int) < M then (nv:Int) else M)=(k:Int)) (hB:W.drew.cell? ⟨gF,i*3+1,none⟩=some (.slice (some ⟨gv,0,none⟩) nv cv)) (hz:W.drew.frozen? ⟨gF,i*3+1,none⟩=false) (hS:W.drew.cell? ⟨Sb,0,none⟩=some (.int .i64 N)) (hcx:∀y,(W.drew.setCell ⟨gF,i*3+1,none⟩ y).cell? ⟨Sb,0,none⟩=some (.int .i64 N))
 (h:Q .normal {tmps:=(t0::t1::.pointer (some ⟨Sb,0,none⟩)::.pointer (some ⟨gF,i*3,none⟩)::t4::t5::t6::t7::t8::t9::t10::t11::t12::.pointer (some ⟨gF,i*3,none⟩)::.pointer (some ⟨gF,i*3,none⟩)::.pointer (some ⟨gF,i*3,none⟩)::.pointer (some ⟨gF,i*3+1,none⟩)::.slice (some ⟨gv,0,none⟩) nv cv::.int .i64 N::.int .i64 M::.pointer (some ⟨gF,i*3,none⟩)::.pointer (some ⟨gF,i*3,none⟩)::.pointer (some ⟨gF,i*3+1,none⟩)::.slice (some ⟨gv,0,none⟩) nv cv::.int .i64 ((nv:Nat):Int)::.int .i64 ((k:Nat):Int)::.slice (some ⟨gv,0,none⟩) k cv::.pointer (some ⟨gF,i*3,none⟩)::.pointer (some ⟨gF,i*3+1,none⟩)::t29::t30::t31::t32::t33::t34::t35::t36::[]).toArray,defers:=[]} (W.drew.setCell ⟨gF,i*3+1,none⟩ (.slice (some ⟨gv,0,none⟩) k cv))):
 (Code.region 1 regCutSOps true).wp Tryz.prog Q {tmps:=(t0::t1::.pointer (some ⟨Sb,0,none⟩)::.pointer (some ⟨gF,i*3,none⟩)::t4::t5::t6::t7::t8::t9::t10::t11::t12::t13::t14::t15::t16::t17::t18::t19::t20::t21::t22::t23::t24::t25::t26::t27::t28::t29::t30::t31::t32::t33::t34::t35::t36::[]).toArray,defers:=[]} W:=by
 refine Code.wp_mono (λ_ _ _ h=>calmD_le h) ?_
 unfold regCutSOps
 have hp:∀c a a' w,calmD Q (.panic c) a w-> calmD Q (.panic c) a' w:=λ_ _ _ _ h=>h
 refine wp_region_held (S:=λV=>V.cell? ⟨Sb,0,none⟩=some (.int .i64 N)) (by kernel_rfl) ?_
 change wpAnyH _ _ _ _ _ _ _ _ W.drew
 refine wpAnyH_takes (by kernel_rfl) hp hS [(0,some 13,.pointer (some ⟨gF,i*3,none⟩)),(1,some 14,.pointer (some ⟨gF,i*3,none⟩)),(2,some 15,.pointer (some ⟨gF,i*3,none⟩)),(3,some 16,.pointer (some ⟨gF,i*3+1,none⟩)),(5,some 18,.int .i64 N),(6,some 19,.int .i64 M),(7,some 20,.pointer (some ⟨gF,i*3,none⟩)),(8,some 21,.pointer (some ⟨gF,i*3,none⟩)),(9,some 22,.pointer (some ⟨gF,i*3+1,none⟩))] (by kernel_rfl) ?_ ?_
 ·repeat (refine tkY_cons rfl (λV hV=>?_) ?_;(·have s0:=hV;(try obtain⟨s1,s2⟩:=s0);go_split_ands;go_simp;all_goals (first|assumption|omega));simp only[Act.put,aqA,aqB,aqC])
  exact True.intro
 simp only[tkA,Act.put,aqA,aqB,aqC]
 refine wpAnyH_ready (rs:=[4,10]) (by kernel_rfl) (by simp) ?_
 refine(AllReadyH.cons rfl (λK hK=>?_) (AllReadyH.cons rfl (λK hK=>?_) AllReadyH.nil))
 ·go_simp
  refine hK.out _ _ hS (λ_=>?_)
  clear hK K
  try simp only[Act.put,aqA,aqB,aqC]
  refine wpAnyH_ready (rs:=[10]) (by kernel_rfl) (by simp) ?_
  refine(AllReadyH.cons rfl (λK hK=>?_) AllReadyH.nil)
  go_simp
  refine hK.out _ _ hS (λ_=>?_)
  clear hK K
  try simp only[Act.put,aqA,aqB,aqC]
  refine wpAnyH_takes (by kernel_rfl) hp hS [(11,some 24,.int .i64 ((nv:Nat):Int)),(12,some 25,.int .i64 ((k:Nat):Int)),(13,some 26,.slice (some ⟨gv,0,none⟩) k cv),(14,some 27,.pointer (some ⟨gF,i*3,none⟩)),(15,some 28,.pointer (some ⟨gF,i*3+1,none⟩))] (by kernel_rfl) ?_ ?_
  ·repeat (refine tkY_cons rfl (λV hV=>?_) ?_;(·have s0:=hV;(try obtain⟨s1,s2⟩:=s0);go_split_ands;go_simp;all_goals (first|assumption|omega));simp only[Act.put,aqA,aqB,aqC])
   exact True.intro
  simp only[tkA,Act.put,aqA,aqB,aqC]
  refine wpAnyH_ready (rs:=[16]) (by kernel_rfl) (by simp) ?_
  refine(AllReadyH.cons rfl (λK hK=>?_) AllReadyH.nil)
  go_simp
  refine hK.out _ _ (hcx _) (λ_=>?_)
  clear hK K
  try simp only[Act.put,aqA,aqB,aqC]
  exact wpAnyH_done (Q:=calmD Q) (by kernel_rfl) h _
 ·go_simp
  refine hK.out _ _ hS (λ_=>?_)
  clear hK K
  try simp only[Act.put,aqA,aqB,aqC]
  refine wpAnyH_takes (by kernel_rfl) hp hS [(11,some 24,.int .i64 ((nv:Nat):Int)),(12,some 25,.int .i64 ((k:Nat):Int))] (by kernel_rfl) ?_ ?_
  ·repeat (refine tkY_cons rfl (λV hV=>?_) ?_;(·have s0:=hV;(try obtain⟨s1,s2⟩:=s0);go_split_ands;go_simp;all_goals (first|assumption|omega));simp only[Act.put,aqA,aqB,aqC])
   exact True.intro
  simp only[tkA,Act.put,aqA,aqB,aqC]
  refine wpAnyH_ready (rs:=[4]) (by kernel_rfl) (by simp) ?_
  refine(AllReadyH.cons rfl (λK hK=>?_) AllReadyH.nil)
  go_simp
  refine hK.out _ _ hS (λ_=>?_)
  clear hK K
  try simp only[Act.put,aqA,aqB,aqC]
  refine wpAnyH_takes (by kernel_rfl) hp hS [(13,some 26,.slice (some ⟨gv,0,none⟩) k cv),(14,some 27,.pointer (some ⟨gF,i*3,none⟩)),(15,some 28,.pointer (some ⟨gF,i*3+1,none⟩))] (by kernel_rfl) ?_ ?_
  ·repeat (refine tkY_cons rfl (λV hV=>?_) ?_;(·have s0:=hV;(try obtain⟨s1,s2⟩:=s0);go_split_ands;go_simp;all_goals (first|assumption|omega));simp only[Act.put,aqA,aqB,aqC])
   exact True.intro
  simp only[tkA,Act.put,aqA,aqB,aqC]
  refine wpAnyH_ready (rs:=[16]) (by kernel_rfl) (by simp) ?_
  refine(AllReadyH.cons rfl (λK hK=>?_) AllReadyH.nil)
  go_simp
  refine hK.out _ _ (hcx _) (λ_=>?_)
  clear hK K
  try simp only[Act.put,aqA,aqB,aqC]
  exact wpAnyH_done (Q:=calmD Q) (by kernel_rfl) h _
def regCutNOps:Array Oper:=#[⟨some 13,.move (.tmp 3),111, "disk.go:192",#[],none⟩,
 ⟨some 14,.move (.tmp 3),111, "disk.go:192",#[],none⟩,
 ⟨some 15,.nilCheck (.tmp 14),0, "disk.go:192",#[⟨1,.data⟩],none⟩,
 ⟨some 16,.fieldAddr 75 (.tmp 15) 1,0, "disk.go:192",#[⟨2,.data⟩],none⟩,
 ⟨some 17,.load 35 (.tmp 16),35, "disk.go:192",#[⟨3,.data⟩],none⟩,
 ⟨some 18,.load 3 (.tmp 2),3, "disk.go:192",#[],none⟩,
 ⟨some 19,.call {callee:=Callee.builtin Builtin.max,args:=#[.tmp 18,Operand.const (Value.int IntKind.i64 0)],argTypes:=#[3,3]},3, "disk.go:192",#[⟨5,.data⟩],none⟩,
 ⟨some 20,.move (.tmp 3),111, "disk.go:192",#[],none⟩,
 ⟨some 21,.nilCheck (.tmp 20),0, "disk.go:192",#[⟨7,.data⟩],none⟩,
 ⟨some 22,.fieldAddr 75 (.tmp 21) 1,0, "disk.go:192",#[⟨8,.data⟩],none⟩,
 ⟨some 23,.load 35 (.tmp 22),35, "disk.go:192",#[⟨9,.data⟩],none⟩,
 ⟨some 24,.call {callee:=Callee.builtin Builtin.len,args:=#[.tmp 23],argTypes:=#[35]},3, "disk.go:192",#[⟨10,.data⟩],none⟩,
 ⟨some 25,.call {callee:=Callee.builtin Builtin.min,args:=#[.tmp 19,.tmp 24],argTypes:=#[3,3]},3, "disk.go:192",#[⟨6,.data⟩,⟨11,.data⟩],none⟩,
 ⟨some 26,.slice 35 (.tmp 17) none (some (.tmp 25)) none,35, "disk.go:192",#[⟨4,.data⟩,⟨12,.data⟩],none⟩,
 ⟨some 27,.nilCheck (.tmp 13),0, "disk.go:192",#[⟨0,.data⟩,⟨0,.phase⟩,⟨1,.phase⟩,⟨2,.phase⟩,⟨3,.phase⟩,⟨4,.phase⟩,⟨5,.phase⟩,⟨6,.phase⟩,⟨7,.phase⟩,⟨8,.phase⟩,⟨9,.phase⟩,⟨10,.phase⟩,⟨11,.phase⟩,⟨12,.phase⟩,⟨13,.phase⟩],none⟩,
 ⟨some 28,.fieldAddr 75 (.tmp 27) 1,0, "disk.go:192",#[⟨14,.data⟩,⟨0,.phase⟩,⟨1,.phase⟩,⟨2,.phase⟩,⟨3,.phase⟩,⟨4,.phase⟩,⟨5,.phase⟩,⟨6,.phase⟩,⟨7,.phase⟩,⟨8,.phase⟩,⟨9,.phase⟩,⟨10,.phase⟩,⟨11,.phase⟩,⟨12,.phase⟩,⟨13,.phase⟩],none⟩,
 ⟨none,.store 35 (.tmp 28) (.tmp 26),0, "disk.go:192",#[⟨15,.data⟩,⟨13,.data⟩,⟨0,.phase⟩,⟨1,.phase⟩,⟨2,.phase⟩,⟨3,.phase⟩,⟨4,.phase⟩,⟨5,.phase⟩,⟨6,.phase⟩,⟨7,.phase⟩,⟨8,.phase⟩,⟨9,.phase⟩,⟨10,.phase⟩,⟨11,.phase⟩,⟨12,.phase⟩,⟨13,.phase⟩],none⟩]
theorem regCutN (Q:Exit-> Act-> World-> Prop) (Sb gF i:Nat) (N M:Int) {t0 t1 t4 t5 t6 t7 t8 t9 t10 t11 t12 t13 t14 t15 t16 t17 t18 t19 t20 t21 t22 t23 t24 t25 t26 t27 t28 t29 t30 t31 t32 t33 t34 t35 t36:Value} (W:World)
 (hM:(if N < 0 then 0 else N)=M) (hm:M<= 0-> M=0) (hB:W.drew.cell? ⟨gF,i*3+1,none⟩=some (.slice none 0 0)) (hz:W.drew.frozen? ⟨gF,i*3+1,none⟩=false) (hS:W.drew.cell? ⟨Sb,0,none⟩=some (.int .i64 N)) (hcx:∀y,(W.drew.setCell ⟨gF,i*3+1,none⟩ y).cell? ⟨Sb,0,none⟩=some (.int .i64 N))
 (h:Q .normal {tmps:=(t0::t1::.pointer (some ⟨Sb,0,none⟩)::.pointer (some ⟨gF,i*3,none⟩)::t4::t5::t6::t7::t8::t9::t10::t11::t12::.pointer (some ⟨gF,i*3,none⟩)::.pointer (some ⟨gF,i*3,none⟩)::.pointer (some ⟨gF,i*3,none⟩)::.pointer (some ⟨gF,i*3+1,none⟩)::.slice none 0 0::.int .i64 N::.int .i64 M::.pointer (some ⟨gF,i*3,none⟩)::.pointer (some ⟨gF,i*3,none⟩)::.pointer (some ⟨gF,i*3+1,none⟩)::.slice none 0 0::.int .i64 0::.int .i64 0::.slice none 0 0::.pointer (some ⟨gF,i*3,none⟩)::.pointer (some ⟨gF,i*3+1,none⟩)::t29::t30::t31::t32::t33::t34::t35::t36::[]).toArray,defers:=[]} (W.drew.setCell ⟨gF,i*3+1,none⟩ (.slice none 0 0))):
 (Code.region 1 regCutNOps true).wp Tryz.prog Q {tmps:=(t0::t1::.pointer (some ⟨Sb,0,none⟩)::.pointer (some ⟨gF,i*3,none⟩)::t4::t5::t6::t7::t8::t9::t10::t11::t12::t13::t14::t15::t16::t17::t18::t19::t20::t21::t22::t23::t24::t25::t26::t27::t28::t29::t30::t31::t32::t33::t34::t35::t36::[]).toArray,defers:=[]} W:=by
 refine Code.wp_mono (λ_ _ _ h=>calmD_le h) ?_
 unfold regCutNOps
 have hp:∀c a a' w,calmD Q (.panic c) a w-> calmD Q (.panic c) a' w:=λ_ _ _ _ h=>h
 refine wp_region_held (S:=λV=>V.cell? ⟨Sb,0,none⟩=some (.int .i64 N)) (by kernel_rfl) ?_
 change wpAnyH _ _ _ _ _ _ _ _ W.drew
 refine wpAnyH_takes (by kernel_rfl) hp hS [(0,some 13,.pointer (some ⟨gF,i*3,none⟩)),(1,some 14,.pointer (some ⟨gF,i*3,none⟩)),(2,some 15,.pointer (some ⟨gF,i*3,none⟩)),(3,some 16,.pointer (some ⟨gF,i*3+1,none⟩)),(5,some 18,.int .i64 N),(6,some 19,.int .i64 M),(7,some 20,.pointer (some ⟨gF,i*3,none⟩)),(8,some 21,.pointer (some ⟨gF,i*3,none⟩)),(9,some 22,.pointer (some ⟨gF,i*3+1,none⟩))] (by kernel_rfl) ?_ ?_
 ·repeat (refine tkY_cons rfl (λV hV=>?_) ?_;(·have s0:=hV;(try obtain⟨s1,s2⟩:=s0);go_split_ands;go_simp;all_goals (first|assumption|omega));simp only[Act.put,aqA,aqB,aqC])
  exact True.intro
 simp only[tkA,Act.put,aqA,aqB,aqC]
 refine wpAnyH_ready (rs:=[4,10]) (by kernel_rfl) (by simp) ?_
 refine(AllReadyH.cons rfl (λK hK=>?_) (AllReadyH.cons rfl (λK hK=>?_) AllReadyH.nil))
 ·go_simp
  refine hK.out _ _ hS (λ_=>?_)
  clear hK K
  try simp only[Act.put,aqA,aqB,aqC]
  refine wpAnyH_ready (rs:=[10]) (by kernel_rfl) (by simp) ?_
  refine(AllReadyH.cons rfl (λK hK=>?_) AllReadyH.nil)
  go_simp
  refine hK.out _ _ hS (λ_=>?_)
  clear hK K
  try simp only[Act.put,aqA,aqB,aqC]
  refine wpAnyH_takes (by kernel_rfl) hp hS [(11,some 24,.int .i64 0),(12,some 25,.int .i64 0),(13,some 26,.slice none 0 0),(14,some 27,.pointer (some ⟨gF,i*3,none⟩)),(15,some 28,.pointer (some ⟨gF,i*3+1,none⟩))] (by kernel_rfl) ?_ ?_
  ·repeat (refine tkY_cons rfl (λV hV=>?_) ?_;(·have s0:=hV;(try obtain⟨s1,s2⟩:=s0);go_split_ands;go_simp;all_goals (first|assumption|omega));simp only[Act.put,aqA,aqB,aqC])
   exact True.intro
  simp only[tkA,Act.put,aqA,aqB,aqC]
  refine wpAnyH_ready (rs:=[16]) (by kernel_rfl) (by simp) ?_
  refine(AllReadyH.cons rfl (λK hK=>?_) AllReadyH.nil)
  go_simp
  refine hK.out _ _ (hcx _) (λ_=>?_)
  clear hK K
  try simp only[Act.put,aqA,aqB,aqC]
  exact wpAnyH_done (Q:=calmD Q) (by kernel_rfl) h _
 ·go_simp
  refine hK.out _ _ hS (λ_=>?_)
  clear hK K
  try simp only[Act.put,aqA,aqB,aqC]
  refine wpAnyH_takes (by kernel_rfl) hp hS [(11,some 24,.int .i64 0),(12,some 25,.int .i64 0)] (by kernel_rfl) ?_ ?_
  ·repeat (refine tkY_cons rfl (λV hV=>?_) ?_;(·have s0:=hV;(try obtain⟨s1,s2⟩:=s0);go_split_ands;go_simp;all_goals (first|assumption|omega));simp only[Act.put,aqA,aqB,aqC])
   exact True.intro
  simp only[tkA,Act.put,aqA,aqB,aqC]
  refine wpAnyH_ready (rs:=[4]) (by kernel_rfl) (by simp) ?_
  refine(AllReadyH.cons rfl (λK hK=>?_) AllReadyH.nil)
  go_simp
  refine hK.out _ _ hS (λ_=>?_)
  clear hK K
  try simp only[Act.put,aqA,aqB,aqC]
  refine wpAnyH_takes (by kernel_rfl) hp hS [(13,some 26,.slice none 0 0),(14,some 27,.pointer (some ⟨gF,i*3,none⟩)),(15,some 28,.pointer (some ⟨gF,i*3+1,none⟩))] (by kernel_rfl) ?_ ?_
  ·repeat (refine tkY_cons rfl (λV hV=>?_) ?_;(·have s0:=hV;(try obtain⟨s1,s2⟩:=s0);go_split_ands;go_simp;all_goals (first|assumption|omega));simp only[Act.put,aqA,aqB,aqC])
   exact True.intro
  simp only[tkA,Act.put,aqA,aqB,aqC]
  refine wpAnyH_ready (rs:=[16]) (by kernel_rfl) (by simp) ?_
  refine(AllReadyH.cons rfl (λK hK=>?_) AllReadyH.nil)
  go_simp
  refine hK.out _ _ (hcx _) (λ_=>?_)
  clear hK K
  try simp only[Act.put,aqA,aqB,aqC]
  exact wpAnyH_done (Q:=calmD Q) (by kernel_rfl) h _
end Go.Proofs.YtllhbhogfffedaaGreatDoor.K
namespace Go.Proofs.YtllhbhogfffedaaGreatDoor.K
open Go.RowKit
set_option linter.unusedVariables false
set_option linter.unusedSimpArgs false
def cutN (f:Fl) (N:Int):Nat:=(min (max N 0) (f.bs.length:Int)).toNat
def cutF (fs:List Fl) (i:Nat) (N:Int):List Fl:=setF fs i (λf=>⟨f.nm,f.bs.take (cutN f N),(cutN f N:Int)⟩)
theorem set_set' {α:Type} (l:List α) (i:Nat) (x y:α):(l.set i x).set i y=l.set i y:=by simp
theorem Dc.cut {W:World} {x gF nf cf i k:Nat} {F:Nat-> Prop} {D:Dk} {L:List Fv} {p:Fv} {v':Value} (h:Dc W x F D (.slice (some ⟨gF,0,none⟩) nf cf) L) (hp:L[i]?=some p) (r1:W.ownsRow 0 5 1 v' (p.1.bs.take k).length ((p.1.bs.take k).map (Value.int .u8))) (r3:v'.ownBlock=p.2.ownBlock):
 Dc (W.setCell ⟨gF,i*3+1,none⟩ v') x F (D.fs' (D.fs.set i ⟨p.1.nm,p.1.bs.take k,p.1.sf⟩)) (.slice (some ⟨gF,0,none⟩) nf cf) (L.set i (⟨p.1.nm,p.1.bs.take k,p.1.sf⟩,v')):=by
 have h1:=h.app hp r1 ⟨rfl,rfl,rfl,aqH _,λ_ _ _=>rfl⟩ (.inl r3)
 exact h1.mono (λk' h' hl=>h'.elim id (λq=>by simp[World.setCell] at hl;omega))
theorem clCut_any (w:World) (Db Ib Sb d x i:Nat) (N:Int) (F:Nat-> Prop) (D:Dk) (B:Nat) (h:Dm w x F D) (hk:D.Ok B) (hB:B<= 1099511627776) (hkl:i < D.fs.length)
 (hD:w.cell? ⟨Db,0,none⟩=some (.pointer (some ⟨d,0,none⟩))) (hd:w.cell? ⟨d,0,none⟩=some (.pointer (some ⟨x,0,none⟩))) (hI:w.cell? ⟨Ib,0,none⟩=some (.int .i64 (i:Int))) (hS:w.cell? ⟨Sb,0,none⟩=some (.int .i64 N)) (nD:¬F Db) (nd:¬F d) (nI:¬F Ib) (nS:¬F Sb):
 Calls Tryz.prog 76 #[.pointer (some ⟨Db,0,none⟩),.pointer (some ⟨Ib,0,none⟩),.pointer (some ⟨Sb,0,none⟩)] w λe w'=>ClP x F D (cutF D.fs i N) w e w':=by
 obtain⟨vf,L,hc⟩:=h
 obtain⟨p,hp⟩:∃p,L[i]?=some p:=⟨_,List.getElem?_eq_getElem (by rw[hc.len] at hkl;exact hkl)⟩
 obtain⟨gF,cf,hv,hFg,hgl,k0,k1,k2,kz⟩:=hc.at hp
 obtain⟨n,hn⟩:∃n,L.length=n:=⟨_,rfl⟩
 rw[hn] at hv
 subst hv
 have HC:Hid (Dc w x F D (.slice (some ⟨gF,0,none⟩) n cf) L/\ L[i]?=some p/\ F gF):=⟨hc,hp,hFg⟩
 have hin:(i:Int) < (n:Int):=by rw[hc.len,hn] at hkl;omega
 have hi0:(0:Int)<= (i:Int):=by omega
 have c0:w.cell? ⟨x,0,none⟩=some (.slice (some ⟨gF,0,none⟩) n cf):=hc.c 0
 have e4:Sb≠gF:=λe=>nS (e ▸ hFg)
 have HZ:Hid (w.cell? ⟨gF,i*3+1,none⟩=some p.2/\ ∀j,w.frozen? ⟨gF,j,none⟩=false):=⟨k1,kz⟩
 have HS:Hid (w.cell? ⟨Sb,0,none⟩=some (.int .i64 N)):=hS
 have HK:Hid ((cutN p.1 N:Int)=min (max N 0) (p.1.bs.length:Int)):=by show _=_;unfold cutN;omega
 clear hc hp hn hk hkl nD nd nI nS k0 k1 k2 kz hFg
 go_enter Tryz.func76,Tryz.ntmps76
 go_wp2_with fail
 go_region_held3 (λV=>V.cell? ⟨Db,0,none⟩=some (.pointer (some ⟨d,0,none⟩))/\ V.cell? ⟨d,0,none⟩=some (.pointer (some ⟨x,0,none⟩))/\ V.cell? ⟨Ib,0,none⟩=some (.int .i64 (i:Int))/\ V.cell? ⟨x,0,none⟩=some (.slice (some ⟨gF,0,none⟩) n cf))
  (first|exact⟨hD,hd,hI,c0⟩)
  (fail)
 obtain⟨V,hV⟩:∃V,w.drew=V:=⟨_,rfl⟩
 rw[hV]
 have HV:Hid (Dc V.drew x F D (.slice (some ⟨gF,0,none⟩) n cf) L/\ Kd F w V.drew/\ V.drew.cell? ⟨Sb,0,none⟩=some (.int .i64 N)/\ V.drew.cell? ⟨gF,i*3+1,none⟩=some p.2/\ ∀j,V.drew.frozen? ⟨gF,j,none⟩=false):=by
  rw[←hV];exact⟨HC.out.1.same (λ_ _ _=>rfl),(Kd.refl _ _).drew.drew,HS.out,HZ.out.1,HZ.out.2⟩
 clear hV hD hd hI hS c0
 obtain⟨K,hKK⟩:∃K,cutN p.1 N=K:=⟨_,rfl⟩
 have hby:=HV.out.1.byt i p HC.out.2.1
 have HR:∀(v':Value) (V2:World),V2=V.drew.setCell ⟨gF,i*3+1,none⟩ v'-> V.drew.ownsRow 0 5 1 v' (p.1.bs.take K).length ((p.1.bs.take K).map (Value.int .u8))-> v'.ownBlock=p.2.ownBlock-> Hid (∃a c,v'=.slice a K c/\ V2.cell? ⟨gF,i*3+1,none⟩=some v'/\ (∃y,V2.cell? ⟨gF,i*3+2,none⟩=some y)/\ V2.frozen? ⟨gF,i*3+2,none⟩=false/\ ClP x F D (cutF D.fs i N) w (.returned (.tuple #[])) (V2.setCell ⟨gF,i*3+2,none⟩ (.int .i64 (K:Int)))):=by
  intro v' V2 hV2 r1 r3
  obtain⟨hc,hp,hFg⟩:=HC.out
  have hKl:K<= p.1.bs.length:=by have:=HK.out;omega
  have hlen:(p.1.bs.take K).length=K:=by rw[List.length_take];omega
  have h1:=HV.out.1.cut hp r1 r3
  rw[←hV2] at h1
  have hp2:(L.set i (((⟨p.1.nm,p.1.bs.take K,p.1.sf⟩:Fl),v'):Fv))[i]?=some (⟨p.1.nm,p.1.bs.take K,p.1.sf⟩,v'):=by
   rw[List.getElem?_set_self (List.getElem?_eq_some_iff.mp hp).1]
  obtain⟨g2,c2,hv2,_,_,q0,q1,q2,q3⟩:=h1.at hp2
  obtain⟨rfl,_,rfl⟩:gF=g2/\ _/\ cf=c2:=by simpa using hv2
  obtain⟨a,c,hsh⟩:=d_shape r1
  rw[hlen] at hsh
  have h2:=h1.cellF hp2 (k:=i*3+2) (v:=.int .i64 (K:Int)) (q:=⟨p.1.nm,p.1.bs.take K,(K:Int)⟩) rfl (fcell_set2 _ hp2)
  rw[set_set'] at h2
  refine⟨a,c,hsh,q1,⟨_,q2⟩,q3 _,⟨_,rfl⟩,?_,?_⟩
  ·unfold cutF
   rw[setF_at (hc.file hp),hKK]
   have h3:(D.fs' (D.fs.set i ⟨p.1.nm,p.1.bs.take K,p.1.sf⟩)).fs.set i ⟨p.1.nm,p.1.bs.take K,(K:Int)⟩=D.fs.set i ⟨p.1.nm,p.1.bs.take K,(K:Int)⟩:=set_set' _ _ _ _
   rw[h3] at h2
   exact Dm.up ⟨_,_,h2⟩
  ·rw[hV2]
   exact HV.out.2.1.trans ((Kd.set hFg).trans (Kd.set hFg))
 obtain⟨M,hM⟩:∃M,(if N < 0 then 0 else N)=M:=⟨_,rfl⟩
 have hM0:0<= M/\ M=max N 0:=by rw[←hM];split<;>omega
 have HM:Hid ((if N < 0 then 0 else N)=M):=hM
 clear hM
 obtain⟨_,⟨hpn,hp0⟩|⟨gv,cv,cur,hpv,_⟩⟩:=id hby
 ·have hK0:K=0:=by have:=HK.out;rw[hp0] at this;omega
  have hR:=HR (.slice none 0 0) _ rfl (by rw[hK0];exact World.ownsRow_nil _ _ _ _) (by rw[hpn])
  rw[hK0] at hR
  clear HR
  go_wp2_with fail
  refine regCutN _ Sb gF i N M V HM.out (by omega) (by rw[←hpn];exact HV.out.2.2.2.1) (HV.out.2.2.2.2 _) HV.out.2.2.1 (λy=>set_cell HV.out.2.2.1 e4) ?_
  obtain⟨a,c,he,q1,⟨y,q2⟩,q3,q4⟩:=hR.out
  obtain⟨V2,hV2⟩:∃V2,V.drew.setCell ⟨gF,i*3+1,none⟩ (.slice none 0 0)=V2:=⟨_,rfl⟩
  rw[hV2] at q1 q2 q3 q4 ⊢
  have HQ:Hid _:=q4
  clear hR he q4 hV2 HV hby
  go_wp2
  refine bodyPost_end (v:=.tuple #[]) (by simp[results,Tryz.results76,go_sem]) rfl ?_
  exact HQ.out
 ·have hKl:K<= p.1.bs.length:=by have:=HK.out;omega
  have hcv:p.1.bs.length<= cv:=by
   obtain⟨_,⟨e,_⟩|⟨g',cap,cur',e,_,_,h5,_⟩⟩:=hby
   ·rw[hpv] at e;cases e
   ·rw[hpv] at e;cases e;exact h5
  have hR:=HR (.slice (some ⟨gv,0,none⟩) K cv) _ rfl (by
   rw[hpv] at hby
   have h1:=own_shrink hby hKl
   rw[List.length_take,Nat.min_eq_left hKl,List.map_take]
   simpa using h1) (by rw[hpv];rfl)
  have hm:(if ((p.1.bs.length:Nat):Int) < M then ((p.1.bs.length:Nat):Int) else M)=(K:Int):=by
   have:=HK.out
   rw[hKK] at this
   rw[this]
   split<;>omega
  clear HR
  go_wp2_with fail
  refine regCutS _ Sb gF i N M gv p.1.bs.length cv K V (by omega) (by omega) HM.out hm (by rw[←hpv];exact HV.out.2.2.2.1) (HV.out.2.2.2.2 _) HV.out.2.2.1 (λy=>set_cell HV.out.2.2.1 e4) ?_
  obtain⟨a,c,he,q1,⟨y,q2⟩,q3,q4⟩:=hR.out
  obtain⟨V2,hV2⟩:∃V2,V.drew.setCell ⟨gF,i*3+1,none⟩ (.slice (some ⟨gv,0,none⟩) K cv)=V2:=⟨_,rfl⟩
  rw[hV2] at q1 q2 q3 q4 ⊢
  have HQ:Hid _:=q4
  clear hR he q4 hV2 HV hby hm
  go_wp2
  refine bodyPost_end (v:=.tuple #[]) (by simp[results,Tryz.results76,go_sem]) rfl ?_
  exact HQ.out
def actB (D:Dk):Bool:=D.arm && decide (D.acts=0)
def actD (D:Dk) (fs:List Fl):Dk:=if actB D=true then {D with fs:=if D.dn=true then fs else D.fs,dw:=true} else {D with fs:=fs,acts:=if D.arm=true then D.acts - 1 else D.acts}
def errV (a:Addr):Value:=.iface 218 (.pointer (some a))
def evD (aD aF aN:Addr) (r:Nat):Value:=if r=0 then .nilIface else if r=1 then errV aF else if r=2 then errV aD else errV aN
def actA (D:Dk) (aD:Addr):Value:=if actB D=true then errV aD else .nilIface
theorem actA_t {D:Dk} {aD:Addr} (h:actB D=true):actA D aD=errV aD:=by unfold actA;rw[h];rfl
theorem actA_f {D:Dk} {aD:Addr} (h:actB D=false):actA D aD=.nilIface:=by unfold actA;rw[h];rfl
def actR (D:Dk):Nat:=if actB D=true then 2 else 0
section
variable {w:World} {x:Nat} {F:Nat-> Prop} {D:Dk}
theorem Dm.dw (h:Dm w x F D) (b:Bool):Dm (w.setCell ⟨x,5,none⟩ (.bool b)) x F {D with dw:=b}/\ w.cell? ⟨x,5,none⟩=some (.bool D.dw)/\ w.frozen? ⟨x,5,none⟩=false/\ F x:=by
 obtain⟨vf,L,h⟩:=h
 exact⟨⟨vf,L,h.boxed rfl (heap_setCell_same w x 5 _ _ _ h.box) (λk hk=>heap_setCell_other _ _ _ _ hk)⟩,h.c 5,h.z 5,h.fx⟩
theorem Dm.ac (h:Dm w x F D) (a:Int):Dm (w.setCell ⟨x,3,none⟩ (.int .i64 a)) x F {D with acts:=a}/\ w.cell? ⟨x,3,none⟩=some (.int .i64 D.acts)/\ w.frozen? ⟨x,3,none⟩=false/\ F x:=by
 obtain⟨vf,L,h⟩:=h
 exact⟨⟨vf,L,h.boxed rfl (heap_setCell_same w x 3 _ _ _ h.box) (λk hk=>heap_setCell_other _ _ _ _ hk)⟩,h.c 3,h.z 3,h.fx⟩
theorem Dm.c2 (h:Dm w x F D):w.cell? ⟨x,2,none⟩=some (.bool D.arm)/\ w.cell? ⟨x,4,none⟩=some (.bool D.dn)/\ w.cell? ⟨x,1,none⟩=some (.int .i64 D.room):=by
 obtain⟨vf,L,h⟩:=h
 exact⟨h.c 2,h.c 4,h.c 1⟩
end
theorem actApp (w:World) (x:Nat) (F:Nat-> Prop) (D:Dk) (fs:List Fl) (B:Nat) (p q r:Value) (aD:Addr) (h:Dm w x F D) (hk:D.Ok B) (hE:w.cell? ⟨0,0,none⟩=some (errV aD)) (nE:¬F 0)
 (hcl:∀V D1,Dm V x F D1-> D1.fs=D.fs-> D1.Ok B-> Kd F w V-> Calls Tryz.prog 58 #[p,q,r] V λe w'=>ClP x F D1 fs V e w'):
 Calls Tryz.prog 57 #[.pointer (some ⟨x,0,none⟩),.func (.func 58) #[] #[p,q,r]] w λe w'=>e=.returned (actA D aD)/\ Dm w' x (up F w) (actD D fs)/\ Kd F w w':=by
 obtain⟨k2,k4,_⟩:=h.c2
 obtain⟨_,k3,z3,hfx⟩:=h.ac 0
 obtain⟨_,k5,z5,_⟩:=h.dw true
 have hxE:x≠0:=λe=>nE (e ▸ hfx)
 have HD:Hid (Dm w x F D):=h
 have HE:Hid (w.cell? ⟨0,0,none⟩=some (errV aD)/\ (¬F 0)/\ F x):=⟨hE,nE,hfx⟩
 obtain⟨ev,hev⟩:∃v,errV aD=v:=⟨_,rfl⟩
 have hev':∃t p,ev=.iface t p:=⟨_,_,hev.symm⟩
 have HV:Hid (errV aD=ev):=hev
 rw[hev] at hE
 obtain⟨tE,pE,rfl⟩:=hev'
 have HCl:Hid (∀V D1,Dm V x F D1-> D1.fs=D.fs-> D1.Ok B-> Kd F w V-> Calls Tryz.prog 58 #[p,q,r] V λe w'=>ClP x F D1 fs V e w'):=hcl
 have HK:Hid (D.Ok B):=hk
 clear h hcl hk nE hev
 cases ha:D.arm with
 |false=>
  rw[ha] at k2
  have HR:Hid (actB D=false/\ actD D fs=D.fs' fs):=by
   have h1:actB D=false:=by unfold actB;rw[ha];rfl
   refine⟨h1,?_⟩
   unfold actD
   rw[h1]
   simp[Dk.fs',ha]
  have hc:=HCl.out w D HD.out rfl HK.out (Kd.refl _ _)
  clear HCl
  go_enter Tryz.func57,Tryz.ntmps57
  go_wp2_with (go_at_call 58;refine hc.mono ?_;rintro e w3 ⟨⟨v3,rfl⟩,hq3,hq4⟩)
  go_ret
  rw[actA_f HR.out.1,HR.out.2]
  exact⟨rfl,hq3,hq4⟩
 |true=>
  rw[ha] at k2
  by_cases h0:D.acts=0
  ·have HB:Hid (actB D=true):=by show _=_;unfold actB;rw[ha,h0];rfl
   rw[h0] at k3
   cases hn:D.dn with
   |true=>
    rw[hn] at k4
    have HR:Hid (actD D fs={D.fs' fs with dw:=true}):=by show _=_;unfold actD;rw[HB.out];simp[Dk.fs',hn]
    have hc:=HCl.out w D HD.out rfl HK.out (Kd.refl _ _)
    clear HCl
    go_enter Tryz.func57,Tryz.ntmps57
    go_wp2_with (go_at_call 58;refine hc.mono ?_;rintro e w3 ⟨⟨v3,rfl⟩,hq3,hq4⟩
                 have HQ:Hid (Dm w3 x (up F w) (D.fs' fs)/\ Kd F w w3):=⟨hq3,hq4⟩
                 obtain⟨y1,y2,y3,y4⟩:=hq3.dw true
                 have y5:=HV.out ▸ (set_cell (g:=x) (j:=5) (u:=Value.bool true) (hq4.cell HE.out.1 HE.out.2.1) (λe=>hxE e.symm))
                 clear hq3 hq4 y1 y4)
    go_ret
    rw[actA_t HB.out,HR.out]
    refine⟨by rw[HV.out];rfl,(HQ.out.1.dw true).1,HQ.out.2.trans (Kd.set HE.out.2.2)⟩
   |false=>
    rw[hn] at k4
    have HR:Hid (actD D fs={D with dw:=true}):=by show _=_;unfold actD;rw[HB.out];simp[hn]
    have y5:=HV.out ▸ (set_cell (g:=x) (j:=5) (u:=Value.bool true) HE.out.1 (λe=>hxE e.symm))
    clear HCl
    go_enter Tryz.func57,Tryz.ntmps57
    go_wp2
    go_ret
    rw[actA_t HB.out,HR.out]
    exact⟨by rw[HV.out];rfl,((HD.out.dw true).1).mono (λk h _=>.inl h),Kd.set HE.out.2.2⟩
  ·have HB:Hid (actB D=false):=by show _=_;unfold actB;rw[ha];simp[h0]
   have hz:¬D.acts=0:=h0
   have hzb:(D.acts == 0)=false:=by simp[h0]
   have HR:Hid (actD D fs={D with fs:=fs,acts:=D.acts - 1}):=by show _=_;unfold actD;rw[HB.out];simp[ha]
   have hwa:IntKind.i64.wrap (D.acts - 1)=D.acts - 1:=by have:=HK.out.acts;rw[IntKind.wrap_i64];omega
   obtain⟨W,hW⟩:∃W,w.setCell ⟨x,3,none⟩ (.int .i64 (D.acts - 1))=W:=⟨_,rfl⟩
   have hK1:Kd F w W:=by rw[←hW];exact Kd.set HE.out.2.2
   have hDW:Dm W x F {D with acts:=D.acts - 1}:=by rw[←hW];exact(HD.out.ac _).1
   have hc:=HCl.out W {D with acts:=D.acts - 1} hDW rfl ⟨HK.out.fs,HK.out.len,HK.out.used,HK.out.room,by have:=HK.out.acts;show 0<= D.acts - 1/\ D.acts - 1<= _;omega⟩ hK1
   have HK1:Hid (Kd F w W/\ W.heap.size=w.heap.size):=⟨hK1,by rw[←hW];simp[World.setCell]⟩
   clear HCl hK1 hDW
   go_enter Tryz.func57,Tryz.ntmps57
   go_wp2_with (go_at_call 58;refine hc.mono ?_;rintro e w3 ⟨⟨v3,rfl⟩,hq3,hq4⟩
                have HQ:Hid (Dm w3 x (up F W) ({D with acts:=D.acts - 1}.fs' fs)/\ Kd F W w3):=⟨hq3,hq4⟩
                clear hq3 hq4)
   go_ret
   rw[actA_f HB.out,HR.out]
   refine⟨rfl,HQ.out.1.mono (λk h _=>h.imp id (λe=>by have:=HK1.out.2;omega)),HK1.out.1.trans HQ.out.2⟩
theorem actSyn (w:World) (x:Nat) (F:Nat-> Prop) (D:Dk) (fs:List Fl) (B:Nat) (p q:Value) (aD:Addr) (h:Dm w x F D) (hk:D.Ok B) (hE:w.cell? ⟨0,0,none⟩=some (errV aD)) (nE:¬F 0)
 (hcl:∀V D1,Dm V x F D1-> D1.fs=D.fs-> D1.Ok B-> Kd F w V-> Calls Tryz.prog 60 #[p,q] V λe w'=>ClP x F D1 fs V e w'):
 Calls Tryz.prog 57 #[.pointer (some ⟨x,0,none⟩),.func (.func 60) #[] #[p,q]] w λe w'=>e=.returned (actA D aD)/\ Dm w' x (up F w) (actD D fs)/\ Kd F w w':=by
 obtain⟨k2,k4,_⟩:=h.c2
 obtain⟨_,k3,z3,hfx⟩:=h.ac 0
 obtain⟨_,k5,z5,_⟩:=h.dw true
 have hxE:x≠0:=λe=>nE (e ▸ hfx)
 have HD:Hid (Dm w x F D):=h
 have HE:Hid (w.cell? ⟨0,0,none⟩=some (errV aD)/\ (¬F 0)/\ F x):=⟨hE,nE,hfx⟩
 obtain⟨ev,hev⟩:∃v,errV aD=v:=⟨_,rfl⟩
 have hev':∃t p,ev=.iface t p:=⟨_,_,hev.symm⟩
 have HV:Hid (errV aD=ev):=hev
 rw[hev] at hE
 obtain⟨tE,pE,rfl⟩:=hev'
 have HCl:Hid (∀V D1,Dm V x F D1-> D1.fs=D.fs-> D1.Ok B-> Kd F w V-> Calls Tryz.prog 60 #[p,q] V λe w'=>ClP x F D1 fs V e w'):=hcl
 have HK:Hid (D.Ok B):=hk
 clear h hcl hk nE hev
 cases ha:D.arm with
 |false=>
  rw[ha] at k2
  have HR:Hid (actB D=false/\ actD D fs=D.fs' fs):=by
   have h1:actB D=false:=by unfold actB;rw[ha];rfl
   refine⟨h1,?_⟩
   unfold actD
   rw[h1]
   simp[Dk.fs',ha]
  have hc:=HCl.out w D HD.out rfl HK.out (Kd.refl _ _)
  clear HCl
  go_enter Tryz.func57,Tryz.ntmps57
  go_wp2_with (go_at_call 60;refine hc.mono ?_;rintro e w3 ⟨⟨v3,rfl⟩,hq3,hq4⟩)
  go_ret
  rw[actA_f HR.out.1,HR.out.2]
  exact⟨rfl,hq3,hq4⟩
 |true=>
  rw[ha] at k2
  by_cases h0:D.acts=0
  ·have HB:Hid (actB D=true):=by show _=_;unfold actB;rw[ha,h0];rfl
   rw[h0] at k3
   cases hn:D.dn with
   |true=>
    rw[hn] at k4
    have HR:Hid (actD D fs={D.fs' fs with dw:=true}):=by show _=_;unfold actD;rw[HB.out];simp[Dk.fs',hn]
    have hc:=HCl.out w D HD.out rfl HK.out (Kd.refl _ _)
    clear HCl
    go_enter Tryz.func57,Tryz.ntmps57
    go_wp2_with (go_at_call 60;refine hc.mono ?_;rintro e w3 ⟨⟨v3,rfl⟩,hq3,hq4⟩
                 have HQ:Hid (Dm w3 x (up F w) (D.fs' fs)/\ Kd F w w3):=⟨hq3,hq4⟩
                 obtain⟨y1,y2,y3,y4⟩:=hq3.dw true
                 have y5:=HV.out ▸ (set_cell (g:=x) (j:=5) (u:=Value.bool true) (hq4.cell HE.out.1 HE.out.2.1) (λe=>hxE e.symm))
                 clear hq3 hq4 y1 y4)
    go_ret
    rw[actA_t HB.out,HR.out]
    refine⟨by rw[HV.out];rfl,(HQ.out.1.dw true).1,HQ.out.2.trans (Kd.set HE.out.2.2)⟩
   |false=>
    rw[hn] at k4
    have HR:Hid (actD D fs={D with dw:=true}):=by show _=_;unfold actD;rw[HB.out];simp[hn]
    have y5:=HV.out ▸ (set_cell (g:=x) (j:=5) (u:=Value.bool true) HE.out.1 (λe=>hxE e.symm))
    clear HCl
    go_enter Tryz.func57,Tryz.ntmps57
    go_wp2
    go_ret
    rw[actA_t HB.out,HR.out]
    exact⟨by rw[HV.out];rfl,((HD.out.dw true).1).mono (λk h _=>.inl h),Kd.set HE.out.2.2⟩
  ·have HB:Hid (actB D=false):=by show _=_;unfold actB;rw[ha];simp[h0]
   have hz:¬D.acts=0:=h0
   have hzb:(D.acts == 0)=false:=by simp[h0]
   have HR:Hid (actD D fs={D with fs:=fs,acts:=D.acts - 1}):=by show _=_;unfold actD;rw[HB.out];simp[ha]
   have hwa:IntKind.i64.wrap (D.acts - 1)=D.acts - 1:=by have:=HK.out.acts;rw[IntKind.wrap_i64];omega
   obtain⟨W,hW⟩:∃W,w.setCell ⟨x,3,none⟩ (.int .i64 (D.acts - 1))=W:=⟨_,rfl⟩
   have hK1:Kd F w W:=by rw[←hW];exact Kd.set HE.out.2.2
   have hDW:Dm W x F {D with acts:=D.acts - 1}:=by rw[←hW];exact(HD.out.ac _).1
   have hc:=HCl.out W {D with acts:=D.acts - 1} hDW rfl ⟨HK.out.fs,HK.out.len,HK.out.used,HK.out.room,by have:=HK.out.acts;show 0<= D.acts - 1/\ D.acts - 1<= _;omega⟩ hK1
   have HK1:Hid (Kd F w W/\ W.heap.size=w.heap.size):=⟨hK1,by rw[←hW];simp[World.setCell]⟩
   clear HCl hK1 hDW
   go_enter Tryz.func57,Tryz.ntmps57
   go_wp2_with (go_at_call 60;refine hc.mono ?_;rintro e w3 ⟨⟨v3,rfl⟩,hq3,hq4⟩
                have HQ:Hid (Dm w3 x (up F W) ({D with acts:=D.acts - 1}.fs' fs)/\ Kd F W w3):=⟨hq3,hq4⟩
                clear hq3 hq4)
   go_ret
   rw[actA_f HB.out,HR.out]
   refine⟨rfl,HQ.out.1.mono (λk h _=>h.imp id (λe=>by have:=HK1.out.2;omega)),HK1.out.1.trans HQ.out.2⟩
theorem actRen (w:World) (x:Nat) (F:Nat-> Prop) (D:Dk) (fs:List Fl) (B:Nat) (p q r:Value) (aD:Addr) (h:Dm w x F D) (hk:D.Ok B) (hE:w.cell? ⟨0,0,none⟩=some (errV aD)) (nE:¬F 0)
 (hcl:∀V D1,Dm V x F D1-> D1.fs=D.fs-> D1.Ok B-> Kd F w V-> Calls Tryz.prog 84 #[p,q,r] V λe w'=>ClP x F D1 fs V e w'):
 Calls Tryz.prog 57 #[.pointer (some ⟨x,0,none⟩),.func (.func 84) #[] #[p,q,r]] w λe w'=>e=.returned (actA D aD)/\ Dm w' x (up F w) (actD D fs)/\ Kd F w w':=by
 obtain⟨k2,k4,_⟩:=h.c2
 obtain⟨_,k3,z3,hfx⟩:=h.ac 0
 obtain⟨_,k5,z5,_⟩:=h.dw true
 have hxE:x≠0:=λe=>nE (e ▸ hfx)
 have HD:Hid (Dm w x F D):=h
 have HE:Hid (w.cell? ⟨0,0,none⟩=some (errV aD)/\ (¬F 0)/\ F x):=⟨hE,nE,hfx⟩
 obtain⟨ev,hev⟩:∃v,errV aD=v:=⟨_,rfl⟩
 have hev':∃t p,ev=.iface t p:=⟨_,_,hev.symm⟩
 have HV:Hid (errV aD=ev):=hev
 rw[hev] at hE
 obtain⟨tE,pE,rfl⟩:=hev'
 have HCl:Hid (∀V D1,Dm V x F D1-> D1.fs=D.fs-> D1.Ok B-> Kd F w V-> Calls Tryz.prog 84 #[p,q,r] V λe w'=>ClP x F D1 fs V e w'):=hcl
 have HK:Hid (D.Ok B):=hk
 clear h hcl hk nE hev
 cases ha:D.arm with
 |false=>
  rw[ha] at k2
  have HR:Hid (actB D=false/\ actD D fs=D.fs' fs):=by
   have h1:actB D=false:=by unfold actB;rw[ha];rfl
   refine⟨h1,?_⟩
   unfold actD
   rw[h1]
   simp[Dk.fs',ha]
  have hc:=HCl.out w D HD.out rfl HK.out (Kd.refl _ _)
  clear HCl
  go_enter Tryz.func57,Tryz.ntmps57
  go_wp2_with (go_at_call 84;refine hc.mono ?_;rintro e w3 ⟨⟨v3,rfl⟩,hq3,hq4⟩)
  go_ret
  rw[actA_f HR.out.1,HR.out.2]
  exact⟨rfl,hq3,hq4⟩
 |true=>
  rw[ha] at k2
  by_cases h0:D.acts=0
  ·have HB:Hid (actB D=true):=by show _=_;unfold actB;rw[ha,h0];rfl
   rw[h0] at k3
   cases hn:D.dn with
   |true=>
    rw[hn] at k4
    have HR:Hid (actD D fs={D.fs' fs with dw:=true}):=by show _=_;unfold actD;rw[HB.out];simp[Dk.fs',hn]
    have hc:=HCl.out w D HD.out rfl HK.out (Kd.refl _ _)
    clear HCl
    go_enter Tryz.func57,Tryz.ntmps57
    go_wp2_with (go_at_call 84;refine hc.mono ?_;rintro e w3 ⟨⟨v3,rfl⟩,hq3,hq4⟩
                 have HQ:Hid (Dm w3 x (up F w) (D.fs' fs)/\ Kd F w w3):=⟨hq3,hq4⟩
                 obtain⟨y1,y2,y3,y4⟩:=hq3.dw true
                 have y5:=HV.out ▸ (set_cell (g:=x) (j:=5) (u:=Value.bool true) (hq4.cell HE.out.1 HE.out.2.1) (λe=>hxE e.symm))
                 clear hq3 hq4 y1 y4)
    go_ret
    rw[actA_t HB.out,HR.out]
    refine⟨by rw[HV.out];rfl,(HQ.out.1.dw true).1,HQ.out.2.trans (Kd.set HE.out.2.2)⟩
   |false=>
    rw[hn] at k4
    have HR:Hid (actD D fs={D with dw:=true}):=by show _=_;unfold actD;rw[HB.out];simp[hn]
    have y5:=HV.out ▸ (set_cell (g:=x) (j:=5) (u:=Value.bool true) HE.out.1 (λe=>hxE e.symm))
    clear HCl
    go_enter Tryz.func57,Tryz.ntmps57
    go_wp2
    go_ret
    rw[actA_t HB.out,HR.out]
    exact⟨by rw[HV.out];rfl,((HD.out.dw true).1).mono (λk h _=>.inl h),Kd.set HE.out.2.2⟩
  ·have HB:Hid (actB D=false):=by show _=_;unfold actB;rw[ha];simp[h0]
   have hz:¬D.acts=0:=h0
   have hzb:(D.acts == 0)=false:=by simp[h0]
   have HR:Hid (actD D fs={D with fs:=fs,acts:=D.acts - 1}):=by show _=_;unfold actD;rw[HB.out];simp[ha]
   have hwa:IntKind.i64.wrap (D.acts - 1)=D.acts - 1:=by have:=HK.out.acts;rw[IntKind.wrap_i64];omega
   obtain⟨W,hW⟩:∃W,w.setCell ⟨x,3,none⟩ (.int .i64 (D.acts - 1))=W:=⟨_,rfl⟩
   have hK1:Kd F w W:=by rw[←hW];exact Kd.set HE.out.2.2
   have hDW:Dm W x F {D with acts:=D.acts - 1}:=by rw[←hW];exact(HD.out.ac _).1
   have hc:=HCl.out W {D with acts:=D.acts - 1} hDW rfl ⟨HK.out.fs,HK.out.len,HK.out.used,HK.out.room,by have:=HK.out.acts;show 0<= D.acts - 1/\ D.acts - 1<= _;omega⟩ hK1
   have HK1:Hid (Kd F w W/\ W.heap.size=w.heap.size):=⟨hK1,by rw[←hW];simp[World.setCell]⟩
   clear HCl hK1 hDW
   go_enter Tryz.func57,Tryz.ntmps57
   go_wp2_with (go_at_call 84;refine hc.mono ?_;rintro e w3 ⟨⟨v3,rfl⟩,hq3,hq4⟩
                have HQ:Hid (Dm w3 x (up F W) ({D with acts:=D.acts - 1}.fs' fs)/\ Kd F W w3):=⟨hq3,hq4⟩
                clear hq3 hq4)
   go_ret
   rw[actA_f HB.out,HR.out]
   refine⟨rfl,HQ.out.1.mono (λk h _=>h.imp id (λe=>by have:=HK1.out.2;omega)),HK1.out.1.trans HQ.out.2⟩
theorem actRem (w:World) (x:Nat) (F:Nat-> Prop) (D:Dk) (fs:List Fl) (B:Nat) (p q:Value) (aD:Addr) (h:Dm w x F D) (hk:D.Ok B) (hE:w.cell? ⟨0,0,none⟩=some (errV aD)) (nE:¬F 0)
 (hcl:∀V D1,Dm V x F D1-> D1.fs=D.fs-> D1.Ok B-> Kd F w V-> Calls Tryz.prog 101 #[p,q] V λe w'=>ClP x F D1 fs V e w'):
 Calls Tryz.prog 57 #[.pointer (some ⟨x,0,none⟩),.func (.func 101) #[] #[p,q]] w λe w'=>e=.returned (actA D aD)/\ Dm w' x (up F w) (actD D fs)/\ Kd F w w':=by
 obtain⟨k2,k4,_⟩:=h.c2
 obtain⟨_,k3,z3,hfx⟩:=h.ac 0
 obtain⟨_,k5,z5,_⟩:=h.dw true
 have hxE:x≠0:=λe=>nE (e ▸ hfx)
 have HD:Hid (Dm w x F D):=h
 have HE:Hid (w.cell? ⟨0,0,none⟩=some (errV aD)/\ (¬F 0)/\ F x):=⟨hE,nE,hfx⟩
 obtain⟨ev,hev⟩:∃v,errV aD=v:=⟨_,rfl⟩
 have hev':∃t p,ev=.iface t p:=⟨_,_,hev.symm⟩
 have HV:Hid (errV aD=ev):=hev
 rw[hev] at hE
 obtain⟨tE,pE,rfl⟩:=hev'
 have HCl:Hid (∀V D1,Dm V x F D1-> D1.fs=D.fs-> D1.Ok B-> Kd F w V-> Calls Tryz.prog 101 #[p,q] V λe w'=>ClP x F D1 fs V e w'):=hcl
 have HK:Hid (D.Ok B):=hk
 clear h hcl hk nE hev
 cases ha:D.arm with
 |false=>
  rw[ha] at k2
  have HR:Hid (actB D=false/\ actD D fs=D.fs' fs):=by
   have h1:actB D=false:=by unfold actB;rw[ha];rfl
   refine⟨h1,?_⟩
   unfold actD
   rw[h1]
   simp[Dk.fs',ha]
  have hc:=HCl.out w D HD.out rfl HK.out (Kd.refl _ _)
  clear HCl
  go_enter Tryz.func57,Tryz.ntmps57
  go_wp2_with (go_at_call 101;refine hc.mono ?_;rintro e w3 ⟨⟨v3,rfl⟩,hq3,hq4⟩)
  go_ret
  rw[actA_f HR.out.1,HR.out.2]
  exact⟨rfl,hq3,hq4⟩
 |true=>
  rw[ha] at k2
  by_cases h0:D.acts=0
  ·have HB:Hid (actB D=true):=by show _=_;unfold actB;rw[ha,h0];rfl
   rw[h0] at k3
   cases hn:D.dn with
   |true=>
    rw[hn] at k4
    have HR:Hid (actD D fs={D.fs' fs with dw:=true}):=by show _=_;unfold actD;rw[HB.out];simp[Dk.fs',hn]
    have hc:=HCl.out w D HD.out rfl HK.out (Kd.refl _ _)
    clear HCl
    go_enter Tryz.func57,Tryz.ntmps57
    go_wp2_with (go_at_call 101;refine hc.mono ?_;rintro e w3 ⟨⟨v3,rfl⟩,hq3,hq4⟩
                 have HQ:Hid (Dm w3 x (up F w) (D.fs' fs)/\ Kd F w w3):=⟨hq3,hq4⟩
                 obtain⟨y1,y2,y3,y4⟩:=hq3.dw true
                 have y5:=HV.out ▸ (set_cell (g:=x) (j:=5) (u:=Value.bool true) (hq4.cell HE.out.1 HE.out.2.1) (λe=>hxE e.symm))
                 clear hq3 hq4 y1 y4)
    go_ret
    rw[actA_t HB.out,HR.out]
    refine⟨by rw[HV.out];rfl,(HQ.out.1.dw true).1,HQ.out.2.trans (Kd.set HE.out.2.2)⟩
   |false=>
    rw[hn] at k4
    have HR:Hid (actD D fs={D with dw:=true}):=by show _=_;unfold actD;rw[HB.out];simp[hn]
    have y5:=HV.out ▸ (set_cell (g:=x) (j:=5) (u:=Value.bool true) HE.out.1 (λe=>hxE e.symm))
    clear HCl
    go_enter Tryz.func57,Tryz.ntmps57
    go_wp2
    go_ret
    rw[actA_t HB.out,HR.out]
    exact⟨by rw[HV.out];rfl,((HD.out.dw true).1).mono (λk h _=>.inl h),Kd.set HE.out.2.2⟩
  ·have HB:Hid (actB D=false):=by show _=_;unfold actB;rw[ha];simp[h0]
   have hz:¬D.acts=0:=h0
   have hzb:(D.acts == 0)=false:=by simp[h0]
   have HR:Hid (actD D fs={D with fs:=fs,acts:=D.acts - 1}):=by show _=_;unfold actD;rw[HB.out];simp[ha]
   have hwa:IntKind.i64.wrap (D.acts - 1)=D.acts - 1:=by have:=HK.out.acts;rw[IntKind.wrap_i64];omega
   obtain⟨W,hW⟩:∃W,w.setCell ⟨x,3,none⟩ (.int .i64 (D.acts - 1))=W:=⟨_,rfl⟩
   have hK1:Kd F w W:=by rw[←hW];exact Kd.set HE.out.2.2
   have hDW:Dm W x F {D with acts:=D.acts - 1}:=by rw[←hW];exact(HD.out.ac _).1
   have hc:=HCl.out W {D with acts:=D.acts - 1} hDW rfl ⟨HK.out.fs,HK.out.len,HK.out.used,HK.out.room,by have:=HK.out.acts;show 0<= D.acts - 1/\ D.acts - 1<= _;omega⟩ hK1
   have HK1:Hid (Kd F w W/\ W.heap.size=w.heap.size):=⟨hK1,by rw[←hW];simp[World.setCell]⟩
   clear HCl hK1 hDW
   go_enter Tryz.func57,Tryz.ntmps57
   go_wp2_with (go_at_call 101;refine hc.mono ?_;rintro e w3 ⟨⟨v3,rfl⟩,hq3,hq4⟩
                have HQ:Hid (Dm w3 x (up F W) ({D with acts:=D.acts - 1}.fs' fs)/\ Kd F W w3):=⟨hq3,hq4⟩
                clear hq3 hq4)
   go_ret
   rw[actA_f HB.out,HR.out]
   refine⟨rfl,HQ.out.1.mono (λk h _=>h.imp id (λe=>by have:=HK1.out.2;omega)),HK1.out.1.trans HQ.out.2⟩
theorem actCut (w:World) (x:Nat) (F:Nat-> Prop) (D:Dk) (fs:List Fl) (B:Nat) (p q r:Value) (aD:Addr) (h:Dm w x F D) (hk:D.Ok B) (hE:w.cell? ⟨0,0,none⟩=some (errV aD)) (nE:¬F 0)
 (hcl:∀V D1,Dm V x F D1-> D1.fs=D.fs-> D1.Ok B-> Kd F w V-> Calls Tryz.prog 76 #[p,q,r] V λe w'=>ClP x F D1 fs V e w'):
 Calls Tryz.prog 57 #[.pointer (some ⟨x,0,none⟩),.func (.func 76) #[] #[p,q,r]] w λe w'=>e=.returned (actA D aD)/\ Dm w' x (up F w) (actD D fs)/\ Kd F w w':=by
 obtain⟨k2,k4,_⟩:=h.c2
 obtain⟨_,k3,z3,hfx⟩:=h.ac 0
 obtain⟨_,k5,z5,_⟩:=h.dw true
 have hxE:x≠0:=λe=>nE (e ▸ hfx)
 have HD:Hid (Dm w x F D):=h
 have HE:Hid (w.cell? ⟨0,0,none⟩=some (errV aD)/\ (¬F 0)/\ F x):=⟨hE,nE,hfx⟩
 obtain⟨ev,hev⟩:∃v,errV aD=v:=⟨_,rfl⟩
 have hev':∃t p,ev=.iface t p:=⟨_,_,hev.symm⟩
 have HV:Hid (errV aD=ev):=hev
 rw[hev] at hE
 obtain⟨tE,pE,rfl⟩:=hev'
 have HCl:Hid (∀V D1,Dm V x F D1-> D1.fs=D.fs-> D1.Ok B-> Kd F w V-> Calls Tryz.prog 76 #[p,q,r] V λe w'=>ClP x F D1 fs V e w'):=hcl
 have HK:Hid (D.Ok B):=hk
 clear h hcl hk nE hev
 cases ha:D.arm with
 |false=>
  rw[ha] at k2
  have HR:Hid (actB D=false/\ actD D fs=D.fs' fs):=by
   have h1:actB D=false:=by unfold actB;rw[ha];rfl
   refine⟨h1,?_⟩
   unfold actD
   rw[h1]
   simp[Dk.fs',ha]
  have hc:=HCl.out w D HD.out rfl HK.out (Kd.refl _ _)
  clear HCl
  go_enter Tryz.func57,Tryz.ntmps57
  go_wp2_with (go_at_call 76;refine hc.mono ?_;rintro e w3 ⟨⟨v3,rfl⟩,hq3,hq4⟩)
  go_ret
  rw[actA_f HR.out.1,HR.out.2]
  exact⟨rfl,hq3,hq4⟩
 |true=>
  rw[ha] at k2
  by_cases h0:D.acts=0
  ·have HB:Hid (actB D=true):=by show _=_;unfold actB;rw[ha,h0];rfl
   rw[h0] at k3
   cases hn:D.dn with
   |true=>
    rw[hn] at k4
    have HR:Hid (actD D fs={D.fs' fs with dw:=true}):=by show _=_;unfold actD;rw[HB.out];simp[Dk.fs',hn]
    have hc:=HCl.out w D HD.out rfl HK.out (Kd.refl _ _)
    clear HCl
    go_enter Tryz.func57,Tryz.ntmps57
    go_wp2_with (go_at_call 76;refine hc.mono ?_;rintro e w3 ⟨⟨v3,rfl⟩,hq3,hq4⟩
                 have HQ:Hid (Dm w3 x (up F w) (D.fs' fs)/\ Kd F w w3):=⟨hq3,hq4⟩
                 obtain⟨y1,y2,y3,y4⟩:=hq3.dw true
                 have y5:=HV.out ▸ (set_cell (g:=x) (j:=5) (u:=Value.bool true) (hq4.cell HE.out.1 HE.out.2.1) (λe=>hxE e.symm))
                 clear hq3 hq4 y1 y4)
    go_ret
    rw[actA_t HB.out,HR.out]
    refine⟨by rw[HV.out];rfl,(HQ.out.1.dw true).1,HQ.out.2.trans (Kd.set HE.out.2.2)⟩
   |false=>
    rw[hn] at k4
    have HR:Hid (actD D fs={D with dw:=true}):=by show _=_;unfold actD;rw[HB.out];simp[hn]
    have y5:=HV.out ▸ (set_cell (g:=x) (j:=5) (u:=Value.bool true) HE.out.1 (λe=>hxE e.symm))
    clear HCl
    go_enter Tryz.func57,Tryz.ntmps57
    go_wp2
    go_ret
    rw[actA_t HB.out,HR.out]
    exact⟨by rw[HV.out];rfl,((HD.out.dw true).1).mono (λk h _=>.inl h),Kd.set HE.out.2.2⟩
  ·have HB:Hid (actB D=false):=by show _=_;unfold actB;rw[ha];simp[h0]
   have hz:¬D.acts=0:=h0
   have hzb:(D.acts == 0)=false:=by simp[h0]
   have HR:Hid (actD D fs={D with fs:=fs,acts:=D.acts - 1}):=by show _=_;unfold actD;rw[HB.out];simp[ha]
   have hwa:IntKind.i64.wrap (D.acts - 1)=D.acts - 1:=by have:=HK.out.acts;rw[IntKind.wrap_i64];omega
   obtain⟨W,hW⟩:∃W,w.setCell ⟨x,3,none⟩ (.int .i64 (D.acts - 1))=W:=⟨_,rfl⟩
   have hK1:Kd F w W:=by rw[←hW];exact Kd.set HE.out.2.2
   have hDW:Dm W x F {D with acts:=D.acts - 1}:=by rw[←hW];exact(HD.out.ac _).1
   have hc:=HCl.out W {D with acts:=D.acts - 1} hDW rfl ⟨HK.out.fs,HK.out.len,HK.out.used,HK.out.room,by have:=HK.out.acts;show 0<= D.acts - 1/\ D.acts - 1<= _;omega⟩ hK1
   have HK1:Hid (Kd F w W/\ W.heap.size=w.heap.size):=⟨hK1,by rw[←hW];simp[World.setCell]⟩
   clear HCl hK1 hDW
   go_enter Tryz.func57,Tryz.ntmps57
   go_wp2_with (go_at_call 76;refine hc.mono ?_;rintro e w3 ⟨⟨v3,rfl⟩,hq3,hq4⟩
                have HQ:Hid (Dm w3 x (up F W) ({D with acts:=D.acts - 1}.fs' fs)/\ Kd F W w3):=⟨hq3,hq4⟩
                clear hq3 hq4)
   go_ret
   rw[actA_f HB.out,HR.out]
   refine⟨rfl,HQ.out.1.mono (λk h _=>h.imp id (λe=>by have:=HK1.out.2;omega)),HK1.out.1.trans HQ.out.2⟩
def MP (x:Nat) (F:Nat-> Prop) (r:Dk×Nat) (aD aF aN:Addr) (w:World) (e:Ending) (w':World):Prop:=e=.returned (evD aD aF aN r.2)/\ Dm w' x (up F w) r.1/\ Kd F w w'
def appD (D:Dk) (s:ByteArray) (zs:List Int):Dk×Nat:=if D.dw=true then (D,2) else if D.room - (usd D.fs:Int) < (zs.length:Int) then (D,1) else (actD D (addF D.fs s zs),actR D)
def fileD (D:Dk) (s:ByteArray) (g:Nat-> List Fl):Dk×Nat:=if D.dw=true then (D,2) else match fnd D.fs s with|none=>(D,3)|some i=>(actD D (g i),actR D)
structure Er (w:World) (aD aF aN:Addr):Prop where
 d:w.cell? ⟨0,0,none⟩=some (errV aD)
 f:w.cell? ⟨1,0,none⟩=some (errV aF)
 n:w.cell? ⟨2,0,none⟩=some (errV aN)
def Ern (F:Nat-> Prop):Prop:=(¬F 0)/\ (¬F 1)/\ (¬F 2)
theorem evD_act {D:Dk} {aD aF aN:Addr}:actA D aD=evD aD aF aN (actR D):=by
 unfold actA evD actR
 split<;>simp
theorem Er.below {w w':World} {aD aF aN:Addr} (h:Er w aD aF aN) (hb:Below w.heap.size w w'):Er w' aD aF aN:=
 ⟨(World.cell?_of_block (hb.block _ (World.block_lt_of_cell? w _ h.d))).trans h.d,(World.cell?_of_block (hb.block _ (World.block_lt_of_cell? w _ h.f))).trans h.f,(World.cell?_of_block (hb.block _ (World.block_lt_of_cell? w _ h.n))).trans h.n⟩
theorem Er.kd {w w':World} {aD aF aN:Addr} {F:Nat-> Prop} (h:Er w aD aF aN) (hb:Kd F w w') (hn:Ern F):Er w' aD aF aN:=⟨hb.cell h.d hn.1,hb.cell h.f hn.2.1,hb.cell h.n hn.2.2⟩
def fc (F:Nat-> Prop) (w:World):Nat-> Prop:=λk=>F k/\ k < w.heap.size
theorem Dm.fc {w:World} {x:Nat} {F:Nat-> Prop} {D:Dk} (h:Dm w x F D):Dm w x (fc F w) D:=h.mono (λk h1 h2=>⟨h1,h2⟩)
theorem MP.of {x:Nat} {F:Nat-> Prop} {r:Dk×Nat} {aD aF aN:Addr} {w V w':World} {e:Ending} (hb:Below w.heap.size w V) (he:e=.returned (evD aD aF aN r.2)) (h1:Dm w' x (up (fc F w) V) r.1) (h2:Kd (fc F w) V w'):MP x F r aD aF aN w e w':=
 ⟨he,h1.mono (λk h _=>h.elim (λq=>.inl q.1) (λq=>.inr (Nat.le_trans hb.size q))),(Kd.below hb).trans (h2.mono (λk _ h=>h.1))⟩
theorem MP.same {x:Nat} {F:Nat-> Prop} {D:Dk} {n:Nat} {aD aF aN:Addr} {w V:World} {e:Ending} (hb:Below w.heap.size w V) (he:e=.returned (evD aD aF aN n)) (h1:Dm w x F D):MP x F (D,n) aD aF aN w e V:=
 ⟨he,(h1.below hb).mono (λk h _=>.inl h),Kd.below hb⟩
theorem bel_drew {w V:World} (h:Below w.heap.size w V):Below w.heap.size w V.drew:=⟨h.os,h.tape,h.output,h.size,h.block⟩
theorem bel_cell {w V:World} {b i:Nat} {v:Value} (h:Below w.heap.size w V) (hc:w.cell? ⟨b,i,none⟩=some v):V.cell? ⟨b,i,none⟩=some v:=
 (World.cell?_of_block (a:=⟨b,i,none⟩) (h.block b (World.block_lt_of_cell? w ⟨b,i,none⟩ hc))).trans hc
theorem lies_bel {w V:World} {a:Option Addr} {zs:List Int} (h:Below w.heap.size w V) (hc:Lies .u8 w a zs):Lies .u8 V a zs:=by
 rcases hc with h0|⟨b,off,e,hc⟩
 ·exact .inl h0
 ·exact .inr ⟨b,off,e,λi hi=>bel_cell h (hc i hi)⟩
theorem dAppend_any (w:World) (d x:Nat) (F:Nat-> Prop) (D:Dk) (s:ByteArray) (ab:Option Addr) (nb cb:Nat) (zs:List Int) (B:Nat) (aD aF aN:Addr) (h:Dm w x F D) (hk:D.Ok B) (hB:B<= 1099511627776) (hd:w.cell? ⟨d,0,none⟩=some (.pointer (some ⟨x,0,none⟩))) (nd:¬F d) (hE:Er w aD aF aN) (nE:Ern F)
 (hl:zs.length=nb) (hz:Lies .u8 w ab zs) (hzF:∀b off,zs≠[]-> ab=some ⟨b,off,none⟩-> ¬F b) (hnn:ab=none-> nb=0/\ cb=0) (hnb:nb<= 1099511627776):
 Calls Tryz.prog 25 #[.pointer (some ⟨d,0,none⟩),.string s,.slice ab nb cb] w λe w'=>MP x F (appD D s zs) aD aF aN w e w':=by
 obtain⟨W,hW⟩:∃W,((w.alloc (.cells #[.pointer (some ⟨d,0,none⟩)] 46)).alloc (.cells #[.string s] 9)).alloc (.cells #[.slice ab nb cb] 35)=W:=⟨_,rfl⟩
 have hg:Below w.heap.size w W:=by rw[←hW];exact(((Below.refl _ _).alloc (aqH _) _).alloc (by simp) _).alloc (by simp;omega) _
 have c0:W.cell? ⟨w.heap.size,0,none⟩=some (.pointer (some ⟨d,0,none⟩)):=by rw[←hW];simp[go_sem]
 have c1:W.cell? ⟨w.heap.size+1,0,none⟩=some (.string s):=by rw[←hW];simp[go_sem]
 have c2:W.cell? ⟨w.heap.size+1+1,0,none⟩=some (.slice ab nb cb):=by rw[←hW];simp[go_sem]
 have d0:=bel_cell hg hd
 have hDW:Dm W x (fc F w) D:=h.fc.below hg
 obtain⟨k2,k4,k1⟩:=hDW.c2
 obtain⟨_,k5,_,_⟩:=hDW.dw true
 have hEW:=hE.below hg
 have e1:W.cell? ⟨0,0,none⟩=some (.iface 218 (.pointer (some aD))):=hEW.d
 have e2:W.cell? ⟨1,0,none⟩=some (.iface 218 (.pointer (some aF))):=hEW.f
 have HU:=used_any W.drew x (fc F w) D B (hDW.same (λ_ _ _=>rfl)) hk hB
 have HAct:=actApp W.drew x (fc F w) D (addF D.fs s zs) B (.pointer (some ⟨w.heap.size,0,none⟩)) (.pointer (some ⟨w.heap.size+1,0,none⟩)) (.pointer (some ⟨w.heap.size+1+1,0,none⟩)) aD (hDW.same (λ_ _ _=>rfl)) hk hEW.d (λq=>nE.1 q.1) (λV D1 hV hfs hok hKd=>by
  have q:=clApp_any V w.heap.size (w.heap.size+1) (w.heap.size+1+1) d x (fc F w) D1 s ab nb cb zs B hV hok hB (hKd.cell c0 (λq=>by have:=q.2;omega)) (hKd.cell d0 (λq=>nd q.1)) (hKd.cell c1 (λq=>by have:=q.2;omega)) (hKd.cell c2 (λq=>by have:=q.2;omega)) (λq=>by have:=q.2;omega) (λq=>nd q.1) (λq=>by have:=q.2;omega) (λq=>by have:=q.2;omega) hl (by
   rcases lies_bel hg hz with h0|⟨b,off,e,hc⟩
   ·exact .inl h0
   ·by_cases hz0:zs=[]
    ·exact .inl hz0
    ·exact .inr ⟨b,off,e,λj hj=>hKd.cell (hc j hj) (λq=>hzF b off hz0 e q.1)⟩) (λb off h1 h2 q=>hzF b off h1 h2 q.1) hnn hnb
  rw[hfs] at q
  exact q)
 have HG:Hid (Below w.heap.size w W/\ Dm w x F D):=⟨hg,h⟩
 have HUb:Hid (usd D.fs<= 1099511627776/\ 0<= D.room/\ D.room<= 9223372036854775807):=⟨Nat.le_trans hk.used hB,hk.room⟩
 have HNb:Hid (zs.length=nb/\ nb<= 1099511627776):=⟨hl,hnb⟩
 obtain⟨U,hU⟩:∃u:Int,(usd D.fs:Int)=u:=⟨_,rfl⟩
 have HUu:Hid ((usd D.fs:Int)=U):=hU
 rw[hU] at HU
 have hwr:IntKind.i64.wrap (D.room - U)=D.room - U:=by have:=HUb.out;rw[IntKind.wrap_i64];omega
 clear hg hDW hEW hk h hE nE nd hl hz hzF hnn hd hU
 go_enter Tryz.func25,Tryz.ntmps25
 go_upto_region 1 with fail
 try rw[hW]
 clear hW
 cases hw:D.dw with
 |true=>
  rw[hw] at k5
  have HR:Hid (appD D s zs=(D,2)):=by show _=_;unfold appD;rw[hw];rfl
  clear HAct HU
  go_wp2
  go_ret
  rw[HR.out]
  exact MP.same HG.out.1 rfl HG.out.2
 |false=>
  rw[hw] at k5
  by_cases hfit:D.room - U < (nb:Int)
  ·have HR:Hid (appD D s zs=(D,1)):=by show _=_;unfold appD;rw[hw,if_neg (by simp),HUu.out,HNb.out.1,if_pos hfit]
   clear HAct
   go_wp2_with fail
   go_region_held3 (λV=>V.cell? ⟨w.heap.size,0,none⟩=some (.pointer (some ⟨d,0,none⟩))/\ V.cell? ⟨w.heap.size+1+1,0,none⟩=some (.slice ab nb cb)/\ V.cell? ⟨d,0,none⟩=some (.pointer (some ⟨x,0,none⟩))/\ V.cell? ⟨x,1,none⟩=some (.int .i64 D.room))
    (first|(exact⟨c0,c2,d0,k1⟩))
    (first
     |(go_at_call 56
       refine HU.mono ?_
       rintro e w2 ⟨rfl,rfl⟩))
   go_wp2
   go_ret
   rw[HR.out]
   exact MP.same (bel_drew HG.out.1) rfl HG.out.2
  ·have HR:Hid (appD D s zs=(actD D (addF D.fs s zs),actR D)):=by show _=_;unfold appD;rw[hw,if_neg (by simp),HUu.out,HNb.out.1,if_neg hfit]
   go_wp2_with fail
   go_region_held3 (λV=>V.cell? ⟨w.heap.size,0,none⟩=some (.pointer (some ⟨d,0,none⟩))/\ V.cell? ⟨w.heap.size+1+1,0,none⟩=some (.slice ab nb cb)/\ V.cell? ⟨d,0,none⟩=some (.pointer (some ⟨x,0,none⟩))/\ V.cell? ⟨x,1,none⟩=some (.int .i64 D.room))
    (first|(exact⟨c0,c2,d0,k1⟩))
    (first
     |(go_at_call 56
       refine HU.mono ?_
       rintro e w2 ⟨rfl,rfl⟩))
   go_wp2_with (go_at_call 57;refine HAct.mono ?_;rintro e w3 ⟨rfl,hq3,hq4⟩)
   go_ret
   rw[HR.out]
   exact MP.of (bel_drew HG.out.1) (by rw[evD_act (aF:=aF) (aN:=aN)];rfl) hq3 hq4
theorem dSync_any (w:World) (d x:Nat) (F:Nat-> Prop) (D:Dk) (s:ByteArray) (B:Nat) (aD aF aN:Addr) (h:Dm w x F D) (hk:D.Ok B) (hB:B<= 1099511627776) (hd:w.cell? ⟨d,0,none⟩=some (.pointer (some ⟨x,0,none⟩))) (nd:¬F d) (hE:Er w aD aF aN) (nE:Ern F):
 Calls Tryz.prog 26 #[.pointer (some ⟨d,0,none⟩),.string s] w λe w'=>MP x F (fileD D s (λi=>synF D.fs i)) aD aF aN w e w':=by
 obtain⟨W0,hW0⟩:∃W,(w).alloc (.cells #[.pointer (some ⟨d,0,none⟩)] 46)=W:=⟨_,rfl⟩
 have hg0:Below w.heap.size w W0:=by rw[←hW0];exact(Below.refl _ _).alloc (aqH _) _
 have b0:W0.cell? ⟨w.heap.size,0,none⟩=some (.pointer (some ⟨d,0,none⟩)):=by rw[←hW0];simp[go_sem]
 have hs0:W0.heap.size=w.heap.size+1:=by rw[←hW0];simp
 obtain⟨K,hK⟩:∃K,fI D.fs s=K:=⟨_,rfl⟩
 have hDW0:Dm W0 x (fc F w) D:=h.fc.below hg0
 have HFn:=find_any W0 x (fc F w) D s B hDW0 hk hB
 rw[hK] at HFn
 obtain⟨W,hW⟩:∃W,(W0.alloc (.cells #[.int .i64 K] 3))=W:=⟨_,rfl⟩
 have hg:Below w.heap.size w W:=by rw[←hW];exact hg0.alloc (by omega) _
 have hg1:Below W0.heap.size W0 W:=by rw[←hW];exact(Below.refl _ _).alloc (aqH _) _
 have c0:=bel_cell hg1 b0
 have cI:W.cell? ⟨W0.heap.size,0,none⟩=some (.int .i64 K):=by rw[←hW];simp[go_sem]
 have d0:=bel_cell hg hd
 have d00:=bel_cell hg0 hd
 have hDW:Dm W x (fc F w) D:=h.fc.below hg
 obtain⟨_,k5,_,_⟩:=hDW.dw true
 have hEW:=hE.below hg
 have e1:W.cell? ⟨0,0,none⟩=some (.iface 218 (.pointer (some aD))):=hEW.d
 have e2:W.cell? ⟨2,0,none⟩=some (.iface 218 (.pointer (some aN))):=hEW.n
 have HG:Hid (Below w.heap.size w W/\ Dm w x F D):=⟨hg,h⟩
 have HAct:∀i:Nat,i < D.fs.length-> K=(i:Int)-> Calls Tryz.prog 57 #[.pointer (some ⟨x,0,none⟩),.func (.func 60) #[] #[.pointer (some ⟨w.heap.size,0,none⟩),.pointer (some ⟨W0.heap.size,0,none⟩)]] W λe w'=>e=.returned (actA D aD)/\ Dm w' x (up (fc F w) W) (actD D (synF D.fs i))/\ Kd (fc F w) W w':=λi hi hKi=>actSyn W x (fc F w) D (synF D.fs i) B _ _ aD hDW hk hEW.d (λq=>nE.1 q.1) (λV D1 hV hfs hok hKd=>by
  have q:=clSyn_any V (w.heap.size) (W0.heap.size) d x i (fc F w) D1 B hV hok hB (by rw[hfs];exact hi) (hKd.cell c0 (λq=>by have:=q.2;omega)) (hKd.cell d0 (λq=>nd q.1)) (hKd.cell (hKi ▸ cI) (λq=>by have:=q.2;omega)) (λq=>by have:=q.2;omega) (λq=>nd q.1) (λq=>by have:=q.2;omega)
  rw[hfs] at q
  exact q)
 have HHA:Hid (∀i:Nat,i < D.fs.length-> K=(i:Int)-> Calls Tryz.prog 57 #[.pointer (some ⟨x,0,none⟩),.func (.func 60) #[] #[.pointer (some ⟨w.heap.size,0,none⟩),.pointer (some ⟨W0.heap.size,0,none⟩)]] W λe w'=>e=.returned (actA D aD)/\ Dm w' x (up (fc F w) W) (actD D (synF D.fs i))/\ Kd (fc F w) W w'):=HAct
 have HK:Hid (fI D.fs s=K):=hK
 clear hDW hDW0 hEW hk h hE nE nd hd hK hg hg0 hg1 HAct hs0
 go_enter Tryz.func26,Tryz.ntmps26
 go_upto_region 1 with fail
 try rw[hW0]
 go_upto_region 2 with (go_at_call 59;refine HFn.mono ?_;rintro e w2 ⟨rfl,hw2⟩;rw[hw2];clear hw2)
 clear HFn hW hW0 d00
 cases hw:D.dw with
 |true=>
  rw[hw] at k5
  have HR:Hid (fileD D s (λi=>synF D.fs i)=(D,2)):=by show _=_;unfold fileD;rw[hw];rfl
  clear HHA
  go_wp2
  go_ret
  rw[HR.out]
  exact MP.same HG.out.1 rfl HG.out.2
 |false=>
  rw[hw] at k5
  cases hf:fnd D.fs s with
  |none=>
   have hK2:K=-1:=by rw[←HK.out];exact fI_none hf
   subst hK2
   have HR:Hid (fileD D s (λi=>synF D.fs i)=(D,3)):=by show _=_;unfold fileD;rw[hw,hf];rfl
   clear HHA hf
   go_wp2
   go_ret
   rw[HR.out]
   exact MP.same HG.out.1 rfl HG.out.2
  |some i=>
   have hK2:K=(i:Int):=by rw[←HK.out];exact fI_some hf
   have HAct:=HHA.out i (fnd_lt hf) hK2
   have HR:Hid (fileD D s (λi=>synF D.fs i)=(actD D (synF D.fs i),actR D)):=by show _=_;unfold fileD;rw[hw,hf];rfl
   have hz:¬K < 0:=by omega
   clear HHA hf hK2
   go_wp2_with (go_at_call 57;refine HAct.mono ?_;rintro e w3 ⟨rfl,hq3,hq4⟩)
   go_ret
   rw[HR.out]
   exact MP.of HG.out.1 (by rw[evD_act (aF:=aF) (aN:=aN)];rfl) hq3 hq4
theorem dRemove_any (w:World) (d x:Nat) (F:Nat-> Prop) (D:Dk) (s:ByteArray) (B:Nat) (aD aF aN:Addr) (h:Dm w x F D) (hk:D.Ok B) (hB:B<= 1099511627776) (hd:w.cell? ⟨d,0,none⟩=some (.pointer (some ⟨x,0,none⟩))) (nd:¬F d) (hE:Er w aD aF aN) (nE:Ern F):
 Calls Tryz.prog 73 #[.pointer (some ⟨d,0,none⟩),.string s] w λe w'=>MP x F (fileD D s (λi=>D.fs.eraseIdx i)) aD aF aN w e w':=by
 obtain⟨W0,hW0⟩:∃W,(w).alloc (.cells #[.pointer (some ⟨d,0,none⟩)] 46)=W:=⟨_,rfl⟩
 have hg0:Below w.heap.size w W0:=by rw[←hW0];exact(Below.refl _ _).alloc (aqH _) _
 have b0:W0.cell? ⟨w.heap.size,0,none⟩=some (.pointer (some ⟨d,0,none⟩)):=by rw[←hW0];simp[go_sem]
 have hs0:W0.heap.size=w.heap.size+1:=by rw[←hW0];simp
 obtain⟨K,hK⟩:∃K,fI D.fs s=K:=⟨_,rfl⟩
 have hDW0:Dm W0 x (fc F w) D:=h.fc.below hg0
 have HFn:=find_any W0 x (fc F w) D s B hDW0 hk hB
 rw[hK] at HFn
 obtain⟨W,hW⟩:∃W,(W0.alloc (.cells #[.int .i64 K] 3))=W:=⟨_,rfl⟩
 have hg:Below w.heap.size w W:=by rw[←hW];exact hg0.alloc (by omega) _
 have hg1:Below W0.heap.size W0 W:=by rw[←hW];exact(Below.refl _ _).alloc (aqH _) _
 have c0:=bel_cell hg1 b0
 have cI:W.cell? ⟨W0.heap.size,0,none⟩=some (.int .i64 K):=by rw[←hW];simp[go_sem]
 have d0:=bel_cell hg hd
 have d00:=bel_cell hg0 hd
 have hDW:Dm W x (fc F w) D:=h.fc.below hg
 obtain⟨_,k5,_,_⟩:=hDW.dw true
 have hEW:=hE.below hg
 have e1:W.cell? ⟨0,0,none⟩=some (.iface 218 (.pointer (some aD))):=hEW.d
 have e2:W.cell? ⟨2,0,none⟩=some (.iface 218 (.pointer (some aN))):=hEW.n
 have HG:Hid (Below w.heap.size w W/\ Dm w x F D):=⟨hg,h⟩
 have HAct:∀i:Nat,i < D.fs.length-> K=(i:Int)-> Calls Tryz.prog 57 #[.pointer (some ⟨x,0,none⟩),.func (.func 101) #[] #[.pointer (some ⟨w.heap.size,0,none⟩),.pointer (some ⟨W0.heap.size,0,none⟩)]] W λe w'=>e=.returned (actA D aD)/\ Dm w' x (up (fc F w) W) (actD D (D.fs.eraseIdx i))/\ Kd (fc F w) W w':=λi hi hKi=>actRem W x (fc F w) D (D.fs.eraseIdx i) B _ _ aD hDW hk hEW.d (λq=>nE.1 q.1) (λV D1 hV hfs hok hKd=>by
  have q:=clRem_any V (w.heap.size) (W0.heap.size) d x i (fc F w) D1 B hV hok hB (by rw[hfs];exact hi) (hKd.cell c0 (λq=>by have:=q.2;omega)) (hKd.cell d0 (λq=>nd q.1)) (hKd.cell (hKi ▸ cI) (λq=>by have:=q.2;omega)) (λq=>by have:=q.2;omega) (λq=>nd q.1) (λq=>by have:=q.2;omega)
  rw[hfs] at q
  exact q)
 have HHA:Hid (∀i:Nat,i < D.fs.length-> K=(i:Int)-> Calls Tryz.prog 57 #[.pointer (some ⟨x,0,none⟩),.func (.func 101) #[] #[.pointer (some ⟨w.heap.size,0,none⟩),.pointer (some ⟨W0.heap.size,0,none⟩)]] W λe w'=>e=.returned (actA D aD)/\ Dm w' x (up (fc F w) W) (actD D (D.fs.eraseIdx i))/\ Kd (fc F w) W w'):=HAct
 have HK:Hid (fI D.fs s=K):=hK
 clear hDW hDW0 hEW hk h hE nE nd hd hK hg hg0 hg1 HAct hs0
 go_enter Tryz.func73,Tryz.ntmps73
 go_upto_region 1 with fail
 try rw[hW0]
 go_upto_region 2 with (go_at_call 59;refine HFn.mono ?_;rintro e w2 ⟨rfl,hw2⟩;rw[hw2];clear hw2)
 clear HFn hW hW0 d00
 cases hw:D.dw with
 |true=>
  rw[hw] at k5
  have HR:Hid (fileD D s (λi=>D.fs.eraseIdx i)=(D,2)):=by show _=_;unfold fileD;rw[hw];rfl
  clear HHA
  go_wp2
  go_ret
  rw[HR.out]
  exact MP.same HG.out.1 rfl HG.out.2
 |false=>
  rw[hw] at k5
  cases hf:fnd D.fs s with
  |none=>
   have hK2:K=-1:=by rw[←HK.out];exact fI_none hf
   subst hK2
   have HR:Hid (fileD D s (λi=>D.fs.eraseIdx i)=(D,3)):=by show _=_;unfold fileD;rw[hw,hf];rfl
   clear HHA hf
   go_wp2
   go_ret
   rw[HR.out]
   exact MP.same HG.out.1 rfl HG.out.2
  |some i=>
   have hK2:K=(i:Int):=by rw[←HK.out];exact fI_some hf
   have HAct:=HHA.out i (fnd_lt hf) hK2
   have HR:Hid (fileD D s (λi=>D.fs.eraseIdx i)=(actD D (D.fs.eraseIdx i),actR D)):=by show _=_;unfold fileD;rw[hw,hf];rfl
   have hz:¬K < 0:=by omega
   clear HHA hf hK2
   go_wp2_with (go_at_call 57;refine HAct.mono ?_;rintro e w3 ⟨rfl,hq3,hq4⟩)
   go_ret
   rw[HR.out]
   exact MP.of HG.out.1 (by rw[evD_act (aF:=aF) (aN:=aN)];rfl) hq3 hq4
theorem dRename_any (w:World) (d x:Nat) (F:Nat-> Prop) (D:Dk) (s:ByteArray) (s2:ByteArray) (B:Nat) (aD aF aN:Addr) (h:Dm w x F D) (hk:D.Ok B) (hB:B<= 1099511627776) (hd:w.cell? ⟨d,0,none⟩=some (.pointer (some ⟨x,0,none⟩))) (nd:¬F d) (hE:Er w aD aF aN) (nE:Ern F):
 Calls Tryz.prog 51 #[.pointer (some ⟨d,0,none⟩),.string s,.string s2] w λe w'=>MP x F (fileD D s (λi=>renF D.fs i s2)) aD aF aN w e w':=by
 obtain⟨W0,hW0⟩:∃W,((w).alloc (.cells #[.pointer (some ⟨d,0,none⟩)] 46)).alloc (.cells #[.string s2] 9)=W:=⟨_,rfl⟩
 have hg0:Below w.heap.size w W0:=by rw[←hW0];exact((Below.refl _ _).alloc (aqH _) _).alloc (by simp) _
 have b0:W0.cell? ⟨w.heap.size,0,none⟩=some (.pointer (some ⟨d,0,none⟩)):=by rw[←hW0];simp[go_sem]
 have b1:W0.cell? ⟨w.heap.size+1,0,none⟩=some (.string s2):=by rw[←hW0];simp[go_sem]
 have hs0:W0.heap.size=w.heap.size+1+1:=by rw[←hW0];simp
 obtain⟨K,hK⟩:∃K,fI D.fs s=K:=⟨_,rfl⟩
 have hDW0:Dm W0 x (fc F w) D:=h.fc.below hg0
 have HFn:=find_any W0 x (fc F w) D s B hDW0 hk hB
 rw[hK] at HFn
 obtain⟨W,hW⟩:∃W,(W0.alloc (.cells #[.int .i64 K] 3))=W:=⟨_,rfl⟩
 have hg:Below w.heap.size w W:=by rw[←hW];exact hg0.alloc (by omega) _
 have hg1:Below W0.heap.size W0 W:=by rw[←hW];exact(Below.refl _ _).alloc (aqH _) _
 have c0:=bel_cell hg1 b0
 have c1:=bel_cell hg1 b1
 have cI:W.cell? ⟨W0.heap.size,0,none⟩=some (.int .i64 K):=by rw[←hW];simp[go_sem]
 have d0:=bel_cell hg hd
 have d00:=bel_cell hg0 hd
 have hDW:Dm W x (fc F w) D:=h.fc.below hg
 obtain⟨_,k5,_,_⟩:=hDW.dw true
 have hEW:=hE.below hg
 have e1:W.cell? ⟨0,0,none⟩=some (.iface 218 (.pointer (some aD))):=hEW.d
 have e2:W.cell? ⟨2,0,none⟩=some (.iface 218 (.pointer (some aN))):=hEW.n
 have HG:Hid (Below w.heap.size w W/\ Dm w x F D):=⟨hg,h⟩
 have HAct:∀i:Nat,i < D.fs.length-> K=(i:Int)-> Calls Tryz.prog 57 #[.pointer (some ⟨x,0,none⟩),.func (.func 84) #[] #[.pointer (some ⟨w.heap.size,0,none⟩),.pointer (some ⟨w.heap.size+1,0,none⟩),.pointer (some ⟨W0.heap.size,0,none⟩)]] W λe w'=>e=.returned (actA D aD)/\ Dm w' x (up (fc F w) W) (actD D (renF D.fs i s2))/\ Kd (fc F w) W w':=λi hi hKi=>actRen W x (fc F w) D (renF D.fs i s2) B _ _ _ aD hDW hk hEW.d (λq=>nE.1 q.1) (λV D1 hV hfs hok hKd=>by
  have q:=clRen_any V (w.heap.size) (w.heap.size+1) (W0.heap.size) d x i (fc F w) D1 s2 B hV hok hB (by rw[hfs];exact hi) (hKd.cell c0 (λq=>by have:=q.2;omega)) (hKd.cell d0 (λq=>nd q.1)) (hKd.cell c1 (λq=>by have:=q.2;omega)) (hKd.cell (hKi ▸ cI) (λq=>by have:=q.2;omega)) (λq=>by have:=q.2;omega) (λq=>nd q.1) (λq=>by have:=q.2;omega) (λq=>by have:=q.2;omega)
  rw[hfs] at q
  exact q)
 have HHA:Hid (∀i:Nat,i < D.fs.length-> K=(i:Int)-> Calls Tryz.prog 57 #[.pointer (some ⟨x,0,none⟩),.func (.func 84) #[] #[.pointer (some ⟨w.heap.size,0,none⟩),.pointer (some ⟨w.heap.size+1,0,none⟩),.pointer (some ⟨W0.heap.size,0,none⟩)]] W λe w'=>e=.returned (actA D aD)/\ Dm w' x (up (fc F w) W) (actD D (renF D.fs i s2))/\ Kd (fc F w) W w'):=HAct
 have HK:Hid (fI D.fs s=K):=hK
 clear hDW hDW0 hEW hk h hE nE nd hd hK hg hg0 hg1 HAct hs0
 go_enter Tryz.func51,Tryz.ntmps51
 go_upto_region 1 with fail
 try rw[hW0]
 go_upto_region 2 with (go_at_call 59;refine HFn.mono ?_;rintro e w2 ⟨rfl,hw2⟩;rw[hw2];clear hw2)
 clear HFn hW hW0 d00
 cases hw:D.dw with
 |true=>
  rw[hw] at k5
  have HR:Hid (fileD D s (λi=>renF D.fs i s2)=(D,2)):=by show _=_;unfold fileD;rw[hw];rfl
  clear HHA
  go_wp2
  go_ret
  rw[HR.out]
  exact MP.same HG.out.1 rfl HG.out.2
 |false=>
  rw[hw] at k5
  cases hf:fnd D.fs s with
  |none=>
   have hK2:K=-1:=by rw[←HK.out];exact fI_none hf
   subst hK2
   have HR:Hid (fileD D s (λi=>renF D.fs i s2)=(D,3)):=by show _=_;unfold fileD;rw[hw,hf];rfl
   clear HHA hf
   go_wp2
   go_ret
   rw[HR.out]
   exact MP.same HG.out.1 rfl HG.out.2
  |some i=>
   have hK2:K=(i:Int):=by rw[←HK.out];exact fI_some hf
   have HAct:=HHA.out i (fnd_lt hf) hK2
   have HR:Hid (fileD D s (λi=>renF D.fs i s2)=(actD D (renF D.fs i s2),actR D)):=by show _=_;unfold fileD;rw[hw,hf];rfl
   have hz:¬K < 0:=by omega
   clear HHA hf hK2
   go_wp2_with (go_at_call 57;refine HAct.mono ?_;rintro e w3 ⟨rfl,hq3,hq4⟩)
   go_ret
   rw[HR.out]
   exact MP.of HG.out.1 (by rw[evD_act (aF:=aF) (aN:=aN)];rfl) hq3 hq4
theorem dCut_any (w:World) (d x:Nat) (F:Nat-> Prop) (D:Dk) (s:ByteArray) (N:Int) (B:Nat) (aD aF aN:Addr) (h:Dm w x F D) (hk:D.Ok B) (hB:B<= 1099511627776) (hd:w.cell? ⟨d,0,none⟩=some (.pointer (some ⟨x,0,none⟩))) (nd:¬F d) (hE:Er w aD aF aN) (nE:Ern F):
 Calls Tryz.prog 42 #[.pointer (some ⟨d,0,none⟩),.string s,.int .i64 N] w λe w'=>MP x F (fileD D s (λi=>cutF D.fs i N)) aD aF aN w e w':=by
 obtain⟨W0,hW0⟩:∃W,((w).alloc (.cells #[.pointer (some ⟨d,0,none⟩)] 46)).alloc (.cells #[.int .i64 N] 3)=W:=⟨_,rfl⟩
 have hg0:Below w.heap.size w W0:=by rw[←hW0];exact((Below.refl _ _).alloc (aqH _) _).alloc (by simp) _
 have b0:W0.cell? ⟨w.heap.size,0,none⟩=some (.pointer (some ⟨d,0,none⟩)):=by rw[←hW0];simp[go_sem]
 have b1:W0.cell? ⟨w.heap.size+1,0,none⟩=some (.int .i64 N):=by rw[←hW0];simp[go_sem]
 have hs0:W0.heap.size=w.heap.size+1+1:=by rw[←hW0];simp
 obtain⟨K,hK⟩:∃K,fI D.fs s=K:=⟨_,rfl⟩
 have hDW0:Dm W0 x (fc F w) D:=h.fc.below hg0
 have HFn:=find_any W0 x (fc F w) D s B hDW0 hk hB
 rw[hK] at HFn
 obtain⟨W,hW⟩:∃W,(W0.alloc (.cells #[.int .i64 K] 3))=W:=⟨_,rfl⟩
 have hg:Below w.heap.size w W:=by rw[←hW];exact hg0.alloc (by omega) _
 have hg1:Below W0.heap.size W0 W:=by rw[←hW];exact(Below.refl _ _).alloc (aqH _) _
 have c0:=bel_cell hg1 b0
 have c1:=bel_cell hg1 b1
 have cI:W.cell? ⟨W0.heap.size,0,none⟩=some (.int .i64 K):=by rw[←hW];simp[go_sem]
 have d0:=bel_cell hg hd
 have d00:=bel_cell hg0 hd
 have hDW:Dm W x (fc F w) D:=h.fc.below hg
 obtain⟨_,k5,_,_⟩:=hDW.dw true
 have hEW:=hE.below hg
 have e1:W.cell? ⟨0,0,none⟩=some (.iface 218 (.pointer (some aD))):=hEW.d
 have e2:W.cell? ⟨2,0,none⟩=some (.iface 218 (.pointer (some aN))):=hEW.n
 have HG:Hid (Below w.heap.size w W/\ Dm w x F D):=⟨hg,h⟩
 have HAct:∀i:Nat,i < D.fs.length-> K=(i:Int)-> Calls Tryz.prog 57 #[.pointer (some ⟨x,0,none⟩),.func (.func 76) #[] #[.pointer (some ⟨w.heap.size,0,none⟩),.pointer (some ⟨W0.heap.size,0,none⟩),.pointer (some ⟨w.heap.size+1,0,none⟩)]] W λe w'=>e=.returned (actA D aD)/\ Dm w' x (up (fc F w) W) (actD D (cutF D.fs i N))/\ Kd (fc F w) W w':=λi hi hKi=>actCut W x (fc F w) D (cutF D.fs i N) B _ _ _ aD hDW hk hEW.d (λq=>nE.1 q.1) (λV D1 hV hfs hok hKd=>by
  have q:=clCut_any V (w.heap.size) (W0.heap.size) (w.heap.size+1) d x i N (fc F w) D1 B hV hok hB (by rw[hfs];exact hi) (hKd.cell c0 (λq=>by have:=q.2;omega)) (hKd.cell d0 (λq=>nd q.1)) (hKd.cell (hKi ▸ cI) (λq=>by have:=q.2;omega)) (hKd.cell c1 (λq=>by have:=q.2;omega)) (λq=>by have:=q.2;omega) (λq=>nd q.1) (λq=>by have:=q.2;omega) (λq=>by have:=q.2;omega)
  rw[hfs] at q
  exact q)
 have HHA:Hid (∀i:Nat,i < D.fs.length-> K=(i:Int)-> Calls Tryz.prog 57 #[.pointer (some ⟨x,0,none⟩),.func (.func 76) #[] #[.pointer (some ⟨w.heap.size,0,none⟩),.pointer (some ⟨W0.heap.size,0,none⟩),.pointer (some ⟨w.heap.size+1,0,none⟩)]] W λe w'=>e=.returned (actA D aD)/\ Dm w' x (up (fc F w) W) (actD D (cutF D.fs i N))/\ Kd (fc F w) W w'):=HAct
 have HK:Hid (fI D.fs s=K):=hK
 clear hDW hDW0 hEW hk h hE nE nd hd hK hg hg0 hg1 HAct hs0
 go_enter Tryz.func42,Tryz.ntmps42
 go_upto_region 1 with fail
 try rw[hW0]
 go_upto_region 2 with (go_at_call 59;refine HFn.mono ?_;rintro e w2 ⟨rfl,hw2⟩;rw[hw2];clear hw2)
 clear HFn hW hW0 d00
 cases hw:D.dw with
 |true=>
  rw[hw] at k5
  have HR:Hid (fileD D s (λi=>cutF D.fs i N)=(D,2)):=by show _=_;unfold fileD;rw[hw];rfl
  clear HHA
  go_wp2
  go_ret
  rw[HR.out]
  exact MP.same HG.out.1 rfl HG.out.2
 |false=>
  rw[hw] at k5
  cases hf:fnd D.fs s with
  |none=>
   have hK2:K=-1:=by rw[←HK.out];exact fI_none hf
   subst hK2
   have HR:Hid (fileD D s (λi=>cutF D.fs i N)=(D,3)):=by show _=_;unfold fileD;rw[hw,hf];rfl
   clear HHA hf
   go_wp2
   go_ret
   rw[HR.out]
   exact MP.same HG.out.1 rfl HG.out.2
  |some i=>
   have hK2:K=(i:Int):=by rw[←HK.out];exact fI_some hf
   have HAct:=HHA.out i (fnd_lt hf) hK2
   have HR:Hid (fileD D s (λi=>cutF D.fs i N)=(actD D (cutF D.fs i N),actR D)):=by show _=_;unfold fileD;rw[hw,hf];rfl
   have hz:¬K < 0:=by omega
   clear HHA hf hK2
   go_wp2_with (go_at_call 57;refine HAct.mono ?_;rintro e w3 ⟨rfl,hq3,hq4⟩)
   go_ret
   rw[HR.out]
   exact MP.of HG.out.1 (by rw[evD_act (aF:=aF) (aN:=aN)];rfl) hq3 hq4
end Go.Proofs.YtllhbhogfffedaaGreatDoor.K
