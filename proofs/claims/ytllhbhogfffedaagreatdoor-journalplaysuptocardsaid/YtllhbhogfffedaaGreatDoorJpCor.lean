import Derived.Test.YtllhbhogfffedaaGreatDoorJpReg
import Derived.Test.YtllhbhogfffedaaGreatDoorRcR21
import Derived.Deep.RegionHeld3
import Derived.Deep.CutRange
set_option maxHeartbeats 8000000
set_option maxRecDepth 100000
namespace Go.Proofs.YtllhbhogfffedaaGreatDoor.K
open Go.RowKit
set_option linter.unusedVariables false
set_option linter.unusedSimpArgs false
theorem Ec.cur {W:World} {x gF nf cf:Nat} {F:Nat-> Prop} {D:Dk} {L:List Fv} (h:Ec W x F D (.slice (some ⟨gF,0,none⟩) nf cf) L):∃cur,W.heap[gF]?=some (.cells cur 94 (0,0)):=by
 obtain⟨_,⟨e,_⟩|⟨g,cap,cur,e,_,hh,_⟩⟩:=h.row
 ·cases e
 ·cases e;exact⟨cur,hh⟩
theorem Ec.nf {W:World} {x nf cf:Nat} {a:Option Addr} {F:Nat-> Prop} {D:Dk} {L:List Fv} (h:Ec W x F D (.slice a nf cf) L):nf=L.length:=by
 obtain⟨a,c,e⟩:=d_shape h.row
 simp only[Value.slice.injEq] at e
 exact e.2.1
theorem regAppE (Q:Exit-> Act-> World-> Prop) (x gF nf cf i:Nat) (F:Nat-> Prop) (D:Dk) (L:List Fv) (p:Fv) (ab:Option Addr) (nb cb:Nat) (zs:List Int) {t1 t3 t4 t5 t6 t7 t8 t9 t10 t12 t13 t14 t15 t16 t17 t18 t19 t20 t21 t22 t23 t24 t25 t26 t27 t28 t29 t30 t31 t32 t33 t34 t35 t36 t37 t38 t39 t40 t41 t42 t43 t44 t45 t46 t47 t48 t49 t50 t51 t52 t53 t54 t55 t56 t57 t58 t59 t60 t61 t62 t63 t64 t65 t66 t67 t68 t69 t70 t71 t72 t73 t74 t75 t76 t77 t78 t79 t80 t81 t82 t83 t84 t85 t86 t87 t88 t89 t90:Value} (W:World)
 (hc:Ec W x F D (.slice (some ⟨gF,0,none⟩) nf cf) L) (hp:L[i]?=some p) (hl:zs.length=nb) (hz:Lies .u8 W ab zs) (hnn:ab=none-> nb=0/\ cb=0) (hb:p.1.bs.length+nb<= 140737488355328)
 (h:∀v' w',Ec w' x (up F W) (D.fs' (D.fs.set i ⟨p.1.nm,p.1.bs++zs,p.1.sf⟩)) (.slice (some ⟨gF,0,none⟩) nf cf) (L.set i (⟨p.1.nm,p.1.bs++zs,p.1.sf⟩,v'))-> Kd F W w'-> Q .normal {tmps:=(.pointer (some ⟨x,0,none⟩)::t1::.slice ab nb cb::t3::t4::t5::t6::t7::t8::t9::t10::.int .i64 (i:Int)::t12::t13::t14::t15::t16::t17::t18::t19::t20::t21::t22::t23::t24::t25::t26::t27::t28::t29::t30::t31::t32::t33::t34::t35::t36::t37::t38::t39::t40::t41::t42::t43::t44::t45::t46::t47::t48::t49::t50::t51::t52::t53::t54::t55::t56::t57::t58::t59::t60::t61::t62::t63::t64::t65::t66::t67::t68::t69::t70::t71::.pointer (some ⟨x,0,none⟩)::.pointer (some ⟨x,0,none⟩)::.pointer (some ⟨x,0,none⟩)::.slice (some ⟨gF,0,none⟩) nf cf::.int .i64 (i:Int)::.pointer (some ⟨x,0,none⟩)::.pointer (some ⟨x,0,none⟩)::.pointer (some ⟨x,0,none⟩)::.slice (some ⟨gF,0,none⟩) nf cf::.int .i64 (i:Int)::.pointer (some ⟨gF,i*3,none⟩)::.pointer (some ⟨gF,i*3+1,none⟩)::p.2::.slice ab nb cb::v'::.pointer (some ⟨gF,i*3,none⟩)::.pointer (some ⟨gF,i*3+1,none⟩)::t89::t90::[]).toArray,defers:=[]} w'):
 (Code.region 16 regE16Ops true).wp Tryz.prog Q {tmps:=(.pointer (some ⟨x,0,none⟩)::t1::.slice ab nb cb::t3::t4::t5::t6::t7::t8::t9::t10::.int .i64 (i:Int)::t12::t13::t14::t15::t16::t17::t18::t19::t20::t21::t22::t23::t24::t25::t26::t27::t28::t29::t30::t31::t32::t33::t34::t35::t36::t37::t38::t39::t40::t41::t42::t43::t44::t45::t46::t47::t48::t49::t50::t51::t52::t53::t54::t55::t56::t57::t58::t59::t60::t61::t62::t63::t64::t65::t66::t67::t68::t69::t70::t71::t72::t73::t74::t75::t76::t77::t78::t79::t80::t81::t82::t83::t84::t85::t86::t87::t88::t89::t90::[]).toArray,defers:=[]} W:=by
 obtain⟨cur,hcur⟩:=hc.cur
 obtain⟨g',cap',hv',hFg,hgl,k0,k1,k2,kz⟩:=hc.at hp
 obtain⟨rfl,_,rfl⟩:gF=g'/\ nf=L.length/\ cf=cap':=by simpa using hv'
 have hby:=hc.byt i p hp
 obtain⟨av,cv,hav⟩:=d_shape hby
 obtain⟨⟨nm,bs,sf⟩,pv⟩:=p
 simp only at hav
 subst hav
 have hnf:=hc.nf
 have hbF:∀g,(Value.slice av bs.length cv).ownBlock=some g-> F g:=λg hg=>hc.fb i _ g hp hg
 have hx1:W.cell? ⟨x,0,none⟩=some (.slice (some ⟨gF,0,none⟩) nf cf):=hc.c 0
 have hbx:=hc.bx hp
 have hgx:gF≠x:=λe=>hc.rx (by rw[e];rfl)
 have hin:(i:Int) < (nf:Int):=by have:=(List.getElem?_eq_some_iff.mp hp).1;omega
 have hr2:∀{V:World},W.drew.grownBy V (Value.slice av bs.length cv).ownBlock-> W.grownBy V (Value.slice av bs.length cv).ownBlock:=λh=>⟨h.os,h.tape,h.output,h.size,h.block⟩
 refine regE16 Q x gF nf cf i av bs.length cv bs.length ab nb cb zs cur (bs.map (Value.int .u8)) W hby hin hl hz hnn hb hcur ((cell_of_row _ _ (i*3+1) _ _ _ hcur).symm.trans k1) (hc.rb hp rfl) (λV hV=>grown_cell hx1 (hr2 hV) hbx) (λV hV y=>set_cell (grown_cell hx1 (hr2 hV) hbx) (λe=>hgx e.symm)) ?_
 intro v' w' r1 r2 r3
 exact h v' _ (hc.app hp (bs:=bs++zs) (by rw[List.length_append,List.map_append,hl];exact r1) (hr2 r2) r3) ((Kd.grown (hr2 r2) (λg hg=>hbF g hg)).trans (Kd.set hFg))
def cutV (v:Value) (k:Nat):Value:=match v with| .slice a _ c=>.slice a k c|v=>v
theorem Ec.cut {W w':World} {x gF nf cf i:Nat} {F:Nat-> Prop} {D:Dk} {L:List Fv} {p:Fv} (h:Ec W x F D (.slice (some ⟨gF,0,none⟩) nf cf) L) (hp:L[i]?=some p) {v':Value} {bs:List Int} (r1:w'.ownsRow 0 5 1 v' bs.length (bs.map (Value.int .u8))) (r2:W.drew.grownBy w' none) (r3:∃g,v'.ownBlock=some g/\ W.heap.size<= g):
 Ec (w'.setCell ⟨gF,i*3+1,none⟩ v') x (up F W) (D.fs' (D.fs.set i ⟨p.1.nm,bs,p.1.sf⟩)) (.slice (some ⟨gF,0,none⟩) nf cf) (L.set i (⟨p.1.nm,bs,p.1.sf⟩,v')):=
 h.app hp r1 ⟨r2.os,r2.tape,r2.output,r2.size,λk hk _=>r2.block k hk (by simp)⟩ (.inr r3)
theorem regE9D (Q:Exit-> Act-> World-> Prop) (x gF nf cf i:Nat) (F:Nat-> Prop) (D:Dk) (L:List Fv) (p:Fv) (k:Nat) {t1 t2 t3 t4 t5 t6 t8 t9 t11 t12 t13 t14 t15 t16 t17 t18 t19 t20 t21 t22 t23 t24 t25 t26 t27 t28 t29 t30 t31 t32 t33 t34 t35 t36 t37 t38 t39 t40 t41 t42 t43 t44 t45 t46 t47 t48 t49 t50 t51 t52 t53 t54 t55 t56 t57 t58 t59 t60 t61 t62 t63 t64 t65 t66:Value} (W:World)
 (hc:Ec W x F D (.slice (some ⟨gF,0,none⟩) nf cf) L) (hp:L[i]?=some p) (hk:k<= p.1.bs.length) (hb:p.1.bs.length<= 1099511627776)
 (h:∀v' w',Ec w' x (up F W) (D.fs' (D.fs.set i ⟨p.1.nm,p.1.bs.take k,p.1.sf⟩)) (.slice (some ⟨gF,0,none⟩) nf cf) (L.set i (⟨p.1.nm,p.1.bs.take k,p.1.sf⟩,v'))-> Kd F W w'-> Q .normal {tmps:=(.pointer (some ⟨x,0,none⟩)::t1::t2::t3::t4::t5::t6::.int .i64 (i:Int)::t8::t9::.int .i64 ((k:Nat):Int)::t11::t12::t13::t14::t15::t16::t17::t18::t19::t20::t21::t22::t23::t24::t25::t26::t27::t28::t29::t30::t31::t32::t33::t34::t35::t36::t37::.pointer (some ⟨x,0,none⟩)::.pointer (some ⟨x,0,none⟩)::.pointer (some ⟨x,0,none⟩)::.slice (some ⟨gF,0,none⟩) nf cf::.int .i64 (i:Int)::.slice (some ⟨W.heap.size,0,none⟩) 0 0::.pointer (some ⟨x,0,none⟩)::.pointer (some ⟨x,0,none⟩)::.pointer (some ⟨x,0,none⟩)::.slice (some ⟨gF,0,none⟩) nf cf::.int .i64 (i:Int)::.pointer (some ⟨gF,i*3,none⟩)::.pointer (some ⟨gF,i*3+1,none⟩)::p.2::.int .i64 ((k:Nat):Int)::cutV p.2 k::v'::.pointer (some ⟨gF,i*3,none⟩)::.pointer (some ⟨gF,i*3+1,none⟩)::t57::t58::t59::t60::t61::t62::t63::t64::t65::t66::[]).toArray,defers:=[]} w'):
 (Code.region 9 regE9SOps true).wp Tryz.prog Q {tmps:=(.pointer (some ⟨x,0,none⟩)::t1::t2::t3::t4::t5::t6::.int .i64 (i:Int)::t8::t9::.int .i64 ((k:Nat):Int)::t11::t12::t13::t14::t15::t16::t17::t18::t19::t20::t21::t22::t23::t24::t25::t26::t27::t28::t29::t30::t31::t32::t33::t34::t35::t36::t37::t38::t39::t40::t41::t42::t43::t44::t45::t46::t47::t48::t49::t50::t51::t52::t53::t54::t55::t56::t57::t58::t59::t60::t61::t62::t63::t64::t65::t66::[]).toArray,defers:=[]} W:=by
 obtain⟨cur,hcur⟩:=hc.cur
 obtain⟨g',cap',hv',hFg,hgl,k0,k1,k2,kz⟩:=hc.at hp
 obtain⟨rfl,_,rfl⟩:gF=g'/\ nf=L.length/\ cf=cap':=by simpa using hv'
 have hby:=hc.byt i p hp
 obtain⟨av,cv,hav⟩:=d_shape hby
 obtain⟨⟨nm,bs,sf⟩,pv⟩:=p
 simp only at hav
 subst hav
 have hnf:=hc.nf
 have hbF:∀g,(Value.slice av bs.length cv).ownBlock=some g-> F g:=λg hg=>hc.fb i _ g hp hg
 have hx1:W.cell? ⟨x,0,none⟩=some (.slice (some ⟨gF,0,none⟩) nf cf):=hc.c 0
 have hbx:=hc.bx hp
 have hgx:gF≠x:=λe=>hc.rx (by rw[e];rfl)
 have hin:(i:Int) < (nf:Int):=by have:=(List.getElem?_eq_some_iff.mp hp).1;omega
 have hr2:∀{V:World},W.drew.grownBy V none-> W.grownBy V none:=λh=>⟨h.os,h.tape,h.output,h.size,h.block⟩
 have hfin:∀v' w',w'.ownsRow 0 5 1 v' k ((bs.take k).map (Value.int .u8))-> W.drew.grownBy w' none-> (∃g,v'.ownBlock=some g/\ W.heap.size<= g)-> _:=λv' w' r1 r2 r3=>h v' _ (hc.cut hp (bs:=bs.take k) (by rw[List.length_take,Nat.min_eq_left hk];exact r1) r2 r3) ((Kd.grown (hr2 r2) (λg hg=>by cases hg)).trans (Kd.set hFg))
 obtain⟨l1,l2,l3,l4⟩:=lies_own hby
 cases av with
 |none=>
  obtain⟨h0,h1⟩:=l2 rfl
  have hk0:k=0:=by omega
  have hbs:bs=[]:=List.length_eq_zero_iff.mp h0
  subst hk0 h1 hbs
  exact regE9N Q x gF nf cf i [] cur W hin rfl (.inl rfl) hcur ((cell_of_row _ _ (i*3+1) _ _ _ hcur).symm.trans k1) (λV hV=>grown_cell hx1 (hr2 hV) (by simp)) (λV hV y=>set_cell (grown_cell hx1 (hr2 hV) (by simp)) (λe=>hgx e.symm)) hfin
 |some ad=>
  obtain⟨gv,hgv⟩:∃gv,ad=⟨gv,0,none⟩:=by
   obtain⟨_,⟨e,_⟩|⟨g,cap,cu,e,_⟩⟩:=hby
   ·cases e
   ·cases e;exact⟨g,rfl⟩
  subst hgv
  have hkc:bs.length<= cv:=by
   obtain⟨_,⟨e,_⟩|⟨g,cap,cu,e,_,_,hle,_⟩⟩:=hby
   ·cases e
   ·cases e;exact hle
  refine regE9S Q x gF nf cf i (bs.take k) cur gv bs.length cv k W (by omega) (by omega) (by simp only at hb;omega) hin (by rw[List.length_take];omega) ?_ hcur ((cell_of_row _ _ (i*3+1) _ _ _ hcur).symm.trans k1) (λV hV=>grown_cell hx1 (hr2 hV) (by simp)) (λV hV y=>set_cell (grown_cell hx1 (hr2 hV) (by simp)) (λe=>hgx e.symm)) hfin
  rcases l1 with e|⟨b,off,e,hcl⟩
  ·have e':bs=[]:=e
   exact .inl (by rw[e'];simp)
  ·cases e
   refine .inr ⟨_,_,rfl,λj hj=>?_⟩
   rw[List.length_take] at hj
   have h9:=hcl j (by show j < bs.length;omega)
   rw[List.getD_eq_getElem?_getD,List.getElem?_take_of_lt (by omega),←List.getD_eq_getElem?_getD]
   exact h9
theorem regEc5D (Q:Exit-> Act-> World-> Prop) (x gF nf cf i:Nat) (F:Nat-> Prop) (D:Dk) (L:List Fv) (p:Fv) (k:Nat) {t1 t2 t3 t6 t7 t8 t9 t10 t11 t12 t13 t14 t15 t16 t17 t18 t19 t20 t21 t22 t23 t24 t25 t26 t27 t28 t29 t30 t31 t32 t33 t34 t35 t36 t37 t38 t39 t40 t41 t42 t43 t44 t45 t46 t47 t48 t49 t50 t51 t52 t53 t54 t55 t56 t57 t58 t59 t60 t61 t62 t63 t64 t65 t66 t67 t68 t69 t70 t71 t72 t73 t74 t75 t76 t77:Value} (W:World)
 (hc:Ec W x F D (.slice (some ⟨gF,0,none⟩) nf cf) L) (hp:L[i]?=some p) (hk:k<= p.1.bs.length) (hb:p.1.bs.length<= 1099511627776)
 (h:∀v' w',Ec w' x (up F W) (D.fs' (D.fs.set i ⟨p.1.nm,p.1.bs.take k,p.1.sf⟩)) (.slice (some ⟨gF,0,none⟩) nf cf) (L.set i (⟨p.1.nm,p.1.bs.take k,p.1.sf⟩,v'))-> Kd F W w'-> Q .normal {tmps:=(.pointer (some ⟨x,0,none⟩)::t1::t2::t3::.int .i64 (i:Int)::.int .i64 ((k:Nat):Int)::t6::t7::t8::t9::t10::t11::t12::t13::t14::t15::t16::t17::t18::t19::t20::t21::t22::t23::t24::t25::t26::t27::t28::t29::t30::t31::t32::t33::t34::t35::t36::t37::t38::t39::t40::t41::t42::t43::t44::t45::t46::t47::t48::t49::t50::t51::t52::.pointer (some ⟨x,0,none⟩)::.pointer (some ⟨x,0,none⟩)::.pointer (some ⟨x,0,none⟩)::.slice (some ⟨gF,0,none⟩) nf cf::.int .i64 (i:Int)::.slice (some ⟨W.heap.size,0,none⟩) 0 0::.pointer (some ⟨x,0,none⟩)::.pointer (some ⟨x,0,none⟩)::.pointer (some ⟨x,0,none⟩)::.slice (some ⟨gF,0,none⟩) nf cf::.int .i64 (i:Int)::.pointer (some ⟨gF,i*3,none⟩)::.pointer (some ⟨gF,i*3+1,none⟩)::p.2::.int .i64 ((k:Nat):Int)::cutV p.2 k::v'::.pointer (some ⟨gF,i*3,none⟩)::.pointer (some ⟨gF,i*3+1,none⟩)::t72::t73::t74::t75::t76::t77::[]).toArray,defers:=[]} w'):
 (Code.region 5 regEc5SOps true).wp Tryz.prog Q {tmps:=(.pointer (some ⟨x,0,none⟩)::t1::t2::t3::.int .i64 (i:Int)::.int .i64 ((k:Nat):Int)::t6::t7::t8::t9::t10::t11::t12::t13::t14::t15::t16::t17::t18::t19::t20::t21::t22::t23::t24::t25::t26::t27::t28::t29::t30::t31::t32::t33::t34::t35::t36::t37::t38::t39::t40::t41::t42::t43::t44::t45::t46::t47::t48::t49::t50::t51::t52::t53::t54::t55::t56::t57::t58::t59::t60::t61::t62::t63::t64::t65::t66::t67::t68::t69::t70::t71::t72::t73::t74::t75::t76::t77::[]).toArray,defers:=[]} W:=by
 obtain⟨cur,hcur⟩:=hc.cur
 obtain⟨g',cap',hv',hFg,hgl,k0,k1,k2,kz⟩:=hc.at hp
 obtain⟨rfl,_,rfl⟩:gF=g'/\ nf=L.length/\ cf=cap':=by simpa using hv'
 have hby:=hc.byt i p hp
 obtain⟨av,cv,hav⟩:=d_shape hby
 obtain⟨⟨nm,bs,sf⟩,pv⟩:=p
 simp only at hav
 subst hav
 have hnf:=hc.nf
 have hbF:∀g,(Value.slice av bs.length cv).ownBlock=some g-> F g:=λg hg=>hc.fb i _ g hp hg
 have hx1:W.cell? ⟨x,0,none⟩=some (.slice (some ⟨gF,0,none⟩) nf cf):=hc.c 0
 have hbx:=hc.bx hp
 have hgx:gF≠x:=λe=>hc.rx (by rw[e];rfl)
 have hin:(i:Int) < (nf:Int):=by have:=(List.getElem?_eq_some_iff.mp hp).1;omega
 have hr2:∀{V:World},W.drew.grownBy V none-> W.grownBy V none:=λh=>⟨h.os,h.tape,h.output,h.size,h.block⟩
 have hfin:∀v' w',w'.ownsRow 0 5 1 v' k ((bs.take k).map (Value.int .u8))-> W.drew.grownBy w' none-> (∃g,v'.ownBlock=some g/\ W.heap.size<= g)-> _:=λv' w' r1 r2 r3=>h v' _ (hc.cut hp (bs:=bs.take k) (by rw[List.length_take,Nat.min_eq_left hk];exact r1) r2 r3) ((Kd.grown (hr2 r2) (λg hg=>by cases hg)).trans (Kd.set hFg))
 obtain⟨l1,l2,l3,l4⟩:=lies_own hby
 cases av with
 |none=>
  obtain⟨h0,h1⟩:=l2 rfl
  have hk0:k=0:=by omega
  have hbs:bs=[]:=List.length_eq_zero_iff.mp h0
  subst hk0 h1 hbs
  exact regEc5N Q x gF nf cf i [] cur W hin rfl (.inl rfl) hcur ((cell_of_row _ _ (i*3+1) _ _ _ hcur).symm.trans k1) (λV hV=>grown_cell hx1 (hr2 hV) (by simp)) (λV hV y=>set_cell (grown_cell hx1 (hr2 hV) (by simp)) (λe=>hgx e.symm)) hfin
 |some ad=>
  obtain⟨gv,hgv⟩:∃gv,ad=⟨gv,0,none⟩:=by
   obtain⟨_,⟨e,_⟩|⟨g,cap,cu,e,_⟩⟩:=hby
   ·cases e
   ·cases e;exact⟨g,rfl⟩
  subst hgv
  have hkc:bs.length<= cv:=by
   obtain⟨_,⟨e,_⟩|⟨g,cap,cu,e,_,_,hle,_⟩⟩:=hby
   ·cases e
   ·cases e;exact hle
  refine regEc5S Q x gF nf cf i (bs.take k) cur gv bs.length cv k W (by omega) (by omega) (by simp only at hb;omega) hin (by rw[List.length_take];omega) ?_ hcur ((cell_of_row _ _ (i*3+1) _ _ _ hcur).symm.trans k1) (λV hV=>grown_cell hx1 (hr2 hV) (by simp)) (λV hV y=>set_cell (grown_cell hx1 (hr2 hV) (by simp)) (λe=>hgx e.symm)) hfin
  rcases l1 with e|⟨b,off,e,hcl⟩
  ·have e':bs=[]:=e
   exact .inl (by rw[e'];simp)
  ·cases e
   refine .inr ⟨_,_,rfl,λj hj=>?_⟩
   rw[List.length_take] at hj
   have h9:=hcl j (by show j < bs.length;omega)
   rw[List.getD_eq_getElem?_getD,List.getElem?_take_of_lt (by omega),←List.getD_eq_getElem?_getD]
   exact h9
theorem kd_lies {F:Nat-> Prop} {w V:World} {ab:Option Addr} {zs:List Int} (hk:Kd F w V) (hz:Lies .u8 w ab zs) (hzF:∀b off,zs≠[]-> ab=some ⟨b,off,none⟩-> ¬F b):Lies .u8 V ab zs:=by
 rcases hz with h0|⟨b,off,e,hc⟩
 ·exact .inl h0
 ·by_cases h0:zs=[]
  ·exact .inl h0
  ·exact .inr ⟨b,off,e,λj hj=>hk.cell (hc j hj) (hzF b off h0 e)⟩
theorem eAppend_any (w:World) (x:Nat) (F:Nat-> Prop) (D:Dk) (s:ByteArray) (ab:Option Addr) (nb cb:Nat) (zs:List Int) (B:Nat) (h:Em w x F D) (hk:D.Ok B) (hB:B<= 1099511627776)
 (hl:zs.length=nb) (hz:Lies .u8 w ab zs) (hzF:∀b off,zs≠[]-> ab=some ⟨b,off,none⟩-> ¬F b) (hnn:ab=none-> nb=0/\ cb=0) (hnb:nb<= 1099511627776):
 Calls Tryz.prog 68 #[.pointer (some ⟨x,0,none⟩),.string s,.slice ab nb cb] w λe w'=>EP x F (appD D s zs) w e w':=by
 have k5:=h.cells.2
 have k1:=h.cells.1
 have HD:Hid (Em w x F D/\ D.Ok B):=⟨h,hk⟩
 have HZ:Hid (zs.length=nb/\ Lies .u8 w ab zs/\ (∀b off,zs≠[]-> ab=some ⟨b,off,none⟩-> ¬F b)/\ (ab=none-> nb=0/\ cb=0)):=⟨hl,hz,hzF,hnn⟩
 have HAct:=eact_any w x F D B h hk
 have HUb:Hid (usd D.fs<= 1099511627776/\ 0<= D.room/\ D.room<= 9223372036854775807):=⟨Nat.le_trans hk.used hB,hk.room⟩
 obtain⟨vf,L,hc⟩:=h
 obtain⟨af,cf,hv⟩:=d_shape hc.row
 obtain⟨n,hn⟩:∃n,L.length=n:=⟨_,rfl⟩
 have hnb2:n<= 1099511627776:=by have:=hk.len;have:=hc.len;omega
 rw[hn] at hv
 subst hv
 have HC:Hid (Ec w x F D (.slice af n cf) L):=hc
 have HN:Hid (L.length=n/\ D.fs.length=n):=⟨hn,hc.len.trans hn⟩
 have c0:w.cell? ⟨x,0,none⟩=some (.slice af n cf):=hc.c 0
 obtain⟨i0,hi0,hs0,hs1,hs2⟩:=info_partsD infoFileE
 clear hc hn hk hl hz hzF hnn
 go_enter Tryz.func68,Tryz.ntmps68
 go_upto_region 1 with fail
 cases hw:D.dw with
 |true=>
  rw[hw] at k5
  have HR:Hid (appD D s zs=(D,2)):=by show _=_;unfold appD;rw[hw];rfl
  clear HAct
  go_wp2
  go_ret
  rw[HR.out]
  exact EP.same (Below.refl _ _) rfl HD.out.1
 |false=>
  rw[hw] at k5
  go_wp2
  go_loopw [7,8] (λv3 v wr=>LpU w n D.fs v3 v wr) (λ_ v _=>n - (intOf v).toNat)
  case atStart=>exact lpU (i:=0) (u:=0) rfl rfl (by omega) (by simp[usd])
  case round=>
   obtain⟨i,u,rfl,rfl,hi,hJ,hwr⟩:=hrel
   have HJ:Hid (u=(usd (D.fs.take i):Nat)):=hJ
   clear hJ
   rw[hwr]
   clear hwr
   by_cases hin:i=n
   ·have hin2:=hin.symm
    clear hin
    subst hin2
    have hz:¬(n:Int) < (n:Int):=by omega
    have HU:Hid (u=(usd D.fs:Nat)):=by show _=_;rw[HJ.out,←HN.out.2,List.take_length]
    have hwu:IntKind.i64.wrap (D.room - u)=D.room - u:=by have:=HUb.out;have:=HU.out;rw[IntKind.wrap_i64];omega
    clear HJ
    by_cases hfit:D.room - u < (nb:Int)
    ·have HR:Hid (appD D s zs=(D,1)):=by show _=_;unfold appD;rw[hw,if_neg (by simp),←HU.out,HZ.out.1,if_pos hfit]
     clear HAct
     go_wp2
     go_ret
     rw[HR.out]
     exact EP.same (Below.refl _ _) rfl HD.out.1
    ·have HR:Hid (appD D s zs=(actD D (addF D.fs s zs),actR D)):=by show _=_;unfold appD;rw[hw,if_neg (by simp),←HU.out,HZ.out.1,if_neg hfit]
     obtain⟨bd,hbd⟩:∃b,(if actB D=true then D.dn else true)=b:=⟨_,rfl⟩
     have HBd:Hid ((if actB D=true then D.dn else true)=bd):=hbd
     rw[hbd] at HAct
     obtain⟨ba,hba⟩:∃b,actB D=b:=⟨_,rfl⟩
     have HBa:Hid (actB D=ba):=hba
     rw[hba] at HAct
     clear hbd hba
     go_upto_region 11 with (go_at_call 95;refine HAct.mono ?_;rintro e w2 ⟨rfl,h2⟩)
     clear HAct k5 k1 c0 HU hwu hfit HC
     cases bd with
     |false=>
      go_wp2_with (go_at_call 97;refine(eans_any _ ba).mono ?_;rintro e w3 ⟨rfl,hw3⟩;rw[hw3];clear hw3)
      go_ret
      rw[HR.out]
      exact EP.not HBd.out ⟨h2.out.1,h2.out.2.1⟩ (by rw[HBa.out];rfl)
     |true=>
      have HOk:Hid ((tkE D).Ok B):=tkE_ok HD.out.2
      have HFn:=efind_any w2 x F (tkE D) s B h2.out.1 HOk.out hB
      rw[tkE_fs] at HFn
      have HZ2:Hid (Lies .u8 w2 ab zs):=kd_lies h2.out.2.1 HZ.out.2.1 HZ.out.2.2.1
      obtain⟨vf,L2,hc⟩:=h2.out.1
      obtain⟨af2,cf2,hv⟩:=d_shape hc.row
      have hn2:L2.length=n:=by rw[←hc.len,tkE_fs];exact HN.out.2
      rw[hn2] at hv
      subst hv
      have HC:Hid (Ec w2 x F (tkE D) (.slice af2 n cf2) L2/\ L2.length=n):=⟨hc,hn2⟩
      have c0:w2.cell? ⟨x,0,none⟩=some (.slice af2 n cf2):=hc.c 0
      clear hc hn2
      obtain⟨K,hK⟩:∃K,fI D.fs s=K:=⟨_,rfl⟩
      rw[hK] at HFn
      have HK:Hid (fI D.fs s=K):=hK
      clear hK
      go_upto_region 13 with (go_at_call 94;refine HFn.mono ?_;rintro e w3 ⟨rfl,hw3⟩;rw[hw3];clear hw3)
      clear HFn
      cases hf:fnd D.fs s with
      |some i=>
       have hKi:K=(i:Int):=by rw[←HK.out];exact fI_some hf
       subst hKi
       have HI:Hid (fnd D.fs s=some i):=hf
       have hz0:¬(i:Int) < 0:=by omega
       obtain⟨p,hp⟩:∃p,L2[i]?=some p:=⟨_,List.getElem?_eq_getElem (by have:=fnd_lt hf;have:=HN.out.2;have:=HC.out.2;omega)⟩
       have HP:Hid (L2[i]?=some p):=hp
       obtain⟨gF,cap,hv,_⟩:=HC.out.1.at hp
       obtain⟨rfl,hnl,rfl⟩:af2=some ⟨gF,0,none⟩/\ n=L2.length/\ cf2=cap:=by simpa using hv
       clear hf hp hv hnl c0
       go_wp2_with fail
       refine regAppE _ x gF n cf2 i F (tkE D) L2 p ab nb cb zs w2 HC.out.1 HP.out HZ.out.1 HZ2.out HZ.out.2.2.2 (by have h1:=usd_get (HC.out.1.file HP.out);have:=HOk.out.used;omega) ?_
       intro v' w' hc' hk'
       have HFin:Hid (Em w' x (up F w2) ((tkE D).fs' (addF D.fs s zs))/\ Kd F w2 w'):=by
        have e0:=HC.out.1.file HP.out
        rw[tkE_fs] at e0 hc'
        rw[addF_old HI.out e0]
        exact⟨⟨_,_,hc'⟩,hk'⟩
       clear hc' hk'
       go_wp2_with (go_at_call 97;refine(eans_any _ ba).mono ?_;rintro e w4 ⟨rfl,hw4⟩;rw[hw4];clear hw4)
       go_ret
       rw[HR.out]
       exact EP.act HBd.out h2.out.2 HFin.out (by rw[HBa.out];rfl)
      |none=>
       have hKi:K=-1:=by rw[←HK.out];exact fI_none hf
       subst hKi
       have HI:Hid (fnd D.fs s=none):=hf
       have HRow:Hid (w2.ownsRow 0 94 3 (.slice af2 n cf2) n (L2.flatMap fcell)):=by
        have h9:=HC.out.1.row
        rw[HC.out.2] at h9
        exact h9
       have HB4:Hid (∀V:World,w2.grownBy V (Value.slice af2 n cf2).ownBlock-> V.cell? ⟨x,0,none⟩=some (.slice af2 n cf2)/\ V.frozen? ⟨x,0,none⟩=false):=λV hV=>by
        have hb:=(hV.block x HC.out.1.xlt (λe=>HC.out.1.rx e.symm)).trans HC.out.1.box
        exact⟨cell_of_row _ _ 0 _ _ _ hb,frozen_of_row _ _ 0 _ _ hb⟩
       clear hf
       go_upto_region 16 with (first
        |(at_builtin;refine wpList_append_own_at _ rfl _ _ 88 rfl 0 94 i0 (.agg #[.string ⟨#[]⟩,.slice none 0 0,.int .i64 0]) 3 48 Tryz.underlying88 hi0 hs0 hs1 hs2 rfl (by decide) (.slice af2 n cf2) n (L2.flatMap fcell) rfl (World.ownsRow.alloc HRow.out _) ⟨w2.heap.size,0,none⟩ 1 1 [.string s,.slice none 0 0,.int .i64 0] rfl rfl (three_newD _ _ _ _ _) (by simp[Value.oneCell']) (by unfold maxLen;omega) (by omega) (by simp) ?_
          intro v4 w4 o4 g4 l4 t4;clear l4
          obtain⟨a4,d4,rfl⟩:=d_shape o4
          have hg4:w2.grownBy w4 (Value.slice af2 n cf2).ownBlock:=(World.grownBy_alloc w2 _ _).trans g4
          have H4:Hid (w4.ownsRow 0 94 3 (.slice a4 (n+1) d4) (n+1) (L2.flatMap fcell++[.string s,.slice none 0 0,.int .i64 0])/\ w2.grownBy w4 (Value.slice af2 n cf2).ownBlock/\ ((Value.slice a4 (n+1) d4).ownBlock=(Value.slice af2 n cf2).ownBlock∨∃g,(Value.slice a4 (n+1) d4).ownBlock=some g/\ w2.heap.size<= g)):=⟨o4,hg4,t4.imp id (λe=>⟨_,e,by simp⟩)⟩
          obtain⟨c4,z4⟩:=HB4.out w4 hg4
          obtain⟨w5,hw5⟩:∃V,w4.setCell ⟨x,0,none⟩ (.slice a4 (n+1) d4)=V:=⟨_,rfl⟩
          clear o4 g4 t4 hg4))
       try rw[hw5]
       clear c4 z4 c0
       have HC2:Hid (Ec w5 x (up F w2) ((tkE D).fs' ((tkE D).fs++[⟨s,[],0⟩])) (.slice a4 (n+1) d4) (L2++[(⟨s,[],0⟩,.slice none 0 0)])/\ Kd F w2 w5):=by
        rw[←hw5]
        refine⟨HC.out.1.new (by rw[HC.out.2];exact H4.out.1) H4.out.2.1 H4.out.2.2,(Kd.grown H4.out.2.1 (λg hg=>HC.out.1.fr g hg)).trans (Kd.set HC.out.1.fx)⟩
       have HP:Hid ((L2++[((⟨s,[],0⟩:Fl),Value.slice none 0 0)])[n]?=some (⟨s,[],0⟩,.slice none 0 0)):=by show _=_;rw[List.getElem?_append_right (by have:=HC.out.2;omega),HC.out.2];simp
       have HZ3:Hid (Lies .u8 w5 ab zs):=kd_lies HC2.out.2 HZ2.out HZ.out.2.2.1
       obtain⟨gF,cap,hv,_⟩:=HC2.out.1.at HP.out
       obtain⟨rfl,hnl,rfl⟩:a4=some ⟨gF,0,none⟩/\ n=L2.length/\ d4=cap:=by simpa using hv
       clear hv hnl hw5
       go_wp2_with fail
       refine regAppE _ x gF (n+1) d4 n (up F w2) _ _ (⟨s,[],0⟩,.slice none 0 0) ab nb cb zs w5 HC2.out.1 HP.out HZ.out.1 HZ3.out HZ.out.2.2.2 (by simp;omega) ?_
       intro v' w' hc' hk'
       have HFin:Hid (Em w' x (up F w2) ((tkE D).fs' (addF D.fs s zs))/\ Kd F w2 w'):=by
        have hfs:(D.fs++[(⟨s,[],0⟩:Fl)]).set n ⟨s,[]++zs,0⟩=D.fs++[⟨s,zs,0⟩]:=by
         rw[←HN.out.2,List.set_append_right _ _ (aqH _)];simp
        rw[addF_new HI.out,←hfs]
        rw[tkE_fs] at hc'
        refine⟨⟨_,_,hc'.mono (λk h _=>?_)⟩,HC2.out.2.upTrans hk'⟩
        rcases h with (h|h)|h
        ·exact .inl h
        ·exact .inr h
        ·exact .inr (by have:=HC2.out.2.size;omega)
       clear hc' hk'
       go_wp2_with (go_at_call 97;refine(eans_any _ ba).mono ?_;rintro e w6 ⟨rfl,hw6⟩;rw[hw6];clear hw6)
       go_ret
       rw[HR.out]
       exact EP.act HBd.out h2.out.2 HFin.out (by rw[HBa.out];rfl)
   ·have hz:(i:Int) < (n:Int):=by omega
    have hwi:IntKind.i64.wrap ((i:Int)+1)=(i:Int)+1:=by rw[IntKind.wrap_i64];omega
    obtain⟨p,hp⟩:∃p,L[i]?=some p:=⟨_,List.getElem?_eq_getElem (by rw[HN.out.1];omega)⟩
    obtain⟨g,cap,hv,_,_,_,k2,_⟩:=HC.out.at hp
    obtain⟨rfl,hmm,rfl⟩:af=some ⟨g,0,none⟩/\ n=L.length/\ cf=cap:=by simpa using hv
    obtain⟨ab2,cb2,hb⟩:=d_shape (HC.out.byt i p hp)
    rw[hb] at k2
    have h2:=usd_take_succ (HC.out.file hp)
    have h3:=usd_take_le D.fs (i+1)
    obtain⟨m,hm⟩:∃m,p.1.bs.length=m:=⟨_,rfl⟩
    rw[hm] at k2 h2
    have HJ2:Hid (u+(m:Int)=(usd (D.fs.take (i+1)):Nat)):=by show _=_;rw[h2,HJ.out];simp
    have hwu:IntKind.i64.wrap (u+(m:Int))=u+(m:Int):=by have:=HUb.out;have:=HJ.out;rw[IntKind.wrap_i64];omega
    clear hp hv hmm hb h2 h3 hm HAct
    go_wp2
    exact⟨lpU (i:=i+1) (u:=u+(m:Int)) rfl (by simp) (by omega) HJ2.out,by simp[intOf];omega⟩
theorem eCut_any (w:World) (x:Nat) (F:Nat-> Prop) (D:Dk) (s:ByteArray) (N:Int) (B:Nat) (h:Em w x F D) (hk:D.Ok B) (hB:B<= 1099511627776):Calls Tryz.prog 65 #[.pointer (some ⟨x,0,none⟩),.string s,.int .i64 N] w λe w'=>EP x F (fileD D s (λi=>cutF D.fs i N)) w e w':=by
 obtain⟨K,hK⟩:∃K,fI D.fs s=K:=⟨_,rfl⟩
 have HFn:=efind_any w x F D s B h hk hB
 rw[hK] at HFn
 have HK:Hid (fI D.fs s=K):=hK
 have k5:=h.cells.2
 have HD:Hid (Em w x F D/\ D.Ok B):=⟨h,hk⟩
 have HAct:=eact_any w x F D B h hk
 clear h hk hK
 go_enter Tryz.func65,Tryz.ntmps65
 go_upto_region 2 with (go_at_call 94;refine HFn.mono ?_;rintro e w2 ⟨rfl,hw2⟩;rw[hw2];clear hw2)
 clear HFn
 cases hw:D.dw with
 |true=>
  rw[hw] at k5
  have HR:Hid (fileD D s (λi=>cutF D.fs i N)=(D,2)):=by show _=_;unfold fileD;rw[hw];rfl
  clear HAct
  go_wp2
  go_ret
  rw[HR.out]
  exact EP.same (Below.refl _ _) rfl HD.out.1
 |false=>
  rw[hw] at k5
  cases hf:fnd D.fs s with
  |none=>
   have hK2:K=-1:=by rw[←HK.out];exact fI_none hf
   subst hK2
   have HR:Hid (fileD D s (λi=>cutF D.fs i N)=(D,3)):=by show _=_;unfold fileD;rw[hw,hf];rfl
   clear HAct hf
   go_wp2
   go_ret
   rw[HR.out]
   exact EP.same (Below.refl _ _) rfl HD.out.1
  |some i=>
   have hK2:K=(i:Int):=by rw[←HK.out];exact fI_some hf
   subst hK2
   have HR:Hid (fileD D s (λi=>cutF D.fs i N)=((actD D (cutF D.fs i N)),actR D)/\ i < D.fs.length):=⟨by show _=_;unfold fileD;rw[hw,hf];rfl,fnd_lt hf⟩
   have hz:¬(i:Int) < 0:=by omega
   have hz2:(0:Int)<= (i:Int):=by omega
   obtain⟨bd,hbd⟩:∃b,(if actB D=true then D.dn else true)=b:=⟨_,rfl⟩
   have HBd:Hid ((if actB D=true then D.dn else true)=bd):=hbd
   rw[hbd] at HAct
   obtain⟨ba,hba⟩:∃b,actB D=b:=⟨_,rfl⟩
   have HBa:Hid (actB D=ba):=hba
   rw[hba] at HAct
   clear hf hbd hba
   go_upto_region 7 with (go_at_call 95;refine HAct.mono ?_;rintro e w2 ⟨rfl,h2⟩)
   clear HAct k5
   cases bd with
   |false=>
    go_wp2_with (go_at_call 97;refine(eans_any _ ba).mono ?_;rintro e w3 ⟨rfl,hw3⟩;rw[hw3];clear hw3)
    go_ret
    rw[HR.out.1]
    exact EP.not HBd.out ⟨h2.out.1,h2.out.2.1⟩ (by rw[HBa.out];rfl)
   |true=>
    have HDt:Hid (Em w2 x F (tkE D)/\ (tkE D).Ok B/\ i < (tkE D).fs.length):=⟨h2.out.1,tkE_ok HD.out.2,by rw[tkE_fs];exact HR.out.2⟩
    obtain⟨vf,L,hc⟩:=HDt.out.1
    have hkl:=HDt.out.2.2
    obtain⟨p,hp⟩:∃p,L[i]?=some p:=⟨_,List.getElem?_eq_getElem (by rw[hc.len] at hkl;exact hkl)⟩
    obtain⟨gF,cf,hv,hFg,hgl,k0,k1,k2,kz⟩:=hc.at hp
    obtain⟨n,hn⟩:∃n,L.length=n:=⟨_,rfl⟩
    rw[hn] at hv
    subst hv
    obtain⟨av,cv,hav⟩:=d_shape (hc.byt i p hp)
    obtain⟨m,hm⟩:∃m,p.1.bs.length=m:=⟨_,rfl⟩
    rw[hav,hm] at k1
    obtain⟨k,hkk⟩:∃k:Nat,min (max N 0) (m:Int)=(k:Int):=⟨(min (max N 0) (m:Int)).toNat,by omega⟩
    have hfl:p.1.bs.length<= 1099511627776:=by have:=usd_get (hc.file hp);have:=HDt.out.2.1.used;omega
    have HC:Hid (Ec w2 x F (tkE D) (.slice (some ⟨gF,0,none⟩) n cf) L/\ L[i]?=some p/\ p.1.bs.length<= 1099511627776/\ k<= p.1.bs.length/\ cutN p.1 N=k/\ L.length=n):=⟨hc,hp,hfl,by omega,by unfold cutN;rw[hm,hkk];simp,hn⟩
    have hin:(i:Int) < (n:Int):=by rw[hc.len,hn] at hkl;omega
    have c0:w2.cell? ⟨x,0,none⟩=some (.slice (some ⟨gF,0,none⟩) n cf):=hc.c 0
    clear hc hp hav hm hn hkl k0 k2 kz hFg hgl hfl
    go_upto_region 9 with fail
    try rw[hkk]
    clear c0 k1 hkk
    refine regE9D _ x gF n cf i F (tkE D) L p k w2 HC.out.1 HC.out.2.1 HC.out.2.2.2.1 HC.out.2.2.1 ?_
    intro v' w' hc' hk'
    have hp1:(L.set i ((⟨p.1.nm,p.1.bs.take k,p.1.sf⟩:Fl),v'))[i]?=some (⟨p.1.nm,p.1.bs.take k,p.1.sf⟩,v'):=by rw[List.getElem?_set_self (by have:=HC.out.2.2.2.2.2;omega)]
    obtain⟨g',cap',hv',hFg',_,_,_,q2,qz⟩:=hc'.at hp1
    obtain⟨rfl,-,rfl⟩:gF=g'/\ n=L.length/\ cf=cap':=by simpa using hv'
    have c0:w'.cell? ⟨x,0,none⟩=some (.slice (some ⟨gF,0,none⟩) n cf):=hc'.c 0
    have z2:=qz (i*3+2)
    obtain⟨w5,hw5⟩:∃V,w'.setCell ⟨gF,i*3+2,none⟩ (.int .i64 (k:Int))=V:=⟨_,rfl⟩
    have HFin:Hid (Em w5 x (up F w2) ((tkE D).fs' (cutF D.fs i N))/\ Kd F w2 w5):=by
     have hr:=hc'.cellF hp1 (k:=i*3+2) (v:=.int .i64 (k:Int)) (q:=⟨p.1.nm,p.1.bs.take k,(k:Int)⟩) rfl (fcell_set2 _ hp1)
     rw[hw5] at hr
     have e0:=HC.out.1.file HC.out.2.1
     rw[tkE_fs] at e0 hr
     refine⟨?_,by rw[←hw5];exact hk'.upTrans (Kd.set hFg')⟩
     unfold cutF
     rw[setF_at e0,HC.out.2.2.2.2.1]
     have e1:(((tkE D).fs' (D.fs.set i ⟨p.1.nm,p.1.bs.take k,p.1.sf⟩)).fs.set i ⟨p.1.nm,p.1.bs.take k,(k:Int)⟩)=D.fs.set i ⟨p.1.nm,p.1.bs.take k,(k:Int)⟩:=by show (D.fs.set i _).set i _=_;rw[List.set_set]
     rw[e1] at hr
     exact⟨_,_,hr⟩
    clear hc' hk' hp1 hv' qz hFg'
    go_wp2_with (go_at_call 97;refine(eans_any _ ba).mono ?_;rintro e w4 ⟨rfl,hw4⟩;rw[hw4];clear hw4)
    go_ret
    rw[HR.out.1]
    exact EP.act HBd.out h2.out.2 HFin.out (by rw[HBa.out];rfl)
def CjE (w:World) (x n:Nat) (F:Nat-> Prop) (D:Dk) (keep:Int) (v:Value) (wr:World):Prop:=∃i:Nat,v=.int .i64 i/\ i<= n/\ Em wr x (up F w) (D.fs' (crF D.fs keep i))/\ Kd F w wr
theorem eCrash_any (w:World) (x:Nat) (F:Nat-> Prop) (D:Dk) (keep:Int) (B:Nat) (hd:Em w x F D) (hk:D.Ok B) (hB:B<= 1099511627776):Calls Tryz.prog 67 #[.pointer (some ⟨x,0,none⟩),.int .i64 keep] w λe w'=>(∃v,e=.returned v)/\ Em w' x (up F w) (crD D keep)/\ Kd F w w':=by
 have HD:Hid (Em w x F D):=hd
 obtain⟨n,hn⟩:∃n,D.fs.length=n:=⟨_,rfl⟩
 have hnb:n<= 1099511627776:=by have:=hk.len;omega
 have HN:Hid (D.fs.length=n):=hn
 have HK:Hid (D.Ok B):=hk
 obtain⟨M,hM⟩:∃M,max keep 0=M:=⟨_,rfl⟩
 have HM:Hid (nn0 keep=M/\ 0<= M):=⟨by unfold nn0;split<;>omega,by omega⟩
 have HLn:Hid (∀i,(crF D.fs keep i).length=n):=λi=>by
  unfold crF
  rw[List.length_append,List.length_map,List.length_take,List.length_drop,hn];omega
 clear hd hn hk
 go_enter Tryz.func67,Tryz.ntmps67
 go_wp2
 go_loopw [4] (λv wr=>CjE w x n F D keep v wr) (λv _=>n - (intOf v).toNat)
 case atStart=>
  have e:crF D.fs keep 0=D.fs:=by simp[crF]
  exact⟨0,rfl,by omega,by rw[e];exact HD.out.mono (λk h _=>.inl h),Kd.refl _ _⟩
 case round=>
  obtain⟨i,rfl,hi,hDr,hKr⟩:=hrel
  have HDr:Hid (Em wr x (up F w) (D.fs' (crF D.fs keep i))/\ Kd F w wr):=⟨hDr,hKr⟩
  obtain⟨vf,L,hc⟩:=hDr
  have hll:L.length=n:=by
   have h1:=hc.len
   rw[←h1]
   exact HLn.out i
  obtain⟨af,cfx,hv⟩:=d_shape hc.row
  rw[hll] at hv
  subst hv
  have c0:wr.cell? ⟨x,0,none⟩=some (.slice af n cfx):=hc.c 0
  by_cases hin:i=n
  ·have hin2:=hin.symm
   clear hin
   subst hin2
   have hz:¬(n:Int) < (n:Int):=by omega
   have k3:wr.cell? ⟨x,3,none⟩=some (.bool D.arm):=hc.c 3
   have k5:wr.cell? ⟨x,5,none⟩=some (.bool D.dw):=hc.c 5
   have z3:=hc.z 3
   have z5:=hc.z 5
   have HR:Hid (∀V:World,V.heap=((wr.setCell ⟨x,3,none⟩ (.bool false)).setCell ⟨x,5,none⟩ (.bool false)).heap-> V.os=wr.os-> V.tape=wr.tape-> V.output=wr.output-> Em V x (up F w) (crD D keep)/\ Kd F w V):=λV hV h1 h2 h3=>by
    have e1:(wr.setCell ⟨x,3,none⟩ (.bool false)).heap[x]?=_:=heap_setCell_same wr x 3 _ _ _ hc.box
    have e2:((wr.setCell ⟨x,3,none⟩ (.bool false)).setCell ⟨x,5,none⟩ (.bool false)).heap[x]?=_:=heap_setCell_same _ x 5 _ _ _ e1
    have ho:∀k,k≠x-> V.heap[k]?=wr.heap[k]?:=λk hk=>by
     rw[hV]
     exact(heap_setCell_other _ _ _ _ hk).trans (heap_setCell_other _ _ _ _ hk)
    have hfs:(crD D keep).fs=(D.fs' (crF D.fs keep n)).fs:=by
     show D.fs.map (cr1 keep)=crF D.fs keep n
     exact(crF_all _ _ (by have:=HN.out;omega)).symm
    refine⟨⟨_,L,hc.boxed hfs ?_ ho⟩,HDr.out.2.trans ⟨h1,h2,h3,by rw[hV];simp[World.setCell],λk hk hn=>ho k (λe=>?_)⟩⟩
    ·rw[hV,e2]
     unfold crD
     rfl
    ·exact hn (e ▸ HD.out.fx)
   clear hc
   go_wp2
   refine bodyPost_end (v:=.tuple #[]) (by simp[results,Tryz.results67,go_sem]) rfl ?_
   exact⟨⟨_,rfl⟩,HR.out _ rfl rfl rfl rfl⟩
  ·have hz:(i:Int) < (n:Int):=by omega
   have hi0:(0:Int)<= (i:Int):=by omega
   have hwi:IntKind.i64.wrap ((i:Int)+1)=(i:Int)+1:=by rw[IntKind.wrap_i64];omega
   obtain⟨f,hf⟩:∃f,D.fs[i]?=some f:=⟨_,List.getElem?_eq_getElem (by rw[HN.out];omega)⟩
   obtain⟨hf1,hf2⟩:=crF_step (keep:=keep) hf
   have hok:=HK.out.fs f (List.mem_of_getElem? hf)
   have hfl:f.bs.length<= 1099511627776:=by have:=usd_get hf;have:=HK.out.used;omega
   obtain⟨p,hp⟩:∃p,L[i]?=some p:=⟨_,List.getElem?_eq_getElem (by omega)⟩
   have hpf:p.1=f:=by
    have h1:=hc.file hp
    have h2:(D.fs' (crF D.fs keep i)).fs[i]?=some f:=hf1
    rw[h2] at h1
    exact(Option.some.inj h1).symm
   obtain⟨gF,cfy,hv,hFg,hgl,k0,k1,k2,kz⟩:=hc.at hp
   obtain⟨rfl,-,rfl⟩:af=some ⟨gF,0,none⟩/\ n=L.length/\ cfx=cfy:=by simpa using hv
   obtain⟨av,cv,hav⟩:=d_shape (hc.byt i p hp)
   obtain⟨⟨nm,bs,sf⟩,pv⟩:=p
   simp only at hpf hav k0 k1 k2
   subst hpf
   subst hav
   simp only at hfl
   obtain⟨m,hm⟩:∃m,bs.length=m:=⟨_,rfl⟩
   obtain⟨q,hq⟩:∃q,min M ((m:Int) - sf)=q:=⟨_,rfl⟩
   have hlo:0<= sf:=hok.lo
   have hhi:sf<= bs.length:=hok.hi
   have hq2:0<= q/\ sf+q<= bs.length:=by have:=HM.out.2;omega
   have hw1:IntKind.i64.wrap ((m:Int) - sf)=(m:Int) - sf:=by rw[IntKind.wrap_i64];omega
   have hw2:IntKind.i64.wrap (sf+q)=sf+q:=by rw[IntKind.wrap_i64];omega
   obtain⟨k,hkk⟩:∃k:Nat,sf+q=(k:Int):=⟨(sf+q).toNat,by omega⟩
   have hw3:IntKind.i64.wrap (k:Int)=(k:Int):=by rw[←hkk];exact hw2
   have HQ:Hid (cr1 keep ⟨nm,bs,sf⟩=⟨nm,bs.take k,(k:Int)⟩):=by
    show _=_
    have e9:crQ ⟨nm,bs,sf⟩ M=q:=by unfold crQ;simp only;rw[←hq,hm];split<;>omega
    unfold cr1
    rw[HM.out.1,e9,hkk]
    simp
   rw[hm] at k1
   have HCc:Hid (Ec wr x (up F w) (D.fs' (crF D.fs keep i)) (.slice (some ⟨gF,0,none⟩) n cfx) L/\ L[i]?=some (⟨nm,bs,sf⟩,.slice av bs.length cv)/\ up F w gF/\ bs.length<= 1099511627776/\ k<= bs.length/\ L.length=n/\ (crF D.fs keep i).set i (cr1 keep ⟨nm,bs,sf⟩)=crF D.fs keep (i+1)):=⟨hc,hp,hFg,hfl,by omega,hll,hf2⟩
   have HS:Hid (wr.cell? ⟨x,0,none⟩=some (.slice (some ⟨gF,0,none⟩) n cfx)/\ wr.cell? ⟨gF,i*3+2,none⟩=some (.int .i64 sf)/\ wr.cell? ⟨gF,i*3+1,none⟩=some (.slice av m cv)):=⟨c0,k2,k1⟩
   have z2:=kz (i*3+2)
   obtain⟨V1,hV1⟩:∃V,(wr.setCell ⟨gF,i*3+2,none⟩ (.int .i64 (k:Int))).drew=V:=⟨_,rfl⟩
   have HC1:Hid (Ec V1 x (up F w) ((D.fs' (crF D.fs keep i)).fs' ((crF D.fs keep i).set i ⟨nm,bs,(k:Int)⟩)) (.slice (some ⟨gF,0,none⟩) n cfx) (L.set i (⟨nm,bs,(k:Int)⟩,.slice av bs.length cv))/\ Kd (up F w) wr V1):=by
    have hc1:=(hc.same (w':=wr.drew) (λ_ _ _=>rfl)).cellF hp (k:=i*3+2) (v:=.int .i64 (k:Int)) (q:=⟨nm,bs,(k:Int)⟩) rfl (fcell_set2 _ hp)
    have e0:wr.drew.setCell ⟨gF,i*3+2,none⟩ (.int .i64 (k:Int))=V1:=hV1
    rw[e0] at hc1
    exact⟨hc1,by rw[←e0];exact(Kd.refl _ _).drew.trans (Kd.set hFg)⟩
   clear hc hp hf hf1 hf2 hok hFg hgl kz hv hll hKr hlo hhi k0 hfl hq2
   go_upto_region 3 with fail
   go_region_held3 (λV=>V.cell? ⟨x,0,none⟩=some (.slice (some ⟨gF,0,none⟩) n cfx)/\ V.cell? ⟨gF,i*3+2,none⟩=some (.int .i64 sf)/\ V.cell? ⟨gF,i*3+1,none⟩=some (.slice av m cv))
    (first|exact HS.out)
    (fail)
   go_upto_region 5 with fail
   try rw[hV1]
   clear hV1 hM hq hkk k1 k2 c0 z2
   refine regEc5D _ x gF n cfx i (up F w) _ _ (⟨nm,bs,(k:Int)⟩,.slice av bs.length cv) k V1 HC1.out.1 (by rw[List.getElem?_set_self (by have:=HCc.out.2.2.2.2.2.1;omega)]) HCc.out.2.2.2.2.1 HCc.out.2.2.2.1 ?_
   intro v' w' hc' hk'
   have HE:Hid (CjE w x n F D keep (.int .i64 ((i:Int)+1)) w'):=by
    refine⟨i+1,by simp,by omega,?_,(HDr.out.2.upTrans HC1.out.2).upTrans ?_⟩
    ·have e1:((D.fs' (crF D.fs keep i)).fs' ((crF D.fs keep i).set i ⟨nm,bs,(k:Int)⟩)).fs.set i ⟨nm,bs.take k,(k:Int)⟩=crF D.fs keep (i+1):=by
      show ((crF D.fs keep i).set i _).set i _=_
      rw[List.set_set,←HQ.out,HCc.out.2.2.2.2.2.2]
     rw[e1] at hc'
     have hs:=HDr.out.2.size
     have hs2:=HC1.out.2.size
     exact⟨_,_,hc'.mono (λg h _=>h.elim id (λq=>.inr (by omega)))⟩
    ·exact hk'
   clear hc' hk'
   go_wp2
   exact⟨HE.out,by simp[intOf];omega⟩
structure FoE (w:World) (v:Value) (L:List Fv):Prop where
 row:w.ownsRow 0 94 3 v L.length (L.flatMap fcell)
 byt:∀(i:Nat) p,L[i]?=some p-> w.ownsRow 0 5 1 p.2 p.1.bs.length (p.1.bs.map (Value.int .u8))
def FjE (w:World) (n:Nat) (fs:List Fl) (v3 v:Value) (wr:World):Prop:=∃(i:Nat) (Lo:List Fv),v=.int .i64 i/\ i<= n/\ FoE wr v3 Lo/\ Lo.map (·.1)=fs.take i/\ (∀g,v3.ownBlock=some g-> w.heap.size<= g)/\ Below w.heap.size w wr
def FilE (fs:List Fl) (w:World) (e:Ending) (w':World):Prop:=∃v L,e=.returned v/\ FoE w' v L/\ L.map (·.1)=fs/\ Below w.heap.size w w'
theorem eFiles_any (w:World) (x:Nat) (F:Nat-> Prop) (D:Dk) (B:Nat) (hd:Em w x F D) (hk:D.Ok B) (hB:B<= 1099511627776):Calls Tryz.prog 36 #[.pointer (some ⟨x,0,none⟩)] w λe w'=>FilE D.fs w e w':=by
 obtain⟨n,hn⟩:∃n,D.fs.length=n:=⟨_,rfl⟩
 obtain⟨vf,L,hc⟩:=hd
 have hnb:n<= 1099511627776:=by have:=hk.len;omega
 obtain⟨af,cf,hv⟩:=d_shape hc.row
 rw[←hc.len,hn] at hv
 subst hv
 have HC:Hid (Ec w x F D (.slice af n cf) L):=hc
 have HN:Hid (D.fs.length=n):=hn
 have HK:Hid (D.Ok B):=hk
 clear hc hn hk
 go_enter Tryz.func36,Tryz.ntmps36
 go_wp2
 go_loopw [3,4] (λv3 v wr=>FjE w n D.fs v3 v wr) (λ_ v _=>n - (intOf v).toNat)
 case atStart=>exact⟨0,[],rfl,by omega,⟨World.ownsRow_nil _ _ _ _,λi p hp=>by simp at hp⟩,by simp,λg hg=>(by cases hg),Below.refl _ _⟩
 case round=>
  obtain⟨i,Lo,rfl,hi,hFo,hLo,hvo,hBe⟩:=hrel
  have hcr:=HC.out.same (w':=wr) (λk _ hk=>hBe.block k hk)
  have c0:wr.cell? ⟨x,0,none⟩=some (.slice af n cf):=hcr.c 0
  by_cases hin:i=n
  ·have HR:Hid (FoE wr u3 Lo/\ Lo.map (·.1)=D.fs/\ Below w.heap.size w wr):=⟨hFo,by rw[hLo,List.take_of_length_le (by have:=HN.out;omega)],hBe⟩
   have hin2:=hin.symm
   clear hin
   subst hin2
   have hz:¬(n:Int) < (n:Int):=by omega
   clear hFo hLo hvo hBe hcr
   go_wp2
   go_ret
   exact⟨_,Lo,rfl,HR.out⟩
  ·have hz:(i:Int) < (n:Int):=by omega
   have hi0:(0:Int)<= (i:Int):=by omega
   have hwi:IntKind.i64.wrap ((i:Int)+1)=(i:Int)+1:=by rw[IntKind.wrap_i64];omega
   obtain⟨p,hp⟩:∃p,L[i]?=some p:=⟨_,List.getElem?_eq_getElem (by rw[←HC.out.len,HN.out];omega)⟩
   obtain⟨gF,cfx,hv,hFg,hgl,k0,k1,k2,kz⟩:=hcr.at hp
   obtain⟨rfl,-,rfl⟩:af=some ⟨gF,0,none⟩/\ n=L.length/\ cf=cfx:=by simpa using hv
   clear hv
   obtain⟨av,cv,hav⟩:=d_shape (hcr.byt i p hp)
   have hpf:=HC.out.file hp
   have hfl:p.1.bs.length<= 1099511627776:=by have:=usd_get hpf;have:=HK.out.used;omega
   obtain⟨⟨nm,bs,sf⟩,pv⟩:=p
   simp only at hav k0 k1 k2 hpf hfl
   subst hav
   have hlo:Lo.length=i:=by
    have:=congrArg List.length hLo
    rw[List.length_map,List.length_take,HN.out] at this
    omega
   have hgF:gF < w.heap.size:=(d_lt HC.out.row gF rfl).2
   have hxl:x < w.heap.size:=HC.out.xlt
   obtain⟨l1,l2,_,_⟩:=lies_own (hcr.byt i _ hp)
   have hvl:∃a c,u3=.slice a i c:=by obtain⟨a,c,e⟩:=d_shape hFo.row;rw[hlo] at e;exact⟨a,c,e⟩
   have hnx:∀g,u3.ownBlock=some g-> w.heap.size<= g:=hvo
   go_wp2_with fail
   refine regEf5 _ x gF n cf i i nm sf av bs.length cv bs u3 (Lo.flatMap fcell) wr hz rfl l1 l2 hfl (by omega) (λU hU=>?_) hvl (λU hU ro hro U2 hU2=>?_) ?_
   ·have h1:=hFo.row
    rw[hlo] at h1
    exact d_blk h1 (λg hg'=>hU.block g (d_lt h1 g hg').2 (by simp))
   ·have hne:∀b,b < w.heap.size-> ro≠some b:=λb hb e=>by
     rcases hro with e2|e2
     ·rw[e2] at e;cases e
     ·rw[e2] at e;have:=hvo b e;omega
    have hg:∀{b j:Nat} {v:Value},b < w.heap.size-> wr.cell? ⟨b,j,none⟩=some v-> U2.cell? ⟨b,j,none⟩=some v:=λhb hc=>grown_cell (grown_cell hc (show wr.grownBy U none from ⟨hU.os,hU.tape,hU.output,hU.size,hU.block⟩) (by simp)) hU2 (hne _ hb)
    exact⟨hg hxl c0,hg hgF k0,hg hgF k1,hg hgF k2⟩
   ·intro v1 w1 v2 w2 r1 r2 r3 r4 r5 r6
    have HE:Hid (FjE w n D.fs v2 (.int .i64 ((i:Int)+1)) w2):=by
     have g1:wr.grownBy w1 none:=⟨r2.os,r2.tape,r2.output,r2.size,r2.block⟩
     have s1:=g1.size
     have s2:=r5.size
     have s3:=hBe.size
     obtain⟨gv,hgv,hgl2⟩:=r3
     have nvo:∀g,u3.ownBlock=some g-> w.heap.size<= g/\ g < wr.heap.size:=λg hg'=>⟨hvo g hg',(d_lt hFo.row g hg').2⟩
     refine⟨i+1,Lo++[(⟨nm,bs,sf⟩,v1)],by simp,by omega,⟨?_,λj p hp=>?_⟩,?_,λg hg'=>?_,?_⟩
     ·rw[List.length_append,hlo,List.flatMap_append];exact r4
     ·rcases Nat.lt_or_ge j Lo.length with e|e
      ·rw[List.getElem?_append_left e] at hp
       have hb:=hFo.byt j p hp
       exact d_blk hb (λg hg'=>(r5.block g (by have:=(d_lt hb g hg').2;omega) (λe2=>d_apart hFo.row hb (by decide) e2.symm hg')).trans (g1.block g (d_lt hb g hg').2 (by simp)))
      ·rw[List.getElem?_append_right e] at hp
       rcases Nat.eq_zero_or_pos (j - Lo.length) with e2|e2
       ·rw[e2] at hp
        simp at hp
        subst hp
        exact d_blk r1 (λg hg'=>r5.block g (d_lt r1 g hg').2 (λe3=>by have h8:=(nvo g e3.symm).2;have h9:gv=g:=Option.some.inj (hgv.symm.trans hg');omega))
       ·rw[List.getElem?_eq_none (by simp;omega)] at hp;cases hp
     ·rw[List.map_append,hLo,List.take_add_one,hpf];rfl
     ·rcases r6 with e|⟨g',e,hl⟩
      ·exact hvo g (e ▸ hg')
      ·have e2:g'=g:=Option.some.inj (e.symm.trans hg')
       omega
     ·exact⟨r5.os.trans (g1.os.trans hBe.os),r5.tape.trans (g1.tape.trans hBe.tape),r5.output.trans (g1.output.trans hBe.output),by omega,λk hk=>(r5.block k (by omega) (λe=>by have:=(nvo k e.symm).1;omega)).trans ((g1.block k (by omega) (by simp)).trans (hBe.block k hk))⟩
    have hv2:∃a c,v2=.slice a (i+1) c:=d_shape r4
    obtain⟨a2,c2,rfl⟩:=hv2
    clear r1 r2 r3 r4 r5 r6 hFo hLo hvo hBe hcr hp l1 l2 hnx c0 k0 k1 k2
    go_wp2
    exact⟨HE.out,by simp[intOf];omega⟩
end Go.Proofs.YtllhbhogfffedaaGreatDoor.K
namespace Go.Proofs.YtllhbhogfffedaaGreatDoor
open Go.RowKit
set_option linter.unusedVariables false
theorem ltB_len {r:Rc} (hk:kf r.kind≠0) (hok:okNs (kf r.kind) r 8=true) (h8:hasB (kf r.kind) 8=true-> r.spans.length<= 500/\ SpOk r.spans) (h9:hasB (kf r.kind) 9=true-> r.data.length<= 65536) {c:UInt8} (hc:c∈fsB r.kind):(ltB r c).length<= 70000:=by
 rcases let_cases hk hc with ⟨rfl,h⟩|⟨rfl,h⟩|⟨j,hj,rfl⟩
 ·have h1:=h9 h
  have h2:=enc_len' (n:=(r.data.length:Int)) (by omega) (by omega)
  rw[ltB68,List.length_append,h2.1]
  omega
 ·have h1:=h8 h
  have h2:=flat_len h1.2
  have h3:=enc_len' (n:=(r.spans.length:Int)) (by omega) (by omega)
  rw[ltB83]
  unfold spB
  rw[List.length_append,h3.1]
  omega
 ·have h2:=okN_bd (okNs_at hok hj)
  have h3:=enc_len' (n:=nmA r j) h2.1 (by omega)
  rw[ltBn r j hj,h3.1]
  omega
theorem flat_lt {l:List UInt8} {f:UInt8-> List Int} {b:Nat} (h:∀c∈l,(f c).length<= b):(l.flatMap f).length<= l.length*b:=by
 induction l with
 |nil=>simp
 |cons x r ih=>
  rw[List.flatMap_cons,List.length_append,List.length_cons,Nat.add_mul,Nat.one_mul]
  have h1:=h x (by simp)
  have h2:=ih (λc hc=>h c (List.mem_cons_of_mem _ hc))
  omega
theorem flat_take {l:List UInt8} {f:UInt8-> List Int} {k:Nat} {c:UInt8} (h:l[k]?=some c):(l.take (k+1)).flatMap f=(l.take k).flatMap f++f c:=by
 rw[List.take_add_one,h];simp
theorem print2_any (r:Rc) (sa da:Option Addr) (ns nd sc dc:Nat) (w:World) (hr:RIn w r sa da ns nd sc dc):
 Calls Tryz.prog 52 #[.agg (rcC r (.slice sa ns sc) (.slice da nd dc))] w (PrPost (prR r) w):=by
 obtain⟨i0,hi,hz0,hz1,hz2⟩:=info_parts Tryz.info_u8
 have HB:Hid (Below w.heap.size w (w.alloc (rcO r (.slice sa ns sc) (.slice da nd dc)))):=(Below.refl _ _).alloc (aqH _) _
 have HX:Hid ((w.alloc (rcO r (.slice sa ns sc) (.slice da nd dc))).heap[w.heap.size]?=some (rcO r (.slice sa ns sc) (.slice da nd dc))):=heap_new6 w _
 have hr1:=hr.below HB.out
 have HM:Hid (Calls Tryz.prog 85 #[.agg (rcC r (.slice sa ns sc) (.slice da nd dc))] (w.alloc (rcO r (.slice sa ns sc) (.slice da nd dc))) λe w'=>e=.returned (.int .i64 (prR r).2)/\ Below (w.alloc (rcO r (.slice sa ns sc) (.slice da nd dc))).heap.size (w.alloc (rcO r (.slice sa ns sc) (.slice da nd dc))) w'):=right2_any r sa da ns nd sc dc _ hr1
 cases hm:mayB6 r with
 |false=>
  have HP:Hid (prR r=([],60)):=by unfold Hid prR;rw[hm];rfl
  rw[HP.out] at HM
  rw[HP.out]
  clear HP hm hr hr1
  go_enter Tryz.func52,Tryz.ntmps52
  go_wp2_with (go_at_call 85;refine HM.out.mono ?_;rintro e w1 ⟨rfl,hb1⟩)
  go_ret2
  exact⟨_,rfl,World.ownsRow_nil _ _ _ _,HB.out.trans (hb1.mono HB.out.size)⟩
 |true=>
  obtain⟨h1,h2,h3,h4⟩:=may_parts hm
  have HP:Hid (prR r=(prB r,0)):=by unfold Hid prR;rw[hm];rfl
  rw[HP.out] at HM
  rw[HP.out]
  have HPL:Hid (prB r=r.kind::(fsB r.kind).flatMap (ltB r)):=pr_letters r h1
  have HLC:Hid (∀c∈fsB r.kind,(c=68/\ hasB (kf r.kind) 9=true)∨(c=83/\ hasB (kf r.kind) 8=true)∨∃j,j < 8/\ c=ltL.getD j 0):=λc hc=>let_cases h1 hc
  have HLN:Hid (∀c∈fsB r.kind,(ltB r c).length<= 70000):=λc hc=>ltB_len h1 h2 h3 h4 hc
  have HFS:Hid (∀W,Calls Tryz.prog 86 #[.int .i64 r.kind] W λe w'=>e=.returned (.string ⟨(fsB r.kind).toArray⟩)/\ W=w'):=λW=>fields2_any r.kind W
  have HOK:Hid (okNs (kf r.kind) r 8=true):=h2
  have H8:Hid (hasB (kf r.kind) 8=true-> ns<= 500/\ SpOk r.spans):=λh=>by have:=h3 h;rw[hr.spn] at this;exact this
  have H9:Hid (hasB (kf r.kind) 9=true-> nd<= 65536):=λh=>by have:=h4 h;rw[hr.dat] at this;exact this
  have HS:Hid (SpIn w sa r.spans):=hr.spin
  have HD:Hid (∀W,Below w.heap.size w W-> Lies .u8 W da r.data):=λW hW=>hr.lie.below hW
  have HN:Hid (da=none-> nd=0/\ dc=0):=hr.nil
  have HNS:Hid (r.spans.length=ns):=hr.spn
  have HND:Hid (r.data.length=nd):=hr.dat
  have hkb:=kf_bd h1
  have hkw:IntKind.u8.wrap r.kind=r.kind:=by simp only[IntKind.wrap,IntKind.bits,IntKind.signed];simp;omega
  have hfl:=(letters h1).2.2.2.2
  clear HP hm hr hr1 h1 h2 h3 h4
  generalize kf r.kind=f at*
  generalize fsB r.kind=fs at*
  go_enter Tryz.func52,Tryz.ntmps52
  go_wp2_with (first|(go_at_call 85;refine HM.out.mono ?_;rintro e w1 ⟨rfl,hb1⟩;have HB1:Hid (Below w.heap.size w w1):=HB.out.trans (hb1.mono HB.out.size);have HX1:Hid (w1.heap[w.heap.size]?=some (rcO r (.slice sa ns sc) (.slice da nd dc))):=(hb1.block _ (by simp)).trans HX.out;have HX2:Hid ((w1.alloc (Obj.cells #[Value.int IntKind.u8 r.kind] 5)).heap[w.heap.size]?=some (rcO r (.slice sa ns sc) (.slice da nd dc))):=(((Below.refl _ _).alloc (aqH _) (Obj.cells #[Value.int IntKind.u8 r.kind] 5)).block _ (Array.getElem?_eq_some_iff.mp HX1.out).1).trans HX1.out;obtain⟨c0,c1,c2,c3,c4,c5,c6,c7,c8,c9,c10⟩:=rc_cells HX1.out;have d0:=(rc_cells HX2.out).1;clear hb1)|(go_at_call 86;refine(HFS.out _).mono ?_;rintro e w2 ⟨rfl,rfl⟩))
  have hfd:fs.length<= 10:=hfl
  have HO1:Hid ((w1.alloc (Obj.cells #[Value.int IntKind.u8 r.kind] 5)).ownsRow w.heap.size 5 1 (.slice (some ⟨w1.heap.size,0,none⟩) 1 1) (1+((fs.take 0).flatMap (ltB r)).length) (.int .u8 r.kind::((fs.take 0).flatMap (ltB r)).map (Value.int .u8))):=by
   have h1:(w1.alloc (.cells #[.int .u8 r.kind] 5)).ownsRow w.heap.size 5 1 (.slice (some ⟨w1.heap.size,0,none⟩) 1 1) 1 [.int .u8 r.kind]:=own_base6 (World.ownsRow_lit w1 #[.int .u8 r.kind] 1 (by simp) (by unfold maxLen;omega) rfl) HB1.out.size
   unfold Hid
   simpa using h1
  have HB2:Hid (Below w.heap.size w (w1.alloc (Obj.cells #[Value.int IntKind.u8 r.kind] 5))):=HB1.out.alloc HB1.out.size _
  have HFL:Hid (∀k,((fs.take k).flatMap (ltB r)).length<= 700000):=λk=>by
   have h1:=flat_lt (l:=fs.take k) (f:=ltB r) (b:=70000) (λc hc=>HLN.out c (List.mem_of_mem_take hc))
   have h2:(fs.take k).length<= 10:=by rw[List.length_take];omega
   have h3:=Nat.mul_le_mul_right 70000 h2
   omega
  clear HB HX HM HX1 HB1 c0 c1 c2 c3 c4 c5 c6 c7 c8 c9 c10 d0 HLN
  generalize w1.alloc (Obj.cells #[Value.int IntKind.u8 r.kind] 5)=w3 at*
  go_loopw [5,7] (λb i wr=>∃k:Nat,k<= fs.length/\ i=.int .i64 k/\ wr.ownsRow w.heap.size 5 1 b (1+((fs.take k).flatMap (ltB r)).length) (.int .u8 r.kind::((fs.take k).flatMap (ltB r)).map (Value.int .u8))/\ Below w.heap.size w wr/\ wr.heap[w.heap.size]?=some (rcO r (.slice sa ns sc) (.slice da nd dc))) (λ_ i _=>fs.length - (intOf i).toNat)
  case atStart=>exact⟨0,Nat.zero_le _,rfl,HO1.out,HB2.out,HX2.out⟩
  case round=>
   obtain⟨k,hk,rfl,ho,hb,hx⟩:=hrel
   have HO:Hid (wr.ownsRow w.heap.size 5 1 u5 (1+((fs.take k).flatMap (ltB r)).length) (.int .u8 r.kind::((fs.take k).flatMap (ltB r)).map (Value.int .u8))):=ho
   have HBr:Hid (Below w.heap.size w wr):=hb
   have HXr:Hid (wr.heap[w.heap.size]?=some (rcO r (.slice sa ns sc) (.slice da nd dc))):=hx
   have hfk:=HFL.out k
   clear ho hb hx HO1 HB2 HX2
   by_cases hlt:k < fs.length
   ·have hlt':(k:Int) < (fs.length:Int):=by omega
    obtain⟨c0,c1,c2,c3,c4,c5,c6,c7,c8,c9,c10⟩:=rc_cells HXr.out
    have hck:fs[k]?=some fs[k]:=List.getElem?_eq_getElem hlt
    have HTK:Hid ((fs.take (k+1)).flatMap (ltB r)=(fs.take k).flatMap (ltB r)++ltB r fs[k]):=flat_take hck
    generalize (fs.take k).flatMap (ltB r)=bs at*
    rcases HLC.out fs[k] (List.getElem_mem hlt) with ⟨hc,h9⟩|⟨hc,h8⟩|⟨j,hj,hc⟩
    ·have hcv:((({data:=fs.toArray}:ByteArray)[k]'(show k < fs.toArray.size by simpa using hlt)).toNat:Int)=68:=by show (((fs.toArray[k]'(by simpa using hlt)).toNat:Nat):Int)=68;simp[hc]
     have hnd9:=H9.out h9
     rw[hc,ltB68,HND.out] at HTK
     have hel:=enc_len' (n:=(nd:Int)) (by omega) (by omega)
     have HP:=number2_any u5 _ _ w.heap.size (nd:Int) wr (by omega) (by omega) HO.out HBr.out.size (by omega)
     go_wp2_with (first|(go_at_call 87;refine HP.mono ?_;rintro e w2 ⟨v2,rfl,ho2,hb2,hk2⟩;have HB2:Hid (Below w.heap.size w w2):=HBr.out.trans hb2;have hs2:=HB2.out.size;have HX2:Hid (w2.heap[w.heap.size]?=some (rcO r (.slice sa ns sc) (.slice da nd dc))):=hk2 _ _ _ _ HXr.out (by decide);obtain⟨_,_,_,_,_,_,_,_,_,d9,d10⟩:=rc_cells HX2.out;clear hk2 hb2)|(at_builtin;refine append_at _ rfl _ _ 35 rfl w.heap.size 5 i0 (.int .u8 0) 1 Tryz.underlying35 hi hz0 hz1 hz2 rfl _ _ _ rfl ho2 .u8 _ _ _ r.data rfl HN.out HND.out (HD.out _ HB2.out) (by unfold maxLen;omega) (by omega) hs2 ?_;intro v3 w3 ho3 hg3 hst3))
     have HX3:Hid (w3.heap[w.heap.size]?=some (rcO r (.slice sa ns sc) (.slice da nd dc))):=(Keeps8.grown ho2 hg3) _ _ _ _ HX2.out (by decide)
     have HB3:Hid (Below w.heap.size w w3):=own_grown HB2.out hg3 ho2 hs2
     have HO3:Hid (w3.ownsRow w.heap.size 5 1 v3 (1+((fs.take (k+1)).flatMap (ltB r)).length) (.int .u8 r.kind::((fs.take (k+1)).flatMap (ltB r)).map (Value.int .u8))):=by
      unfold Hid
      rw[HTK.out]
      have h:=grow_to ho3 (m:=1+(bs++(enc (nd:Int)++r.data)).length) (by simp only[List.length_append,hel.1,HND.out];omega)
      simp only[List.map_append,List.cons_append,List.append_assoc] at h ⊢
      exact h
     go_roundw
     case rel=>exact⟨k+1,by omega,by go_num,HO3.out,HB3.out,HX3.out⟩
     case measure=>simp[intOf];omega
    ·have hcv:((({data:=fs.toArray}:ByteArray)[k]'(show k < fs.toArray.size by simpa using hlt)).toNat:Int)=83:=by show (((fs.toArray[k]'(by simpa using hlt)).toNat:Nat):Int)=83;simp[hc]
     have h8':=H8.out h8
     rw[hc,ltB83] at HTK
     have hel:=enc_len' (n:=(ns:Int)) (by omega) (by omega)
     have HP:=number2_any u5 _ _ w.heap.size (ns:Int) wr (by omega) (by omega) HO.out HBr.out.size (by omega)
     go_wp2_with (go_at_call 87;refine HP.mono ?_;rintro e w2 ⟨v2,rfl,ho2,hb2,hk2⟩)
     have HO2:Hid (w2.ownsRow w.heap.size 5 1 v2 (1+(bs++(enc (ns:Int)++(r.spans.take 0).flatMap spB1)).length) (.int .u8 r.kind::(bs++(enc (ns:Int)++(r.spans.take 0).flatMap spB1)).map (Value.int .u8))):=by
      unfold Hid
      have h:=grow_to ho2 (m:=1+(bs++enc (ns:Int)).length) (by simp only[List.length_append,hel.1];omega)
      simp only[List.take_zero,List.flatMap_nil,List.append_nil,List.map_append,List.cons_append] at h ⊢
      exact h
     have HB2:Hid (Below w.heap.size w w2):=HBr.out.trans hb2
     have HX2:Hid (w2.heap[w.heap.size]?=some (rcO r (.slice sa ns sc) (.slice da nd dc))):=hk2 _ _ _ _ HXr.out (by decide)
     have hsp8:=h8'.1
     have HSO:Hid (SpOk r.spans):=h8'.2
     clear HP ho2 hb2 hk2 c0 c1 c2 c3 c4 c5 c6 c7 c8 c9 c10 HO HBr HXr h8'
     go_loopw [5,8] (λb i wx=>∃m:Nat,m<= ns/\ i=.int .i64 m/\ wx.ownsRow w.heap.size 5 1 b (1+(bs++(enc (ns:Int)++(r.spans.take m).flatMap spB1)).length) (.int .u8 r.kind::(bs++(enc (ns:Int)++(r.spans.take m).flatMap spB1)).map (Value.int .u8))/\ Below w.heap.size w wx/\ wx.heap[w.heap.size]?=some (rcO r (.slice sa ns sc) (.slice da nd dc))) (λ_ i _=>ns - (intOf i).toNat)
     case atStart=>exact⟨0,Nat.zero_le _,rfl,HO2.out,HB2.out,HX2.out⟩
     case round=>
      obtain⟨m,hm,rfl,ho,hb,hx⟩:=hrel
      have HOx:Hid (wr.ownsRow w.heap.size 5 1 u5 (1+(bs++(enc (ns:Int)++(r.spans.take m).flatMap spB1)).length) (.int .u8 r.kind::(bs++(enc (ns:Int)++(r.spans.take m).flatMap spB1)).map (Value.int .u8))):=ho
      have HBx:Hid (Below w.heap.size w wr):=hb
      have HXx:Hid (wr.heap[w.heap.size]?=some (rcO r (.slice sa ns sc) (.slice da nd dc))):=hx
      have hfl2:(enc (ns:Int)++(r.spans.take m).flatMap spB1).length<= 10010:=by
       have h1:=flat_len (l:=r.spans.take m) (λp hp=>HSO.out p (List.mem_of_mem_take hp))
       have h2:(r.spans.take m).length<= 500:=by rw[List.length_take,HNS.out];omega
       rw[List.length_append,hel.1];omega
      clear ho hb hx HO2 HB2 HX2
      obtain⟨c0,c1,c2,c3,c4,c5,c6,c7,c8,c9,c10⟩:=rc_cells HXx.out
      by_cases hmt:m < ns
      ·have hmt':(m:Int) < (ns:Int):=by omega
       have hml:m < r.spans.length:=by rw[HNS.out];exact hmt
       have hex:∃p:Int×Int,r.spans[m]?=some p:=C.get_some r.spans m hml
       obtain⟨⟨f1,t1⟩,hp⟩:=hex
       have hpo:=HSO.out (f1,t1) (List.mem_of_getElem? hp)
       have HTM:Hid (enc (ns:Int)++(r.spans.take (m+1)).flatMap spB1=(enc (ns:Int)++(r.spans.take m).flatMap spB1)++(enc f1++enc (t1 - f1))):=by
        unfold Hid;rw[List.take_add_one,hp];simp[spB1]
       rcases HS.out wr HBx.out with h0|⟨g,off,rfl,hcx⟩
       ·rw[h0] at hml;simp at hml
       clear hcx
       have HSC:Hid (∀W,Below w.heap.size w W-> W.cell? ⟨g,off+m*2,none⟩=some (.int .i64 f1)/\ W.cell? ⟨g,off+m*2+1,none⟩=some (.int .i64 t1)):=λW hW=>by
        rcases HS.out W hW with h0|⟨g',off',e,h⟩
        ·rw[h0] at hml;simp at hml
        ·simp only[aqG,Addr.mk.injEq,and_true] at e
         obtain⟨rfl,rfl⟩:=e
         exact h m (f1,t1) hp
       obtain⟨s1,s2⟩:=HSC.out wr HBx.out
       simp only at s1 s2 hpo HTM HSC
       obtain⟨hp0,hp1,hp2⟩:=hpo
       have hef:=enc_len' (n:=f1) hp0 (by omega)
       have het:=enc_len' (n:=t1 - f1) (by omega) (by omega)
       have hwr:IntKind.i64.wrap (t1 - f1)=t1 - f1:=by rw[IntKind.wrap_i64];omega
       generalize enc (ns:Int)++(r.spans.take m).flatMap spB1=es at*
       have HP1:=number2_any u5 _ _ w.heap.size f1 wr hp0 (by omega) HOx.out HBx.out.size (by simp only[List.length_append];omega)
       clear hp
       go_upto_region 21 with (go_at_call 87;refine HP1.mono ?_;rintro e w2 ⟨v2,rfl,ho2,hb2,hk2⟩)
       have HB2:Hid (Below w.heap.size w w2):=HBx.out.trans hb2
       have HX2:Hid (w2.heap[w.heap.size]?=some (rcO r (.slice (some ⟨g,off,none⟩) ns sc) (.slice da nd dc))):=hk2 _ _ _ _ HXx.out (by decide)
       obtain⟨_,_,_,_,_,_,_,_,_,d9,d10⟩:=rc_cells HX2.out
       obtain⟨t2,t3⟩:=HSC.out w2 HB2.out
       have HO2:Hid (w2.ownsRow w.heap.size 5 1 v2 _ _):=ho2
       clear hk2 hb2 HP1 ho2 c0 c1 c2 c3 c4 c5 c6 c7 c8 c9 c10 s1 s2
       go_region_with (go_at_call 87;refine(number2_any v2 _ _ w.heap.size (t1 - f1) _ (by omega) (by omega) (own_below6 HO2.out (Below.refl _ _).drew) (by have:=HB2.out.size;simpa using this) (by simp only[List.length_append];omega)).mono ?_;rintro e w3 ⟨v3,rfl,ho3,hb3,hk3⟩)
       all_goals
        have HO3:Hid (w3.ownsRow w.heap.size 5 1 v3 (1+(bs++(enc (ns:Int)++(r.spans.take (m+1)).flatMap spB1)).length) (.int .u8 r.kind::(bs++(enc (ns:Int)++(r.spans.take (m+1)).flatMap spB1)).map (Value.int .u8))):=by
         unfold Hid
         rw[HTM.out]
         have h:=grow_to ho3 (m:=1+(bs++(es++(enc f1++enc (t1 - f1)))).length) (by simp only[List.length_append,hef.1,het.1];omega)
         simp only[List.map_append,List.append_assoc,List.cons_append] at h ⊢
         exact h
        have HB3:Hid (Below w.heap.size w w3):=HB2.out.drew.trans hb3
        have HX3:Hid (w3.heap[w.heap.size]?=some (rcO r (.slice (some ⟨g,off,none⟩) ns sc) (.slice da nd dc))):=hk3 _ _ _ _ HX2.out (by decide)
        clear ho3 hb3 hk3 HB2 HX2 HO2 d9 d10 t2 t3
        go_wp2
        go_roundw
        case rel=>exact⟨m+1,by omega,by go_num,HO3.out,HB3.out,HX3.out⟩
        case measure=>simp[intOf];omega
      ·obtain rfl:m=ns:=by omega
       have HO4:Hid (wr.ownsRow w.heap.size 5 1 u5 (1+((fs.take (k+1)).flatMap (ltB r)).length) (.int .u8 r.kind::((fs.take (k+1)).flatMap (ltB r)).map (Value.int .u8))):=by
        unfold Hid
        rw[HTK.out]
        have h:=HOx.out
        rw[show r.spans.take m=r.spans from List.take_of_length_le (by rw[HNS.out];omega)] at h
        have e:spB r.spans=enc (m:Int)++r.spans.flatMap spB1:=by unfold spB;rw[HNS.out]
        rw[e]
        exact h
       clear HOx
       go_wp2
       go_roundw
       case rel=>exact⟨k+1,by omega,by go_num,HO4.out,HBx.out,HXx.out⟩
       case measure=>simp[intOf];omega
    ·have hcv:((({data:=fs.toArray}:ByteArray)[k]'(show k < fs.toArray.size by simpa using hlt)).toNat:Int)=((ltL.getD j 0).toNat:Int):=by show (((fs.toArray[k]'(by simpa using hlt)).toNat:Nat):Int)=((ltL.getD j 0).toNat:Int);simp[hc]
     have hbd:=okN_bd (okNs_at HOK.out hj)
     have he:=enc_len' (n:=nmA r j) hbd.1 (by omega)
     rw[hc,ltBn r j hj] at HTK
     have HG:Hid (∀W,Calls Tryz.prog 88 #[.agg (rcC r (.slice sa ns sc) (.slice da nd dc)),.int .u8 (ltL.getD j 0).toNat] W λe w'=>e=.returned (.int .i64 (nmA r j))/\ w'=W.alloc (rcO r (.slice sa ns sc) (.slice da nd dc))):=λW=>get2_any r _ _ j hj W
     have hy1:¬((ltL.getD j 0).toNat:Int)=68:=by
      have:j=0∨j=1∨j=2∨j=3∨j=4∨j=5∨j=6∨j=7:=by omega
      rcases this with rfl|rfl|rfl|rfl|rfl|rfl|rfl|rfl<;>decide
     have hy2:¬((ltL.getD j 0).toNat:Int)=83:=by
      have:j=0∨j=1∨j=2∨j=3∨j=4∨j=5∨j=6∨j=7:=by omega
      rcases this with rfl|rfl|rfl|rfl|rfl|rfl|rfl|rfl<;>decide
     generalize ((ltL.getD j 0).toNat:Int)=y at*
     generalize nmA r j=n at*
     go_upto_region 10 with fail
     go_region_with (go_at_call 88;refine(HG.out _).mono ?_;rintro e w2 ⟨rfl,rfl⟩)
     all_goals
      go_wp2_with (go_at_call 87;refine(number2_any u5 _ _ w.heap.size n _ hbd.1 hbd.2 (own_below6 HO.out (((Below.refl _ _).alloc (aqH _) _).drew)) (by have:=HBr.out.size;simp;omega) (by omega)).mono ?_;rintro e w2 ⟨v2,rfl,ho2,hb2,hk2⟩)
      have HOn:Hid (w2.ownsRow w.heap.size 5 1 v2 (1+((fs.take (k+1)).flatMap (ltB r)).length) (.int .u8 r.kind::((fs.take (k+1)).flatMap (ltB r)).map (Value.int .u8))):=by
       unfold Hid
       rw[HTK.out]
       have h:=grow_to ho2 (m:=1+(bs++enc n).length) (by rw[List.length_append,he.1];omega)
       simp only[List.map_append,List.cons_append] at h ⊢
       exact h
      have HB2:Hid (Below w.heap.size w w2):=((HBr.out.alloc HBr.out.size _).drew).trans hb2
      have HX2:Hid (w2.heap[w.heap.size]?=some (rcO r (.slice sa ns sc) (.slice da nd dc))):=hk2 _ _ _ _ ((Below.heap_alloc wr _ _ (Array.getElem?_eq_some_iff.mp HXr.out).1).trans HXr.out) (by decide)
      go_roundw
      case rel=>exact⟨k+1,by omega,by go_num,HOn.out,HB2.out,HX2.out⟩
      case measure=>simp[intOf];omega
   ·obtain rfl:k=fs.length:=by omega
    have HE:Hid (prB r=r.kind::(fs.take fs.length).flatMap (ltB r)):=by unfold Hid;rw[HPL.out,List.take_length]
    go_wp2
    go_ret2
    refine⟨_,rfl,?_,HBr.out⟩
    rw[HE.out]
    exact grow_to HO.out (by simp;omega)
end Go.Proofs.YtllhbhogfffedaaGreatDoor
