import Derived.Test.YtllhbhogfffedaaGreatDoorJpMem
set_option maxHeartbeats 4000000
set_option maxRecDepth 100000
namespace Go.Proofs.YtllhbhogfffedaaGreatDoor.K
open Go.RowKit
attribute [local go_sem] Oper.semAt_some
set_option linter.unusedVariables false
set_option linter.unusedSimpArgs false
theorem grown_empty {w w':World} {ob:Obj} (h:(w.alloc ob).grownBy w' (some w.heap.size)):w.grownBy w' none:=
 ⟨h.os,h.tape,h.output,Nat.le_trans (by simp) h.size,λk hk _=>(h.block k (by simp;omega) (by simp;omega)).trans (Below.heap_alloc w _ k hk)⟩
theorem lies_alloc {w:World} {ob:Obj} {a:Option Addr} {zs:List Int} (hz:Lies .u8 w a zs):Lies .u8 (w.alloc ob) a zs:=lies_bel ((Below.refl w.heap.size w).alloc (aqH _) ob) hz
def regE16Ops:Array Oper:=#[⟨some 72,.move (.tmp 0),27, "disk.go:106",#[],none⟩,
 ⟨some 73,.nilCheck (.tmp 72),0, "disk.go:106",#[⟨0,.data⟩],none⟩,
 ⟨some 74,.fieldAddr 90 (.tmp 73) 0,0, "disk.go:106",#[⟨1,.data⟩],none⟩,
 ⟨some 75,.load 88 (.tmp 74),88, "disk.go:106",#[⟨2,.data⟩],none⟩,
 ⟨some 76,.move (.tmp 11),3, "disk.go:106",#[],none⟩,
 ⟨some 77,.move (.tmp 0),27, "disk.go:106",#[],none⟩,
 ⟨some 78,.nilCheck (.tmp 77),0, "disk.go:106",#[⟨5,.data⟩],none⟩,
 ⟨some 79,.fieldAddr 90 (.tmp 78) 0,0, "disk.go:106",#[⟨6,.data⟩],none⟩,
 ⟨some 80,.load 88 (.tmp 79),88, "disk.go:106",#[⟨7,.data⟩],none⟩,
 ⟨some 81,.move (.tmp 11),3, "disk.go:106",#[],none⟩,
 ⟨some 82,.indexAddr 88 (.tmp 80) (.tmp 81),0, "disk.go:106",#[⟨8,.data⟩,⟨9,.data⟩],none⟩,
 ⟨some 83,.fieldAddr 94 (.tmp 82) 1,0, "disk.go:106",#[⟨10,.data⟩],none⟩,
 ⟨some 84,.load 35 (.tmp 83),35, "disk.go:106",#[⟨11,.data⟩],none⟩,
 ⟨some 85,.move (.tmp 2),35, "disk.go:106",#[],none⟩,
 ⟨some 86,.call {callee:=Callee.builtin Builtin.append,args:=#[.tmp 84,.tmp 85],argTypes:=#[35,35]},35, "disk.go:106",#[⟨12,.data⟩,⟨13,.data⟩],none⟩,
 ⟨some 87,.indexAddr 88 (.tmp 75) (.tmp 76),0, "disk.go:106",#[⟨3,.data⟩,⟨4,.data⟩,⟨0,.phase⟩,⟨1,.phase⟩,⟨2,.phase⟩,⟨3,.phase⟩,⟨4,.phase⟩,⟨5,.phase⟩,⟨6,.phase⟩,⟨7,.phase⟩,⟨8,.phase⟩,⟨9,.phase⟩,⟨10,.phase⟩,⟨11,.phase⟩,⟨12,.phase⟩,⟨13,.phase⟩,⟨14,.phase⟩],none⟩,
 ⟨some 88,.fieldAddr 94 (.tmp 87) 1,0, "disk.go:106",#[⟨15,.data⟩,⟨0,.phase⟩,⟨1,.phase⟩,⟨2,.phase⟩,⟨3,.phase⟩,⟨4,.phase⟩,⟨5,.phase⟩,⟨6,.phase⟩,⟨7,.phase⟩,⟨8,.phase⟩,⟨9,.phase⟩,⟨10,.phase⟩,⟨11,.phase⟩,⟨12,.phase⟩,⟨13,.phase⟩,⟨14,.phase⟩],none⟩,
 ⟨none,.store 35 (.tmp 88) (.tmp 86),0, "disk.go:106",#[⟨16,.data⟩,⟨14,.data⟩,⟨14,.chain⟩,⟨0,.phase⟩,⟨1,.phase⟩,⟨2,.phase⟩,⟨3,.phase⟩,⟨4,.phase⟩,⟨5,.phase⟩,⟨6,.phase⟩,⟨7,.phase⟩,⟨8,.phase⟩,⟨9,.phase⟩,⟨10,.phase⟩,⟨11,.phase⟩,⟨12,.phase⟩,⟨13,.phase⟩,⟨14,.phase⟩],none⟩]
theorem regE16 (Q:Exit-> Act-> World-> Prop) (x gF nf cf i:Nat) (av:Option Addr) (nv cv n:Nat) (ab:Option Addr) (nb cb:Nat) (zs:List Int) (cur:Array Value) (xs:List Value) {t1 t3 t4 t5 t6 t7 t8 t9 t10 t12 t13 t14 t15 t16 t17 t18 t19 t20 t21 t22 t23 t24 t25 t26 t27 t28 t29 t30 t31 t32 t33 t34 t35 t36 t37 t38 t39 t40 t41 t42 t43 t44 t45 t46 t47 t48 t49 t50 t51 t52 t53 t54 t55 t56 t57 t58 t59 t60 t61 t62 t63 t64 t65 t66 t67 t68 t69 t70 t71 t72 t73 t74 t75 t76 t77 t78 t79 t80 t81 t82 t83 t84 t85 t86 t87 t88 t89 t90:Value} (W:World)
 (hown:W.ownsRow 0 5 1 (.slice av nv cv) n xs) (hin:(i:Int) < (nf:Int)) (hl:zs.length=nb) (hz:Lies .u8 W.drew ab zs) (hnn:ab=none-> nb=0/\ cb=0) (hb:n+nb<= 140737488355328) (hB:W.heap[gF]?=some (.cells cur 94 (0,0))) (hb0':cur[i*3+1]?=some (.slice av nv cv)) (hne:(Value.slice av nv cv).ownBlock≠some gF)
 (hcv:∀V,W.drew.grownBy V (Value.slice av nv cv).ownBlock-> V.cell? ⟨x,0,none⟩=some (.slice (some ⟨gF,0,none⟩) nf cf)) (hcw:∀V,W.drew.grownBy V (Value.slice av nv cv).ownBlock-> ∀y,(V.setCell ⟨gF,i*3+1,none⟩ y).cell? ⟨x,0,none⟩=some (.slice (some ⟨gF,0,none⟩) nf cf))
 (h:∀v' w',w'.ownsRow 0 5 1 v' (n+nb) (xs++zs.map (Value.int .u8))-> W.drew.grownBy w' (Value.slice av nv cv).ownBlock-> (v'.ownBlock=(Value.slice av nv cv).ownBlock∨∃g,v'.ownBlock=some g/\ W.heap.size<= g)-> Q .normal {tmps:=(.pointer (some ⟨x,0,none⟩)::t1::.slice ab nb cb::t3::t4::t5::t6::t7::t8::t9::t10::.int .i64 (i:Int)::t12::t13::t14::t15::t16::t17::t18::t19::t20::t21::t22::t23::t24::t25::t26::t27::t28::t29::t30::t31::t32::t33::t34::t35::t36::t37::t38::t39::t40::t41::t42::t43::t44::t45::t46::t47::t48::t49::t50::t51::t52::t53::t54::t55::t56::t57::t58::t59::t60::t61::t62::t63::t64::t65::t66::t67::t68::t69::t70::t71::.pointer (some ⟨x,0,none⟩)::.pointer (some ⟨x,0,none⟩)::.pointer (some ⟨x,0,none⟩)::.slice (some ⟨gF,0,none⟩) nf cf::.int .i64 (i:Int)::.pointer (some ⟨x,0,none⟩)::.pointer (some ⟨x,0,none⟩)::.pointer (some ⟨x,0,none⟩)::.slice (some ⟨gF,0,none⟩) nf cf::.int .i64 (i:Int)::.pointer (some ⟨gF,i*3,none⟩)::.pointer (some ⟨gF,i*3+1,none⟩)::.slice av nv cv::.slice ab nb cb::v'::.pointer (some ⟨gF,i*3,none⟩)::.pointer (some ⟨gF,i*3+1,none⟩)::t89::t90::[]).toArray,defers:=[]} (w'.setCell ⟨gF,i*3+1,none⟩ v')):
 (Code.region 16 regE16Ops true).wp Tryz.prog Q {tmps:=(.pointer (some ⟨x,0,none⟩)::t1::.slice ab nb cb::t3::t4::t5::t6::t7::t8::t9::t10::.int .i64 (i:Int)::t12::t13::t14::t15::t16::t17::t18::t19::t20::t21::t22::t23::t24::t25::t26::t27::t28::t29::t30::t31::t32::t33::t34::t35::t36::t37::t38::t39::t40::t41::t42::t43::t44::t45::t46::t47::t48::t49::t50::t51::t52::t53::t54::t55::t56::t57::t58::t59::t60::t61::t62::t63::t64::t65::t66::t67::t68::t69::t70::t71::t72::t73::t74::t75::t76::t77::t78::t79::t80::t81::t82::t83::t84::t85::t86::t87::t88::t89::t90::[]).toArray,defers:=[]} W:=by
 refine Code.wp_mono (λ_ _ _ h=>calmD_le h) ?_
 unfold regE16Ops
 have hp:∀c a a' w,calmD Q (.panic c) a w-> calmD Q (.panic c) a' w:=λ_ _ _ _ h=>h
 refine wp_region_held (S:=λV=>V.cell? ⟨x,0,none⟩=some (.slice (some ⟨gF,0,none⟩) nf cf)) (by kernel_rfl) ?_
 change wpAnyH _ _ _ _ _ _ _ _ W.drew
 have hS:=hcv W.drew ⟨rfl,rfl,rfl,aqH _,λ_ _ _=>rfl⟩
 have hi0:(0:Int)<= (i:Int):=by omega
 have hb0:W.drew.cell? ⟨gF,i*3+1,none⟩=some (.slice av nv cv):=(cell_of_row _ _ (i*3+1) _ _ _ (show W.drew.heap[gF]?=_ from hB)).trans hb0'
 refine wpAnyH_takes (by kernel_rfl) hp hS [(0,some 72,.pointer (some ⟨x,0,none⟩)),(1,some 73,.pointer (some ⟨x,0,none⟩)),(2,some 74,.pointer (some ⟨x,0,none⟩)),(3,some 75,.slice (some ⟨gF,0,none⟩) nf cf),(4,some 76,.int .i64 (i:Int)),(5,some 77,.pointer (some ⟨x,0,none⟩)),(6,some 78,.pointer (some ⟨x,0,none⟩)),(7,some 79,.pointer (some ⟨x,0,none⟩)),(8,some 80,.slice (some ⟨gF,0,none⟩) nf cf),(9,some 81,.int .i64 (i:Int)),(10,some 82,.pointer (some ⟨gF,i*3,none⟩)),(11,some 83,.pointer (some ⟨gF,i*3+1,none⟩)),(13,some 85,.slice ab nb cb)] (by kernel_rfl) ?_ ?_
 ·repeat (refine tkY_cons rfl (λV hV=>?_) ?_;(·have s0:=hV;(try obtain⟨s1,s2⟩:=s0);go_split_ands;go_simp;all_goals (first|assumption|omega));simp only[Act.put,aqA,aqB,aqC])
  exact True.intro
 simp only[tkA,Act.put,aqA,aqB,aqC]
 refine wpAnyH_ready (rs:=[12]) (by kernel_rfl) (by simp) ?_
 refine(AllReadyH.cons rfl (λK hK=>?_) AllReadyH.nil)
 go_simp
 refine hK.out _ _ hS (λ_=>?_)
 clear hK K
 try simp only[Act.put,aqA,aqB,aqC]
 refine wpAnyH_all (rs:=[14]) (by kernel_rfl) (by simp) ?_
 intro i hiX
 obtain rfl:i=14:=by simpa using hiX
 refine appB_opD (j:=14) rfl rfl (.tmp 84) (.tmp 85) rfl (.slice av nv cv) n xs (by simp[Act.eval]) (w:=W.drew) hown ab nb cb zs (by simp[Act.eval]) hl hz hnn (by omega) ?_
 intro v' w' r1 r2 r3
 have hS2:=hcv w' r2
 refine⟨hS2,?_⟩
 have hQ':w'.heap[gF]?=some (.cells cur 94 (0,0)):=(r2.block gF (Array.getElem?_eq_some_iff.1 hB).1 (λe=>hne e.symm)).trans hB
 have hfz:w'.frozen? ⟨gF,i*3+1,none⟩=false:=frozen_of_row _ _ (i*3+1) _ _ hQ'
 have hbv:w'.cell? ⟨gF,i*3+1,none⟩=some (.slice av nv cv):=(cell_of_row _ _ (i*3+1) _ _ _ hQ').trans hb0'
 have hfin:=h v' w' r1 r2 (r3.imp id (λe=>⟨_,e,by simp⟩))
 obtain⟨a1,n1,rfl⟩:=d_shape r1
 try simp only[Act.put,aqA,aqB,aqC]
 refine wpAnyH_takes (by kernel_rfl) hp hS2 [(15,some 87,.pointer (some ⟨gF,i*3,none⟩)),(16,some 88,.pointer (some ⟨gF,i*3+1,none⟩))] (by kernel_rfl) ?_ ?_
 ·repeat (refine tkY_cons rfl (λV hV=>?_) ?_;(·have s0:=hV;(try obtain⟨s1,s2⟩:=s0);go_split_ands;go_simp;all_goals (first|assumption|omega));simp only[Act.put,aqA,aqB,aqC])
  exact True.intro
 simp only[tkA,Act.put,aqA,aqB,aqC]
 refine wpAnyH_ready (rs:=[17]) (by kernel_rfl) (by simp) ?_
 refine(AllReadyH.cons rfl (λK hK=>?_) AllReadyH.nil)
 go_simp
 refine hK.out _ _ (hcw w' r2 _) (λ_=>?_)
 clear hK K
 try simp only[Act.put,aqA,aqB,aqC]
 exact wpAnyH_done (Q:=calmD Q) (by kernel_rfl) hfin _
def regE9SOps:Array Oper:=#[⟨some 38,.move (.tmp 0),27, "disk.go:186",#[],none⟩,
 ⟨some 39,.nilCheck (.tmp 38),0, "disk.go:186",#[⟨0,.data⟩],none⟩,
 ⟨some 40,.fieldAddr 90 (.tmp 39) 0,0, "disk.go:186",#[⟨1,.data⟩],none⟩,
 ⟨some 41,.load 88 (.tmp 40),88, "disk.go:186",#[⟨2,.data⟩],none⟩,
 ⟨some 42,.move (.tmp 7),3, "disk.go:186",#[],none⟩,
 ⟨some 43,.buildSlice 35 0 #[],35, "disk.go:186",#[],none⟩,
 ⟨some 44,.move (.tmp 0),27, "disk.go:186",#[],none⟩,
 ⟨some 45,.nilCheck (.tmp 44),0, "disk.go:186",#[⟨6,.data⟩],none⟩,
 ⟨some 46,.fieldAddr 90 (.tmp 45) 0,0, "disk.go:186",#[⟨7,.data⟩],none⟩,
 ⟨some 47,.load 88 (.tmp 46),88, "disk.go:186",#[⟨8,.data⟩],none⟩,
 ⟨some 48,.move (.tmp 7),3, "disk.go:186",#[],none⟩,
 ⟨some 49,.indexAddr 88 (.tmp 47) (.tmp 48),0, "disk.go:186",#[⟨9,.data⟩,⟨10,.data⟩],none⟩,
 ⟨some 50,.fieldAddr 94 (.tmp 49) 1,0, "disk.go:186",#[⟨11,.data⟩],none⟩,
 ⟨some 51,.load 35 (.tmp 50),35, "disk.go:186",#[⟨12,.data⟩],none⟩,
 ⟨some 52,.move (.tmp 10),3, "disk.go:186",#[],none⟩,
 ⟨some 53,.slice 35 (.tmp 51) none (some (.tmp 52)) none,35, "disk.go:186",#[⟨13,.data⟩,⟨14,.data⟩],none⟩,
 ⟨some 54,.call {callee:=Callee.builtin Builtin.append,args:=#[.tmp 43,.tmp 53],argTypes:=#[35,35]},35, "disk.go:186",#[⟨5,.data⟩,⟨15,.data⟩],none⟩,
 ⟨some 55,.indexAddr 88 (.tmp 41) (.tmp 42),0, "disk.go:186",#[⟨3,.data⟩,⟨4,.data⟩,⟨0,.phase⟩,⟨1,.phase⟩,⟨2,.phase⟩,⟨3,.phase⟩,⟨4,.phase⟩,⟨5,.phase⟩,⟨6,.phase⟩,⟨7,.phase⟩,⟨8,.phase⟩,⟨9,.phase⟩,⟨10,.phase⟩,⟨11,.phase⟩,⟨12,.phase⟩,⟨13,.phase⟩,⟨14,.phase⟩,⟨15,.phase⟩,⟨16,.phase⟩],none⟩,
 ⟨some 56,.fieldAddr 94 (.tmp 55) 1,0, "disk.go:186",#[⟨17,.data⟩,⟨0,.phase⟩,⟨1,.phase⟩,⟨2,.phase⟩,⟨3,.phase⟩,⟨4,.phase⟩,⟨5,.phase⟩,⟨6,.phase⟩,⟨7,.phase⟩,⟨8,.phase⟩,⟨9,.phase⟩,⟨10,.phase⟩,⟨11,.phase⟩,⟨12,.phase⟩,⟨13,.phase⟩,⟨14,.phase⟩,⟨15,.phase⟩,⟨16,.phase⟩],none⟩,
 ⟨none,.store 35 (.tmp 56) (.tmp 54),0, "disk.go:186",#[⟨18,.data⟩,⟨16,.data⟩,⟨16,.chain⟩,⟨0,.phase⟩,⟨1,.phase⟩,⟨2,.phase⟩,⟨3,.phase⟩,⟨4,.phase⟩,⟨5,.phase⟩,⟨6,.phase⟩,⟨7,.phase⟩,⟨8,.phase⟩,⟨9,.phase⟩,⟨10,.phase⟩,⟨11,.phase⟩,⟨12,.phase⟩,⟨13,.phase⟩,⟨14,.phase⟩,⟨15,.phase⟩,⟨16,.phase⟩],none⟩]
theorem regE9S (Q:Exit-> Act-> World-> Prop) (x gF nf cf i:Nat) (zs:List Int) (cur:Array Value) (gv nv cv k:Nat) {t1 t2 t3 t4 t5 t6 t8 t9 t11 t12 t13 t14 t15 t16 t17 t18 t19 t20 t21 t22 t23 t24 t25 t26 t27 t28 t29 t30 t31 t32 t33 t34 t35 t36 t37 t38 t39 t40 t41 t42 t43 t44 t45 t46 t47 t48 t49 t50 t51 t52 t53 t54 t55 t56 t57 t58 t59 t60 t61 t62 t63 t64 t65 t66:Value} (W:World)
 (hk0:(0:Int)<= (k:Int)) (hkc:(k:Int)<= (cv:Int)) (hkb:k<= 1099511627776) (hin:(i:Int) < (nf:Int)) (hl:zs.length=k) (hzl:Lies .u8 W.drew (some ⟨gv,0,none⟩) zs) (hB:W.drew.heap[gF]?=some (.cells cur 94 (0,0))) (hb0':cur[i*3+1]?=some (.slice (some ⟨gv,0,none⟩) nv cv)) (hcv:∀V,W.drew.grownBy V none-> V.cell? ⟨x,0,none⟩=some (.slice (some ⟨gF,0,none⟩) nf cf)) (hcw:∀V,W.drew.grownBy V none-> ∀y,(V.setCell ⟨gF,i*3+1,none⟩ y).cell? ⟨x,0,none⟩=some (.slice (some ⟨gF,0,none⟩) nf cf))
 (h:∀v' w',w'.ownsRow 0 5 1 v' k (zs.map (Value.int .u8))-> W.drew.grownBy w' none-> (∃g,v'.ownBlock=some g/\ W.heap.size<= g)-> Q .normal {tmps:=(.pointer (some ⟨x,0,none⟩)::t1::t2::t3::t4::t5::t6::.int .i64 (i:Int)::t8::t9::.int .i64 ((k:Nat):Int)::t11::t12::t13::t14::t15::t16::t17::t18::t19::t20::t21::t22::t23::t24::t25::t26::t27::t28::t29::t30::t31::t32::t33::t34::t35::t36::t37::.pointer (some ⟨x,0,none⟩)::.pointer (some ⟨x,0,none⟩)::.pointer (some ⟨x,0,none⟩)::.slice (some ⟨gF,0,none⟩) nf cf::.int .i64 (i:Int)::.slice (some ⟨W.heap.size,0,none⟩) 0 0::.pointer (some ⟨x,0,none⟩)::.pointer (some ⟨x,0,none⟩)::.pointer (some ⟨x,0,none⟩)::.slice (some ⟨gF,0,none⟩) nf cf::.int .i64 (i:Int)::.pointer (some ⟨gF,i*3,none⟩)::.pointer (some ⟨gF,i*3+1,none⟩)::.slice (some ⟨gv,0,none⟩) nv cv::.int .i64 ((k:Nat):Int)::.slice (some ⟨gv,0,none⟩) k cv::v'::.pointer (some ⟨gF,i*3,none⟩)::.pointer (some ⟨gF,i*3+1,none⟩)::t57::t58::t59::t60::t61::t62::t63::t64::t65::t66::[]).toArray,defers:=[]} (w'.setCell ⟨gF,i*3+1,none⟩ v')):
 (Code.region 9 regE9SOps true).wp Tryz.prog Q {tmps:=(.pointer (some ⟨x,0,none⟩)::t1::t2::t3::t4::t5::t6::.int .i64 (i:Int)::t8::t9::.int .i64 ((k:Nat):Int)::t11::t12::t13::t14::t15::t16::t17::t18::t19::t20::t21::t22::t23::t24::t25::t26::t27::t28::t29::t30::t31::t32::t33::t34::t35::t36::t37::t38::t39::t40::t41::t42::t43::t44::t45::t46::t47::t48::t49::t50::t51::t52::t53::t54::t55::t56::t57::t58::t59::t60::t61::t62::t63::t64::t65::t66::[]).toArray,defers:=[]} W:=by
 refine Code.wp_mono (λ_ _ _ h=>calmD_le h) ?_
 unfold regE9SOps
 have hp:∀c a a' w,calmD Q (.panic c) a w-> calmD Q (.panic c) a' w:=λ_ _ _ _ h=>h
 refine wp_region_held (S:=λV=>V.cell? ⟨x,0,none⟩=some (.slice (some ⟨gF,0,none⟩) nf cf)) (by kernel_rfl) ?_
 change wpAnyH _ _ _ _ _ _ _ _ W.drew
 have hi0:(0:Int)<= (i:Int):=by omega
 have hS:=hcv W.drew ⟨rfl,rfl,rfl,aqH _,λ_ _ _=>rfl⟩
 have hb0:W.drew.cell? ⟨gF,i*3+1,none⟩=some (.slice (some ⟨gv,0,none⟩) nv cv):=(cell_of_row _ _ (i*3+1) _ _ _ hB).trans hb0'
 refine wpAnyH_takes (by kernel_rfl) hp hS [(0,some 38,.pointer (some ⟨x,0,none⟩)),(1,some 39,.pointer (some ⟨x,0,none⟩)),(2,some 40,.pointer (some ⟨x,0,none⟩)),(3,some 41,.slice (some ⟨gF,0,none⟩) nf cf),(4,some 42,.int .i64 (i:Int)),(6,some 44,.pointer (some ⟨x,0,none⟩)),(7,some 45,.pointer (some ⟨x,0,none⟩)),(8,some 46,.pointer (some ⟨x,0,none⟩)),(9,some 47,.slice (some ⟨gF,0,none⟩) nf cf),(10,some 48,.int .i64 (i:Int)),(11,some 49,.pointer (some ⟨gF,i*3,none⟩)),(12,some 50,.pointer (some ⟨gF,i*3+1,none⟩)),(14,some 52,.int .i64 ((k:Nat):Int))] (by kernel_rfl) ?_ ?_
 ·repeat (refine tkY_cons rfl (λV hV=>?_) ?_;(·have s0:=hV;(try obtain⟨s1,s2⟩:=s0);go_split_ands;go_simp;all_goals (first|assumption|omega));simp only[Act.put,aqA,aqB,aqC])
  exact True.intro
 simp only[tkA,Act.put,aqA,aqB,aqC]
 refine wpAnyH_ready (rs:=[5,13]) (by kernel_rfl) (by simp) ?_
 refine(AllReadyH.cons rfl (λK hK=>?_) (AllReadyH.cons rfl (λK hK=>?_) AllReadyH.nil))
 ·go_simp
  refine hK.out _ _ (hcv (W.drew.alloc (.cells #[] 5)) (World.grownBy_alloc W.drew _ _)) (λ_=>?_)
  clear hK K
  try simp only[Act.put,aqA,aqB,aqC]
  have hS1:=hcv (W.drew.alloc (.cells #[] 5)) (World.grownBy_alloc W.drew _ _)
  have hb1:(W.alloc (.cells #[] 5)).cell? ⟨gF,i*3+1,none⟩=some (.slice (some ⟨gv,0,none⟩) nv cv):=(World.cell?_of_block (a:=⟨gF,i*3+1,none⟩) (Below.heap_alloc W _ gF (Array.getElem?_eq_some_iff.1 hB).1)).trans hb0
  refine wpAnyH_ready (rs:=[13]) (by kernel_rfl) (by simp) ?_
  refine(AllReadyH.cons rfl (λK hK=>?_) AllReadyH.nil)
  go_simp
  refine hK.out _ _ hS1 (λ_=>?_)
  clear hK K
  try simp only[Act.put,aqA,aqB,aqC]
  refine wpAnyH_takes (by kernel_rfl) hp hS1 [(15,some 53,.slice (some ⟨gv,0,none⟩) k cv)] (by kernel_rfl) ?_ ?_
  ·repeat (refine tkY_cons rfl (λV hV=>?_) ?_;(·have s0:=hV;(try obtain⟨s1,s2⟩:=s0);go_split_ands;go_simp;all_goals (first|assumption|omega));simp only[Act.put,aqA,aqB,aqC])
   exact True.intro
  simp only[tkA,Act.put,aqA,aqB,aqC]
  refine wpAnyH_all (rs:=[16]) (by kernel_rfl) (by simp) ?_
  intro i hiX
  obtain rfl:i=16:=by simpa using hiX
  refine appB_opD (j:=16) rfl rfl (.tmp 43) (.tmp 53) rfl (.slice (some ⟨W.heap.size,0,none⟩) 0 0) 0 [] (by simp[Act.eval]) (w:=W.drew.alloc (.cells #[] 5)) (own_empty8 W.drew (Nat.zero_le _)) (some ⟨gv,0,none⟩) k cv zs (by simp[Act.eval]) hl (lies_alloc hzl) (by simp) (by omega) ?_
  intro v' w' r1 r2' r3
  rw[Nat.zero_add] at r1
  have r2:W.drew.grownBy w' none:=grown_empty r2'
  have hS2:=hcv w' r2
  refine⟨hS2,?_⟩
  have hQ':w'.heap[gF]?=some (.cells cur 94 (0,0)):=(r2.block gF (Array.getElem?_eq_some_iff.1 hB).1 (by simp)).trans hB
  have hfz:w'.frozen? ⟨gF,i*3+1,none⟩=false:=frozen_of_row _ _ (i*3+1) _ _ hQ'
  have hbv:w'.cell? ⟨gF,i*3+1,none⟩=some (.slice (some ⟨gv,0,none⟩) nv cv):=(cell_of_row _ _ (i*3+1) _ _ _ hQ').trans hb0'
  have hfin:=h v' w' (by simpa using r1) r2 (r3.elim (λe=>⟨_,e,aqH _⟩) (λe=>⟨_,e,by simp⟩))
  obtain⟨a1,n1,rfl⟩:=d_shape r1
  try simp only[Act.put,aqA,aqB,aqC]
  refine wpAnyH_takes (by kernel_rfl) hp hS2 [(17,some 55,.pointer (some ⟨gF,i*3,none⟩)),(18,some 56,.pointer (some ⟨gF,i*3+1,none⟩))] (by kernel_rfl) ?_ ?_
  ·repeat (refine tkY_cons rfl (λV hV=>?_) ?_;(·have s0:=hV;(try obtain⟨s1,s2⟩:=s0);go_split_ands;go_simp;all_goals (first|assumption|omega));simp only[Act.put,aqA,aqB,aqC])
   exact True.intro
  simp only[tkA,Act.put,aqA,aqB,aqC]
  refine wpAnyH_ready (rs:=[19]) (by kernel_rfl) (by simp) ?_
  refine(AllReadyH.cons rfl (λK hK=>?_) AllReadyH.nil)
  go_simp
  refine hK.out _ _ (hcw w' r2 _) (λ_=>?_)
  clear hK K
  try simp only[Act.put,aqA,aqB,aqC]
  exact wpAnyH_done (Q:=calmD Q) (by kernel_rfl) hfin _
 ·go_simp
  refine hK.out _ _ hS (λ_=>?_)
  clear hK K
  try simp only[Act.put,aqA,aqB,aqC]
  refine wpAnyH_takes (by kernel_rfl) hp hS [(15,some 53,.slice (some ⟨gv,0,none⟩) k cv)] (by kernel_rfl) ?_ ?_
  ·repeat (refine tkY_cons rfl (λV hV=>?_) ?_;(·have s0:=hV;(try obtain⟨s1,s2⟩:=s0);go_split_ands;go_simp;all_goals (first|assumption|omega));simp only[Act.put,aqA,aqB,aqC])
   exact True.intro
  simp only[tkA,Act.put,aqA,aqB,aqC]
  refine wpAnyH_ready (rs:=[5]) (by kernel_rfl) (by simp) ?_
  refine(AllReadyH.cons rfl (λK hK=>?_) AllReadyH.nil)
  go_simp
  refine hK.out _ _ (hcv (W.drew.alloc (.cells #[] 5)) (World.grownBy_alloc W.drew _ _)) (λ_=>?_)
  clear hK K
  try simp only[Act.put,aqA,aqB,aqC]
  have hS1:=hcv (W.drew.alloc (.cells #[] 5)) (World.grownBy_alloc W.drew _ _)
  have hb1:(W.alloc (.cells #[] 5)).cell? ⟨gF,i*3+1,none⟩=some (.slice (some ⟨gv,0,none⟩) nv cv):=(World.cell?_of_block (a:=⟨gF,i*3+1,none⟩) (Below.heap_alloc W _ gF (Array.getElem?_eq_some_iff.1 hB).1)).trans hb0
  refine wpAnyH_all (rs:=[16]) (by kernel_rfl) (by simp) ?_
  intro i hiX
  obtain rfl:i=16:=by simpa using hiX
  refine appB_opD (j:=16) rfl rfl (.tmp 43) (.tmp 53) rfl (.slice (some ⟨W.heap.size,0,none⟩) 0 0) 0 [] (by simp[Act.eval]) (w:=W.drew.alloc (.cells #[] 5)) (own_empty8 W.drew (Nat.zero_le _)) (some ⟨gv,0,none⟩) k cv zs (by simp[Act.eval]) hl (lies_alloc hzl) (by simp) (by omega) ?_
  intro v' w' r1 r2' r3
  rw[Nat.zero_add] at r1
  have r2:W.drew.grownBy w' none:=grown_empty r2'
  have hS2:=hcv w' r2
  refine⟨hS2,?_⟩
  have hQ':w'.heap[gF]?=some (.cells cur 94 (0,0)):=(r2.block gF (Array.getElem?_eq_some_iff.1 hB).1 (by simp)).trans hB
  have hfz:w'.frozen? ⟨gF,i*3+1,none⟩=false:=frozen_of_row _ _ (i*3+1) _ _ hQ'
  have hbv:w'.cell? ⟨gF,i*3+1,none⟩=some (.slice (some ⟨gv,0,none⟩) nv cv):=(cell_of_row _ _ (i*3+1) _ _ _ hQ').trans hb0'
  have hfin:=h v' w' (by simpa using r1) r2 (r3.elim (λe=>⟨_,e,aqH _⟩) (λe=>⟨_,e,by simp⟩))
  obtain⟨a1,n1,rfl⟩:=d_shape r1
  try simp only[Act.put,aqA,aqB,aqC]
  refine wpAnyH_takes (by kernel_rfl) hp hS2 [(17,some 55,.pointer (some ⟨gF,i*3,none⟩)),(18,some 56,.pointer (some ⟨gF,i*3+1,none⟩))] (by kernel_rfl) ?_ ?_
  ·repeat (refine tkY_cons rfl (λV hV=>?_) ?_;(·have s0:=hV;(try obtain⟨s1,s2⟩:=s0);go_split_ands;go_simp;all_goals (first|assumption|omega));simp only[Act.put,aqA,aqB,aqC])
   exact True.intro
  simp only[tkA,Act.put,aqA,aqB,aqC]
  refine wpAnyH_ready (rs:=[19]) (by kernel_rfl) (by simp) ?_
  refine(AllReadyH.cons rfl (λK hK=>?_) AllReadyH.nil)
  go_simp
  refine hK.out _ _ (hcw w' r2 _) (λ_=>?_)
  clear hK K
  try simp only[Act.put,aqA,aqB,aqC]
  exact wpAnyH_done (Q:=calmD Q) (by kernel_rfl) hfin _
theorem regE9N (Q:Exit-> Act-> World-> Prop) (x gF nf cf i:Nat) (zs:List Int) (cur:Array Value) {t1 t2 t3 t4 t5 t6 t8 t9 t11 t12 t13 t14 t15 t16 t17 t18 t19 t20 t21 t22 t23 t24 t25 t26 t27 t28 t29 t30 t31 t32 t33 t34 t35 t36 t37 t38 t39 t40 t41 t42 t43 t44 t45 t46 t47 t48 t49 t50 t51 t52 t53 t54 t55 t56 t57 t58 t59 t60 t61 t62 t63 t64 t65 t66:Value} (W:World)
 (hin:(i:Int) < (nf:Int)) (hl:zs.length=0) (hzl:Lies .u8 W.drew none zs) (hB:W.drew.heap[gF]?=some (.cells cur 94 (0,0))) (hb0':cur[i*3+1]?=some (.slice none 0 0)) (hcv:∀V,W.drew.grownBy V none-> V.cell? ⟨x,0,none⟩=some (.slice (some ⟨gF,0,none⟩) nf cf)) (hcw:∀V,W.drew.grownBy V none-> ∀y,(V.setCell ⟨gF,i*3+1,none⟩ y).cell? ⟨x,0,none⟩=some (.slice (some ⟨gF,0,none⟩) nf cf))
 (h:∀v' w',w'.ownsRow 0 5 1 v' 0 (zs.map (Value.int .u8))-> W.drew.grownBy w' none-> (∃g,v'.ownBlock=some g/\ W.heap.size<= g)-> Q .normal {tmps:=(.pointer (some ⟨x,0,none⟩)::t1::t2::t3::t4::t5::t6::.int .i64 (i:Int)::t8::t9::.int .i64 0::t11::t12::t13::t14::t15::t16::t17::t18::t19::t20::t21::t22::t23::t24::t25::t26::t27::t28::t29::t30::t31::t32::t33::t34::t35::t36::t37::.pointer (some ⟨x,0,none⟩)::.pointer (some ⟨x,0,none⟩)::.pointer (some ⟨x,0,none⟩)::.slice (some ⟨gF,0,none⟩) nf cf::.int .i64 (i:Int)::.slice (some ⟨W.heap.size,0,none⟩) 0 0::.pointer (some ⟨x,0,none⟩)::.pointer (some ⟨x,0,none⟩)::.pointer (some ⟨x,0,none⟩)::.slice (some ⟨gF,0,none⟩) nf cf::.int .i64 (i:Int)::.pointer (some ⟨gF,i*3,none⟩)::.pointer (some ⟨gF,i*3+1,none⟩)::.slice none 0 0::.int .i64 0::.slice none 0 0::v'::.pointer (some ⟨gF,i*3,none⟩)::.pointer (some ⟨gF,i*3+1,none⟩)::t57::t58::t59::t60::t61::t62::t63::t64::t65::t66::[]).toArray,defers:=[]} (w'.setCell ⟨gF,i*3+1,none⟩ v')):
 (Code.region 9 regE9SOps true).wp Tryz.prog Q {tmps:=(.pointer (some ⟨x,0,none⟩)::t1::t2::t3::t4::t5::t6::.int .i64 (i:Int)::t8::t9::.int .i64 0::t11::t12::t13::t14::t15::t16::t17::t18::t19::t20::t21::t22::t23::t24::t25::t26::t27::t28::t29::t30::t31::t32::t33::t34::t35::t36::t37::t38::t39::t40::t41::t42::t43::t44::t45::t46::t47::t48::t49::t50::t51::t52::t53::t54::t55::t56::t57::t58::t59::t60::t61::t62::t63::t64::t65::t66::[]).toArray,defers:=[]} W:=by
 refine Code.wp_mono (λ_ _ _ h=>calmD_le h) ?_
 unfold regE9SOps
 have hp:∀c a a' w,calmD Q (.panic c) a w-> calmD Q (.panic c) a' w:=λ_ _ _ _ h=>h
 refine wp_region_held (S:=λV=>V.cell? ⟨x,0,none⟩=some (.slice (some ⟨gF,0,none⟩) nf cf)) (by kernel_rfl) ?_
 change wpAnyH _ _ _ _ _ _ _ _ W.drew
 have hi0:(0:Int)<= (i:Int):=by omega
 have hS:=hcv W.drew ⟨rfl,rfl,rfl,aqH _,λ_ _ _=>rfl⟩
 have hb0:W.drew.cell? ⟨gF,i*3+1,none⟩=some (.slice none 0 0):=(cell_of_row _ _ (i*3+1) _ _ _ hB).trans hb0'
 refine wpAnyH_takes (by kernel_rfl) hp hS [(0,some 38,.pointer (some ⟨x,0,none⟩)),(1,some 39,.pointer (some ⟨x,0,none⟩)),(2,some 40,.pointer (some ⟨x,0,none⟩)),(3,some 41,.slice (some ⟨gF,0,none⟩) nf cf),(4,some 42,.int .i64 (i:Int)),(6,some 44,.pointer (some ⟨x,0,none⟩)),(7,some 45,.pointer (some ⟨x,0,none⟩)),(8,some 46,.pointer (some ⟨x,0,none⟩)),(9,some 47,.slice (some ⟨gF,0,none⟩) nf cf),(10,some 48,.int .i64 (i:Int)),(11,some 49,.pointer (some ⟨gF,i*3,none⟩)),(12,some 50,.pointer (some ⟨gF,i*3+1,none⟩)),(14,some 52,.int .i64 0)] (by kernel_rfl) ?_ ?_
 ·repeat (refine tkY_cons rfl (λV hV=>?_) ?_;(·have s0:=hV;(try obtain⟨s1,s2⟩:=s0);go_split_ands;go_simp;all_goals (first|assumption|omega));simp only[Act.put,aqA,aqB,aqC])
  exact True.intro
 simp only[tkA,Act.put,aqA,aqB,aqC]
 refine wpAnyH_ready (rs:=[5,13]) (by kernel_rfl) (by simp) ?_
 refine(AllReadyH.cons rfl (λK hK=>?_) (AllReadyH.cons rfl (λK hK=>?_) AllReadyH.nil))
 ·go_simp
  refine hK.out _ _ (hcv (W.drew.alloc (.cells #[] 5)) (World.grownBy_alloc W.drew _ _)) (λ_=>?_)
  clear hK K
  try simp only[Act.put,aqA,aqB,aqC]
  have hS1:=hcv (W.drew.alloc (.cells #[] 5)) (World.grownBy_alloc W.drew _ _)
  have hb1:(W.alloc (.cells #[] 5)).cell? ⟨gF,i*3+1,none⟩=some (.slice none 0 0):=(World.cell?_of_block (a:=⟨gF,i*3+1,none⟩) (Below.heap_alloc W _ gF (Array.getElem?_eq_some_iff.1 hB).1)).trans hb0
  refine wpAnyH_ready (rs:=[13]) (by kernel_rfl) (by simp) ?_
  refine(AllReadyH.cons rfl (λK hK=>?_) AllReadyH.nil)
  go_simp
  refine hK.out _ _ hS1 (λ_=>?_)
  clear hK K
  try simp only[Act.put,aqA,aqB,aqC]
  refine wpAnyH_takes (by kernel_rfl) hp hS1 [(15,some 53,.slice none 0 0)] (by kernel_rfl) ?_ ?_
  ·repeat (refine tkY_cons rfl (λV hV=>?_) ?_;(·have s0:=hV;(try obtain⟨s1,s2⟩:=s0);go_split_ands;go_simp;all_goals (first|assumption|omega));simp only[Act.put,aqA,aqB,aqC])
   exact True.intro
  simp only[tkA,Act.put,aqA,aqB,aqC]
  refine wpAnyH_all (rs:=[16]) (by kernel_rfl) (by simp) ?_
  intro i hiX
  obtain rfl:i=16:=by simpa using hiX
  refine appB_opD (j:=16) rfl rfl (.tmp 43) (.tmp 53) rfl (.slice (some ⟨W.heap.size,0,none⟩) 0 0) 0 [] (by simp[Act.eval]) (w:=W.drew.alloc (.cells #[] 5)) (own_empty8 W.drew (Nat.zero_le _)) none 0 0 zs (by simp[Act.eval]) hl (lies_alloc hzl) (by simp) (by omega) ?_
  intro v' w' r1 r2' r3
  rw[Nat.zero_add] at r1
  have r2:W.drew.grownBy w' none:=grown_empty r2'
  have hS2:=hcv w' r2
  refine⟨hS2,?_⟩
  have hQ':w'.heap[gF]?=some (.cells cur 94 (0,0)):=(r2.block gF (Array.getElem?_eq_some_iff.1 hB).1 (by simp)).trans hB
  have hfz:w'.frozen? ⟨gF,i*3+1,none⟩=false:=frozen_of_row _ _ (i*3+1) _ _ hQ'
  have hbv:w'.cell? ⟨gF,i*3+1,none⟩=some (.slice none 0 0):=(cell_of_row _ _ (i*3+1) _ _ _ hQ').trans hb0'
  have hfin:=h v' w' (by simpa using r1) r2 (r3.elim (λe=>⟨_,e,aqH _⟩) (λe=>⟨_,e,by simp⟩))
  obtain⟨a1,n1,rfl⟩:=d_shape r1
  try simp only[Act.put,aqA,aqB,aqC]
  refine wpAnyH_takes (by kernel_rfl) hp hS2 [(17,some 55,.pointer (some ⟨gF,i*3,none⟩)),(18,some 56,.pointer (some ⟨gF,i*3+1,none⟩))] (by kernel_rfl) ?_ ?_
  ·repeat (refine tkY_cons rfl (λV hV=>?_) ?_;(·have s0:=hV;(try obtain⟨s1,s2⟩:=s0);go_split_ands;go_simp;all_goals (first|assumption|omega));simp only[Act.put,aqA,aqB,aqC])
   exact True.intro
  simp only[tkA,Act.put,aqA,aqB,aqC]
  refine wpAnyH_ready (rs:=[19]) (by kernel_rfl) (by simp) ?_
  refine(AllReadyH.cons rfl (λK hK=>?_) AllReadyH.nil)
  go_simp
  refine hK.out _ _ (hcw w' r2 _) (λ_=>?_)
  clear hK K
  try simp only[Act.put,aqA,aqB,aqC]
  exact wpAnyH_done (Q:=calmD Q) (by kernel_rfl) hfin _
 ·go_simp
  refine hK.out _ _ hS (λ_=>?_)
  clear hK K
  try simp only[Act.put,aqA,aqB,aqC]
  refine wpAnyH_takes (by kernel_rfl) hp hS [(15,some 53,.slice none 0 0)] (by kernel_rfl) ?_ ?_
  ·repeat (refine tkY_cons rfl (λV hV=>?_) ?_;(·have s0:=hV;(try obtain⟨s1,s2⟩:=s0);go_split_ands;go_simp;all_goals (first|assumption|omega));simp only[Act.put,aqA,aqB,aqC])
   exact True.intro
  simp only[tkA,Act.put,aqA,aqB,aqC]
  refine wpAnyH_ready (rs:=[5]) (by kernel_rfl) (by simp) ?_
  refine(AllReadyH.cons rfl (λK hK=>?_) AllReadyH.nil)
  go_simp
  refine hK.out _ _ (hcv (W.drew.alloc (.cells #[] 5)) (World.grownBy_alloc W.drew _ _)) (λ_=>?_)
  clear hK K
  try simp only[Act.put,aqA,aqB,aqC]
  have hS1:=hcv (W.drew.alloc (.cells #[] 5)) (World.grownBy_alloc W.drew _ _)
  have hb1:(W.alloc (.cells #[] 5)).cell? ⟨gF,i*3+1,none⟩=some (.slice none 0 0):=(World.cell?_of_block (a:=⟨gF,i*3+1,none⟩) (Below.heap_alloc W _ gF (Array.getElem?_eq_some_iff.1 hB).1)).trans hb0
  refine wpAnyH_all (rs:=[16]) (by kernel_rfl) (by simp) ?_
  intro i hiX
  obtain rfl:i=16:=by simpa using hiX
  refine appB_opD (j:=16) rfl rfl (.tmp 43) (.tmp 53) rfl (.slice (some ⟨W.heap.size,0,none⟩) 0 0) 0 [] (by simp[Act.eval]) (w:=W.drew.alloc (.cells #[] 5)) (own_empty8 W.drew (Nat.zero_le _)) none 0 0 zs (by simp[Act.eval]) hl (lies_alloc hzl) (by simp) (by omega) ?_
  intro v' w' r1 r2' r3
  rw[Nat.zero_add] at r1
  have r2:W.drew.grownBy w' none:=grown_empty r2'
  have hS2:=hcv w' r2
  refine⟨hS2,?_⟩
  have hQ':w'.heap[gF]?=some (.cells cur 94 (0,0)):=(r2.block gF (Array.getElem?_eq_some_iff.1 hB).1 (by simp)).trans hB
  have hfz:w'.frozen? ⟨gF,i*3+1,none⟩=false:=frozen_of_row _ _ (i*3+1) _ _ hQ'
  have hbv:w'.cell? ⟨gF,i*3+1,none⟩=some (.slice none 0 0):=(cell_of_row _ _ (i*3+1) _ _ _ hQ').trans hb0'
  have hfin:=h v' w' (by simpa using r1) r2 (r3.elim (λe=>⟨_,e,aqH _⟩) (λe=>⟨_,e,by simp⟩))
  obtain⟨a1,n1,rfl⟩:=d_shape r1
  try simp only[Act.put,aqA,aqB,aqC]
  refine wpAnyH_takes (by kernel_rfl) hp hS2 [(17,some 55,.pointer (some ⟨gF,i*3,none⟩)),(18,some 56,.pointer (some ⟨gF,i*3+1,none⟩))] (by kernel_rfl) ?_ ?_
  ·repeat (refine tkY_cons rfl (λV hV=>?_) ?_;(·have s0:=hV;(try obtain⟨s1,s2⟩:=s0);go_split_ands;go_simp;all_goals (first|assumption|omega));simp only[Act.put,aqA,aqB,aqC])
   exact True.intro
  simp only[tkA,Act.put,aqA,aqB,aqC]
  refine wpAnyH_ready (rs:=[19]) (by kernel_rfl) (by simp) ?_
  refine(AllReadyH.cons rfl (λK hK=>?_) AllReadyH.nil)
  go_simp
  refine hK.out _ _ (hcw w' r2 _) (λ_=>?_)
  clear hK K
  try simp only[Act.put,aqA,aqB,aqC]
  exact wpAnyH_done (Q:=calmD Q) (by kernel_rfl) hfin _
def regEc5SOps:Array Oper:=#[⟨some 53,.move (.tmp 0),27, "disk.go:39",#[],none⟩,
 ⟨some 54,.nilCheck (.tmp 53),0, "disk.go:39",#[⟨0,.data⟩],none⟩,
 ⟨some 55,.fieldAddr 90 (.tmp 54) 0,0, "disk.go:39",#[⟨1,.data⟩],none⟩,
 ⟨some 56,.load 88 (.tmp 55),88, "disk.go:39",#[⟨2,.data⟩],none⟩,
 ⟨some 57,.move (.tmp 4),3, "disk.go:39",#[],none⟩,
 ⟨some 58,.buildSlice 35 0 #[],35, "disk.go:39",#[],none⟩,
 ⟨some 59,.move (.tmp 0),27, "disk.go:39",#[],none⟩,
 ⟨some 60,.nilCheck (.tmp 59),0, "disk.go:39",#[⟨6,.data⟩],none⟩,
 ⟨some 61,.fieldAddr 90 (.tmp 60) 0,0, "disk.go:39",#[⟨7,.data⟩],none⟩,
 ⟨some 62,.load 88 (.tmp 61),88, "disk.go:39",#[⟨8,.data⟩],none⟩,
 ⟨some 63,.move (.tmp 4),3, "disk.go:39",#[],none⟩,
 ⟨some 64,.indexAddr 88 (.tmp 62) (.tmp 63),0, "disk.go:39",#[⟨9,.data⟩,⟨10,.data⟩],none⟩,
 ⟨some 65,.fieldAddr 94 (.tmp 64) 1,0, "disk.go:39",#[⟨11,.data⟩],none⟩,
 ⟨some 66,.load 35 (.tmp 65),35, "disk.go:39",#[⟨12,.data⟩],none⟩,
 ⟨some 67,.move (.tmp 5),3, "disk.go:39",#[],none⟩,
 ⟨some 68,.slice 35 (.tmp 66) none (some (.tmp 67)) none,35, "disk.go:39",#[⟨13,.data⟩,⟨14,.data⟩],none⟩,
 ⟨some 69,.call {callee:=Callee.builtin Builtin.append,args:=#[.tmp 58,.tmp 68],argTypes:=#[35,35]},35, "disk.go:39",#[⟨5,.data⟩,⟨15,.data⟩],none⟩,
 ⟨some 70,.indexAddr 88 (.tmp 56) (.tmp 57),0, "disk.go:39",#[⟨3,.data⟩,⟨4,.data⟩,⟨0,.phase⟩,⟨1,.phase⟩,⟨2,.phase⟩,⟨3,.phase⟩,⟨4,.phase⟩,⟨5,.phase⟩,⟨6,.phase⟩,⟨7,.phase⟩,⟨8,.phase⟩,⟨9,.phase⟩,⟨10,.phase⟩,⟨11,.phase⟩,⟨12,.phase⟩,⟨13,.phase⟩,⟨14,.phase⟩,⟨15,.phase⟩,⟨16,.phase⟩],none⟩,
 ⟨some 71,.fieldAddr 94 (.tmp 70) 1,0, "disk.go:39",#[⟨17,.data⟩,⟨0,.phase⟩,⟨1,.phase⟩,⟨2,.phase⟩,⟨3,.phase⟩,⟨4,.phase⟩,⟨5,.phase⟩,⟨6,.phase⟩,⟨7,.phase⟩,⟨8,.phase⟩,⟨9,.phase⟩,⟨10,.phase⟩,⟨11,.phase⟩,⟨12,.phase⟩,⟨13,.phase⟩,⟨14,.phase⟩,⟨15,.phase⟩,⟨16,.phase⟩],none⟩,
 ⟨none,.store 35 (.tmp 71) (.tmp 69),0, "disk.go:39",#[⟨18,.data⟩,⟨16,.data⟩,⟨16,.chain⟩,⟨0,.phase⟩,⟨1,.phase⟩,⟨2,.phase⟩,⟨3,.phase⟩,⟨4,.phase⟩,⟨5,.phase⟩,⟨6,.phase⟩,⟨7,.phase⟩,⟨8,.phase⟩,⟨9,.phase⟩,⟨10,.phase⟩,⟨11,.phase⟩,⟨12,.phase⟩,⟨13,.phase⟩,⟨14,.phase⟩,⟨15,.phase⟩,⟨16,.phase⟩],none⟩]
theorem regEc5S (Q:Exit-> Act-> World-> Prop) (x gF nf cf i:Nat) (zs:List Int) (cur:Array Value) (gv nv cv k:Nat) {t1 t2 t3 t6 t7 t8 t9 t10 t11 t12 t13 t14 t15 t16 t17 t18 t19 t20 t21 t22 t23 t24 t25 t26 t27 t28 t29 t30 t31 t32 t33 t34 t35 t36 t37 t38 t39 t40 t41 t42 t43 t44 t45 t46 t47 t48 t49 t50 t51 t52 t53 t54 t55 t56 t57 t58 t59 t60 t61 t62 t63 t64 t65 t66 t67 t68 t69 t70 t71 t72 t73 t74 t75 t76 t77:Value} (W:World)
 (hk0:(0:Int)<= (k:Int)) (hkc:(k:Int)<= (cv:Int)) (hkb:k<= 1099511627776) (hin:(i:Int) < (nf:Int)) (hl:zs.length=k) (hzl:Lies .u8 W.drew (some ⟨gv,0,none⟩) zs) (hB:W.drew.heap[gF]?=some (.cells cur 94 (0,0))) (hb0':cur[i*3+1]?=some (.slice (some ⟨gv,0,none⟩) nv cv)) (hcv:∀V,W.drew.grownBy V none-> V.cell? ⟨x,0,none⟩=some (.slice (some ⟨gF,0,none⟩) nf cf)) (hcw:∀V,W.drew.grownBy V none-> ∀y,(V.setCell ⟨gF,i*3+1,none⟩ y).cell? ⟨x,0,none⟩=some (.slice (some ⟨gF,0,none⟩) nf cf))
 (h:∀v' w',w'.ownsRow 0 5 1 v' k (zs.map (Value.int .u8))-> W.drew.grownBy w' none-> (∃g,v'.ownBlock=some g/\ W.heap.size<= g)-> Q .normal {tmps:=(.pointer (some ⟨x,0,none⟩)::t1::t2::t3::.int .i64 (i:Int)::.int .i64 ((k:Nat):Int)::t6::t7::t8::t9::t10::t11::t12::t13::t14::t15::t16::t17::t18::t19::t20::t21::t22::t23::t24::t25::t26::t27::t28::t29::t30::t31::t32::t33::t34::t35::t36::t37::t38::t39::t40::t41::t42::t43::t44::t45::t46::t47::t48::t49::t50::t51::t52::.pointer (some ⟨x,0,none⟩)::.pointer (some ⟨x,0,none⟩)::.pointer (some ⟨x,0,none⟩)::.slice (some ⟨gF,0,none⟩) nf cf::.int .i64 (i:Int)::.slice (some ⟨W.heap.size,0,none⟩) 0 0::.pointer (some ⟨x,0,none⟩)::.pointer (some ⟨x,0,none⟩)::.pointer (some ⟨x,0,none⟩)::.slice (some ⟨gF,0,none⟩) nf cf::.int .i64 (i:Int)::.pointer (some ⟨gF,i*3,none⟩)::.pointer (some ⟨gF,i*3+1,none⟩)::.slice (some ⟨gv,0,none⟩) nv cv::.int .i64 ((k:Nat):Int)::.slice (some ⟨gv,0,none⟩) k cv::v'::.pointer (some ⟨gF,i*3,none⟩)::.pointer (some ⟨gF,i*3+1,none⟩)::t72::t73::t74::t75::t76::t77::[]).toArray,defers:=[]} (w'.setCell ⟨gF,i*3+1,none⟩ v')):
 (Code.region 5 regEc5SOps true).wp Tryz.prog Q {tmps:=(.pointer (some ⟨x,0,none⟩)::t1::t2::t3::.int .i64 (i:Int)::.int .i64 ((k:Nat):Int)::t6::t7::t8::t9::t10::t11::t12::t13::t14::t15::t16::t17::t18::t19::t20::t21::t22::t23::t24::t25::t26::t27::t28::t29::t30::t31::t32::t33::t34::t35::t36::t37::t38::t39::t40::t41::t42::t43::t44::t45::t46::t47::t48::t49::t50::t51::t52::t53::t54::t55::t56::t57::t58::t59::t60::t61::t62::t63::t64::t65::t66::t67::t68::t69::t70::t71::t72::t73::t74::t75::t76::t77::[]).toArray,defers:=[]} W:=by
 refine Code.wp_mono (λ_ _ _ h=>calmD_le h) ?_
 unfold regEc5SOps
 have hp:∀c a a' w,calmD Q (.panic c) a w-> calmD Q (.panic c) a' w:=λ_ _ _ _ h=>h
 refine wp_region_held (S:=λV=>V.cell? ⟨x,0,none⟩=some (.slice (some ⟨gF,0,none⟩) nf cf)) (by kernel_rfl) ?_
 change wpAnyH _ _ _ _ _ _ _ _ W.drew
 have hi0:(0:Int)<= (i:Int):=by omega
 have hS:=hcv W.drew ⟨rfl,rfl,rfl,aqH _,λ_ _ _=>rfl⟩
 have hb0:W.drew.cell? ⟨gF,i*3+1,none⟩=some (.slice (some ⟨gv,0,none⟩) nv cv):=(cell_of_row _ _ (i*3+1) _ _ _ hB).trans hb0'
 refine wpAnyH_takes (by kernel_rfl) hp hS [(0,some 53,.pointer (some ⟨x,0,none⟩)),(1,some 54,.pointer (some ⟨x,0,none⟩)),(2,some 55,.pointer (some ⟨x,0,none⟩)),(3,some 56,.slice (some ⟨gF,0,none⟩) nf cf),(4,some 57,.int .i64 (i:Int)),(6,some 59,.pointer (some ⟨x,0,none⟩)),(7,some 60,.pointer (some ⟨x,0,none⟩)),(8,some 61,.pointer (some ⟨x,0,none⟩)),(9,some 62,.slice (some ⟨gF,0,none⟩) nf cf),(10,some 63,.int .i64 (i:Int)),(11,some 64,.pointer (some ⟨gF,i*3,none⟩)),(12,some 65,.pointer (some ⟨gF,i*3+1,none⟩)),(14,some 67,.int .i64 ((k:Nat):Int))] (by kernel_rfl) ?_ ?_
 ·repeat (refine tkY_cons rfl (λV hV=>?_) ?_;(·have s0:=hV;(try obtain⟨s1,s2⟩:=s0);go_split_ands;go_simp;all_goals (first|assumption|omega));simp only[Act.put,aqA,aqB,aqC])
  exact True.intro
 simp only[tkA,Act.put,aqA,aqB,aqC]
 refine wpAnyH_ready (rs:=[5,13]) (by kernel_rfl) (by simp) ?_
 refine(AllReadyH.cons rfl (λK hK=>?_) (AllReadyH.cons rfl (λK hK=>?_) AllReadyH.nil))
 ·go_simp
  refine hK.out _ _ (hcv (W.drew.alloc (.cells #[] 5)) (World.grownBy_alloc W.drew _ _)) (λ_=>?_)
  clear hK K
  try simp only[Act.put,aqA,aqB,aqC]
  have hS1:=hcv (W.drew.alloc (.cells #[] 5)) (World.grownBy_alloc W.drew _ _)
  have hb1:(W.alloc (.cells #[] 5)).cell? ⟨gF,i*3+1,none⟩=some (.slice (some ⟨gv,0,none⟩) nv cv):=(World.cell?_of_block (a:=⟨gF,i*3+1,none⟩) (Below.heap_alloc W _ gF (Array.getElem?_eq_some_iff.1 hB).1)).trans hb0
  refine wpAnyH_ready (rs:=[13]) (by kernel_rfl) (by simp) ?_
  refine(AllReadyH.cons rfl (λK hK=>?_) AllReadyH.nil)
  go_simp
  refine hK.out _ _ hS1 (λ_=>?_)
  clear hK K
  try simp only[Act.put,aqA,aqB,aqC]
  refine wpAnyH_takes (by kernel_rfl) hp hS1 [(15,some 68,.slice (some ⟨gv,0,none⟩) k cv)] (by kernel_rfl) ?_ ?_
  ·repeat (refine tkY_cons rfl (λV hV=>?_) ?_;(·have s0:=hV;(try obtain⟨s1,s2⟩:=s0);go_split_ands;go_simp;all_goals (first|assumption|omega));simp only[Act.put,aqA,aqB,aqC])
   exact True.intro
  simp only[tkA,Act.put,aqA,aqB,aqC]
  refine wpAnyH_all (rs:=[16]) (by kernel_rfl) (by simp) ?_
  intro i hiX
  obtain rfl:i=16:=by simpa using hiX
  refine appB_opD (j:=16) rfl rfl (.tmp 58) (.tmp 68) rfl (.slice (some ⟨W.heap.size,0,none⟩) 0 0) 0 [] (by simp[Act.eval]) (w:=W.drew.alloc (.cells #[] 5)) (own_empty8 W.drew (Nat.zero_le _)) (some ⟨gv,0,none⟩) k cv zs (by simp[Act.eval]) hl (lies_alloc hzl) (by simp) (by omega) ?_
  intro v' w' r1 r2' r3
  rw[Nat.zero_add] at r1
  have r2:W.drew.grownBy w' none:=grown_empty r2'
  have hS2:=hcv w' r2
  refine⟨hS2,?_⟩
  have hQ':w'.heap[gF]?=some (.cells cur 94 (0,0)):=(r2.block gF (Array.getElem?_eq_some_iff.1 hB).1 (by simp)).trans hB
  have hfz:w'.frozen? ⟨gF,i*3+1,none⟩=false:=frozen_of_row _ _ (i*3+1) _ _ hQ'
  have hbv:w'.cell? ⟨gF,i*3+1,none⟩=some (.slice (some ⟨gv,0,none⟩) nv cv):=(cell_of_row _ _ (i*3+1) _ _ _ hQ').trans hb0'
  have hfin:=h v' w' (by simpa using r1) r2 (r3.elim (λe=>⟨_,e,aqH _⟩) (λe=>⟨_,e,by simp⟩))
  obtain⟨a1,n1,rfl⟩:=d_shape r1
  try simp only[Act.put,aqA,aqB,aqC]
  refine wpAnyH_takes (by kernel_rfl) hp hS2 [(17,some 70,.pointer (some ⟨gF,i*3,none⟩)),(18,some 71,.pointer (some ⟨gF,i*3+1,none⟩))] (by kernel_rfl) ?_ ?_
  ·repeat (refine tkY_cons rfl (λV hV=>?_) ?_;(·have s0:=hV;(try obtain⟨s1,s2⟩:=s0);go_split_ands;go_simp;all_goals (first|assumption|omega));simp only[Act.put,aqA,aqB,aqC])
   exact True.intro
  simp only[tkA,Act.put,aqA,aqB,aqC]
  refine wpAnyH_ready (rs:=[19]) (by kernel_rfl) (by simp) ?_
  refine(AllReadyH.cons rfl (λK hK=>?_) AllReadyH.nil)
  go_simp
  refine hK.out _ _ (hcw w' r2 _) (λ_=>?_)
  clear hK K
  try simp only[Act.put,aqA,aqB,aqC]
  exact wpAnyH_done (Q:=calmD Q) (by kernel_rfl) hfin _
 ·go_simp
  refine hK.out _ _ hS (λ_=>?_)
  clear hK K
  try simp only[Act.put,aqA,aqB,aqC]
  refine wpAnyH_takes (by kernel_rfl) hp hS [(15,some 68,.slice (some ⟨gv,0,none⟩) k cv)] (by kernel_rfl) ?_ ?_
  ·repeat (refine tkY_cons rfl (λV hV=>?_) ?_;(·have s0:=hV;(try obtain⟨s1,s2⟩:=s0);go_split_ands;go_simp;all_goals (first|assumption|omega));simp only[Act.put,aqA,aqB,aqC])
   exact True.intro
  simp only[tkA,Act.put,aqA,aqB,aqC]
  refine wpAnyH_ready (rs:=[5]) (by kernel_rfl) (by simp) ?_
  refine(AllReadyH.cons rfl (λK hK=>?_) AllReadyH.nil)
  go_simp
  refine hK.out _ _ (hcv (W.drew.alloc (.cells #[] 5)) (World.grownBy_alloc W.drew _ _)) (λ_=>?_)
  clear hK K
  try simp only[Act.put,aqA,aqB,aqC]
  have hS1:=hcv (W.drew.alloc (.cells #[] 5)) (World.grownBy_alloc W.drew _ _)
  have hb1:(W.alloc (.cells #[] 5)).cell? ⟨gF,i*3+1,none⟩=some (.slice (some ⟨gv,0,none⟩) nv cv):=(World.cell?_of_block (a:=⟨gF,i*3+1,none⟩) (Below.heap_alloc W _ gF (Array.getElem?_eq_some_iff.1 hB).1)).trans hb0
  refine wpAnyH_all (rs:=[16]) (by kernel_rfl) (by simp) ?_
  intro i hiX
  obtain rfl:i=16:=by simpa using hiX
  refine appB_opD (j:=16) rfl rfl (.tmp 58) (.tmp 68) rfl (.slice (some ⟨W.heap.size,0,none⟩) 0 0) 0 [] (by simp[Act.eval]) (w:=W.drew.alloc (.cells #[] 5)) (own_empty8 W.drew (Nat.zero_le _)) (some ⟨gv,0,none⟩) k cv zs (by simp[Act.eval]) hl (lies_alloc hzl) (by simp) (by omega) ?_
  intro v' w' r1 r2' r3
  rw[Nat.zero_add] at r1
  have r2:W.drew.grownBy w' none:=grown_empty r2'
  have hS2:=hcv w' r2
  refine⟨hS2,?_⟩
  have hQ':w'.heap[gF]?=some (.cells cur 94 (0,0)):=(r2.block gF (Array.getElem?_eq_some_iff.1 hB).1 (by simp)).trans hB
  have hfz:w'.frozen? ⟨gF,i*3+1,none⟩=false:=frozen_of_row _ _ (i*3+1) _ _ hQ'
  have hbv:w'.cell? ⟨gF,i*3+1,none⟩=some (.slice (some ⟨gv,0,none⟩) nv cv):=(cell_of_row _ _ (i*3+1) _ _ _ hQ').trans hb0'
  have hfin:=h v' w' (by simpa using r1) r2 (r3.elim (λe=>⟨_,e,aqH _⟩) (λe=>⟨_,e,by simp⟩))
  obtain⟨a1,n1,rfl⟩:=d_shape r1
  try simp only[Act.put,aqA,aqB,aqC]
  refine wpAnyH_takes (by kernel_rfl) hp hS2 [(17,some 70,.pointer (some ⟨gF,i*3,none⟩)),(18,some 71,.pointer (some ⟨gF,i*3+1,none⟩))] (by kernel_rfl) ?_ ?_
  ·repeat (refine tkY_cons rfl (λV hV=>?_) ?_;(·have s0:=hV;(try obtain⟨s1,s2⟩:=s0);go_split_ands;go_simp;all_goals (first|assumption|omega));simp only[Act.put,aqA,aqB,aqC])
   exact True.intro
  simp only[tkA,Act.put,aqA,aqB,aqC]
  refine wpAnyH_ready (rs:=[19]) (by kernel_rfl) (by simp) ?_
  refine(AllReadyH.cons rfl (λK hK=>?_) AllReadyH.nil)
  go_simp
  refine hK.out _ _ (hcw w' r2 _) (λ_=>?_)
  clear hK K
  try simp only[Act.put,aqA,aqB,aqC]
  exact wpAnyH_done (Q:=calmD Q) (by kernel_rfl) hfin _
theorem regEc5N (Q:Exit-> Act-> World-> Prop) (x gF nf cf i:Nat) (zs:List Int) (cur:Array Value) {t1 t2 t3 t6 t7 t8 t9 t10 t11 t12 t13 t14 t15 t16 t17 t18 t19 t20 t21 t22 t23 t24 t25 t26 t27 t28 t29 t30 t31 t32 t33 t34 t35 t36 t37 t38 t39 t40 t41 t42 t43 t44 t45 t46 t47 t48 t49 t50 t51 t52 t53 t54 t55 t56 t57 t58 t59 t60 t61 t62 t63 t64 t65 t66 t67 t68 t69 t70 t71 t72 t73 t74 t75 t76 t77:Value} (W:World)
 (hin:(i:Int) < (nf:Int)) (hl:zs.length=0) (hzl:Lies .u8 W.drew none zs) (hB:W.drew.heap[gF]?=some (.cells cur 94 (0,0))) (hb0':cur[i*3+1]?=some (.slice none 0 0)) (hcv:∀V,W.drew.grownBy V none-> V.cell? ⟨x,0,none⟩=some (.slice (some ⟨gF,0,none⟩) nf cf)) (hcw:∀V,W.drew.grownBy V none-> ∀y,(V.setCell ⟨gF,i*3+1,none⟩ y).cell? ⟨x,0,none⟩=some (.slice (some ⟨gF,0,none⟩) nf cf))
 (h:∀v' w',w'.ownsRow 0 5 1 v' 0 (zs.map (Value.int .u8))-> W.drew.grownBy w' none-> (∃g,v'.ownBlock=some g/\ W.heap.size<= g)-> Q .normal {tmps:=(.pointer (some ⟨x,0,none⟩)::t1::t2::t3::.int .i64 (i:Int)::.int .i64 0::t6::t7::t8::t9::t10::t11::t12::t13::t14::t15::t16::t17::t18::t19::t20::t21::t22::t23::t24::t25::t26::t27::t28::t29::t30::t31::t32::t33::t34::t35::t36::t37::t38::t39::t40::t41::t42::t43::t44::t45::t46::t47::t48::t49::t50::t51::t52::.pointer (some ⟨x,0,none⟩)::.pointer (some ⟨x,0,none⟩)::.pointer (some ⟨x,0,none⟩)::.slice (some ⟨gF,0,none⟩) nf cf::.int .i64 (i:Int)::.slice (some ⟨W.heap.size,0,none⟩) 0 0::.pointer (some ⟨x,0,none⟩)::.pointer (some ⟨x,0,none⟩)::.pointer (some ⟨x,0,none⟩)::.slice (some ⟨gF,0,none⟩) nf cf::.int .i64 (i:Int)::.pointer (some ⟨gF,i*3,none⟩)::.pointer (some ⟨gF,i*3+1,none⟩)::.slice none 0 0::.int .i64 0::.slice none 0 0::v'::.pointer (some ⟨gF,i*3,none⟩)::.pointer (some ⟨gF,i*3+1,none⟩)::t72::t73::t74::t75::t76::t77::[]).toArray,defers:=[]} (w'.setCell ⟨gF,i*3+1,none⟩ v')):
 (Code.region 5 regEc5SOps true).wp Tryz.prog Q {tmps:=(.pointer (some ⟨x,0,none⟩)::t1::t2::t3::.int .i64 (i:Int)::.int .i64 0::t6::t7::t8::t9::t10::t11::t12::t13::t14::t15::t16::t17::t18::t19::t20::t21::t22::t23::t24::t25::t26::t27::t28::t29::t30::t31::t32::t33::t34::t35::t36::t37::t38::t39::t40::t41::t42::t43::t44::t45::t46::t47::t48::t49::t50::t51::t52::t53::t54::t55::t56::t57::t58::t59::t60::t61::t62::t63::t64::t65::t66::t67::t68::t69::t70::t71::t72::t73::t74::t75::t76::t77::[]).toArray,defers:=[]} W:=by
 refine Code.wp_mono (λ_ _ _ h=>calmD_le h) ?_
 unfold regEc5SOps
 have hp:∀c a a' w,calmD Q (.panic c) a w-> calmD Q (.panic c) a' w:=λ_ _ _ _ h=>h
 refine wp_region_held (S:=λV=>V.cell? ⟨x,0,none⟩=some (.slice (some ⟨gF,0,none⟩) nf cf)) (by kernel_rfl) ?_
 change wpAnyH _ _ _ _ _ _ _ _ W.drew
 have hi0:(0:Int)<= (i:Int):=by omega
 have hS:=hcv W.drew ⟨rfl,rfl,rfl,aqH _,λ_ _ _=>rfl⟩
 have hb0:W.drew.cell? ⟨gF,i*3+1,none⟩=some (.slice none 0 0):=(cell_of_row _ _ (i*3+1) _ _ _ hB).trans hb0'
 refine wpAnyH_takes (by kernel_rfl) hp hS [(0,some 53,.pointer (some ⟨x,0,none⟩)),(1,some 54,.pointer (some ⟨x,0,none⟩)),(2,some 55,.pointer (some ⟨x,0,none⟩)),(3,some 56,.slice (some ⟨gF,0,none⟩) nf cf),(4,some 57,.int .i64 (i:Int)),(6,some 59,.pointer (some ⟨x,0,none⟩)),(7,some 60,.pointer (some ⟨x,0,none⟩)),(8,some 61,.pointer (some ⟨x,0,none⟩)),(9,some 62,.slice (some ⟨gF,0,none⟩) nf cf),(10,some 63,.int .i64 (i:Int)),(11,some 64,.pointer (some ⟨gF,i*3,none⟩)),(12,some 65,.pointer (some ⟨gF,i*3+1,none⟩)),(14,some 67,.int .i64 0)] (by kernel_rfl) ?_ ?_
 ·repeat (refine tkY_cons rfl (λV hV=>?_) ?_;(·have s0:=hV;(try obtain⟨s1,s2⟩:=s0);go_split_ands;go_simp;all_goals (first|assumption|omega));simp only[Act.put,aqA,aqB,aqC])
  exact True.intro
 simp only[tkA,Act.put,aqA,aqB,aqC]
 refine wpAnyH_ready (rs:=[5,13]) (by kernel_rfl) (by simp) ?_
 refine(AllReadyH.cons rfl (λK hK=>?_) (AllReadyH.cons rfl (λK hK=>?_) AllReadyH.nil))
 ·go_simp
  refine hK.out _ _ (hcv (W.drew.alloc (.cells #[] 5)) (World.grownBy_alloc W.drew _ _)) (λ_=>?_)
  clear hK K
  try simp only[Act.put,aqA,aqB,aqC]
  have hS1:=hcv (W.drew.alloc (.cells #[] 5)) (World.grownBy_alloc W.drew _ _)
  have hb1:(W.alloc (.cells #[] 5)).cell? ⟨gF,i*3+1,none⟩=some (.slice none 0 0):=(World.cell?_of_block (a:=⟨gF,i*3+1,none⟩) (Below.heap_alloc W _ gF (Array.getElem?_eq_some_iff.1 hB).1)).trans hb0
  refine wpAnyH_ready (rs:=[13]) (by kernel_rfl) (by simp) ?_
  refine(AllReadyH.cons rfl (λK hK=>?_) AllReadyH.nil)
  go_simp
  refine hK.out _ _ hS1 (λ_=>?_)
  clear hK K
  try simp only[Act.put,aqA,aqB,aqC]
  refine wpAnyH_takes (by kernel_rfl) hp hS1 [(15,some 68,.slice none 0 0)] (by kernel_rfl) ?_ ?_
  ·repeat (refine tkY_cons rfl (λV hV=>?_) ?_;(·have s0:=hV;(try obtain⟨s1,s2⟩:=s0);go_split_ands;go_simp;all_goals (first|assumption|omega));simp only[Act.put,aqA,aqB,aqC])
   exact True.intro
  simp only[tkA,Act.put,aqA,aqB,aqC]
  refine wpAnyH_all (rs:=[16]) (by kernel_rfl) (by simp) ?_
  intro i hiX
  obtain rfl:i=16:=by simpa using hiX
  refine appB_opD (j:=16) rfl rfl (.tmp 58) (.tmp 68) rfl (.slice (some ⟨W.heap.size,0,none⟩) 0 0) 0 [] (by simp[Act.eval]) (w:=W.drew.alloc (.cells #[] 5)) (own_empty8 W.drew (Nat.zero_le _)) none 0 0 zs (by simp[Act.eval]) hl (lies_alloc hzl) (by simp) (by omega) ?_
  intro v' w' r1 r2' r3
  rw[Nat.zero_add] at r1
  have r2:W.drew.grownBy w' none:=grown_empty r2'
  have hS2:=hcv w' r2
  refine⟨hS2,?_⟩
  have hQ':w'.heap[gF]?=some (.cells cur 94 (0,0)):=(r2.block gF (Array.getElem?_eq_some_iff.1 hB).1 (by simp)).trans hB
  have hfz:w'.frozen? ⟨gF,i*3+1,none⟩=false:=frozen_of_row _ _ (i*3+1) _ _ hQ'
  have hbv:w'.cell? ⟨gF,i*3+1,none⟩=some (.slice none 0 0):=(cell_of_row _ _ (i*3+1) _ _ _ hQ').trans hb0'
  have hfin:=h v' w' (by simpa using r1) r2 (r3.elim (λe=>⟨_,e,aqH _⟩) (λe=>⟨_,e,by simp⟩))
  obtain⟨a1,n1,rfl⟩:=d_shape r1
  try simp only[Act.put,aqA,aqB,aqC]
  refine wpAnyH_takes (by kernel_rfl) hp hS2 [(17,some 70,.pointer (some ⟨gF,i*3,none⟩)),(18,some 71,.pointer (some ⟨gF,i*3+1,none⟩))] (by kernel_rfl) ?_ ?_
  ·repeat (refine tkY_cons rfl (λV hV=>?_) ?_;(·have s0:=hV;(try obtain⟨s1,s2⟩:=s0);go_split_ands;go_simp;all_goals (first|assumption|omega));simp only[Act.put,aqA,aqB,aqC])
   exact True.intro
  simp only[tkA,Act.put,aqA,aqB,aqC]
  refine wpAnyH_ready (rs:=[19]) (by kernel_rfl) (by simp) ?_
  refine(AllReadyH.cons rfl (λK hK=>?_) AllReadyH.nil)
  go_simp
  refine hK.out _ _ (hcw w' r2 _) (λ_=>?_)
  clear hK K
  try simp only[Act.put,aqA,aqB,aqC]
  exact wpAnyH_done (Q:=calmD Q) (by kernel_rfl) hfin _
 ·go_simp
  refine hK.out _ _ hS (λ_=>?_)
  clear hK K
  try simp only[Act.put,aqA,aqB,aqC]
  refine wpAnyH_takes (by kernel_rfl) hp hS [(15,some 68,.slice none 0 0)] (by kernel_rfl) ?_ ?_
  ·repeat (refine tkY_cons rfl (λV hV=>?_) ?_;(·have s0:=hV;(try obtain⟨s1,s2⟩:=s0);go_split_ands;go_simp;all_goals (first|assumption|omega));simp only[Act.put,aqA,aqB,aqC])
   exact True.intro
  simp only[tkA,Act.put,aqA,aqB,aqC]
  refine wpAnyH_ready (rs:=[5]) (by kernel_rfl) (by simp) ?_
  refine(AllReadyH.cons rfl (λK hK=>?_) AllReadyH.nil)
  go_simp
  refine hK.out _ _ (hcv (W.drew.alloc (.cells #[] 5)) (World.grownBy_alloc W.drew _ _)) (λ_=>?_)
  clear hK K
  try simp only[Act.put,aqA,aqB,aqC]
  have hS1:=hcv (W.drew.alloc (.cells #[] 5)) (World.grownBy_alloc W.drew _ _)
  have hb1:(W.alloc (.cells #[] 5)).cell? ⟨gF,i*3+1,none⟩=some (.slice none 0 0):=(World.cell?_of_block (a:=⟨gF,i*3+1,none⟩) (Below.heap_alloc W _ gF (Array.getElem?_eq_some_iff.1 hB).1)).trans hb0
  refine wpAnyH_all (rs:=[16]) (by kernel_rfl) (by simp) ?_
  intro i hiX
  obtain rfl:i=16:=by simpa using hiX
  refine appB_opD (j:=16) rfl rfl (.tmp 58) (.tmp 68) rfl (.slice (some ⟨W.heap.size,0,none⟩) 0 0) 0 [] (by simp[Act.eval]) (w:=W.drew.alloc (.cells #[] 5)) (own_empty8 W.drew (Nat.zero_le _)) none 0 0 zs (by simp[Act.eval]) hl (lies_alloc hzl) (by simp) (by omega) ?_
  intro v' w' r1 r2' r3
  rw[Nat.zero_add] at r1
  have r2:W.drew.grownBy w' none:=grown_empty r2'
  have hS2:=hcv w' r2
  refine⟨hS2,?_⟩
  have hQ':w'.heap[gF]?=some (.cells cur 94 (0,0)):=(r2.block gF (Array.getElem?_eq_some_iff.1 hB).1 (by simp)).trans hB
  have hfz:w'.frozen? ⟨gF,i*3+1,none⟩=false:=frozen_of_row _ _ (i*3+1) _ _ hQ'
  have hbv:w'.cell? ⟨gF,i*3+1,none⟩=some (.slice none 0 0):=(cell_of_row _ _ (i*3+1) _ _ _ hQ').trans hb0'
  have hfin:=h v' w' (by simpa using r1) r2 (r3.elim (λe=>⟨_,e,aqH _⟩) (λe=>⟨_,e,by simp⟩))
  obtain⟨a1,n1,rfl⟩:=d_shape r1
  try simp only[Act.put,aqA,aqB,aqC]
  refine wpAnyH_takes (by kernel_rfl) hp hS2 [(17,some 70,.pointer (some ⟨gF,i*3,none⟩)),(18,some 71,.pointer (some ⟨gF,i*3+1,none⟩))] (by kernel_rfl) ?_ ?_
  ·repeat (refine tkY_cons rfl (λV hV=>?_) ?_;(·have s0:=hV;(try obtain⟨s1,s2⟩:=s0);go_split_ands;go_simp;all_goals (first|assumption|omega));simp only[Act.put,aqA,aqB,aqC])
   exact True.intro
  simp only[tkA,Act.put,aqA,aqB,aqC]
  refine wpAnyH_ready (rs:=[19]) (by kernel_rfl) (by simp) ?_
  refine(AllReadyH.cons rfl (λK hK=>?_) AllReadyH.nil)
  go_simp
  refine hK.out _ _ (hcw w' r2 _) (λ_=>?_)
  clear hK K
  try simp only[Act.put,aqA,aqB,aqC]
  exact wpAnyH_done (Q:=calmD Q) (by kernel_rfl) hfin _
def regEf5Ops:Array Oper:=#[⟨some 14,.move (.tmp 3),88, "disk.go:52",#[],none⟩,
 ⟨some 15,.move (.tmp 0),27, "disk.go:52",#[],none⟩,
 ⟨some 16,.nilCheck (.tmp 15),0, "disk.go:52",#[⟨1,.data⟩],none⟩,
 ⟨some 17,.fieldAddr 90 (.tmp 16) 0,0, "disk.go:52",#[⟨2,.data⟩],none⟩,
 ⟨some 18,.load 88 (.tmp 17),88, "disk.go:52",#[⟨3,.data⟩],none⟩,
 ⟨some 19,.move (.tmp 4),3, "disk.go:52",#[],none⟩,
 ⟨some 20,.indexAddr 88 (.tmp 18) (.tmp 19),0, "disk.go:52",#[⟨4,.data⟩,⟨5,.data⟩],none⟩,
 ⟨some 21,.fieldAddr 94 (.tmp 20) 0,0, "disk.go:52",#[⟨6,.data⟩],none⟩,
 ⟨some 22,.load 9 (.tmp 21),9, "disk.go:52",#[⟨7,.data⟩],none⟩,
 ⟨some 23,.buildSlice 35 0 #[],35, "disk.go:52",#[],none⟩,
 ⟨some 24,.move (.tmp 0),27, "disk.go:52",#[],none⟩,
 ⟨some 25,.nilCheck (.tmp 24),0, "disk.go:52",#[⟨10,.data⟩],none⟩,
 ⟨some 26,.fieldAddr 90 (.tmp 25) 0,0, "disk.go:52",#[⟨11,.data⟩],none⟩,
 ⟨some 27,.load 88 (.tmp 26),88, "disk.go:52",#[⟨12,.data⟩],none⟩,
 ⟨some 28,.move (.tmp 4),3, "disk.go:52",#[],none⟩,
 ⟨some 29,.indexAddr 88 (.tmp 27) (.tmp 28),0, "disk.go:52",#[⟨13,.data⟩,⟨14,.data⟩],none⟩,
 ⟨some 30,.fieldAddr 94 (.tmp 29) 1,0, "disk.go:52",#[⟨15,.data⟩],none⟩,
 ⟨some 31,.load 35 (.tmp 30),35, "disk.go:52",#[⟨16,.data⟩],none⟩,
 ⟨some 32,.call {callee:=Callee.builtin Builtin.append,args:=#[.tmp 23,.tmp 31],argTypes:=#[35,35]},35, "disk.go:52",#[⟨9,.data⟩,⟨17,.data⟩],none⟩,
 ⟨some 33,.move (.tmp 0),27, "disk.go:52",#[],none⟩,
 ⟨some 34,.nilCheck (.tmp 33),0, "disk.go:52",#[⟨19,.data⟩],none⟩,
 ⟨some 35,.fieldAddr 90 (.tmp 34) 0,0, "disk.go:52",#[⟨20,.data⟩],none⟩,
 ⟨some 36,.load 88 (.tmp 35),88, "disk.go:52",#[⟨21,.data⟩],none⟩,
 ⟨some 37,.move (.tmp 4),3, "disk.go:52",#[],none⟩,
 ⟨some 38,.indexAddr 88 (.tmp 36) (.tmp 37),0, "disk.go:52",#[⟨22,.data⟩,⟨23,.data⟩],none⟩,
 ⟨some 39,.fieldAddr 94 (.tmp 38) 2,0, "disk.go:52",#[⟨24,.data⟩],none⟩,
 ⟨some 40,.load 3 (.tmp 39),3, "disk.go:52",#[⟨25,.data⟩],none⟩,
 ⟨some 41,.build 94 #[(0,.tmp 22),(1,.tmp 32),(2,.tmp 40)],94, "disk.go:52",#[⟨8,.data⟩,⟨18,.data⟩,⟨26,.data⟩],none⟩,
 ⟨some 42,.buildSlice 88 1 #[(0,.tmp 41)],88, "disk.go:52",#[⟨27,.data⟩],none⟩,
 ⟨some 43,.call {callee:=Callee.builtin Builtin.append,args:=#[.tmp 14,.tmp 42],argTypes:=#[88,88]},88, "disk.go:52",#[⟨0,.data⟩,⟨28,.data⟩,⟨18,.chain⟩],none⟩,
 ⟨some 3,.assign (.tmp 43),88, "disk.go:52",#[⟨29,.data⟩,⟨29,.chain⟩,⟨0,.phase⟩,⟨1,.phase⟩,⟨2,.phase⟩,⟨3,.phase⟩,⟨4,.phase⟩,⟨5,.phase⟩,⟨6,.phase⟩,⟨7,.phase⟩,⟨8,.phase⟩,⟨9,.phase⟩,⟨10,.phase⟩,⟨11,.phase⟩,⟨12,.phase⟩,⟨13,.phase⟩,⟨14,.phase⟩,⟨15,.phase⟩,⟨16,.phase⟩,⟨17,.phase⟩,⟨18,.phase⟩,⟨19,.phase⟩,⟨20,.phase⟩,⟨21,.phase⟩,⟨22,.phase⟩,⟨23,.phase⟩,⟨24,.phase⟩,⟨25,.phase⟩,⟨26,.phase⟩,⟨27,.phase⟩,⟨28,.phase⟩,⟨29,.phase⟩],none⟩]
theorem regEf5 (Q:Exit-> Act-> World-> Prop) (x gF nf cf i n:Nat) (s:ByteArray) (sf:Int) (av:Option Addr) (nv cv:Nat) (zs:List Int) (vo:Value) (xs:List Value) {t1 t2 t5 t6 t7 t8 t9 t10 t11 t12 t13 t14 t15 t16 t17 t18 t19 t20 t21 t22 t23 t24 t25 t26 t27 t28 t29 t30 t31 t32 t33 t34 t35 t36 t37 t38 t39 t40 t41 t42 t43 t44:Value} (W:World)
 (hin:(i:Int) < (nf:Int)) (hl:zs.length=nv) (hz:Lies .u8 W.drew av zs) (hnn:av=none-> nv=0/\ cv=0) (hnv:nv<= 1099511627776) (hn:n<= 1099511627776) (hob:∀V,W.drew.grownBy V none-> V.ownsRow 0 94 3 vo n xs) (hvl:∃a c,vo=.slice a n c)
 (hcv:∀V,W.drew.grownBy V none-> ∀ro,(ro=none∨ro=vo.ownBlock)-> ∀U,V.grownBy U ro-> U.cell? ⟨x,0,none⟩=some (.slice (some ⟨gF,0,none⟩) nf cf)/\ U.cell? ⟨gF,i*3,none⟩=some (.string s)/\ U.cell? ⟨gF,i*3+1,none⟩=some (.slice av nv cv)/\ U.cell? ⟨gF,i*3+2,none⟩=some (.int .i64 sf))
 (h:∀v1 w1 v2 w2,w1.ownsRow 0 5 1 v1 nv (zs.map (Value.int .u8))-> W.drew.grownBy w1 none-> (∃g,v1.ownBlock=some g/\ W.heap.size<= g)-> w2.ownsRow 0 94 3 v2 (n+1) (xs++[.string s,v1,.int .i64 sf])-> w1.grownBy w2 vo.ownBlock-> (v2.ownBlock=vo.ownBlock∨∃g,v2.ownBlock=some g/\ w1.heap.size<= g)-> Q .normal {tmps:=(.pointer (some ⟨x,0,none⟩)::t1::t2::v2::.int .i64 (i:Int)::t5::t6::t7::t8::t9::t10::t11::t12::t13::vo::.pointer (some ⟨x,0,none⟩)::.pointer (some ⟨x,0,none⟩)::.pointer (some ⟨x,0,none⟩)::.slice (some ⟨gF,0,none⟩) nf cf::.int .i64 (i:Int)::.pointer (some ⟨gF,i*3,none⟩)::.pointer (some ⟨gF,i*3,none⟩)::.string s::.slice (some ⟨W.heap.size,0,none⟩) 0 0::.pointer (some ⟨x,0,none⟩)::.pointer (some ⟨x,0,none⟩)::.pointer (some ⟨x,0,none⟩)::.slice (some ⟨gF,0,none⟩) nf cf::.int .i64 (i:Int)::.pointer (some ⟨gF,i*3,none⟩)::.pointer (some ⟨gF,i*3+1,none⟩)::.slice av nv cv::v1::.pointer (some ⟨x,0,none⟩)::.pointer (some ⟨x,0,none⟩)::.pointer (some ⟨x,0,none⟩)::.slice (some ⟨gF,0,none⟩) nf cf::.int .i64 (i:Int)::.pointer (some ⟨gF,i*3,none⟩)::.pointer (some ⟨gF,i*3+2,none⟩)::.int .i64 sf::.agg #[.string s,v1,.int .i64 sf]::.slice (some ⟨w1.heap.size,0,none⟩) 1 1::v2::t44::[]).toArray,defers:=[]} w2):
 (Code.region 5 regEf5Ops true).wp Tryz.prog Q {tmps:=(.pointer (some ⟨x,0,none⟩)::t1::t2::vo::.int .i64 (i:Int)::t5::t6::t7::t8::t9::t10::t11::t12::t13::t14::t15::t16::t17::t18::t19::t20::t21::t22::t23::t24::t25::t26::t27::t28::t29::t30::t31::t32::t33::t34::t35::t36::t37::t38::t39::t40::t41::t42::t43::t44::[]).toArray,defers:=[]} W:=by
 refine Code.wp_mono (λ_ _ _ h=>calmD_le h) ?_
 unfold regEf5Ops
 have hp:∀c a a' w,calmD Q (.panic c) a w-> calmD Q (.panic c) a' w:=λ_ _ _ _ h=>h
 refine wp_region_held (S:=λV=>V.cell? ⟨x,0,none⟩=some (.slice (some ⟨gF,0,none⟩) nf cf)/\ V.cell? ⟨gF,i*3,none⟩=some (.string s)/\ V.cell? ⟨gF,i*3+1,none⟩=some (.slice av nv cv)/\ V.cell? ⟨gF,i*3+2,none⟩=some (.int .i64 sf)) (by kernel_rfl) ?_
 change wpAnyH _ _ _ _ _ _ _ _ W.drew
 have hi00:(0:Int)<= (i:Int):=by omega
 have hS:=hcv W.drew ⟨rfl,rfl,rfl,aqH _,λ_ _ _=>rfl⟩ none (.inl rfl) W.drew ⟨rfl,rfl,rfl,aqH _,λ_ _ _=>rfl⟩
 obtain⟨i0,hi,hz0,hz1,hz2⟩:=info_partsD infoFileE
 obtain⟨ao,co,rfl⟩:=hvl
 refine wpAnyH_takes (by kernel_rfl) hp hS [(0,some 14,.slice ao n co),(1,some 15,.pointer (some ⟨x,0,none⟩)),(2,some 16,.pointer (some ⟨x,0,none⟩)),(3,some 17,.pointer (some ⟨x,0,none⟩)),(4,some 18,.slice (some ⟨gF,0,none⟩) nf cf),(5,some 19,.int .i64 (i:Int)),(6,some 20,.pointer (some ⟨gF,i*3,none⟩)),(7,some 21,.pointer (some ⟨gF,i*3,none⟩)),(8,some 22,.string s),(10,some 24,.pointer (some ⟨x,0,none⟩)),(11,some 25,.pointer (some ⟨x,0,none⟩)),(12,some 26,.pointer (some ⟨x,0,none⟩)),(13,some 27,.slice (some ⟨gF,0,none⟩) nf cf),(14,some 28,.int .i64 (i:Int)),(15,some 29,.pointer (some ⟨gF,i*3,none⟩)),(16,some 30,.pointer (some ⟨gF,i*3+1,none⟩)),(17,some 31,.slice av nv cv),(19,some 33,.pointer (some ⟨x,0,none⟩)),(20,some 34,.pointer (some ⟨x,0,none⟩)),(21,some 35,.pointer (some ⟨x,0,none⟩)),(22,some 36,.slice (some ⟨gF,0,none⟩) nf cf),(23,some 37,.int .i64 (i:Int)),(24,some 38,.pointer (some ⟨gF,i*3,none⟩)),(25,some 39,.pointer (some ⟨gF,i*3+2,none⟩)),(26,some 40,.int .i64 sf)] (by kernel_rfl) ?_ ?_
 ·repeat (refine tkY_cons rfl (λV hV=>?_) ?_;(·have s0:=hV;(try obtain⟨s1,s2⟩:=s0);go_split_ands;go_simp;all_goals (first|assumption|omega));simp only[Act.put,aqA,aqB,aqC])
  exact True.intro
 simp only[tkA,Act.put,aqA,aqB,aqC]
 refine wpAnyH_ready (rs:=[9]) (by kernel_rfl) (by simp) ?_
 refine(AllReadyH.cons rfl (λK hK=>?_) AllReadyH.nil)
 go_simp
 refine hK.out _ _ (hcv W.drew ⟨rfl,rfl,rfl,aqH _,λ_ _ _=>rfl⟩ none (.inl rfl) (W.drew.alloc (.cells #[] 5)) (World.grownBy_alloc W.drew _ _)) (λ_=>?_)
 clear hK K
 try simp only[Act.put,aqA,aqB,aqC]
 have hS0:=hcv W.drew ⟨rfl,rfl,rfl,aqH _,λ_ _ _=>rfl⟩ none (.inl rfl) (W.drew.alloc (.cells #[] 5)) (World.grownBy_alloc W.drew _ _)
 refine wpAnyH_all (rs:=[18]) (by kernel_rfl) (by simp) ?_
 intro i hiX
 obtain rfl:i=18:=by simpa using hiX
 refine appB_opD (j:=18) rfl rfl (.tmp 23) (.tmp 31) rfl (.slice (some ⟨W.heap.size,0,none⟩) 0 0) 0 [] (by simp[Act.eval]) (w:=W.drew.alloc (.cells #[] 5)) (own_empty8 W.drew (Nat.zero_le _)) av nv cv zs (by simp[Act.eval]) hl (lies_alloc hz) hnn (by omega) ?_
 intro v1 w1 r1 r2' r3
 rw[Nat.zero_add] at r1
 have r2:W.drew.grownBy w1 none:=grown_empty r2'
 have hS1:=hcv w1 r2 none (.inl rfl) w1 ⟨rfl,rfl,rfl,aqH _,λ_ _ _=>rfl⟩
 refine⟨hS1,?_⟩
 have hvo:=hob w1 r2
 obtain⟨a1,n1,rfl⟩:=d_shape r1
 try simp only[Act.put,aqA,aqB,aqC]
 refine wpAnyH_takes (by kernel_rfl) hp hS1 [(27,some 41,.agg #[.string s,.slice a1 nv n1,.int .i64 sf])] (by kernel_rfl) ?_ ?_
 ·repeat (refine tkY_cons rfl (λV hV=>?_) ?_;(·have s0:=hV;(try obtain⟨s1,s2⟩:=s0);go_split_ands;go_simp;all_goals (first|assumption|omega));simp only[Act.put,aqA,aqB,aqC])
  exact True.intro
 simp only[tkA,Act.put,aqA,aqB,aqC]
 refine wpAnyH_ready (rs:=[28]) (by kernel_rfl) (by simp) ?_
 refine(AllReadyH.cons rfl (λK hK=>?_) AllReadyH.nil)
 go_simp
 refine hK.out _ _ (hcv w1 r2 none (.inl rfl) (w1.alloc (.cells #[.string s,.slice a1 nv n1,.int .i64 sf] 94)) (World.grownBy_alloc w1 _ _)) (λ_=>?_)
 clear hK K
 try simp only[Act.put,aqA,aqB,aqC]
 have hS2:=hcv w1 r2 none (.inl rfl) (w1.alloc (.cells #[.string s,.slice a1 nv n1,.int .i64 sf] 94)) (World.grownBy_alloc w1 _ _)
 refine wpAnyH_all (rs:=[29]) (by kernel_rfl) (by simp) ?_
 intro i hiX
 obtain rfl:i=29:=by simpa using hiX
 refine app_opD (j:=29) rfl rfl (.tmp 14) (.tmp 42) 88 rfl 0 94 i0 (.agg #[.string ⟨#[]⟩,.slice none 0 0,.int .i64 0]) 3 48 Tryz.underlying88 hi hz0 hz1 hz2 rfl (by decide) (.slice ao n co) n xs (by simp[Act.eval]) (World.ownsRow.alloc hvo _) ⟨w1.heap.size,0,none⟩ 1 1 [.string s,.slice a1 nv n1,.int .i64 sf] (by simp[Act.eval]) rfl (three_newD w1 _ _ _ _) (by simp[Value.oneCell']) (by unfold maxLen;omega) (by omega) (Nat.zero_le _) ?_
 intro v2 w2 q1 q2 q3
 have hgr:w1.grownBy w2 (Value.slice ao n co).ownBlock:=(World.grownBy_alloc w1 _ _).trans q2
 have hS3:=hcv w1 r2 (Value.slice ao n co).ownBlock (.inr rfl) w2 hgr
 refine⟨hS3,?_⟩
 have hfin:=h _ w1 v2 w2 (by simpa using r1) r2 (r3.elim (λe=>⟨_,e,aqH _⟩) (λe=>⟨_,e,by simp⟩)) q1 hgr (q3.elim .inl (λe=>.inr ⟨_,e,by simp⟩))
 obtain⟨a2,n2,rfl⟩:=d_shape q1
 try simp only[Act.put,aqA,aqB,aqC]
 refine wpAnyH_takes (by kernel_rfl) hp hS3 [(30,some 3,.slice a2 (n+1) n2)] (by kernel_rfl) ?_ ?_
 ·repeat (refine tkY_cons rfl (λV hV=>?_) ?_;(·have s0:=hV;(try obtain⟨s1,s2⟩:=s0);go_split_ands;go_simp;all_goals (first|assumption|omega));simp only[Act.put,aqA,aqB,aqC])
  exact True.intro
 simp only[tkA,Act.put,aqA,aqB,aqC]
 exact wpAnyH_done (Q:=calmD Q) (by kernel_rfl) hfin _
end Go.Proofs.YtllhbhogfffedaaGreatDoor.K
