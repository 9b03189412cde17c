import Derived.Test.YtllhbhogfffedaaGreatDoorDkCl2
import Derived.Test.YtllhbhogfffedaaGreatDoorRcRf1
import Derived.Test.YtllhbhogfffedaaGreatDoorNums
import Derived.RangeFuncNested
import Derived.RangeFuncBound
import Derived.RangeFuncCalls
import Derived.RangeFuncLeaves
import Derived.Shelf.Abstract
import Derived.Shelf.RegionOpen
import Derived.OwnWalkIn
import Derived.TacticsInMore
import Derived.LoopNIn
import Derived.LoopIn
import Derived.Sort.QuietIn
set_option maxHeartbeats 8000000
set_option maxRecDepth 100000
namespace Go.Proofs.YtllhbhogfffedaaGreatDoor.K
open Go.RowKit
attribute [local go_sem] Oper.semAt_some
set_option linter.unusedVariables false
set_option linter.unusedSimpArgs false
def regCr4Ops:Array Oper:=#[⟨some 26,.move (.tmp 5),111, "disk.go:70",#[],none⟩,
 ⟨some 27,.nilCheck (.tmp 26),0, "disk.go:70",#[⟨0,.data⟩],none⟩,
 ⟨some 28,.fieldAddr 75 (.tmp 27) 2,0, "disk.go:70",#[⟨1,.data⟩],none⟩,
 ⟨some 29,.load 3 (.tmp 28),3, "disk.go:70",#[⟨2,.data⟩],none⟩,
 ⟨some 30,.move (.tmp 1),3, "disk.go:70",#[],none⟩,
 ⟨some 31,.call {callee:=Callee.builtin Builtin.max,args:=#[.tmp 30,Operand.const (Value.int IntKind.i64 0)],argTypes:=#[3,3]},3, "disk.go:70",#[⟨4,.data⟩],none⟩,
 ⟨some 32,.move (.tmp 5),111, "disk.go:70",#[],none⟩,
 ⟨some 33,.nilCheck (.tmp 32),0, "disk.go:70",#[⟨6,.data⟩],none⟩,
 ⟨some 34,.fieldAddr 75 (.tmp 33) 1,0, "disk.go:70",#[⟨7,.data⟩],none⟩,
 ⟨some 35,.load 35 (.tmp 34),35, "disk.go:70",#[⟨8,.data⟩],none⟩,
 ⟨some 36,.call {callee:=Callee.builtin Builtin.len,args:=#[.tmp 35],argTypes:=#[35]},3, "disk.go:70",#[⟨9,.data⟩],none⟩,
 ⟨some 37,.move (.tmp 5),111, "disk.go:70",#[],none⟩,
 ⟨some 38,.nilCheck (.tmp 37),0, "disk.go:70",#[⟨11,.data⟩],none⟩,
 ⟨some 39,.fieldAddr 75 (.tmp 38) 2,0, "disk.go:70",#[⟨12,.data⟩],none⟩,
 ⟨some 40,.load 3 (.tmp 39),3, "disk.go:70",#[⟨13,.data⟩],none⟩,
 ⟨some 41,.binOp BinOp.sub 3 (.tmp 36) (.tmp 40) 3,3, "disk.go:70",#[⟨10,.data⟩,⟨14,.data⟩],none⟩,
 ⟨some 42,.call {callee:=Callee.builtin Builtin.min,args:=#[.tmp 31,.tmp 41],argTypes:=#[3,3]},3, "disk.go:70",#[⟨5,.data⟩,⟨15,.data⟩],none⟩,
 ⟨some 43,.binOp BinOp.add 3 (.tmp 29) (.tmp 42) 3,3, "disk.go:70",#[⟨3,.data⟩,⟨16,.data⟩],none⟩,
 ⟨some 44,.nilCheck (.tmp 26),0, "disk.go:70",#[⟨0,.data⟩,⟨0,.phase⟩,⟨1,.phase⟩,⟨2,.phase⟩,⟨3,.phase⟩,⟨4,.phase⟩,⟨5,.phase⟩,⟨6,.phase⟩,⟨7,.phase⟩,⟨8,.phase⟩,⟨9,.phase⟩,⟨10,.phase⟩,⟨11,.phase⟩,⟨12,.phase⟩,⟨13,.phase⟩,⟨14,.phase⟩,⟨15,.phase⟩,⟨16,.phase⟩,⟨17,.phase⟩],none⟩,
 ⟨some 45,.fieldAddr 75 (.tmp 44) 2,0, "disk.go:70",#[⟨18,.data⟩,⟨0,.phase⟩,⟨1,.phase⟩,⟨2,.phase⟩,⟨3,.phase⟩,⟨4,.phase⟩,⟨5,.phase⟩,⟨6,.phase⟩,⟨7,.phase⟩,⟨8,.phase⟩,⟨9,.phase⟩,⟨10,.phase⟩,⟨11,.phase⟩,⟨12,.phase⟩,⟨13,.phase⟩,⟨14,.phase⟩,⟨15,.phase⟩,⟨16,.phase⟩,⟨17,.phase⟩],none⟩,
 ⟨none,.store 3 (.tmp 45) (.tmp 43),0, "disk.go:70",#[⟨19,.data⟩,⟨17,.data⟩,⟨0,.phase⟩,⟨1,.phase⟩,⟨2,.phase⟩,⟨3,.phase⟩,⟨4,.phase⟩,⟨5,.phase⟩,⟨6,.phase⟩,⟨7,.phase⟩,⟨8,.phase⟩,⟨9,.phase⟩,⟨10,.phase⟩,⟨11,.phase⟩,⟨12,.phase⟩,⟨13,.phase⟩,⟨14,.phase⟩,⟨15,.phase⟩,⟨16,.phase⟩,⟨17,.phase⟩],none⟩]
theorem regCr4 (Q:Exit-> Act-> World-> Prop) (gF i:Nat) (keep sf M q:Int) (av:Option Addr) (nv cv:Nat) {t0 t2 t3 t4 t6 t7 t8 t9 t10 t11 t12 t13 t14 t15 t16 t17 t18 t19 t20 t21 t22 t23 t24 t25 t26 t27 t28 t29 t30 t31 t32 t33 t34 t35 t36 t37 t38 t39 t40 t41 t42 t43 t44 t45 t46 t47 t48 t49 t50 t51 t52 t53 t54 t55 t56 t57 t58 t59 t60 t61 t62 t63 t64 t65 t66 t67 t68 t69 t70 t71:Value} (W:World)
 (hM:(if keep < 0 then 0 else keep)=M) (hq:(if (nv:Int) - sf < M then (nv:Int) - sf else M)=q) (hw1:IntKind.i64.wrap ((nv:Int) - sf)=(nv:Int) - sf) (hw2:IntKind.i64.wrap (sf+q)=sf+q) (hb:W.drew.cell? ⟨gF,i*3+2,none⟩=some (.int .i64 sf)) (hz:W.drew.frozen? ⟨gF,i*3+2,none⟩=false) (hS:W.drew.cell? ⟨gF,i*3+1,none⟩=some (.slice av nv cv)) (hcx:∀y,(W.drew.setCell ⟨gF,i*3+2,none⟩ y).cell? ⟨gF,i*3+1,none⟩=some (.slice av nv cv))
 (h:Q .normal {tmps:=(t0::.int .i64 keep::t2::t3::t4::.pointer (some ⟨gF,i*3,none⟩)::t6::t7::t8::t9::t10::t11::t12::t13::t14::t15::t16::t17::t18::t19::t20::t21::t22::t23::t24::t25::.pointer (some ⟨gF,i*3,none⟩)::.pointer (some ⟨gF,i*3,none⟩)::.pointer (some ⟨gF,i*3+2,none⟩)::.int .i64 sf::.int .i64 keep::.int .i64 M::.pointer (some ⟨gF,i*3,none⟩)::.pointer (some ⟨gF,i*3,none⟩)::.pointer (some ⟨gF,i*3+1,none⟩)::.slice av nv cv::.int .i64 ((nv:Nat):Int)::.pointer (some ⟨gF,i*3,none⟩)::.pointer (some ⟨gF,i*3,none⟩)::.pointer (some ⟨gF,i*3+2,none⟩)::.int .i64 sf::.int .i64 ((nv:Int) - sf)::.int .i64 q::.int .i64 (sf+q)::.pointer (some ⟨gF,i*3,none⟩)::.pointer (some ⟨gF,i*3+2,none⟩)::t46::t47::t48::t49::t50::t51::t52::t53::t54::t55::t56::t57::t58::t59::t60::t61::t62::t63::t64::t65::t66::t67::t68::t69::t70::t71::[]).toArray,defers:=[]} (W.drew.setCell ⟨gF,i*3+2,none⟩ (.int .i64 (sf+q)))):
 (Code.region 4 regCr4Ops true).wp Tryz.prog Q {tmps:=(t0::.int .i64 keep::t2::t3::t4::.pointer (some ⟨gF,i*3,none⟩)::t6::t7::t8::t9::t10::t11::t12::t13::t14::t15::t16::t17::t18::t19::t20::t21::t22::t23::t24::t25::t26::t27::t28::t29::t30::t31::t32::t33::t34::t35::t36::t37::t38::t39::t40::t41::t42::t43::t44::t45::t46::t47::t48::t49::t50::t51::t52::t53::t54::t55::t56::t57::t58::t59::t60::t61::t62::t63::t64::t65::t66::t67::t68::t69::t70::t71::[]).toArray,defers:=[]} W:=by
 refine Code.wp_mono (λ_ _ _ h=>calmD_le h) ?_
 unfold regCr4Ops
 have hp:∀c a a' w,calmD Q (.panic c) a w-> calmD Q (.panic c) a' w:=λ_ _ _ _ h=>h
 refine wp_region_held (S:=λV=>V.cell? ⟨gF,i*3+1,none⟩=some (.slice av nv cv)) (by kernel_rfl) ?_
 change wpAnyH _ _ _ _ _ _ _ _ W.drew
 refine wpAnyH_takes (by kernel_rfl) hp hS [(0,some 26,.pointer (some ⟨gF,i*3,none⟩)),(1,some 27,.pointer (some ⟨gF,i*3,none⟩)),(2,some 28,.pointer (some ⟨gF,i*3+2,none⟩)),(4,some 30,.int .i64 keep),(5,some 31,.int .i64 M),(6,some 32,.pointer (some ⟨gF,i*3,none⟩)),(7,some 33,.pointer (some ⟨gF,i*3,none⟩)),(8,some 34,.pointer (some ⟨gF,i*3+1,none⟩)),(9,some 35,.slice av nv cv),(10,some 36,.int .i64 ((nv:Nat):Int)),(11,some 37,.pointer (some ⟨gF,i*3,none⟩)),(12,some 38,.pointer (some ⟨gF,i*3,none⟩)),(13,some 39,.pointer (some ⟨gF,i*3+2,none⟩))] (by kernel_rfl) ?_ ?_
 ·repeat (refine tkY_cons rfl (λV hV=>?_) ?_;(·have s0:=hV;(try obtain⟨s1,s2⟩:=s0);go_split_ands;go_simp;all_goals (first|assumption|omega));simp only[Act.put,aqA,aqB,aqC])
  exact True.intro
 simp only[tkA,Act.put,aqA,aqB,aqC]
 refine wpAnyH_ready (rs:=[3,14]) (by kernel_rfl) (by simp) ?_
 refine(AllReadyH.cons rfl (λK hK=>?_) (AllReadyH.cons rfl (λK hK=>?_) AllReadyH.nil))
 ·go_simp
  refine hK.out _ _ hS (λ_=>?_)
  clear hK K
  try simp only[Act.put,aqA,aqB,aqC]
  refine wpAnyH_ready (rs:=[14]) (by kernel_rfl) (by simp) ?_
  refine(AllReadyH.cons rfl (λK hK=>?_) AllReadyH.nil)
  go_simp
  refine hK.out _ _ hS (λ_=>?_)
  clear hK K
  try simp only[Act.put,aqA,aqB,aqC]
  refine wpAnyH_takes (by kernel_rfl) hp hS [(15,some 41,.int .i64 ((nv:Int) - sf)),(16,some 42,.int .i64 q),(17,some 43,.int .i64 (sf+q)),(18,some 44,.pointer (some ⟨gF,i*3,none⟩)),(19,some 45,.pointer (some ⟨gF,i*3+2,none⟩))] (by kernel_rfl) ?_ ?_
  ·repeat (refine tkY_cons rfl (λV hV=>?_) ?_;(·have s0:=hV;(try obtain⟨s1,s2⟩:=s0);go_split_ands;go_simp;all_goals (first|assumption|omega));simp only[Act.put,aqA,aqB,aqC])
   exact True.intro
  simp only[tkA,Act.put,aqA,aqB,aqC]
  refine wpAnyH_ready (rs:=[20]) (by kernel_rfl) (by simp) ?_
  refine(AllReadyH.cons rfl (λK hK=>?_) AllReadyH.nil)
  go_simp
  refine hK.out _ _ (hcx _) (λ_=>?_)
  clear hK K
  try simp only[Act.put,aqA,aqB,aqC]
  exact wpAnyH_done (Q:=calmD Q) (by kernel_rfl) h _
 ·go_simp
  refine hK.out _ _ hS (λ_=>?_)
  clear hK K
  try simp only[Act.put,aqA,aqB,aqC]
  refine wpAnyH_takes (by kernel_rfl) hp hS [(15,some 41,.int .i64 ((nv:Int) - sf)),(16,some 42,.int .i64 q)] (by kernel_rfl) ?_ ?_
  ·repeat (refine tkY_cons rfl (λV hV=>?_) ?_;(·have s0:=hV;(try obtain⟨s1,s2⟩:=s0);go_split_ands;go_simp;all_goals (first|assumption|omega));simp only[Act.put,aqA,aqB,aqC])
   exact True.intro
  simp only[tkA,Act.put,aqA,aqB,aqC]
  refine wpAnyH_ready (rs:=[3]) (by kernel_rfl) (by simp) ?_
  refine(AllReadyH.cons rfl (λK hK=>?_) AllReadyH.nil)
  go_simp
  refine hK.out _ _ hS (λ_=>?_)
  clear hK K
  try simp only[Act.put,aqA,aqB,aqC]
  refine wpAnyH_takes (by kernel_rfl) hp hS [(17,some 43,.int .i64 (sf+q)),(18,some 44,.pointer (some ⟨gF,i*3,none⟩)),(19,some 45,.pointer (some ⟨gF,i*3+2,none⟩))] (by kernel_rfl) ?_ ?_
  ·repeat (refine tkY_cons rfl (λV hV=>?_) ?_;(·have s0:=hV;(try obtain⟨s1,s2⟩:=s0);go_split_ands;go_simp;all_goals (first|assumption|omega));simp only[Act.put,aqA,aqB,aqC])
   exact True.intro
  simp only[tkA,Act.put,aqA,aqB,aqC]
  refine wpAnyH_ready (rs:=[20]) (by kernel_rfl) (by simp) ?_
  refine(AllReadyH.cons rfl (λK hK=>?_) AllReadyH.nil)
  go_simp
  refine hK.out _ _ (hcx _) (λ_=>?_)
  clear hK K
  try simp only[Act.put,aqA,aqB,aqC]
  exact wpAnyH_done (Q:=calmD Q) (by kernel_rfl) h _
def regCr5SOps:Array Oper:=#[⟨some 46,.move (.tmp 5),111, "disk.go:71",#[],none⟩,
 ⟨some 47,.move (.tmp 5),111, "disk.go:71",#[],none⟩,
 ⟨some 48,.nilCheck (.tmp 47),0, "disk.go:71",#[⟨1,.data⟩],none⟩,
 ⟨some 49,.fieldAddr 75 (.tmp 48) 1,0, "disk.go:71",#[⟨2,.data⟩],none⟩,
 ⟨some 50,.load 35 (.tmp 49),35, "disk.go:71",#[⟨3,.data⟩],none⟩,
 ⟨some 51,.move (.tmp 5),111, "disk.go:71",#[],none⟩,
 ⟨some 52,.nilCheck (.tmp 51),0, "disk.go:71",#[⟨5,.data⟩],none⟩,
 ⟨some 53,.fieldAddr 75 (.tmp 52) 2,0, "disk.go:71",#[⟨6,.data⟩],none⟩,
 ⟨some 54,.load 3 (.tmp 53),3, "disk.go:71",#[⟨7,.data⟩],none⟩,
 ⟨some 55,.slice 35 (.tmp 50) none (some (.tmp 54)) none,35, "disk.go:71",#[⟨4,.data⟩,⟨8,.data⟩],none⟩,
 ⟨some 56,.call {callee:=Callee.builtin Builtin.append,args:=#[Operand.const (Value.slice none 0 0),.tmp 55],argTypes:=#[35,35]},35, "disk.go:71",#[⟨9,.data⟩],none⟩,
 ⟨some 57,.nilCheck (.tmp 46),0, "disk.go:71",#[⟨0,.data⟩,⟨0,.phase⟩,⟨1,.phase⟩,⟨2,.phase⟩,⟨3,.phase⟩,⟨4,.phase⟩,⟨5,.phase⟩,⟨6,.phase⟩,⟨7,.phase⟩,⟨8,.phase⟩,⟨9,.phase⟩,⟨10,.phase⟩],none⟩,
 ⟨some 58,.fieldAddr 75 (.tmp 57) 1,0, "disk.go:71",#[⟨11,.data⟩,⟨0,.phase⟩,⟨1,.phase⟩,⟨2,.phase⟩,⟨3,.phase⟩,⟨4,.phase⟩,⟨5,.phase⟩,⟨6,.phase⟩,⟨7,.phase⟩,⟨8,.phase⟩,⟨9,.phase⟩,⟨10,.phase⟩],none⟩,
 ⟨none,.store 35 (.tmp 58) (.tmp 56),0, "disk.go:71",#[⟨12,.data⟩,⟨10,.data⟩,⟨10,.chain⟩,⟨0,.phase⟩,⟨1,.phase⟩,⟨2,.phase⟩,⟨3,.phase⟩,⟨4,.phase⟩,⟨5,.phase⟩,⟨6,.phase⟩,⟨7,.phase⟩,⟨8,.phase⟩,⟨9,.phase⟩,⟨10,.phase⟩],none⟩]
theorem regCr5S (Q:Exit-> Act-> World-> Prop) (gF i:Nat) (zs:List Int) (cur:Array Value) (gv nv cv k:Nat) {t0 t1 t2 t3 t4 t6 t7 t8 t9 t10 t11 t12 t13 t14 t15 t16 t17 t18 t19 t20 t21 t22 t23 t24 t25 t26 t27 t28 t29 t30 t31 t32 t33 t34 t35 t36 t37 t38 t39 t40 t41 t42 t43 t44 t45 t46 t47 t48 t49 t50 t51 t52 t53 t54 t55 t56 t57 t58 t59 t60 t61 t62 t63 t64 t65 t66 t67 t68 t69 t70 t71:Value} (W:World)
 (hk0:(0:Int)<= (k:Int)) (hkc:(k:Int)<= (cv:Int)) (hkb:k<= 1099511627776) (hl:zs.length=k) (hzl:Lies .u8 W.drew (some ⟨gv,0,none⟩) zs) (hB:W.drew.heap[gF]?=some (.cells cur 75 (0,0))) (hb:W.drew.cell? ⟨gF,i*3+1,none⟩=some (.slice (some ⟨gv,0,none⟩) nv cv)) (hcv:∀V,W.drew.grownBy V (Value.slice none 0 0).ownBlock-> V.cell? ⟨gF,i*3+2,none⟩=some (.int .i64 ((k:Nat):Int))) (hcw:∀V,W.drew.grownBy V (Value.slice none 0 0).ownBlock-> ∀y,(V.setCell ⟨gF,i*3+1,none⟩ y).cell? ⟨gF,i*3+2,none⟩=some (.int .i64 ((k:Nat):Int)))
 (h:∀v' w',w'.ownsRow 0 5 1 v' k (zs.map (Value.int .u8))-> W.drew.grownBy w' (Value.slice none 0 0).ownBlock-> (v'.ownBlock=(Value.slice none 0 0).ownBlock∨∃g,v'.ownBlock=some g/\ W.heap.size<= g)-> Q .normal {tmps:=(t0::t1::t2::t3::t4::.pointer (some ⟨gF,i*3,none⟩)::t6::t7::t8::t9::t10::t11::t12::t13::t14::t15::t16::t17::t18::t19::t20::t21::t22::t23::t24::t25::t26::t27::t28::t29::t30::t31::t32::t33::t34::t35::t36::t37::t38::t39::t40::t41::t42::t43::t44::t45::.pointer (some ⟨gF,i*3,none⟩)::.pointer (some ⟨gF,i*3,none⟩)::.pointer (some ⟨gF,i*3,none⟩)::.pointer (some ⟨gF,i*3+1,none⟩)::.slice (some ⟨gv,0,none⟩) nv cv::.pointer (some ⟨gF,i*3,none⟩)::.pointer (some ⟨gF,i*3,none⟩)::.pointer (some ⟨gF,i*3+2,none⟩)::.int .i64 ((k:Nat):Int)::.slice (some ⟨gv,0,none⟩) k cv::v'::.pointer (some ⟨gF,i*3,none⟩)::.pointer (some ⟨gF,i*3+1,none⟩)::t59::t60::t61::t62::t63::t64::t65::t66::t67::t68::t69::t70::t71::[]).toArray,defers:=[]} (w'.setCell ⟨gF,i*3+1,none⟩ v')):
 (Code.region 5 regCr5SOps true).wp Tryz.prog Q {tmps:=(t0::t1::t2::t3::t4::.pointer (some ⟨gF,i*3,none⟩)::t6::t7::t8::t9::t10::t11::t12::t13::t14::t15::t16::t17::t18::t19::t20::t21::t22::t23::t24::t25::t26::t27::t28::t29::t30::t31::t32::t33::t34::t35::t36::t37::t38::t39::t40::t41::t42::t43::t44::t45::t46::t47::t48::t49::t50::t51::t52::t53::t54::t55::t56::t57::t58::t59::t60::t61::t62::t63::t64::t65::t66::t67::t68::t69::t70::t71::[]).toArray,defers:=[]} W:=by
 refine Code.wp_mono (λ_ _ _ h=>calmD_le h) ?_
 unfold regCr5SOps
 have hp:∀c a a' w,calmD Q (.panic c) a w-> calmD Q (.panic c) a' w:=λ_ _ _ _ h=>h
 refine wp_region_held (S:=λV=>V.cell? ⟨gF,i*3+2,none⟩=some (.int .i64 ((k:Nat):Int))) (by kernel_rfl) ?_
 change wpAnyH _ _ _ _ _ _ _ _ W.drew
 have hS:=hcv W.drew ⟨rfl,rfl,rfl,aqH _,λ_ _ _=>rfl⟩
 refine wpAnyH_takes (by kernel_rfl) hp hS [(0,some 46,.pointer (some ⟨gF,i*3,none⟩)),(1,some 47,.pointer (some ⟨gF,i*3,none⟩)),(2,some 48,.pointer (some ⟨gF,i*3,none⟩)),(3,some 49,.pointer (some ⟨gF,i*3+1,none⟩)),(5,some 51,.pointer (some ⟨gF,i*3,none⟩)),(6,some 52,.pointer (some ⟨gF,i*3,none⟩)),(7,some 53,.pointer (some ⟨gF,i*3+2,none⟩)),(8,some 54,.int .i64 ((k:Nat):Int))] (by kernel_rfl) ?_ ?_
 ·repeat (refine tkY_cons rfl (λV hV=>?_) ?_;(·have s0:=hV;(try obtain⟨s1,s2⟩:=s0);go_split_ands;go_simp;all_goals (first|assumption|omega));simp only[Act.put,aqA,aqB,aqC])
  exact True.intro
 simp only[tkA,Act.put,aqA,aqB,aqC]
 refine wpAnyH_ready (rs:=[4]) (by kernel_rfl) (by simp) ?_
 refine(AllReadyH.cons rfl (λK hK=>?_) AllReadyH.nil)
 go_simp
 refine hK.out _ _ hS (λ_=>?_)
 clear hK K
 try simp only[Act.put,aqA,aqB,aqC]
 refine wpAnyH_takes (by kernel_rfl) hp hS [(9,some 55,.slice (some ⟨gv,0,none⟩) k cv)] (by kernel_rfl) ?_ ?_
 ·repeat (refine tkY_cons rfl (λV hV=>?_) ?_;(·have s0:=hV;(try obtain⟨s1,s2⟩:=s0);go_split_ands;go_simp;all_goals (first|assumption|omega));simp only[Act.put,aqA,aqB,aqC])
  exact True.intro
 simp only[tkA,Act.put,aqA,aqB,aqC]
 refine wpAnyH_all (rs:=[10]) (by kernel_rfl) (by simp) ?_
 intro i hiX
 obtain rfl:i=10:=by simpa using hiX
 refine appB_opD (j:=10) rfl rfl (.const (.slice none 0 0)) (.tmp 55) rfl (.slice none 0 0) 0 [] (by simp[Act.eval]) (w:=W.drew) (World.ownsRow_nil _ _ _ _) (some ⟨gv,0,none⟩) k cv zs (by simp[Act.eval]) hl hzl (by simp) (by omega) ?_
 intro v' w' r1 r2 r3
 rw[Nat.zero_add] at r1
 have hS2:=hcv w' r2
 refine⟨hS2,?_⟩
 have hfz:w'.frozen? ⟨gF,i*3+1,none⟩=false:=frozen_of_row _ _ (i*3+1) _ _ ((r2.block gF (Array.getElem?_eq_some_iff.1 hB).1 (by simp[Value.ownBlock])).trans hB)
 have hbv:w'.cell? ⟨gF,i*3+1,none⟩=some (.slice (some ⟨gv,0,none⟩) nv cv):=(World.cell?_of_block (a:=⟨gF,i*3+1,none⟩) (r2.block gF (Array.getElem?_eq_some_iff.1 hB).1 (by simp[Value.ownBlock]))).trans hb
 have hfin:=h v' w' (by simpa using r1) r2 (r3.elim (λe=>.inl e) (λe=>.inr ⟨_,e,by simp⟩))
 obtain⟨a1,n1,rfl⟩:=d_shape r1
 try simp only[Act.put,aqA,aqB,aqC]
 refine wpAnyH_takes (by kernel_rfl) hp hS2 [(11,some 57,.pointer (some ⟨gF,i*3,none⟩)),(12,some 58,.pointer (some ⟨gF,i*3+1,none⟩))] (by kernel_rfl) ?_ ?_
 ·repeat (refine tkY_cons rfl (λV hV=>?_) ?_;(·have s0:=hV;(try obtain⟨s1,s2⟩:=s0);go_split_ands;go_simp;all_goals (first|assumption|omega));simp only[Act.put,aqA,aqB,aqC])
  exact True.intro
 simp only[tkA,Act.put,aqA,aqB,aqC]
 refine wpAnyH_ready (rs:=[13]) (by kernel_rfl) (by simp) ?_
 refine(AllReadyH.cons rfl (λK hK=>?_) AllReadyH.nil)
 go_simp
 refine hK.out _ _ (hcw w' r2 _) (λ_=>?_)
 clear hK K
 try simp only[Act.put,aqA,aqB,aqC]
 exact wpAnyH_done (Q:=calmD Q) (by kernel_rfl) hfin _
def regCr5NOps:Array Oper:=#[⟨some 46,.move (.tmp 5),111, "disk.go:71",#[],none⟩,
 ⟨some 47,.move (.tmp 5),111, "disk.go:71",#[],none⟩,
 ⟨some 48,.nilCheck (.tmp 47),0, "disk.go:71",#[⟨1,.data⟩],none⟩,
 ⟨some 49,.fieldAddr 75 (.tmp 48) 1,0, "disk.go:71",#[⟨2,.data⟩],none⟩,
 ⟨some 50,.load 35 (.tmp 49),35, "disk.go:71",#[⟨3,.data⟩],none⟩,
 ⟨some 51,.move (.tmp 5),111, "disk.go:71",#[],none⟩,
 ⟨some 52,.nilCheck (.tmp 51),0, "disk.go:71",#[⟨5,.data⟩],none⟩,
 ⟨some 53,.fieldAddr 75 (.tmp 52) 2,0, "disk.go:71",#[⟨6,.data⟩],none⟩,
 ⟨some 54,.load 3 (.tmp 53),3, "disk.go:71",#[⟨7,.data⟩],none⟩,
 ⟨some 55,.slice 35 (.tmp 50) none (some (.tmp 54)) none,35, "disk.go:71",#[⟨4,.data⟩,⟨8,.data⟩],none⟩,
 ⟨some 56,.call {callee:=Callee.builtin Builtin.append,args:=#[Operand.const (Value.slice none 0 0),.tmp 55],argTypes:=#[35,35]},35, "disk.go:71",#[⟨9,.data⟩],none⟩,
 ⟨some 57,.nilCheck (.tmp 46),0, "disk.go:71",#[⟨0,.data⟩,⟨0,.phase⟩,⟨1,.phase⟩,⟨2,.phase⟩,⟨3,.phase⟩,⟨4,.phase⟩,⟨5,.phase⟩,⟨6,.phase⟩,⟨7,.phase⟩,⟨8,.phase⟩,⟨9,.phase⟩,⟨10,.phase⟩],none⟩,
 ⟨some 58,.fieldAddr 75 (.tmp 57) 1,0, "disk.go:71",#[⟨11,.data⟩,⟨0,.phase⟩,⟨1,.phase⟩,⟨2,.phase⟩,⟨3,.phase⟩,⟨4,.phase⟩,⟨5,.phase⟩,⟨6,.phase⟩,⟨7,.phase⟩,⟨8,.phase⟩,⟨9,.phase⟩,⟨10,.phase⟩],none⟩,
 ⟨none,.store 35 (.tmp 58) (.tmp 56),0, "disk.go:71",#[⟨12,.data⟩,⟨10,.data⟩,⟨10,.chain⟩,⟨0,.phase⟩,⟨1,.phase⟩,⟨2,.phase⟩,⟨3,.phase⟩,⟨4,.phase⟩,⟨5,.phase⟩,⟨6,.phase⟩,⟨7,.phase⟩,⟨8,.phase⟩,⟨9,.phase⟩,⟨10,.phase⟩],none⟩]
theorem regCr5N (Q:Exit-> Act-> World-> Prop) (gF i:Nat) (zs:List Int) (cur:Array Value) {t0 t1 t2 t3 t4 t6 t7 t8 t9 t10 t11 t12 t13 t14 t15 t16 t17 t18 t19 t20 t21 t22 t23 t24 t25 t26 t27 t28 t29 t30 t31 t32 t33 t34 t35 t36 t37 t38 t39 t40 t41 t42 t43 t44 t45 t46 t47 t48 t49 t50 t51 t52 t53 t54 t55 t56 t57 t58 t59 t60 t61 t62 t63 t64 t65 t66 t67 t68 t69 t70 t71:Value} (W:World)
 (hl:zs.length=0) (hzl:Lies .u8 W.drew none zs) (hB:W.drew.heap[gF]?=some (.cells cur 75 (0,0))) (hb:W.drew.cell? ⟨gF,i*3+1,none⟩=some (.slice none 0 0)) (hcv:∀V,W.drew.grownBy V (Value.slice none 0 0).ownBlock-> V.cell? ⟨gF,i*3+2,none⟩=some (.int .i64 0)) (hcw:∀V,W.drew.grownBy V (Value.slice none 0 0).ownBlock-> ∀y,(V.setCell ⟨gF,i*3+1,none⟩ y).cell? ⟨gF,i*3+2,none⟩=some (.int .i64 0))
 (h:∀v' w',w'.ownsRow 0 5 1 v' 0 (zs.map (Value.int .u8))-> W.drew.grownBy w' (Value.slice none 0 0).ownBlock-> (v'.ownBlock=(Value.slice none 0 0).ownBlock∨∃g,v'.ownBlock=some g/\ W.heap.size<= g)-> Q .normal {tmps:=(t0::t1::t2::t3::t4::.pointer (some ⟨gF,i*3,none⟩)::t6::t7::t8::t9::t10::t11::t12::t13::t14::t15::t16::t17::t18::t19::t20::t21::t22::t23::t24::t25::t26::t27::t28::t29::t30::t31::t32::t33::t34::t35::t36::t37::t38::t39::t40::t41::t42::t43::t44::t45::.pointer (some ⟨gF,i*3,none⟩)::.pointer (some ⟨gF,i*3,none⟩)::.pointer (some ⟨gF,i*3,none⟩)::.pointer (some ⟨gF,i*3+1,none⟩)::.slice none 0 0::.pointer (some ⟨gF,i*3,none⟩)::.pointer (some ⟨gF,i*3,none⟩)::.pointer (some ⟨gF,i*3+2,none⟩)::.int .i64 0::.slice none 0 0::v'::.pointer (some ⟨gF,i*3,none⟩)::.pointer (some ⟨gF,i*3+1,none⟩)::t59::t60::t61::t62::t63::t64::t65::t66::t67::t68::t69::t70::t71::[]).toArray,defers:=[]} (w'.setCell ⟨gF,i*3+1,none⟩ v')):
 (Code.region 5 regCr5NOps true).wp Tryz.prog Q {tmps:=(t0::t1::t2::t3::t4::.pointer (some ⟨gF,i*3,none⟩)::t6::t7::t8::t9::t10::t11::t12::t13::t14::t15::t16::t17::t18::t19::t20::t21::t22::t23::t24::t25::t26::t27::t28::t29::t30::t31::t32::t33::t34::t35::t36::t37::t38::t39::t40::t41::t42::t43::t44::t45::t46::t47::t48::t49::t50::t51::t52::t53::t54::t55::t56::t57::t58::t59::t60::t61::t62::t63::t64::t65::t66::t67::t68::t69::t70::t71::[]).toArray,defers:=[]} W:=by
 refine Code.wp_mono (λ_ _ _ h=>calmD_le h) ?_
 unfold regCr5NOps
 have hp:∀c a a' w,calmD Q (.panic c) a w-> calmD Q (.panic c) a' w:=λ_ _ _ _ h=>h
 refine wp_region_held (S:=λV=>V.cell? ⟨gF,i*3+2,none⟩=some (.int .i64 0)) (by kernel_rfl) ?_
 change wpAnyH _ _ _ _ _ _ _ _ W.drew
 have hS:=hcv W.drew ⟨rfl,rfl,rfl,aqH _,λ_ _ _=>rfl⟩
 refine wpAnyH_takes (by kernel_rfl) hp hS [(0,some 46,.pointer (some ⟨gF,i*3,none⟩)),(1,some 47,.pointer (some ⟨gF,i*3,none⟩)),(2,some 48,.pointer (some ⟨gF,i*3,none⟩)),(3,some 49,.pointer (some ⟨gF,i*3+1,none⟩)),(5,some 51,.pointer (some ⟨gF,i*3,none⟩)),(6,some 52,.pointer (some ⟨gF,i*3,none⟩)),(7,some 53,.pointer (some ⟨gF,i*3+2,none⟩)),(8,some 54,.int .i64 0)] (by kernel_rfl) ?_ ?_
 ·repeat (refine tkY_cons rfl (λV hV=>?_) ?_;(·have s0:=hV;(try obtain⟨s1,s2⟩:=s0);go_split_ands;go_simp;all_goals (first|assumption|omega));simp only[Act.put,aqA,aqB,aqC])
  exact True.intro
 simp only[tkA,Act.put,aqA,aqB,aqC]
 refine wpAnyH_ready (rs:=[4]) (by kernel_rfl) (by simp) ?_
 refine(AllReadyH.cons rfl (λK hK=>?_) AllReadyH.nil)
 go_simp
 refine hK.out _ _ hS (λ_=>?_)
 clear hK K
 try simp only[Act.put,aqA,aqB,aqC]
 refine wpAnyH_takes (by kernel_rfl) hp hS [(9,some 55,.slice none 0 0)] (by kernel_rfl) ?_ ?_
 ·repeat (refine tkY_cons rfl (λV hV=>?_) ?_;(·have s0:=hV;(try obtain⟨s1,s2⟩:=s0);go_split_ands;go_simp;all_goals (first|assumption|omega));simp only[Act.put,aqA,aqB,aqC])
  exact True.intro
 simp only[tkA,Act.put,aqA,aqB,aqC]
 refine wpAnyH_all (rs:=[10]) (by kernel_rfl) (by simp) ?_
 intro i hiX
 obtain rfl:i=10:=by simpa using hiX
 refine appB_opD (j:=10) rfl rfl (.const (.slice none 0 0)) (.tmp 55) rfl (.slice none 0 0) 0 [] (by simp[Act.eval]) (w:=W.drew) (World.ownsRow_nil _ _ _ _) none 0 0 zs (by simp[Act.eval]) hl hzl (by simp) (by omega) ?_
 intro v' w' r1 r2 r3
 rw[Nat.zero_add] at r1
 have hS2:=hcv w' r2
 refine⟨hS2,?_⟩
 have hfz:w'.frozen? ⟨gF,i*3+1,none⟩=false:=frozen_of_row _ _ (i*3+1) _ _ ((r2.block gF (Array.getElem?_eq_some_iff.1 hB).1 (by simp[Value.ownBlock])).trans hB)
 have hbv:w'.cell? ⟨gF,i*3+1,none⟩=some (.slice none 0 0):=(World.cell?_of_block (a:=⟨gF,i*3+1,none⟩) (r2.block gF (Array.getElem?_eq_some_iff.1 hB).1 (by simp[Value.ownBlock]))).trans hb
 have hfin:=h v' w' (by simpa using r1) r2 (r3.elim (λe=>.inl e) (λe=>.inr ⟨_,e,by simp⟩))
 obtain⟨a1,n1,rfl⟩:=d_shape r1
 try simp only[Act.put,aqA,aqB,aqC]
 refine wpAnyH_takes (by kernel_rfl) hp hS2 [(11,some 57,.pointer (some ⟨gF,i*3,none⟩)),(12,some 58,.pointer (some ⟨gF,i*3+1,none⟩))] (by kernel_rfl) ?_ ?_
 ·repeat (refine tkY_cons rfl (λV hV=>?_) ?_;(·have s0:=hV;(try obtain⟨s1,s2⟩:=s0);go_split_ands;go_simp;all_goals (first|assumption|omega));simp only[Act.put,aqA,aqB,aqC])
  exact True.intro
 simp only[tkA,Act.put,aqA,aqB,aqC]
 refine wpAnyH_ready (rs:=[13]) (by kernel_rfl) (by simp) ?_
 refine(AllReadyH.cons rfl (λK hK=>?_) AllReadyH.nil)
 go_simp
 refine hK.out _ _ (hcw w' r2 _) (λ_=>?_)
 clear hK K
 try simp only[Act.put,aqA,aqB,aqC]
 exact wpAnyH_done (Q:=calmD Q) (by kernel_rfl) hfin _
def regFi5Ops:Array Oper:=#[⟨some 18,.move (.tmp 3),72, "disk.go:80",#[],none⟩,
 ⟨some 19,.fieldAddr 75 (.tmp 5) 0,0, "disk.go:80",#[],none⟩,
 ⟨some 20,.load 9 (.tmp 19),9, "disk.go:80",#[⟨1,.data⟩],none⟩,
 ⟨some 21,.fieldAddr 75 (.tmp 5) 1,0, "disk.go:80",#[],none⟩,
 ⟨some 22,.load 35 (.tmp 21),35, "disk.go:80",#[⟨3,.data⟩],none⟩,
 ⟨some 23,.call {callee:=Callee.builtin Builtin.append,args:=#[Operand.const (Value.slice none 0 0),.tmp 22],argTypes:=#[35,35]},35, "disk.go:80",#[⟨4,.data⟩],none⟩,
 ⟨some 24,.fieldAddr 75 (.tmp 5) 2,0, "disk.go:80",#[],none⟩,
 ⟨some 25,.load 3 (.tmp 24),3, "disk.go:80",#[⟨6,.data⟩],none⟩,
 ⟨some 26,.build 75 #[(0,.tmp 20),(1,.tmp 23),(2,.tmp 25)],75, "disk.go:80",#[⟨2,.data⟩,⟨5,.data⟩,⟨7,.data⟩],none⟩,
 ⟨some 27,.buildSlice 72 1 #[(0,.tmp 26)],72, "disk.go:80",#[⟨8,.data⟩],none⟩,
 ⟨some 28,.call {callee:=Callee.builtin Builtin.append,args:=#[.tmp 18,.tmp 27],argTypes:=#[72,72]},72, "disk.go:80",#[⟨0,.data⟩,⟨9,.data⟩,⟨5,.chain⟩],none⟩,
 ⟨some 3,.assign (.tmp 28),72, "disk.go:80",#[⟨10,.data⟩,⟨10,.chain⟩,⟨0,.phase⟩,⟨1,.phase⟩,⟨2,.phase⟩,⟨3,.phase⟩,⟨4,.phase⟩,⟨5,.phase⟩,⟨6,.phase⟩,⟨7,.phase⟩,⟨8,.phase⟩,⟨9,.phase⟩,⟨10,.phase⟩],none⟩]
theorem regFi5 (Q:Exit-> Act-> World-> Prop) (b n:Nat) (s:ByteArray) (sf:Int) (av:Option Addr) (nv cv:Nat) (zs:List Int) (vo:Value) (xs:List Value) {t0 t1 t2 t4 t6 t7 t8 t9 t10 t11 t12 t13 t14 t15 t16 t17 t18 t19 t20 t21 t22 t23 t24 t25 t26 t27 t28 t29 t30:Value} (W:World)
 (hl:zs.length=nv) (hz:Lies .u8 W.drew av zs) (hnn:av=none-> nv=0/\ cv=0) (hnv:nv<= 1099511627776) (hn:n<= 1099511627776) (hob:∀V,W.drew.grownBy V (Value.slice none 0 0).ownBlock-> V.ownsRow 0 75 3 vo n xs) (hvl:∃a c,vo=.slice a n c)
 (hcv:∀V,W.drew.grownBy V (Value.slice none 0 0).ownBlock-> ∀ro,(ro=none∨ro=vo.ownBlock)-> ∀U,V.grownBy U ro-> U.cell? ⟨b,0,none⟩=some (.string s)/\ U.cell? ⟨b,1,none⟩=some (.slice av nv cv)/\ U.cell? ⟨b,2,none⟩=some (.int .i64 sf))
 (h:∀v1 w1 v2 w2,w1.ownsRow 0 5 1 v1 nv (zs.map (Value.int .u8))-> W.drew.grownBy w1 (Value.slice none 0 0).ownBlock-> (v1.ownBlock=(Value.slice none 0 0).ownBlock∨v1.ownBlock=some W.drew.heap.size)-> w2.ownsRow 0 75 3 v2 (n+1) (xs++[.string s,v1,.int .i64 sf])-> w1.grownBy w2 vo.ownBlock-> (v2.ownBlock=vo.ownBlock∨∃g,v2.ownBlock=some g/\ w1.heap.size<= g)-> Q .normal {tmps:=(t0::t1::t2::v2::t4::.pointer (some ⟨b,0,none⟩)::t6::t7::t8::t9::t10::t11::t12::t13::t14::t15::t16::t17::vo::.pointer (some ⟨b,0,none⟩)::.string s::.pointer (some ⟨b,1,none⟩)::.slice av nv cv::v1::.pointer (some ⟨b,2,none⟩)::.int .i64 sf::.agg #[.string s,v1,.int .i64 sf]::.slice (some ⟨w1.heap.size,0,none⟩) 1 1::v2::t29::t30::[]).toArray,defers:=[]} w2):
 (Code.region 5 regFi5Ops true).wp Tryz.prog Q {tmps:=(t0::t1::t2::vo::t4::.pointer (some ⟨b,0,none⟩)::t6::t7::t8::t9::t10::t11::t12::t13::t14::t15::t16::t17::t18::t19::t20::t21::t22::t23::t24::t25::t26::t27::t28::t29::t30::[]).toArray,defers:=[]} W:=by
 refine Code.wp_mono (λ_ _ _ h=>calmD_le h) ?_
 unfold regFi5Ops
 have hp:∀c a a' w,calmD Q (.panic c) a w-> calmD Q (.panic c) a' w:=λ_ _ _ _ h=>h
 refine wp_region_held (S:=λV=>V.cell? ⟨b,0,none⟩=some (.string s)/\ V.cell? ⟨b,1,none⟩=some (.slice av nv cv)/\ V.cell? ⟨b,2,none⟩=some (.int .i64 sf)) (by kernel_rfl) ?_
 change wpAnyH _ _ _ _ _ _ _ _ W.drew
 have hS:=hcv W.drew ⟨rfl,rfl,rfl,aqH _,λ_ _ _=>rfl⟩ none (.inl rfl) W.drew ⟨rfl,rfl,rfl,aqH _,λ_ _ _=>rfl⟩
 obtain⟨i0,hi,hz0,hz1,hz2⟩:=info_partsD infoFile
 obtain⟨ao,co,rfl⟩:=hvl
 refine wpAnyH_takes (by kernel_rfl) hp hS [(0,some 18,.slice ao n co),(1,some 19,.pointer (some ⟨b,0,none⟩)),(2,some 20,.string s),(3,some 21,.pointer (some ⟨b,1,none⟩)),(4,some 22,.slice av nv cv),(6,some 24,.pointer (some ⟨b,2,none⟩)),(7,some 25,.int .i64 sf)] (by kernel_rfl) ?_ ?_
 ·repeat (refine tkY_cons rfl (λV hV=>?_) ?_;(·have s0:=hV;(try obtain⟨s1,s2⟩:=s0);go_split_ands;go_simp;all_goals (first|assumption|omega));simp only[Act.put,aqA,aqB,aqC])
  exact True.intro
 simp only[tkA,Act.put,aqA,aqB,aqC]
 refine wpAnyH_all (rs:=[5]) (by kernel_rfl) (by simp) ?_
 intro i hiX
 obtain rfl:i=5:=by simpa using hiX
 refine appB_opD (j:=5) rfl rfl (.const (.slice none 0 0)) (.tmp 22) rfl (.slice none 0 0) 0 [] (by simp[Act.eval]) (w:=W.drew) (World.ownsRow_nil _ _ _ _) av nv cv zs (by simp[Act.eval]) hl hz hnn (by omega) ?_
 intro v1 w1 r1 r2 r3
 rw[Nat.zero_add] at r1
 have hS1:=hcv w1 r2 none (.inl rfl) w1 ⟨rfl,rfl,rfl,aqH _,λ_ _ _=>rfl⟩
 refine⟨hS1,?_⟩
 have hvo:=hob w1 r2
 obtain⟨a1,n1,rfl⟩:=d_shape r1
 try simp only[Act.put,aqA,aqB,aqC]
 refine wpAnyH_takes (by kernel_rfl) hp hS1 [(8,some 26,.agg #[.string s,.slice a1 nv n1,.int .i64 sf])] (by kernel_rfl) ?_ ?_
 ·repeat (refine tkY_cons rfl (λV hV=>?_) ?_;(·have s0:=hV;(try obtain⟨s1,s2⟩:=s0);go_split_ands;go_simp;all_goals (first|assumption|omega));simp only[Act.put,aqA,aqB,aqC])
  exact True.intro
 simp only[tkA,Act.put,aqA,aqB,aqC]
 refine wpAnyH_ready (rs:=[9]) (by kernel_rfl) (by simp) ?_
 refine(AllReadyH.cons rfl (λK hK=>?_) AllReadyH.nil)
 go_simp
 refine hK.out _ _ (hcv w1 r2 none (.inl rfl) (w1.alloc (.cells #[.string s,.slice a1 nv n1,.int .i64 sf] 75)) (World.grownBy_alloc w1 _ _)) (λ_=>?_)
 clear hK K
 try simp only[Act.put,aqA,aqB,aqC]
 have hS2:=hcv w1 r2 none (.inl rfl) (w1.alloc (.cells #[.string s,.slice a1 nv n1,.int .i64 sf] 75)) (World.grownBy_alloc w1 _ _)
 refine wpAnyH_all (rs:=[10]) (by kernel_rfl) (by simp) ?_
 intro i hiX
 obtain rfl:i=10:=by simpa using hiX
 refine app_opD (j:=10) rfl rfl (.tmp 18) (.tmp 27) 72 rfl 0 75 i0 (.agg #[.string ⟨#[]⟩,.slice none 0 0,.int .i64 0]) 3 48 Tryz.underlying72 hi hz0 hz1 hz2 rfl (by decide) (.slice ao n co) n xs (by simp[Act.eval]) (World.ownsRow.alloc hvo _) ⟨w1.heap.size,0,none⟩ 1 1 [.string s,.slice a1 nv n1,.int .i64 sf] (by simp[Act.eval]) rfl (three_newD w1 _ _ _ _) (by simp[Value.oneCell']) (by unfold maxLen;omega) (by omega) (Nat.zero_le _) ?_
 intro v2 w2 q1 q2 q3
 have hgr:w1.grownBy w2 (Value.slice ao n co).ownBlock:=(World.grownBy_alloc w1 _ _).trans q2
 have hS3:=hcv w1 r2 (Value.slice ao n co).ownBlock (.inr rfl) w2 hgr
 refine⟨hS3,?_⟩
 have hfin:=h _ w1 v2 w2 (by simpa using r1) r2 r3 q1 hgr (q3.elim .inl (λe=>.inr ⟨_,e,by simp⟩))
 obtain⟨a2,n2,rfl⟩:=d_shape q1
 try simp only[Act.put,aqA,aqB,aqC]
 refine wpAnyH_takes (by kernel_rfl) hp hS3 [(11,some 3,.slice a2 (n+1) n2)] (by kernel_rfl) ?_ ?_
 ·repeat (refine tkY_cons rfl (λV hV=>?_) ?_;(·have s0:=hV;(try obtain⟨s1,s2⟩:=s0);go_split_ands;go_simp;all_goals (first|assumption|omega));simp only[Act.put,aqA,aqB,aqC])
  exact True.intro
 simp only[tkA,Act.put,aqA,aqB,aqC]
 exact wpAnyH_done (Q:=calmD Q) (by kernel_rfl) hfin _
end Go.Proofs.YtllhbhogfffedaaGreatDoor.K
namespace Go.Proofs.YtllhbhogfffedaaGreatDoor.K
open Go.RowKit
set_option linter.unusedVariables false
set_option linter.unusedSimpArgs false
def dk0 (M:Int):Dk:=⟨[],M,false,0,false,false⟩
def nn0 (r:Int):Int:=if r < 0 then 0 else r
theorem dNew_any (w:World) (r:Int):Calls Tryz.prog 7 #[.int .i64 r] w λe w'=>e=.returned (.pointer (some ⟨w.heap.size+1,0,none⟩))/\ Dm w' w.heap.size (λg=>g=w.heap.size) (dk0 (nn0 r))/\ w'.cell? ⟨w.heap.size+1,0,none⟩=some (.pointer (some ⟨w.heap.size,0,none⟩))/\ w'.heap.size=w.heap.size+2/\ Below w.heap.size w w':=by
 obtain⟨M,hM⟩:∃M,(if r < 0 then 0 else r)=M:=⟨_,rfl⟩
 have hM':max r 0=M:=by rw[←hM];split<;>omega
 have HM:Hid (nn0 r=M):=hM
 obtain⟨W,hW⟩:∃W,(w.alloc (.cells #[.slice none 0 0,.int .i64 M,.bool false,.int .i64 0,.bool false,.bool false] 85)).alloc (.cells #[.pointer (some ⟨w.heap.size,0,none⟩)] 87)=W:=⟨_,rfl⟩
 have HR:Hid (Dm W w.heap.size (λg=>g=w.heap.size) (dk0 (nn0 r))/\ W.cell? ⟨w.heap.size+1,0,none⟩=some (.pointer (some ⟨w.heap.size,0,none⟩))/\ W.heap.size=w.heap.size+2/\ Below w.heap.size w W):=by
  rw[HM.out]
  have hb:W.heap[w.heap.size]?=some (.cells #[.slice none 0 0,.int .i64 M,.bool false,.int .i64 0,.bool false,.bool false] 85 (0,0)):=by
   rw[←hW]
   exact(Below.heap_alloc _ _ _ (by simp)).trans (heap_alloc_new _ _)
  refine⟨⟨.slice none 0 0,[],rfl,hb,World.ownsRow_nil _ _ _ _,λi p hp=>by simp at hp,λi j p q g hp=>by simp at hp,rfl,λg hg=>(by cases hg),λi p g hp=>by simp at hp⟩,by rw[←hW];simp,by rw[←hW];simp,by rw[←hW];exact((Below.refl _ _).alloc (aqH _) _).alloc (by simp) _⟩
 clear HM
 go_enter Tryz.func7,Tryz.ntmps7
 go_wp2
 all_goals (
  go_ret
  exact⟨rfl,HR.out⟩)
theorem dDisk_any (w:World) (b x:Nat) (h:w.cell? ⟨b,0,none⟩=some (.pointer (some ⟨x,0,none⟩))):Calls Tryz.prog 13 #[.pointer (some ⟨b,0,none⟩)] w λe w'=>e=.returned (.pointer (some ⟨w.heap.size,0,none⟩))/\ w'=w.alloc (.cells #[.pointer (some ⟨x,0,none⟩)] 102):=by
 go_enter Tryz.func13,Tryz.ntmps13
 go_wp2
 go_ret
 exact⟨rfl,rfl⟩
theorem dDown_any (w:World) (b x:Nat) (F:Nat-> Prop) (D:Dk) (hd:Dm w x F D) (h:w.cell? ⟨b,0,none⟩=some (.pointer (some ⟨x,0,none⟩))):Calls Tryz.prog 37 #[.pointer (some ⟨b,0,none⟩)] w λe w'=>e=.returned (.bool D.dw)/\ w'=w:=by
 obtain⟨_,k5,_,_⟩:=hd.dw true
 clear hd
 go_enter Tryz.func37,Tryz.ntmps37
 go_wp2
 go_ret
 exact⟨rfl,rfl⟩
def armD (D:Dk) (N:Int) (b:Bool):Dk:={D with arm:=true,acts:=nn0 N,dn:=b}
theorem dArm_any (w:World) (b x:Nat) (F:Nat-> Prop) (D:Dk) (N:Int) (dn:Bool) (hd:Dm w x F D) (h:w.cell? ⟨b,0,none⟩=some (.pointer (some ⟨x,0,none⟩))) (nb:¬F b):Calls Tryz.prog 14 #[.pointer (some ⟨b,0,none⟩),.int .i64 N,.bool dn] w λe w'=>(∃v,e=.returned v)/\ Dm w' x F (armD D N dn)/\ Kd F w w':=by
 obtain⟨vf,L,hc⟩:=hd
 obtain⟨M,hM⟩:∃M,(if N < 0 then 0 else N)=M:=⟨_,rfl⟩
 have hM':max N 0=M:=by rw[←hM];split<;>omega
 have HM:Hid (nn0 N=M):=hM
 have hbx:b≠x:=λe=>nb (e ▸ hc.fx)
 have k2:w.cell? ⟨x,2,none⟩=some (.bool D.arm):=hc.c 2
 have k3:w.cell? ⟨x,3,none⟩=some (.int .i64 D.acts):=hc.c 3
 have k4:w.cell? ⟨x,4,none⟩=some (.bool D.dn):=hc.c 4
 have z2:=hc.z 2
 have z3:=hc.z 3
 have z4:=hc.z 4
 have HR:Hid (∀V:World,V.heap=(((w.setCell ⟨x,2,none⟩ (.bool true)).setCell ⟨x,3,none⟩ (.int .i64 M)).setCell ⟨x,4,none⟩ (.bool dn)).heap-> V.os=w.os-> V.tape=w.tape-> V.output=w.output-> Dm V x F (armD D N dn)/\ Kd F w V):=λV hV h1 h2 h3=>by
  have e1:(w.setCell ⟨x,2,none⟩ (.bool true)).heap[x]?=_:=heap_setCell_same w x 2 _ _ _ hc.box
  have e2:((w.setCell ⟨x,2,none⟩ (.bool true)).setCell ⟨x,3,none⟩ (.int .i64 M)).heap[x]?=_:=heap_setCell_same _ x 3 _ _ _ e1
  have e3:(((w.setCell ⟨x,2,none⟩ (.bool true)).setCell ⟨x,3,none⟩ (.int .i64 M)).setCell ⟨x,4,none⟩ (.bool dn)).heap[x]?=_:=heap_setCell_same _ x 4 _ _ _ e2
  have ho:∀k,k≠x-> V.heap[k]?=w.heap[k]?:=λk hk=>by
   rw[hV]
   exact(heap_setCell_other _ _ _ _ hk).trans ((heap_setCell_other _ _ _ _ hk).trans (heap_setCell_other _ _ _ _ hk))
  refine⟨⟨vf,L,hc.boxed rfl ?_ ho⟩,⟨h1,h2,h3,by rw[hV];simp[World.setCell],λk hk hn=>ho k (λe=>hn (e ▸ hc.fx))⟩⟩
  rw[hV,e3]
  unfold armD
  rw[HM.out]
  rfl
 clear hc HM
 go_enter Tryz.func14,Tryz.ntmps14
 go_wp2_with fail
 go_region_held3 (λV=>V.cell? ⟨b,0,none⟩=some (.pointer (some ⟨x,0,none⟩)))
  (first|exact h|exact set_cell h hbx|exact set_cell (set_cell h hbx) hbx|exact set_cell (set_cell (set_cell h hbx) hbx) hbx)
  (fail)
 all_goals (
  refine bodyPost_end (v:=.tuple #[]) (by simp[results,Tryz.results14,go_sem]) rfl ?_
  refine⟨⟨_,rfl⟩,HR.out _ rfl rfl rfl rfl⟩)
section
variable {W w':World} {x gF nf cf i:Nat} {F:Nat-> Prop} {D:Dk} {vf:Value} {L:List Fv} {p:Fv}
theorem Dc.appA (h:Dc W x F D (.slice (some ⟨gF,0,none⟩) nf cf) L) (hp:L[i]?=some p) {v':Value} {bs:List Int} (r1:w'.ownsRow 0 5 1 v' bs.length (bs.map (Value.int .u8))) (r2:W.grownBy w' p.2.ownBlock) (r3:∀g,v'.ownBlock=some g-> W.heap.size<= g):
 Dc (w'.setCell ⟨gF,i*3+1,none⟩ v') x (up F W) (D.fs' (D.fs.set i ⟨p.1.nm,bs,p.1.sf⟩)) (.slice (some ⟨gF,0,none⟩) nf cf) (L.set i (⟨p.1.nm,bs,p.1.sf⟩,v')):=by
 obtain rfl:L.length=nf:=by obtain⟨a,c,e⟩:=d_shape h.row;simp only[Value.slice.injEq] at e;exact e.2.1.symm
 have hgx:gF≠x:=λe=>h.rx (by rw[e];rfl)
 have hgl:gF < W.heap.size:=(d_lt h.row gF rfl).2
 have hrow:w'.ownsRow 0 75 3 (.slice (some ⟨gF,0,none⟩) L.length cf) L.length (L.flatMap fcell):=d_blk h.row (λg hg=>r2.block g (d_lt h.row g hg).2 (λe=>h.rb hp hg e.symm))
 have hset:∀g,g≠gF-> (w'.setCell ⟨gF,i*3+1,none⟩ v').heap[g]?=w'.heap[g]?:=λg hg=>heap_setCell_other _ _ _ _ hg
 have hbj:∀(j:Nat) q,L[j]?=some q-> ∀g,q.2.ownBlock=some g-> g≠gF:=λj q hq g hg e=>h.rb hq rfl (by rw[←e];exact hg)
 have hv'g:∀g,v'.ownBlock=some g-> g≠gF:=λg hg e=>d_apart hrow r1 (by decide) (g:=gF) rfl (by rw[←e];exact hg)
 refine⟨by rw[List.map_set];simp only[Dk.fs',h.map],?_,?_,λj q hq=>?_,λj k q u g hj hk hg1 hg2=>?_,.inl h.fx,λg hg=>.inl (h.fr g hg),λj q g hj hg=>?_⟩
 ·exact(hset x (λe=>hgx e.symm)).trans ((r2.block x h.xlt (λe=>h.bx hp e.symm)).trans h.box)
 ·have h1:=World.ownsRow.stored hrow (i*3+1) v'
  rw[List.length_set,←fcell_set1 bs v' hp]
  exact h1.1
 ·rcases set_get hq with ⟨rfl,rfl⟩|⟨hne,hq'⟩
  ·exact d_blk r1 (λg hg=>hset g (hv'g g hg))
  ·refine d_blk (h.byt j q hq') (λg hg=>(hset g (hbj j q hq' g hg)).trans (r2.block g (d_lt (h.byt j q hq') g hg).2 (λe=>hne (h.dis j i q p g hq' hp hg e.symm))))
 ·have new:∀(j:Nat) q,j≠i-> L[j]?=some q-> q.2.ownBlock=some g-> v'.ownBlock=some g-> False:=λj q hji hq hg hg'=>by
   have h1:=r3 g hg'
   have:=(d_lt (h.byt j q hq) g hg).2
   omega
  rcases set_get hj with ⟨rfl,rfl⟩|⟨hne,hj'⟩
  ·rcases set_get hk with ⟨rfl,rfl⟩|⟨hne2,hk'⟩
   ·rfl
   ·exact(new k u hne2 hk' hg2 hg1).elim
  ·rcases set_get hk with ⟨rfl,rfl⟩|⟨hne2,hk'⟩
   ·exact(new j q hne hj' hg1 hg2).elim
   ·exact h.dis j k q u g hj' hk' hg1 hg2
 ·rcases set_get hj with ⟨rfl,rfl⟩|⟨hne,hj'⟩
  ·exact .inr (r3 g hg)
  ·exact .inl (h.fb j q g hj' hg)
end
theorem lies_own {w:World} {n c:Nat} {a:Option Addr} {bs:List Int} (h:w.ownsRow 0 5 1 (.slice a n c) n (bs.map (Value.int .u8))):Lies .u8 w a bs/\ (a=none-> n=0/\ c=0)/\ n<= c/\ bs.length=n:=by
 have hl:bs.length=n:=by have:=h.1;simpa using this
 obtain⟨_,⟨e,h0⟩|⟨g,cap,cur,e,_,hh,h5,h6,h7,h8⟩⟩:=id h
 ·cases e
  exact⟨.inl (List.eq_nil_of_length_eq_zero hl),λ_=>⟨rfl,rfl⟩,aqH _,hl⟩
 ·cases e
  refine⟨.inr ⟨g,0,rfl,λj hj=>?_⟩,(λe=>by cases e),h5,hl⟩
  rw[Nat.zero_add]
  refine(World.ownsRow.cellAt h j (by omega)).trans ?_
  rw[List.getElem?_map,List.getElem?_eq_getElem hj,List.getD_eq_getElem?_getD,List.getElem?_eq_getElem hj]
  rfl
theorem lies_take {w:World} {a:Option Addr} {bs:List Int} (h:Lies .u8 w a bs) (k:Nat):Lies .u8 w a (bs.take k):=by
 rcases h with rfl|⟨b,off,e,hc⟩
 ·exact .inl (by simp)
 ·refine .inr ⟨b,off,e,λj hj=>?_⟩
  have hj2:j < bs.length:=by rw[List.length_take] at hj;omega
  have hj3:j < k:=by rw[List.length_take] at hj;omega
  rw[hc j hj2]
  simp[List.getD_eq_getElem?_getD,List.getElem?_take,hj3]
def crQ (f:Fl) (M:Int):Int:=if (f.bs.length:Int) - f.sf < M then (f.bs.length:Int) - f.sf else M
def cr1 (keep:Int) (f:Fl):Fl:=⟨f.nm,f.bs.take (f.sf+crQ f (nn0 keep)).toNat,f.sf+crQ f (nn0 keep)⟩
def crD (D:Dk) (keep:Int):Dk:={D with fs:=D.fs.map (cr1 keep),arm:=false,dw:=false}
def crF (fs:List Fl) (keep:Int) (i:Nat):List Fl:=(fs.take i).map (cr1 keep)++fs.drop i
theorem crF_step {fs:List Fl} {keep:Int} {i:Nat} {f:Fl} (h:fs[i]?=some f):(crF fs keep i)[i]?=some f/\ (crF fs keep i).set i (cr1 keep f)=crF fs keep (i+1):=by
 have hi:=(List.getElem?_eq_some_iff.mp h).1
 have hl:((fs.take i).map (cr1 keep)).length=i:=by simp;omega
 have hd:fs.drop i=f::fs.drop (i+1):=by
  rw[List.drop_eq_getElem_cons hi,(List.getElem?_eq_some_iff.mp h).2]
 unfold crF
 refine⟨by rw[List.getElem?_append_right (by omega),hl,hd];simp,?_⟩
 rw[List.set_append_right _ _ (by omega),hl,hd]
 have ht:fs.take (i+1)=fs.take i++[f]:=by rw[List.take_add_one,h];rfl
 rw[ht]
 simp
theorem crF_all (fs:List Fl) (keep:Int) {n:Nat} (hn:fs.length<= n):crF fs keep n=fs.map (cr1 keep):=by
 unfold crF
 rw[List.take_of_length_le hn,List.drop_of_length_le hn];simp
def Cj (w:World) (x n:Nat) (F:Nat-> Prop) (D:Dk) (keep:Int) (v:Value) (wr:World):Prop:=∃i:Nat,v=.int .i64 i/\ i<= n/\ Dm wr x (up F w) (D.fs' (crF D.fs keep i))/\ Kd F w wr
theorem dCrash_any (w:World) (b x:Nat) (F:Nat-> Prop) (D:Dk) (keep:Int) (B:Nat) (hd:Dm w x F D) (hk:D.Ok B) (hB:B<= 1099511627776) (h:w.cell? ⟨b,0,none⟩=some (.pointer (some ⟨x,0,none⟩))) (nb:¬F b):Calls Tryz.prog 21 #[.pointer (some ⟨b,0,none⟩),.int .i64 keep] w λe w'=>(∃v,e=.returned v)/\ Dm w' x (up F w) (crD D keep)/\ Kd F w w':=by
 have HD:Hid (Dm w x F D):=hd
 obtain⟨n,hn⟩:∃n,D.fs.length=n:=⟨_,rfl⟩
 obtain⟨vf,L,hc⟩:=hd
 have hnb:n<= 1099511627776:=by have:=hk.len;omega
 obtain⟨af,cf,hv⟩:=d_shape hc.row
 rw[←hc.len,hn] at hv
 subst hv
 have c0:w.cell? ⟨x,0,none⟩=some (.slice af n cf):=hc.c 0
 have HN:Hid (D.fs.length=n):=hn
 have HK:Hid (D.Ok B):=hk
 have HB:Hid (w.cell? ⟨b,0,none⟩=some (.pointer (some ⟨x,0,none⟩))/\ ¬F b):=⟨h,nb⟩
 obtain⟨M,hM⟩:∃M,(if keep < 0 then 0 else keep)=M:=⟨_,rfl⟩
 have HM:Hid ((if keep < 0 then 0 else keep)=M/\ nn0 keep=M/\ 0<= M):=⟨hM,hM,by rw[←hM];split<;>omega⟩
 clear hc hn hk nb hM
 go_enter Tryz.func21,Tryz.ntmps21
 go_wp2
 clear c0 h
 go_loopw [14] (λv wr=>Cj w x n F D keep v wr) (λv _=>n - (intOf v).toNat)
 case atStart=>
  have e:crF D.fs keep 0=D.fs:=by simp[crF]
  exact⟨0,rfl,by omega,by rw[e];exact HD.out.mono (λk h _=>.inl h),Kd.refl _ _⟩
 case round=>
  obtain⟨i,rfl,hi,hDr,hKr⟩:=hrel
  have HDr:Hid (Dm wr x (up F w) (D.fs' (crF D.fs keep i))/\ Kd F w wr):=⟨hDr,hKr⟩
  have hb:=hKr.cell HB.out.1 HB.out.2
  have nub:¬up F w b:=λe=>e.elim HB.out.2 (λq=>by have:=World.block_lt_of_cell? w ⟨b,0,none⟩ HB.out.1;simp only at this;omega)
  by_cases hin:i=n
  ·have hin2:=hin.symm
   clear hin
   subst hin2
   have hz:¬(n:Int) < (n:Int):=by omega
   obtain⟨vf,L,hc⟩:=hDr
   have hbx:b≠x:=λe=>nub (e ▸ hc.fx)
   have k2:wr.cell? ⟨x,2,none⟩=some (.bool D.arm):=hc.c 2
   have k5:wr.cell? ⟨x,5,none⟩=some (.bool D.dw):=hc.c 5
   have z2:=hc.z 2
   have z5:=hc.z 5
   have HR:Hid (∀V:World,V.heap=((wr.setCell ⟨x,2,none⟩ (.bool false)).setCell ⟨x,5,none⟩ (.bool false)).heap-> V.os=wr.os-> V.tape=wr.tape-> V.output=wr.output-> Dm V x (up F w) (crD D keep)/\ Kd F w V):=λV hV h1 h2 h3=>by
    have e1:(wr.setCell ⟨x,2,none⟩ (.bool false)).heap[x]?=_:=heap_setCell_same wr x 2 _ _ _ hc.box
    have e2:((wr.setCell ⟨x,2,none⟩ (.bool false)).setCell ⟨x,5,none⟩ (.bool false)).heap[x]?=_:=heap_setCell_same _ x 5 _ _ _ e1
    have ho:∀k,k≠x-> V.heap[k]?=wr.heap[k]?:=λk hk=>by
     rw[hV]
     exact(heap_setCell_other _ _ _ _ hk).trans (heap_setCell_other _ _ _ _ hk)
    have hfs:(crD D keep).fs=(D.fs' (crF D.fs keep n)).fs:=by
     show D.fs.map (cr1 keep)=crF D.fs keep n
     exact(crF_all _ _ (by have:=HN.out;omega)).symm
    refine⟨⟨vf,L,hc.boxed hfs ?_ ho⟩,HDr.out.2.trans ⟨h1,h2,h3,by rw[hV];simp[World.setCell],λk hk hn=>ho k (λe=>?_)⟩⟩
    ·rw[hV,e2]
     unfold crD
     rfl
    ·have hF:F x:=by obtain⟨_,_,h9⟩:=HD.out;exact h9.fx
     exact hn (e ▸ hF)
   clear hc
   go_wp2_with fail
   go_region_held3 (λV=>V.cell? ⟨b,0,none⟩=some (.pointer (some ⟨x,0,none⟩)))
    (first|exact hb|exact set_cell hb hbx|exact set_cell (set_cell hb hbx) hbx)
    (fail)
   all_goals (
    refine bodyPost_end (v:=.tuple #[]) (by simp[results,Tryz.results21,go_sem]) rfl ?_
    exact⟨⟨_,rfl⟩,HR.out _ rfl rfl rfl rfl⟩)
  ·have hz:(i:Int) < (n:Int):=by omega
   have hi0:(0:Int)<= (i:Int):=by omega
   have hwi:IntKind.i64.wrap ((i:Int)+1)=(i:Int)+1:=by rw[IntKind.wrap_i64];omega
   obtain⟨f,hf⟩:∃f,D.fs[i]?=some f:=⟨_,List.getElem?_eq_getElem (by rw[HN.out];omega)⟩
   obtain⟨hf1,hf2⟩:=crF_step (keep:=keep) hf
   have hok:=HK.out.fs f (List.mem_of_getElem? hf)
   have hfl:f.bs.length<= 1099511627776:=by have:=usd_get hf;have:=HK.out.used;omega
   obtain⟨vf,L,hc⟩:=hDr
   have hll:L.length=n:=by
    have h1:=hc.len
    rw[←h1]
    show (crF D.fs keep i).length=n
    unfold crF
    rw[List.length_append,List.length_map,List.length_take,List.length_drop,HN.out];omega
   obtain⟨p,hp⟩:∃p,L[i]?=some p:=⟨_,List.getElem?_eq_getElem (by omega)⟩
   have hpf:p.1=f:=by
    have h1:=hc.file hp
    have h2:(D.fs' (crF D.fs keep i)).fs[i]?=some f:=hf1
    rw[h2] at h1
    exact(Option.some.inj h1).symm
   obtain⟨gF,cfx,hv,hFg,hgl,k0,k1,k2,kz⟩:=hc.at hp
   rw[hll] at hv
   subst hv
   have c0:wr.cell? ⟨x,0,none⟩=some (.slice (some ⟨gF,0,none⟩) n cfx):=hc.c 0
   obtain⟨av,cv,hav⟩:=d_shape (hc.byt i p hp)
   obtain⟨⟨nm,bs,sf⟩,pv⟩:=p
   simp only at hpf hav k0 k1 k2
   subst hpf
   subst hav
   simp only at hfl
   obtain⟨q,hq⟩:∃q,crQ ⟨nm,bs,sf⟩ M=q:=⟨_,rfl⟩
   have hq':(if ((bs.length:Nat):Int) - sf < M then ((bs.length:Nat):Int) - sf else M)=q:=hq
   have hlo:0<= sf:=hok.lo
   have hhi:sf<= bs.length:=hok.hi
   have hq2:0<= q/\ sf+q<= bs.length:=by have:=HM.out.2.2;rw[←hq'];split<;>omega
   have HCc:Hid (Dc wr x (up F w) (D.fs' (crF D.fs keep i)) (.slice (some ⟨gF,0,none⟩) n cfx) L/\ L[i]?=some (⟨nm,bs,sf⟩,.slice av bs.length cv)/\ up F w gF):=⟨hc,hp,hFg⟩
   have hw1:IntKind.i64.wrap ((bs.length:Int) - sf)=(bs.length:Int) - sf:=by rw[IntKind.wrap_i64];omega
   have hw2:IntKind.i64.wrap (sf+q)=sf+q:=by rw[IntKind.wrap_i64];omega
   obtain⟨k,hkk⟩:∃k:Nat,sf+q=(k:Int):=⟨(sf+q).toNat,by omega⟩
   have hkl:k<= bs.length:=by omega
   have HQ:Hid (cr1 keep ⟨nm,bs,sf⟩=⟨nm,bs.take k,(k:Int)⟩):=by
    show _=_
    unfold cr1
    rw[HM.out.2.1,hq,hkk]
    simp
   clear hKr hf1 hok hq
   go_wp2_with fail
   refine regCr4 _ gF i keep sf M q av bs.length cv wr HM.out.1 hq' hw1 hw2 k2 (kz _) k1 (λy=>(World.cell?_setCell_other _ _ _ _ (by simp)).trans k1) ?_
   rw[hkk]
   obtain⟨V1,hV1⟩:∃V,wr.drew.setCell ⟨gF,i*3+2,none⟩ (.int .i64 (k:Int))=V:=⟨_,rfl⟩
   rw[hV1]
   have hc1:=(hc.same (w':=wr.drew) (λ_ _ _=>rfl)).cellF hp (k:=i*3+2) (v:=.int .i64 (k:Int)) (q:=⟨nm,bs,(k:Int)⟩) rfl (fcell_set2 _ hp)
   rw[hV1] at hc1
   have HK1:Hid (Kd F w V1/\ wr.heap.size<= V1.heap.size):=by
    rw[←hV1]
    refine⟨HDr.out.2.upTrans ((Kd.refl _ _).drew.trans (Kd.set hFg)),by simp[World.setCell]⟩
   have hp1:(L.set i (((⟨nm,bs,(k:Int)⟩:Fl),Value.slice av bs.length cv):Fv))[i]?=some (⟨nm,bs,(k:Int)⟩,.slice av bs.length cv):=by
    rw[List.getElem?_set_self (List.getElem?_eq_some_iff.mp hp).1]
   obtain⟨g2,cf2,hv2,_,_,y0,y1,y2,yz⟩:=hc1.at hp1
   obtain⟨rfl,_,rfl⟩:gF=g2/\ _/\ cfx=cf2:=by simpa using hv2
   simp only at y0 y1 y2
   have HC1:Hid (Dc V1 x (up F w) ((D.fs' (crF D.fs keep i)).fs' ((D.fs' (crF D.fs keep i)).fs.set i ⟨nm,bs,(k:Int)⟩)) (.slice (some ⟨gF,0,none⟩) n cfx) (L.set i (⟨nm,bs,(k:Int)⟩,.slice av bs.length cv))):=hc1
   obtain⟨cur,hcur⟩:=hc1.cur
   have hby:=hc1.byt i _ hp1
   obtain⟨hz1,hz2,hz3,_⟩:=lies_own hby
   have HRes:Hid (∀v' w',w'.ownsRow 0 5 1 v' k ((bs.take k).map (Value.int .u8))-> V1.drew.grownBy w' (Value.slice none 0 0).ownBlock-> (v'.ownBlock=(Value.slice none 0 0).ownBlock∨∃g,v'.ownBlock=some g/\ V1.heap.size<= g)-> Cj w x n F D keep (.int .i64 ((i:Int)+1)) (w'.setCell ⟨gF,i*3+1,none⟩ v')):=λv' w' r1 r2 r3=>by
    have hg2:V1.grownBy w' (Value.slice av bs.length cv).ownBlock:=⟨r2.os,r2.tape,r2.output,r2.size,λk hk _=>r2.block k hk (by simp[Value.ownBlock])⟩
    have hl2:(bs.take k).length=k:=by rw[List.length_take];omega
    have h1:=HC1.out.appA hp1 (bs:=bs.take k) (by rw[hl2];exact r1) hg2 (λg hg=>by
     rcases r3 with e|⟨g',e,hl⟩
     ·rw[e] at hg;cases hg
     ·have:g'=g:=Option.some.inj (e.symm.trans hg)
      omega)
    refine⟨i+1,by simp,by omega,?_,?_⟩
    ·have e9:((D.fs' (crF D.fs keep i)).fs' ((D.fs' (crF D.fs keep i)).fs.set i ⟨nm,bs,(k:Int)⟩)).fs' (((D.fs' (crF D.fs keep i)).fs' ((D.fs' (crF D.fs keep i)).fs.set i ⟨nm,bs,(k:Int)⟩)).fs.set i ⟨nm,bs.take k,(k:Int)⟩)=D.fs' (crF D.fs keep (i+1)):=by
      show D.fs' (((crF D.fs keep i).set i ⟨nm,bs,(k:Int)⟩).set i ⟨nm,bs.take k,(k:Int)⟩)=_
      rw[set_set',←hf2,HQ.out]
     rw[e9] at h1
     have hs1:=HK1.out.2
     have hs2:=HDr.out.2.size
     exact⟨_,_,h1.mono (λk h _=>h.elim id (λq=>.inr (by omega)))⟩
    ·have hFg:=HCc.out.2.2
     refine HK1.out.1.upTrans (F:=F) (a:=w) ?_
     exact(Kd.grown hg2 (λg hg=>HCc.out.1.fb i _ g HCc.out.2.1 hg)).trans (Kd.set hFg)
   have HZ:Hid (Lies .u8 V1 av bs/\ (av=none-> bs.length=0/\ cv=0)/\ bs.length<= cv/\ k<= bs.length/\ bs.length<= 1099511627776/\ V1.ownsRow 0 5 1 (.slice av bs.length cv) bs.length (bs.map (Value.int .u8))/\ ∃cur,V1.heap[gF]?=some (.cells cur 75 (0,0))):=⟨hz1,hz2,hz3,hkl,hfl,hby,_,hcur⟩
   have HY:Hid (V1.cell? ⟨gF,i*3+1,none⟩=some (.slice av bs.length cv)/\ V1.cell? ⟨gF,i*3+2,none⟩=some (.int .i64 (k:Int))):=⟨y1,y2⟩
   clear hc hp hc1 hp1 hV1 hv2 k0 k1 k2 kz hq' hf2 y0 y1 y2 yz hw1 hw2 hb c0 hcur hz1 hz2 hz3 hkl hfl hby hkk hq2 hlo hhi hf
   go_wp2_with fail
   obtain⟨hz1,hz2,hz3,hkl,hfl,hby,cur,hcur⟩:=HZ.out
   obtain⟨y1,y2⟩:=HY.out
   clear HZ HY
   cases av with
   |none=>
    obtain⟨hb0,hcv0⟩:=hz2 rfl
    have hk0:k=0:=by omega
    subst hk0
    subst hcv0
    rw[hb0] at y1
    rw[hb0]
    refine regCr5N _ gF i (bs.take 0) cur V1 (by simp) (.inl (by simp)) hcur y1 (λV hV=>grown_cell y2 ⟨hV.os,hV.tape,hV.output,hV.size,hV.block⟩ (by simp[Value.ownBlock])) (λV hV y=>(World.cell?_setCell_other _ _ _ _ (by simp)).trans (grown_cell y2 ⟨hV.os,hV.tape,hV.output,hV.size,hV.block⟩ (by simp[Value.ownBlock]))) ?_
    intro v' w' r1 r2 r3
    have HF:Hid _:=HRes.out v' w' r1 r2 r3
    clear HRes y1 y2 hby r1 r2 r3 hz1 hz2 hz3 hkl hfl hcur
    go_wp2
    exact⟨HF.out,by simp[intOf];omega⟩
   |some ad=>
    obtain⟨gv,hgv⟩:∃gv,ad=⟨gv,0,none⟩:=by
     obtain⟨_,⟨e,_⟩|⟨g,cap,cur',e,_⟩⟩:=hby
     ·cases e
     ·cases e;exact⟨g,rfl⟩
    subst hgv
    refine regCr5S _ gF i (bs.take k) cur gv bs.length cv k V1 (by omega) (by omega) (by omega) (by rw[List.length_take];omega) (lies_take hz1 k) hcur y1 (λV hV=>grown_cell y2 ⟨hV.os,hV.tape,hV.output,hV.size,hV.block⟩ (by simp[Value.ownBlock])) (λV hV y=>(World.cell?_setCell_other _ _ _ _ (by simp)).trans (grown_cell y2 ⟨hV.os,hV.tape,hV.output,hV.size,hV.block⟩ (by simp[Value.ownBlock]))) ?_
    intro v' w' r1 r2 r3
    have HF:Hid _:=HRes.out v' w' r1 r2 r3
    clear HRes y1 y2 hby r1 r2 r3 hz1 hz2 hz3 hkl hfl hcur
    go_wp2
    exact⟨HF.out,by simp[intOf];omega⟩
structure Fo (w:World) (v:Value) (L:List Fv):Prop where
 row:w.ownsRow 0 75 3 v L.length (L.flatMap fcell)
 byt:∀(i:Nat) p,L[i]?=some p-> w.ownsRow 0 5 1 p.2 p.1.bs.length (p.1.bs.map (Value.int .u8))
def Fj (w:World) (n:Nat) (fs:List Fl) (v3 v:Value) (wr:World):Prop:=∃(i:Nat) (Lo:List Fv),v=.int .i64 i/\ i<= n/\ Fo wr v3 Lo/\ Lo.map (·.1)=fs.take i/\ (∀g,v3.ownBlock=some g-> w.heap.size<= g)/\ Below w.heap.size w wr
def FilP (fs:List Fl) (w:World) (e:Ending) (w':World):Prop:=∃v L,e=.returned v/\ Fo w' v L/\ L.map (·.1)=fs/\ Below w.heap.size w w'
theorem dFiles_any (w:World) (b x:Nat) (F:Nat-> Prop) (D:Dk) (B:Nat) (hd:Dm w x F D) (hk:D.Ok B) (hB:B<= 1099511627776) (h:w.cell? ⟨b,0,none⟩=some (.pointer (some ⟨x,0,none⟩))):Calls Tryz.prog 28 #[.pointer (some ⟨b,0,none⟩)] w λe w'=>FilP D.fs w e w':=by
 obtain⟨n,hn⟩:∃n,D.fs.length=n:=⟨_,rfl⟩
 obtain⟨vf,L,hc⟩:=hd
 have hnb:n<= 1099511627776:=by have:=hk.len;omega
 obtain⟨af,cf,hv⟩:=d_shape hc.row
 rw[←hc.len,hn] at hv
 subst hv
 have c0:w.cell? ⟨x,0,none⟩=some (.slice af n cf):=hc.c 0
 have HC:Hid (Dc w x F D (.slice af n cf) L):=hc
 have HN:Hid (D.fs.length=n):=hn
 have HK:Hid (D.Ok B):=hk
 clear hc hn hk
 go_enter Tryz.func28,Tryz.ntmps28
 go_wp2
 clear c0 h
 go_loopw [3,14] (λv3 v wr=>Fj w n D.fs v3 v wr) (λ_ v _=>n - (intOf v).toNat)
 case atStart=>exact⟨0,[],rfl,by omega,⟨World.ownsRow_nil _ _ _ _,λi p hp=>by simp at hp⟩,by simp,λg hg=>(by cases hg),Below.refl _ _⟩
 case round=>
  obtain⟨i,Lo,rfl,hi,hFo,hLo,hvo,hBe⟩:=hrel
  by_cases hin:i=n
  ·have HR:Hid (Fo wr u3 Lo/\ Lo.map (·.1)=D.fs/\ Below w.heap.size w wr):=⟨hFo,by rw[hLo,List.take_of_length_le (by have:=HN.out;omega)],hBe⟩
   have hin2:=hin.symm
   clear hin
   subst hin2
   have hz:¬(n:Int) < (n:Int):=by omega
   clear hFo hLo hvo hBe
   go_wp2
   go_ret
   exact⟨_,Lo,rfl,HR.out⟩
  ·have hz:(i:Int) < (n:Int):=by omega
   have hi0:(0:Int)<= (i:Int):=by omega
   have hwi:IntKind.i64.wrap ((i:Int)+1)=(i:Int)+1:=by rw[IntKind.wrap_i64];omega
   obtain⟨p,hp⟩:∃p,L[i]?=some p:=⟨_,List.getElem?_eq_getElem (by rw[←HC.out.len,HN.out];omega)⟩
   have hcr:=HC.out.same (w':=wr) (λk _ hk=>hBe.block k hk)
   obtain⟨gF,cfx,hv,hFg,hgl,k0,k1,k2,kz⟩:=hcr.at hp
   obtain⟨rfl,_,rfl⟩:af=some ⟨gF,0,none⟩/\ n=L.length/\ cf=cfx:=by simpa using hv
   obtain⟨av,cv,hav⟩:=d_shape (hcr.byt i p hp)
   have hpf:=HC.out.file hp
   have hfl:p.1.bs.length<= 1099511627776:=by have:=usd_get hpf;have:=HK.out.used;omega
   obtain⟨⟨nm,bs,sf⟩,pv⟩:=p
   simp only at hav k0 k1 k2 hpf hfl
   subst hav
   obtain⟨ao,co,hu3⟩:=d_shape hFo.row
   have hlo:Lo.length=i:=by
    have:=congrArg List.length hLo
    rw[List.length_map,List.length_take,HN.out] at this
    omega
   rw[hlo] at hu3
   subst hu3
   have HRw:Hid (∀V:World,wr.grownBy V none-> V.ownsRow 0 5 1 (.slice av bs.length cv) bs.length (bs.map (Value.int .u8))):=λV hV=>d_blk (hcr.byt i _ hp) (λg hg=>hV.block g (d_lt (hcr.byt i _ hp) g hg).2 (by simp))
   have HFo:Hid (Fo wr (.slice ao i co) Lo/\ Lo.length=i/\ Lo.map (·.1)=D.fs.take i/\ (∀g,(Value.slice ao i co).ownBlock=some g-> w.heap.size<= g)/\ Below w.heap.size w wr/\ D.fs[i]?=some ⟨nm,bs,sf⟩/\ bs.length<= 1099511627776):=⟨hFo,hlo,hLo,hvo,hBe,hpf,hfl⟩
   clear hcr hp hv hFo hlo hLo hvo hBe hpf hfl kz
   obtain⟨V,hV⟩:∃V,wr.alloc (.cells #[.string nm,.slice av bs.length cv,.int .i64 sf] 75)=V:=⟨_,rfl⟩
   obtain⟨bb,hbb⟩:∃g,wr.heap.size=g:=⟨_,rfl⟩
   have HV:Hid (wr.grownBy V none/\ V.cell? ⟨bb,0,none⟩=some (.string nm)/\ V.cell? ⟨bb,1,none⟩=some (.slice av bs.length cv)/\ V.cell? ⟨bb,2,none⟩=some (.int .i64 sf)/\ V.heap.size=bb+1/\ wr.heap.size=bb):=by
    rw[←hV,←hbb]
    exact⟨World.grownBy_alloc wr _ _,by simp,by simp,by simp,by simp,rfl⟩
   go_wp2_with fail
   clear hV hbb k0 k1 k2
   obtain⟨hg,q0,q1,q2,hs,hbs⟩:=HV.out
   have hvd:∀U:World,V.drew.grownBy U (Value.slice none 0 0).ownBlock-> V.grownBy U none:=λU hU=>⟨hU.os,hU.tape,hU.output,hU.size,hU.block⟩
   obtain⟨l1,l2,_,_⟩:=lies_own (HRw.out V hg)
   have hbt:(Value.slice ao i co).ownBlock≠some bb:=λe=>by
    have:=(d_lt HFo.out.1.row bb e).2
    omega
   refine regFi5 _ bb i nm sf av bs.length cv bs (.slice ao i co) (Lo.flatMap fcell) V rfl l1 l2 HFo.out.2.2.2.2.2.2 (by omega) (λU hU=>?_) ⟨_,_,rfl⟩ (λU hU ro hro U2 hU2=>?_) ?_
   ·have h1:=HFo.out.1.row
    rw[HFo.out.2.1] at h1
    exact d_blk h1 (λg hg'=>((hvd U hU).block g (by have:=(d_lt HFo.out.1.row g hg').2;omega) (by simp)).trans (hg.block g (d_lt HFo.out.1.row g hg').2 (by simp)))
   ·have hne:ro≠some bb:=by
     rcases hro with e|e
     ·rw[e];simp
     ·rw[e];exact hbt
    exact⟨grown_cell (grown_cell q0 (hvd U hU) (by simp)) hU2 hne,grown_cell (grown_cell q1 (hvd U hU) (by simp)) hU2 hne,grown_cell (grown_cell q2 (hvd U hU) (by simp)) hU2 hne⟩
   ·intro v1 w1 v2 w2 r1 r2 r3 r4 r5 r6
    have HE:Hid (Fj w n D.fs v2 (.int .i64 ((i:Int)+1)) w2):=by
     obtain⟨f1,f2,f3,f4,f5,f6,f7⟩:=HFo.out
     have g1:=hvd w1 r2
     have s1:=g1.size
     have s2:=r5.size
     have s3:=f5.size
     have hvv:∀g,v1.ownBlock=some g-> V.heap.size<= g:=λg hg'=>by
      rcases r3 with e|e
      ·rw[e] at hg';cases hg'
      ·rw[e] at hg'
       have:V.drew.heap.size=g:=Option.some.inj hg'
       have h9:V.drew.heap.size=V.heap.size:=rfl
       omega
     have nvo:∀g,(Value.slice ao i co).ownBlock=some g-> w.heap.size<= g/\ g < wr.heap.size:=λg hg'=>⟨f4 g hg',(d_lt f1.row g hg').2⟩
     refine⟨i+1,Lo++[(⟨nm,bs,sf⟩,v1)],by simp,by omega,⟨?_,λj p hp=>?_⟩,?_,λg hg'=>?_,?_⟩
     ·rw[List.length_append,f2,List.flatMap_append];exact r4
     ·rcases Nat.lt_or_ge j Lo.length with e|e
      ·rw[List.getElem?_append_left e] at hp
       have hb:=f1.byt j p hp
       have hrow:=f1.row
       rw[f2] at hrow
       exact d_blk hb (λg hg'=>(r5.block g (by have:=(d_lt hb g hg').2;omega) (λe2=>d_apart hrow hb (by decide) e2.symm hg')).trans ((g1.block g (by have:=(d_lt hb g hg').2;omega) (by simp)).trans (hg.block g (d_lt hb g hg').2 (by simp))))
      ·rw[List.getElem?_append_right e] at hp
       rcases Nat.eq_zero_or_pos (j - Lo.length) with e2|e2
       ·rw[e2] at hp
        simp at hp
        subst hp
        exact d_blk r1 (λg hg'=>r5.block g (d_lt r1 g hg').2 (λe3=>by have h1:=(nvo g e3.symm).2;have h2:=hvv g hg';omega))
       ·rw[List.getElem?_eq_none (by simp;omega)] at hp;cases hp
     ·rw[List.map_append,f3,List.take_add_one,f6];rfl
     ·rcases r6 with e|⟨g',e,hl⟩
      ·exact f4 g (e ▸ hg')
      ·have:g'=g:=Option.some.inj (e.symm.trans hg')
       omega
     ·exact⟨r5.os.trans (g1.os.trans (hg.os.trans f5.os)),r5.tape.trans (g1.tape.trans (hg.tape.trans f5.tape)),r5.output.trans (g1.output.trans (hg.output.trans f5.output)),by omega,λk hk=>(r5.block k (by omega) (λe=>by have:=(nvo k e.symm).1;omega)).trans ((g1.block k (by omega) (by simp)).trans ((hg.block k (by omega) (by simp)).trans (f5.block k hk)))⟩
    clear r1 r2 r3 r4 r5 r6 HV HRw HFo hvd q0 q1 q2 hg l1 l2
    go_wp2
    exact⟨HE.out,by simp[intOf];omega⟩
def rdN (D:Dk) (s:ByteArray):Nat:=if D.dw=true then 2 else if fnd D.fs s=none then 3 else 0
def RdP (D:Dk) (s:ByteArray) (aD aF aN:Addr) (w:World) (e:Ending) (w':World):Prop:=∃a n c,e=.returned (.tuple #[.slice a n c,evD aD aF aN (rdN D s)])/\ Below w.heap.size w w'
def rdB (D:Dk) (s:ByteArray):List Int:=if D.dw=true then [] else match fnd D.fs s with|none=>[]|some i=>match D.fs[i]? with|some f=>f.bs|none=>[]
def RdQ (D:Dk) (s:ByteArray) (aD aF aN:Addr) (w:World) (e:Ending) (w':World):Prop:=∃v,e=.returned (.tuple #[v,evD aD aF aN (rdN D s)])/\ w'.ownsRow w.heap.size 5 1 v (rdB D s).length ((rdB D s).map (Value.int .u8))/\ Below w.heap.size w w'
theorem dReadB_any (w:World) (d x:Nat) (F:Nat-> Prop) (D:Dk) (s:ByteArray) (B:Nat) (aD aF aN:Addr) (h:Dm w x F D) (hk:D.Ok B) (hB:B<= 1099511627776) (hd:w.cell? ⟨d,0,none⟩=some (.pointer (some ⟨x,0,none⟩))) (hE:Er w aD aF aN):
 Calls Tryz.prog 74 #[.pointer (some ⟨d,0,none⟩),.string s] w λe w'=>RdQ D s aD aF aN w e w':=by
 obtain⟨K,hK⟩:∃K,fI D.fs s=K:=⟨_,rfl⟩
 have HFn:=find_any w x F D s B h hk hB
 rw[hK] at HFn
 have HK:Hid (fI D.fs s=K):=hK
 obtain⟨_,k5,_,_⟩:=h.dw true
 have e1:w.cell? ⟨0,0,none⟩=some (.iface 218 (.pointer (some aD))):=hE.d
 have e2:w.cell? ⟨2,0,none⟩=some (.iface 218 (.pointer (some aN))):=hE.n
 have HD:Hid (Dm w x F D/\ D.Ok B):=⟨h,hk⟩
 obtain⟨i0,hi0,hs0,hs1,hs2⟩:=info_partsD infoU8
 clear h hk hE hK
 go_enter Tryz.func74,Tryz.ntmps74
 go_upto_region 2 with (go_at_call 59;refine HFn.mono ?_;rintro e w2 ⟨rfl,hw2⟩;rw[hw2];clear hw2)
 clear HFn
 cases hw:D.dw with
 |true=>
  rw[hw] at k5
  have HR:Hid (rdN D s=2/\ rdB D s=[]):=⟨by unfold rdN;rw[hw];rfl,by unfold rdB;rw[hw];rfl⟩
  go_upto_region 3 with fail
  go_quiet (fail)
  go_wp2
  go_ret2
  exact⟨.slice none 0 0,by rw[HR.out.1];rfl,by rw[HR.out.2];exact World.ownsRow_nil _ _ _ _,⟨rfl,rfl,rfl,aqH _,λ_ _=>rfl⟩⟩
 |false=>
  rw[hw] at k5
  cases hf:fnd D.fs s with
  |none=>
   have hK2:K=-1:=by rw[←HK.out];exact fI_none hf
   subst hK2
   have HR:Hid (rdN D s=3/\ rdB D s=[]):=⟨by unfold rdN;rw[hw,if_neg (by simp),if_pos hf],by unfold rdB;rw[hw,if_neg (by simp),hf]⟩
   clear hf
   go_upto_region 5 with fail
   go_quiet (fail)
   go_wp2
   go_ret2
   exact⟨.slice none 0 0,by rw[HR.out.1];rfl,by rw[HR.out.2];exact World.ownsRow_nil _ _ _ _,⟨rfl,rfl,rfl,aqH _,λ_ _=>rfl⟩⟩
  |some i=>
   have hK2:K=(i:Int):=by rw[←HK.out];exact fI_some hf
   have HR:Hid (rdN D s=0):=by show _=_;unfold rdN;rw[hw,if_neg (by simp),hf,if_neg (by simp)]
   have HF:Hid (fnd D.fs s=some i):=hf
   subst hK2
   have hz:¬(i:Int) < 0:=by omega
   have hz2:(0:Int)<= (i:Int):=by omega
   obtain⟨vf,L,hc⟩:=HD.out.1
   obtain⟨n,hn⟩:∃n,L.length=n:=⟨_,rfl⟩
   have hin:(i:Int) < (n:Int):=by have:=fnd_lt hf;rw[hc.len] at this;omega
   obtain⟨p,hp⟩:∃p,L[i]?=some p:=⟨_,List.getElem?_eq_getElem (by omega)⟩
   obtain⟨gF,cf,hv,hFg,hgl,k0,k1,k2,kz⟩:=hc.at hp
   rw[hn] at hv
   subst hv
   have c0:w.cell? ⟨x,0,none⟩=some (.slice (some ⟨gF,0,none⟩) n cf):=hc.c 0
   obtain⟨av,cv,hav⟩:=d_shape (hc.byt i p hp)
   have hby:=hc.byt i p hp
   have hfl:p.1.bs.length<= 1099511627776:=by have:=usd_get (hc.file hp);have:=HD.out.2.used;omega
   have HQ:Hid (rdB D s=p.1.bs):=by show _=_;unfold rdB;rw[hw,if_neg (by simp),HF.out];simp only;rw[hc.file hp]
   obtain⟨⟨nm,bs,sf⟩,pv⟩:=p
   simp only at hav k1 hby hfl HQ
   subst hav
   obtain⟨l1,l2,l3,l4⟩:=lies_own hby
   have HL:Hid (Lies .u8 w av bs/\ (av=none-> bs.length=0/\ cv=0)):=⟨l1,l2⟩
   clear hc hp hf hn hby l1 l2 l3 l4 k0 k2 kz hFg hgl
   go_wp2_with (at_builtin;refine append_any _ rfl _ _ 35 rfl w.heap.size 5 i0 (.int .u8 0) 1 Tryz.underlying35 hi0 hs0 hs1 hs2 rfl _ _ _ rfl (World.ownsRow_nil _ _ _ _) .u8 av bs.length cv bs rfl HL.out.2 rfl HL.out.1 (by unfold maxLen;omega) (by omega) (aqH _) ?_;intro vB w2 o2 g2;obtain⟨aB,cB,rfl⟩:=d_shape o2;have H2:Hid (w.grownBy w2 none/\ w2.ownsRow w.heap.size 5 1 (.slice aB (0+bs.length) cB) (0+bs.length) ([]++bs.map (Value.int .u8))):=⟨g2,o2⟩;clear o2 g2;rw[Nat.zero_add] at H2 ⊢)
   go_ret2
   exact⟨_,by rw[HR.out];rfl,by rw[HQ.out];exact H2.out.2,⟨H2.out.1.os,H2.out.1.tape,H2.out.1.output,H2.out.1.size,λk hk=>H2.out.1.block k hk (λe=>by cases e)⟩⟩
def jN:ByteArray:=⟨#[106,111,117,114,110,97,108]⟩
def jnN:ByteArray:=⟨#[106,111,117,114,110,97,108,46,110,101,119]⟩
structure Snt (w:World) (F:Nat-> Prop) (aD aF aN:Addr):Prop where
 er:Er w aD aF aN
 nf:Ern F
 df:aD≠aF
 dn:aD≠aN
 fn:aF≠aN
 cD:(∃(ca:Array Value) (ta:TypeId),w.heap[aD.block]?=some (.cells ca ta (0,0)))/\ ¬F aD.block
 cF:(∃(ca:Array Value) (ta:TypeId),w.heap[aF.block]?=some (.cells ca ta (0,0)))/\ ¬F aF.block
 cN:(∃(ca:Array Value) (ta:TypeId),w.heap[aN.block]?=some (.cells ca ta (0,0)))/\ ¬F aN.block
theorem Snt.kd {w V:World} {F:Nat-> Prop} {aD aF aN:Addr} (h:Snt w F aD aF aN) (hk:Kd F w V):Snt V F aD aF aN:=by
 have k:∀{a:Addr},((∃(ca:Array Value) (ta:TypeId),w.heap[a.block]?=some (.cells ca ta (0,0)))/\ ¬F a.block)-> ((∃(ca:Array Value) (ta:TypeId),V.heap[a.block]?=some (.cells ca ta (0,0)))/\ ¬F a.block):=λ⟨⟨ca,ta,hh⟩,hn⟩=>⟨⟨ca,ta,(hk.same _ (Array.getElem?_eq_some_iff.1 hh).1 hn).trans hh⟩,hn⟩
 exact⟨h.er.kd hk h.nf,h.nf,h.df,h.dn,h.fn,k h.cD,k h.cF,k h.cN⟩
theorem isNone_any (w:World) (F:Nat-> Prop) (aD aF aN:Addr) (r:Nat) (hr:r<= 3) (h:Snt w F aD aF aN):Calls Tryz.prog 43 #[evD aD aF aN r,errV aN] w λe w'=>e=.returned (.bool (decide (r=3)))/\ w'=w:=by
 obtain⟨ca,ta,kD⟩:=h.cD.1
 obtain⟨cb,tb,kF⟩:=h.cF.1
 obtain⟨cc,tc,kN⟩:=h.cN.1
 match r,hr with
 |0,_=>exact isNil7 aN w
 |1,_=>exact isOther7 aF aN _ _ _ _ w h.fn kF kN
 |2,_=>exact isOther7 aD aN _ _ _ _ w h.dn kD kN
 |3,_=>exact isSame7 aN w
theorem isDown_any (w:World) (F:Nat-> Prop) (aD aF aN:Addr) (r:Nat) (hr:r<= 3) (h:Snt w F aD aF aN):Calls Tryz.prog 43 #[evD aD aF aN r,errV aD] w λe w'=>e=.returned (.bool (decide (r=2)))/\ w'=w:=by
 obtain⟨ca,ta,kD⟩:=h.cD.1
 obtain⟨cb,tb,kF⟩:=h.cF.1
 obtain⟨cc,tc,kN⟩:=h.cN.1
 match r,hr with
 |0,_=>exact isNil7 aD w
 |1,_=>exact isOther7 aF aD _ _ _ _ w (λe=>h.df e.symm) kF kD
 |2,_=>exact isSame7 aD w
 |3,_=>exact isOther7 aN aD _ _ _ _ w (λe=>h.dn e.symm) kN kD
def rmE (r:Nat):Nat:=if r=3 then 0 else r
theorem fileD_r (D:Dk) (s:ByteArray) (g:Nat-> List Fl):(fileD D s g).2<= 3:=by
 have ha:actR D<= 3:=by unfold actR;split<;>omega
 unfold fileD
 split
 ·simp
 ·split
  ·simp
  ·exact ha
theorem removeRest_any (w:World) (d x:Nat) (F:Nat-> Prop) (D:Dk) (B:Nat) (aD aF aN:Addr) (h:Dm w x F D) (hk:D.Ok B) (hB:B<= 1099511627776) (hd:w.cell? ⟨d,0,none⟩=some (.pointer (some ⟨x,0,none⟩))) (nd:¬F d) (hS:Snt w F aD aF aN):
 Calls Tryz.prog 39 #[.pointer (some ⟨d,0,none⟩)] w λe w'=>e=.returned (evD aD aF aN (rmE (fileD D jnN (λi=>D.fs.eraseIdx i)).2))/\ Dm w' x (up F w) (fileD D jnN (λi=>D.fs.eraseIdx i)).1/\ Kd F w w':=by
 have HA:=dRemove_any w d x F D jnN B aD aF aN h hk hB hd nd hS.er hS.nf
 have hr0:=fileD_r D jnN (λi=>D.fs.eraseIdx i)
 obtain⟨⟨D3,r⟩,hR⟩:∃R:Dk×Nat,fileD D jnN (λi=>D.fs.eraseIdx i)=R:=⟨_,rfl⟩
 rw[hR] at HA hr0 ⊢
 have HS:Hid (Snt w F aD aF aN/\ r<= 3):=⟨hS,hr0⟩
 unfold MP at HA
 simp only at HA ⊢
 obtain⟨ev,hev⟩:∃ev,evD aD aF aN r=ev:=⟨_,rfl⟩
 rw[hev] at HA
 unfold jnN at HA
 clear h hk hd nd hS hr0 hR
 go_enter Tryz.func39,Tryz.ntmps39
 go_upto_region 2 with (
  go_at_call 73
  refine HA.mono ?_
  rintro e V2 ⟨rfl,hD2,hK2⟩
  have HV:Hid (Dm V2 x (up F w) D3/\ Kd F w V2):=⟨hD2,hK2⟩
  clear hD2 hK2)
 clear HA
 have HIs:=isNone_any V2 F aD aF aN r HS.out.2 (HS.out.1.kd HV.out.2)
 rw[hev] at HIs
 have e3:V2.cell? ⟨2,0,none⟩=some (.iface 218 (.pointer (some aN))):=(HS.out.1.kd HV.out.2).er.n
 unfold errV at HIs
 by_cases h3:r=3
 ·have hb:decide (r=3)=true:=by simp[h3]
  rw[hb] at HIs
  have HE:Hid (evD aD aF aN (rmE r)=.nilIface):=by show _=_;rw[h3];rfl
  go_wp2_with (go_at_call 43;refine HIs.mono ?_;rintro e w9 ⟨rfl,hw9⟩;rw[hw9];clear hw9)
  go_ret
  exact⟨by rw[HE.out];rfl,HV.out.1,HV.out.2⟩
 ·have hb:decide (r=3)=false:=by simp[h3]
  rw[hb] at HIs
  have HE:Hid (evD aD aF aN (rmE r)=ev):=by show _=_;rw[←hev];unfold rmE;rw[if_neg h3]
  clear hev
  go_wp2_with (go_at_call 43;refine HIs.mono ?_;rintro e w9 ⟨rfl,hw9⟩;rw[hw9];clear hw9)
  go_ret
  exact⟨by rw[HE.out];rfl,HV.out.1,HV.out.2⟩
theorem rdN_r (D:Dk) (s:ByteArray):rdN D s<= 3:=by unfold rdN;split;omega;split<;>omega
theorem rdB_none {D:Dk} {s:ByteArray} (h:rdN D s=3):rdB D s=[]:=by
 unfold rdN at h
 unfold rdB
 split at h
 ·omega
 ·split at h
  ·rename_i h1 h2
   rw[if_neg h1,h2]
  ·omega
def JrP (D:Dk) (aD aF aN:Addr) (w:World) (e:Ending) (w':World):Prop:=∃v,e=.returned (.tuple #[v,evD aD aF aN (rmE (rdN D jN))])/\ w'.ownsRow w.heap.size 5 1 v (rdB D jN).length ((rdB D jN).map (Value.int .u8))/\ Below w.heap.size w w'
theorem jread_any (w:World) (d x:Nat) (F:Nat-> Prop) (D:Dk) (B:Nat) (aD aF aN:Addr) (h:Dm w x F D) (hk:D.Ok B) (hB:B<= 1099511627776) (hd:w.cell? ⟨d,0,none⟩=some (.pointer (some ⟨x,0,none⟩))) (hS:Snt w F aD aF aN):
 Calls Tryz.prog 40 #[.pointer (some ⟨d,0,none⟩)] w λe w'=>JrP D aD aF aN w e w':=by
 have HA:=dReadB_any w d x F D jN B aD aF aN h hk hB hd hS.er
 have hr0:=rdN_r D jN
 obtain⟨r,hr⟩:∃r,rdN D jN=r:=⟨_,rfl⟩
 obtain⟨bs,hbs⟩:∃bs,rdB D jN=bs:=⟨_,rfl⟩
 have hbn:r=3-> bs=[]:=λe=>by rw[←hbs];exact rdB_none (by rw[hr,e])
 unfold RdQ at HA
 unfold JrP
 rw[hr,hbs] at HA ⊢
 rw[hr] at hr0
 have HS:Hid (Snt w F aD aF aN/\ r<= 3/\ (r=3-> bs=[])):=⟨hS,hr0,hbn⟩
 obtain⟨ev,hev⟩:∃ev,evD aD aF aN r=ev:=⟨_,rfl⟩
 rw[hev] at HA
 unfold jN at HA
 clear h hk hd hS hr0 hbn hr hbs
 go_enter Tryz.func40,Tryz.ntmps40
 go_upto_region 2 with (
  go_at_call 74
  refine HA.mono ?_
  rintro e V2 ⟨v,rfl,hO2,hB2⟩
  obtain⟨a2,c2,hv2⟩:=d_shape hO2
  have HV:Hid (V2.ownsRow w.heap.size 5 1 v bs.length (bs.map (Value.int .u8))/\ Below w.heap.size w V2):=⟨hO2,hB2⟩
  clear hO2 hB2
  generalize hbl:bs.length=m at hv2
  subst hv2)
 clear HA
 have hS2:Snt V2 F aD aF aN:=HS.out.1.kd (Kd.below HV.out.2)
 have HIs:=isNone_any V2 F aD aF aN r HS.out.2.1 hS2
 rw[hev] at HIs
 have e3:V2.cell? ⟨2,0,none⟩=some (.iface 218 (.pointer (some aN))):=hS2.er.n
 clear hS2
 unfold errV at HIs
 by_cases h3:r=3
 ·have hb:decide (r=3)=true:=by simp[h3]
  rw[hb] at HIs
  have HE:Hid (evD aD aF aN (rmE r)=.nilIface/\ bs=[]):=⟨by rw[h3];rfl,HS.out.2.2 h3⟩
  clear hbl
  go_wp2_with (go_at_call 43;refine HIs.mono ?_;rintro e w9 ⟨rfl,hw9⟩;rw[hw9];clear hw9)
  go_ret2
  exact⟨.slice none 0 0,by rw[HE.out.1];rfl,by rw[HE.out.2];exact World.ownsRow_nil _ _ _ _,HV.out.2⟩
 ·have hb:decide (r=3)=false:=by simp[h3]
  rw[hb] at HIs
  have HE:Hid (evD aD aF aN (rmE r)=ev):=by show _=_;rw[←hev];unfold rmE;rw[if_neg h3]
  clear hev hbl
  go_wp2_with (go_at_call 43;refine HIs.mono ?_;rintro e w9 ⟨rfl,hw9⟩;rw[hw9];clear hw9)
  go_ret2
  exact⟨_,by rw[HE.out];rfl,HV.out.1,HV.out.2⟩
theorem number_nil (w:World):Calls Tryz.prog 16 #[.nilIface] w λe w'=>e=.returned (.int .i64 0)/\ Hid (Below w.heap.size w w'):=by
 go_enter Tryz.func16,Tryz.ntmps16
 go_wp2
 go_ret
 exact⟨rfl,(Below.refl _ _).alloc (aqH _) _⟩
theorem mem_set {α:Type} {l:List α} {i:Nat} {x y:α} (h:y∈l.set i x):y∈l∨y=x:=List.mem_or_eq_of_mem_set h
theorem usd_set:∀{fs:List Fl} {i:Nat} {f g:Fl},fs[i]?=some f-> usd (fs.set i g)+f.bs.length=usd fs+g.bs.length
 |a::r,0,f,g,h=>by simp at h;subst h;simp only[aqB,usd];omega
 |a::r,i+1,f,g,h=>by
  have:=usd_set (fs:=r) (i:=i) (f:=f) (g:=g) (by simpa using h)
  simp only[aqC,usd];omega
structure FsOk (l:List Fl) (B:Nat):Prop where
 fs:∀f∈l,f.Ok
 len:l.length<= B
 used:usd l<= B
theorem Dk.Ok.files {D:Dk} {B:Nat} (h:D.Ok B):FsOk D.fs B:=⟨h.fs,h.len,h.used⟩
theorem FsOk.up {fs:List Fl} {B C:Nat} (h:FsOk fs B) (hb:B<= C):FsOk fs C:=⟨h.fs,Nat.le_trans h.len hb,Nat.le_trans h.used hb⟩
theorem Dk.Ok.up {D:Dk} {B C:Nat} (h:D.Ok B) (hb:B<= C):D.Ok C:=⟨h.fs,Nat.le_trans h.len hb,Nat.le_trans h.used hb,h.room,h.acts⟩
theorem ok_act {D:Dk} {B C:Nat} {fs:List Fl} (h:D.Ok B) (hf:FsOk fs C) (hb:B<= C):(actD D fs).Ok C:=by
 have h':=h.up hb
 unfold actD
 split
 ·refine⟨?_,?_,?_,h.room,h.acts⟩<;>simp only<;>split
  ·exact hf.fs
  ·exact h'.fs
  ·exact hf.len
  ·exact h'.len
  ·exact hf.used
  ·exact h'.used
 ·rename_i hb
  refine⟨hf.fs,hf.len,hf.used,h.room,?_⟩
  have:=h.acts
  simp only
  split
  ·rename_i ha
   have h0:¬D.acts=0:=λe=>hb (by unfold actB;rw[ha,e];rfl)
   omega
  ·omega
theorem fsok_set {fs:List Fl} {B i:Nat} {f g:Fl} (h:FsOk fs B) (hf:fs[i]?=some f) (hg:g.Ok) (hl:g.bs.length<= f.bs.length):FsOk (fs.set i g) B:=by
 refine⟨λy hy=>?_,by rw[List.length_set];exact h.len,?_⟩
 ·rcases mem_set hy with h1|rfl
  ·exact h.fs y h1
  ·exact hg
 ·have:=usd_set (g:=g) hf
  have:=h.used
  omega
theorem fsok_setF {fs:List Fl} {B i:Nat} {g:Fl-> Fl} (h:FsOk fs B) (hg:∀f,f.Ok-> (g f).Ok/\ (g f).bs.length<= f.bs.length):FsOk (setF fs i g) B:=by
 unfold setF
 cases hf:fs[i]? with
 |none=>exact h
 |some f=>
  obtain⟨h1,h2⟩:=hg f (h.fs f (List.mem_of_getElem? hf))
  exact fsok_set h hf h1 h2
theorem usd_erase:∀(fs:List Fl) (i:Nat),usd (fs.eraseIdx i)<= usd fs
 |[],i=>by simp[usd]
 |f::r,0=>by simp[usd]
 |f::r,i+1=>by
  have:=usd_erase r i
  simp only[List.eraseIdx_cons_succ,usd];omega
theorem fsok_erase {fs:List Fl} {B i:Nat} (h:FsOk fs B):FsOk (fs.eraseIdx i) B:=
 ⟨λf hf=>h.fs f (List.mem_of_mem_eraseIdx hf),Nat.le_trans (List.length_eraseIdx_le _ _) h.len,Nat.le_trans (usd_erase _ _) h.used⟩
theorem fsok_syn {fs:List Fl} {B i:Nat} (h:FsOk fs B):FsOk (synF fs i) B:=
 fsok_setF h (λf hf=>⟨⟨hf.byt,by show (0:Int)<= (f.bs.length:Int);omega,Int.le_refl _⟩,aqH _⟩)
theorem fsok_nam {fs:List Fl} {B i:Nat} {s:ByteArray} (h:FsOk fs B):FsOk (namF fs i s) B:=
 fsok_setF h (λf hf=>⟨⟨hf.byt,hf.lo,hf.hi⟩,aqH _⟩)
theorem fsok_ren {fs:List Fl} {B i:Nat} {s:ByteArray} (h:FsOk fs B):FsOk (renF fs i s) B:=by
 unfold renF
 split
 ·split
  ·exact fsok_nam h
  ·exact fsok_erase (fsok_nam h)
 ·exact fsok_nam h
theorem bytey_take {zs:List Int} (h:Bytey zs) (k:Nat):Bytey (zs.take k):=λz hz=>h z (List.mem_of_mem_take hz)
theorem bytey_app {a b:List Int} (h:Bytey a) (h':Bytey b):Bytey (a++b):=λz hz=>(List.mem_append.mp hz).elim (h z) (h' z)
theorem fsok_cut {fs:List Fl} {B i:Nat} {N:Int} (h:FsOk fs B):FsOk (cutF fs i N) B:=
 fsok_setF h (λf hf=>by
  have hk:cutN f N<= f.bs.length:=by unfold cutN;omega
  refine⟨⟨bytey_take hf.byt _,by show (0:Int)<= (cutN f N:Int);omega,?_⟩,?_⟩
  ·show ((cutN f N:Nat):Int)<= ((f.bs.take (cutN f N)).length:Int)
   rw[List.length_take];omega
  ·show (f.bs.take (cutN f N)).length<= _
   rw[List.length_take];omega)
theorem fsok_add {fs:List Fl} {B C:Nat} {s:ByteArray} {zs:List Int} (h:FsOk fs B) (hz:Bytey zs) (hl:zs.length<= C) (hc:1<= C):FsOk (addF fs s zs) (B+C):=by
 unfold addF
 split
 ·split
  ·rename_i i _ f hf
   have h0:=h.fs f (List.mem_of_getElem? hf)
   refine⟨λy hy=>?_,by rw[List.length_set];have:=h.len;omega,?_⟩
   ·rcases mem_set hy with h1|rfl
    ·exact h.fs y h1
    ·exact⟨bytey_app h0.byt hz,h0.lo,by have:=h0.hi;simp only[List.length_append];omega⟩
   ·have:=usd_set (g:=⟨f.nm,f.bs++zs,f.sf⟩) hf
    simp only[List.length_append] at this
    have:=h.used
    omega
  ·exact h.up (by omega)
 ·refine⟨λy hy=>?_,by rw[List.length_append];have:=h.len;simp;omega,?_⟩
  ·rcases List.mem_append.mp hy with h1|h1
   ·exact h.fs y h1
   ·simp at h1;subst h1;exact⟨hz,Int.le_refl _,by show (0:Int)<= (zs.length:Int);omega⟩
  ·rw[usd_append]
   have:=h.used
   simp only[usd];omega
theorem ok_file {D:Dk} {B:Nat} {s:ByteArray} {g:Nat-> List Fl} (h:D.Ok B) (hg:∀i,FsOk (g i) B):(fileD D s g).1.Ok B:=by
 unfold fileD
 split
 ·exact h
 ·split
  ·exact h
  ·exact ok_act h (hg _) (aqH _)
theorem ok_app {D:Dk} {B C:Nat} {s:ByteArray} {zs:List Int} (h:D.Ok B) (hz:Bytey zs) (hl:zs.length<= C) (hc:1<= C):(appD D s zs).1.Ok (B+C):=by
 unfold appD
 split
 ·exact h.up (by omega)
 ·split
  ·exact h.up (by omega)
  ·exact ok_act h (fsok_add h.files hz hl hc) (by omega)
theorem usd_map_le {g:Fl-> Fl}:∀(fs:List Fl),(∀f∈fs,(g f).bs.length<= f.bs.length)-> usd (fs.map g)<= usd fs
 |[],_=>by simp[usd]
 |f::r,h=>by
  have h1:=usd_map_le r (λy hy=>h y (List.mem_cons_of_mem _ hy))
  have h2:=h f (List.mem_cons_self ..)
  simp only[List.map_cons,usd];omega
theorem ok_cr {D:Dk} {B:Nat} {keep:Int} (h:D.Ok B):(crD D keep).Ok B:=by
 have hM:0<= nn0 keep:=by unfold nn0;split<;>omega
 have hq:∀f:Fl,f.Ok-> 0<= crQ f (nn0 keep)/\ f.sf+crQ f (nn0 keep)<= f.bs.length:=λf hf=>by
  have:=hf.lo;have:=hf.hi
  unfold crQ
  split<;>omega
 refine⟨λy hy=>?_,by show (D.fs.map _).length<= B;rw[List.length_map];exact h.len,?_,h.room,h.acts⟩
 ·obtain⟨f,hf,rfl⟩:=List.mem_map.mp (show y∈D.fs.map (cr1 keep) from hy)
  have h0:=h.fs f hf
  have h1:=hq f h0
  have:=h0.lo
  refine⟨bytey_take h0.byt _,by show (0:Int)<= f.sf+crQ f (nn0 keep);omega,?_⟩
  show f.sf+crQ f (nn0 keep)<= ((f.bs.take (f.sf+crQ f (nn0 keep)).toNat).length:Int)
  rw[List.length_take]
  omega
 ·exact Nat.le_trans (usd_map_le _ (λf _=>by show (f.bs.take _).length<= _;rw[List.length_take];omega)) h.used
theorem ok_arm {D:Dk} {B:Nat} {N:Int} {dn:Bool} (h:D.Ok B) (hN:N<= 9223372036854775807):(armD D N dn).Ok B:=
 ⟨h.fs,h.len,h.used,h.room,by show 0<= nn0 N/\ nn0 N<= _;unfold nn0;split<;>omega⟩
end Go.Proofs.YtllhbhogfffedaaGreatDoor.K
namespace Go.Proofs.YtllhbhogfffedaaGreatDoor.C
open Go.RowKit Go.Shelf
attribute [local go_sem] Oper.semAt_some
structure Kps (n₀ b:Nat) (W W':World):Prop where
 low:Below n₀ W W'
 blk:W'.heap[b]?=W.heap[b]?
theorem Kps.refl (n₀ b:Nat) (W:World):Kps n₀ b W W:=⟨Below.refl _ _,rfl⟩
def Spl (n₀:Nat) (W:World) (a:Option Addr) (l:List Sp):Prop:=Spa W a l/\ (l≠[]-> ∀x,a=some x-> x.block < n₀)
abbrev Pz:=Sp×Bool
end Go.Proofs.YtllhbhogfffedaaGreatDoor.C
namespace Go.Proofs.YtllhbhogfffedaaGreatDoor.C
open Go.RowKit Go.Shelf
attribute [local go_sem] Oper.semAt_some
structure GI (S Hb Sb N:Nat) (w:World) (f t:Int) (had:Bool) (pre:List Pz) (W:World):Prop where
 row:∃v,Boxed W S 79 v/\ SOwn W N v (pick had pre)
 hb:Boxed W Hb 4 (.bool had)
 sb:W.heap[Sb]?=some (.cells #[.int .i64 f,.int .i64 t] 128 (0,0))
 low:Below w.heap.size w W
 big:N<= W.heap.size
def BR (U u:List Sp) (er:Int):Prop:=(U.length<= 2000/\ er=0/\ u=U)∨(2000 < U.length/\ er=3/\ u=[])
def GPost (U:List Sp) (w:World) (e:Ending) (w':World):Prop:=∃v u er,e=.returned (.tuple #[v,.int .i64 er])/\ SOwn w' w.heap.size v u/\ BR U u er/\ Below w.heap.size w w'
end Go.Proofs.YtllhbhogfffedaaGreatDoor.C
namespace Go.Proofs.YtllhbhogfffedaaGreatDoor.C
open Go.RowKit
def GR (had:Bool) (l:List Sp) (s:Sp) (u:List Sp) (er:Int):Prop:=(¬(IsSet l/\ Asked s)/\ er=30/\ u=[])∨(IsSet l/\ Asked s/\ BR (pick had (pc s.2 s.1 l)) u er)
def GRPost (had:Bool) (l:List Sp) (s:Sp) (w:World) (e:Ending) (w':World):Prop:=∃v u er,e=.returned (.tuple #[v,.int .i64 er])/\ SOwn w' w.heap.size v u/\ GR had l s u er/\ Below w.heap.size w w'
def cvB (l:List Sp) (s:Sp):Bool:=setB l && (askB s && decide (gps l s=[]))
end Go.Proofs.YtllhbhogfffedaaGreatDoor.C
