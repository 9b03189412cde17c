import Derived.Test.YtllhbhogfffedaaGreatDoorRcRd5
import Derived.Deep.QuietTactic
import Derived.BigQuiet
import Derived.Maps.AppendAt
import Derived.Laws.AppendOwnNone
import Derived.Laws.OwnMore
import Derived.Deep.RegionLaw
import Derived.OrdersHeld
import Derived.OrdersIn
import Derived.TacticsIn
import Derived.RangeFuncCalls
import Derived.RangeFuncNested
import Derived.Deep.RegionHeld3
set_option maxHeartbeats 4000000
set_option maxRecDepth 100000
namespace Go.Proofs.YtllhbhogfffedaaGreatDoor
open Go.RowKit
set_option linter.unusedVariables false
set_option linter.unusedSimpArgs false
def nG (v:Int) (i:Int):List Int-> Option (Int×List Int)
 |[]=>none
 |c::r=>if i=0/\ c=128 then none else if 36028797018963967 < v then none else if c < 128 then some (128*v+c,r) else nG (128*v+(c - 128)) (i+1) r
theorem rdGo_ge:∀(zs:List Int) (v i n k:Int),Bytey zs-> 0<= v-> rdGo v i zs=(n,k,0)-> 128*v<= n
 |[],v,i,n,k,hb,hv,h=>by simp[rdGo] at h
 |c::r,v,i,n,k,hb,hv,h=>by
  have hc:=hb c (by simp)
  rw[rdGo] at h
  split at h
  ·simp at h
  ·split at h
   ·simp at h
   ·split at h
    ·simp only[Prod.mk.injEq] at h;omega
    ·have:=rdGo_ge r _ _ n k (λz hz=>hb z (List.mem_cons_of_mem _ hz)) (by omega) h
     omega
theorem nG_eq:∀(zs:List Int) (v i:Int),Bytey zs-> 0<= v-> 0<= i-> (if (rdGo v i zs).2.2=0/\ (rdGo v i zs).1<= 4611686018427387903 then some ((rdGo v i zs).1,zs.drop ((rdGo v i zs).2.1 - i).toNat) else none)=nG v i zs/\ ((rdGo v i zs).2.2=0-> i+1<= (rdGo v i zs).2.1)
 |[],v,i,hb,hv,hi=>by simp[rdGo,nG]
 |c::r,v,i,hb,hv,hi=>by
  have hc:=hb c (by simp)
  have hbr:Bytey r:=λz hz=>hb z (List.mem_cons_of_mem _ hz)
  by_cases h1:i=0/\ c=128
  ·have e:rdGo v i (c::r)=(0,0,11):=by rw[rdGo,if_pos h1]
   rw[e,nG,if_pos h1]
   simp
  ·by_cases h2:144115188075855871 < v
   ·have e:rdGo v i (c::r)=(0,0,12):=by rw[rdGo,if_neg h1,if_pos h2]
    rw[e]
    refine⟨?_,by simp⟩
    rw[if_neg (by simp),nG,if_neg h1,if_pos (by omega)]
   ·by_cases h3:c < 128
    ·have e:rdGo v i (c::r)=(v*128+c,i+1,0):=by rw[rdGo,if_neg h1,if_neg h2,if_pos h3]
     rw[e,nG,if_neg h1]
     refine⟨?_,λ_=>by simp⟩
     simp only[true_and]
     by_cases h4:36028797018963967 < v
     ·rw[if_pos h4,if_neg (by omega)]
     ·rw[if_neg h4,if_pos h3,if_pos (by omega)]
      rw[show i+1 - i=1 by omega,show v*128+c=128*v+c by omega]
      rfl
    ·have e:rdGo v i (c::r)=rdGo (v*128+(c - 128)) (i+1) r:=by rw[rdGo,if_neg h1,if_neg h2,if_neg h3]
     obtain⟨q1,q2⟩:=nG_eq r (v*128+(c - 128)) (i+1) hbr (by omega) (by omega)
     rw[e,nG,if_neg h1]
     refine⟨?_,λh=>by have:=q2 h;omega⟩
     by_cases h4:36028797018963967 < v
     ·rw[if_pos h4,if_neg]
      rintro⟨h5,h6⟩
      have h7:=rdGo_ge r (v*128+(c - 128)) (i+1) (rdGo (v*128+(c - 128)) (i+1) r).1 (rdGo (v*128+(c - 128)) (i+1) r).2.1 hbr (by omega) (by rw[←h5])
      omega
     ·rw[if_neg h4,if_neg h3,show 128*v+(c - 128)=v*128+(c - 128) by omega,←q1]
      by_cases h5:(rdGo (v*128+(c - 128)) (i+1) r).2.2=0/\ (rdGo (v*128+(c - 128)) (i+1) r).1<= 4611686018427387903
      ·rw[if_pos h5,if_pos h5]
       have h6:=q2 h5.1
       rw[show ((rdGo (v*128+(c - 128)) (i+1) r).2.1 - i).toNat=((rdGo (v*128+(c - 128)) (i+1) r).2.1 - (i+1)).toNat+1 by omega]
       rfl
      ·rw[if_neg h5,if_neg h5]
theorem numP_nG {zs:List Int} (hb:Bytey zs):numP zs=nG 0 0 zs:=by
 have h:=(nG_eq zs 0 0 hb (by omega) (by omega)).1
 unfold numP rd
 rw[←h,Int.sub_zero]
theorem getD_b {cs:List Int} (h:Bytey cs) (k:Nat) (hk:k < cs.length):0<= cs.getD k 0/\ cs.getD k 0<= 255:=by
 rw[List.getD_eq_getElem?_getD,List.getElem?_eq_getElem hk];exact h _ (List.getElem_mem hk)
abbrev r2O (sl:Value) (k:Nat) (b:Bool):Obj:=.cells #[sl,.int .i64 k,.bool b] 161
theorem r2_cells {W:World} {g:Nat} {sl:Value} {k:Nat} {b:Bool} (h:W.heap[g]?=some (r2O sl k b)):W.cell? ⟨g,0,none⟩=some sl/\ W.cell? ⟨g,1,none⟩=some (.int .i64 k)/\ W.cell? ⟨g,2,none⟩=some (.bool b)/\ ∀j,W.frozen? ⟨g,j,none⟩=false:=
 ⟨cell_of_row _ _ 0 _ _ _ h,cell_of_row _ _ 1 _ _ _ h,cell_of_row _ _ 2 _ _ _ h,λj=>by simp[World.frozen?,h]⟩
def N2Post (q:Option (Int×List Int)) (sl:Value) (n rb:Nat) (w:World) (e:Ending) (w':World):Prop:=
 (match q with
  |some (v,t)=>e=.returned (.int .i64 v)/\ w'.heap[rb]?=some (r2O sl (n - t.length) false)
  |none=>e=.returned (.int .i64 0)/\ ∃k,k<= n/\ w'.heap[rb]?=some (r2O sl k true))/\ w.grownBy w' (some rb)
theorem num2_any (rb g off n c k:Nat) (zs:List Int) (w:World) (hh:w.heap[rb]?=some (r2O (.slice (some ⟨g,off,none⟩) n c) k false)) (hl:zs.length=n) (hcell:∀i,i < n-> w.cell? ⟨g,off+i,none⟩=some (.int .u8 (zs.getD i 0))) (hk:k<= n) (hb:Bytey zs) (hm:n<= 140737488355328) (hne:g≠rb):
 Calls Tryz.prog 92 #[.pointer (some ⟨rb,0,none⟩)] w (N2Post (numP (zs.drop k)) (.slice (some ⟨g,off,none⟩) n c) n rb w):=by
 have HH:Hid (w.heap[rb]?=some (r2O (.slice (some ⟨g,off,none⟩) n c) k false)):=hh
 have HN:Hid (nG 0 ((0:Nat):Int) (zs.drop (k+0))=numP (zs.drop k)):=(numP_nG (bytey_drop hb k)).symm
 generalize numP (zs.drop k)=Q at*
 have HC:Hid (∀W,w.grownBy W (some rb)-> ∀i,i < n-> W.cell? ⟨g,off+i,none⟩=some (.int .u8 (zs.getD i 0))):=λW hW i hi=>hW.cell (hcell i hi) (by simp;exact hne)
 have HB:Hid (Bytey zs):=hb
 have HL:Hid (zs.length=n):=hl
 clear hh hcell hb hl
 go_enter Tryz.func92,Tryz.ntmps92
 go_wp2_with fail
 go_loopw [3,4] (λnv i wr=>∃(j:Nat) (v:Int),k+j<= n/\ i=.int .i64 j/\ nv=.int .i64 v/\ 0<= v/\ v<= 4611686018427387903/\ nG v j (zs.drop (k+j))=Q/\ wr.heap[rb]?=some (r2O (.slice (some ⟨g,off,none⟩) n c) (k+j) false)/\ w.grownBy wr (some rb)) (λ_ i _=>n - (intOf i).toNat)
 case atStart=>exact⟨0,0,by omega,rfl,rfl,by omega,by omega,HN.out,HH.out,World.grownBy.refl _ _⟩
 case round=>
  obtain⟨j,v,hkj,rfl,rfl,hv0,hv1,hng,hrh,hgr⟩:=hrel
  have HNG:Hid (nG v j (zs.drop (k+j))=Q):=hng
  have HRH:Hid (wr.heap[rb]?=some (r2O (.slice (some ⟨g,off,none⟩) n c) (k+j) false)):=hrh
  have HGR:Hid (w.grownBy wr (some rb)):=hgr
  obtain⟨s0,s1,s2,sf⟩:=r2_cells hrh
  have f2:=sf 2
  have f1:=sf 1
  clear hng hrh hgr HH HN sf
  obtain⟨a,ha⟩:∃a:Int,a=((k+j:Nat):Int):=⟨_,rfl⟩
  rw[←ha] at s1
  have hbad:Hid (∀W:World,W.heap[rb]?=some (r2O (.slice (some ⟨g,off,none⟩) n c) (k+j) false)-> (W.setCell ⟨rb,2,none⟩ (.bool true)).heap[rb]?=some (r2O (.slice (some ⟨g,off,none⟩) n c) (k+j) true)):=λW hW=>by simp[World.setCell,Array.getElem?_modify,hW]
  by_cases hlt:k+j < n
  ·have hce:=HC.out wr HGR.out (k+j) hlt
   have hlz:k+j < zs.length:=by rw[HL.out];exact hlt
   have hz:=getD_b HB.out (k+j) hlz
   have HNG2:Hid (nG v j (zs.getD (k+j) 0::zs.drop (k+(j+1)))=Q):=by unfold Hid;rw[show k+(j+1)=k+j+1 by omega,←drop_cons zs (k+j) hlz];exact HNG.out
   have hat:a.toNat=k+j:=by omega
   have hce2:wr.cell? ⟨g,off+a.toNat,none⟩=some (.int .u8 (zs.getD (k+j) 0)):=by rw[hat];exact hce
   have HTL:Hid ((zs.drop (k+(j+1))).length=n - (k+(j+1))):=by unfold Hid;rw[List.length_drop,HL.out]
   generalize zs.getD (k+j) 0=ch at*
   generalize hdz:zs.drop (k+(j+1))=tz at*
   have HDZ:Hid (tz=zs.drop (k+(j+1))):=hdz.symm
   clear hdz
   have HCE:Hid (∀W:World,w.grownBy W (some rb)-> W.heap[g]?=wr.heap[g]?-> W.cell? ⟨g,off+a.toNat,none⟩=some (.int .u8 ch)):=λW _ hW=>by
    have:W.cell? ⟨g,off+a.toNat,none⟩=wr.cell? ⟨g,off+a.toNat,none⟩:=by simp only[World.cell?];rw[hW]
    rw[this];exact hce2
   obtain⟨hz0,hz1⟩:=hz
   have ha0:0<= a:=by omega
   have ha1:a < (n:Int):=by omega
   have ha2:¬(n:Int)<= a:=by omega
   have HAE:Hid (a=((k+j:Nat):Int)):=ha
   have HJ:Hid (k+j<= n/\ k+j < n):=⟨hkj,hlt⟩
   clear hce HNG HC ha hat hlz hkj hlt
   have HBAD:Hid (∀nq,Q=none-> ∃e',N2Post Q (.slice (some ⟨g,off,none⟩) n c) n rb w (.returned (.int .i64 0)) ((wr.drewN nq).setCell ⟨rb,2,none⟩ (.bool true))/\ e'=true):=λnq hQ=>by
    refine⟨true,?_,rfl⟩
    rw[hQ]
    exact⟨⟨rfl,k+j,HJ.out.1,hbad.out (wr.drewN nq) HRH.out⟩,grown_trans (grown_trans HGR.out (C.grown_drewN _ _ _)) (grown_set _ _ _ _)⟩
   by_cases hj0:j=0
   ·subst hj0
    by_cases hc128:ch=128
    ·subst hc128
     have HQ:Hid (Q=none):=by unfold Hid;rw[←HNG2.out,nG,if_pos ⟨rfl,rfl⟩]
     go_upto_region 5 with fail
     go_quiet (fail)
     go_wp2
     go_ret
     exact(HBAD.out _ HQ.out).choose_spec.1
    ·have hc':(ch == 128)=false:=by simpa using hc128
     by_cases hv:36028797018963967 < v
     ·have HQ:Hid (Q=none):=by unfold Hid;rw[←HNG2.out,nG,if_neg (λh=>hc128 h.2),if_pos hv]
      go_upto_region 5 with fail
      go_quiet (fail)
      go_wp2
      go_ret
      exact(HBAD.out _ HQ.out).choose_spec.1
     ·go_upto_region 5 with fail
      go_quiet (fail)
      have hw1:IntKind.i64.wrap (128*v)=128*v:=by rw[IntKind.wrap_i64];omega
      obtain⟨w2,hw2⟩:∃x,x=wr.drewN nq:=⟨_,rfl⟩
      rw[←hw2]
      have HR2:Hid (w2.heap[rb]?=some (r2O (.slice (some ⟨g,off,none⟩) n c) (k+0) false)):=by rw[hw2];exact HRH.out
      have HG2:Hid (w.grownBy w2 (some rb)):=by rw[hw2];exact grown_trans HGR.out (C.grown_drewN _ _ _)
      have hce3:w2.cell? ⟨g,off+a.toNat,none⟩=some (.int .u8 ch):=by rw[hw2];exact hce2
      obtain⟨t0,t1,t2,tf⟩:=r2_cells HR2.out
      rw[←HAE.out] at t1
      clear s0 s1 s2 f1 f2 hce2 hw2
      go_upto_region 8 with fail
      go_quiet (fail)
      obtain⟨w3,hw3⟩:∃x,x=w2.drewN nq:=⟨_,rfl⟩
      rw[←hw3]
      have HR3:Hid (w3.heap[rb]?=some (r2O (.slice (some ⟨g,off,none⟩) n c) (k+0) false)):=by rw[hw3];exact HR2.out
      have HG3:Hid (w.grownBy w3 (some rb)):=by rw[hw3];exact grown_trans HG2.out (C.grown_drewN _ _ _)
      obtain⟨y0,y1,y2,yf⟩:=r2_cells HR3.out
      have yf1:=yf 1
      rw[←HAE.out] at y1
      clear t0 t1 t2 tf hw3 hce3 yf
      have hwa:IntKind.i64.wrap (a+1)=a+1:=by rw[IntKind.wrap_i64];omega
      have HR4:Hid ((w3.setCell ⟨rb,1,none⟩ (.int .i64 (a+1))).heap[rb]?=some (r2O (.slice (some ⟨g,off,none⟩) n c) (k+(0+1)) false)):=by
       have e:a+1=((k+(0+1):Nat):Int):=by rw[HAE.out];omega
       unfold Hid
       rw[e]
       simp[World.setCell,Array.getElem?_modify,HR3.out]
      have HG4:Hid (w.grownBy (w3.setCell ⟨rb,1,none⟩ (.int .i64 (a+1))) (some rb)):=grown_trans HG3.out (grown_set _ _ _ _)
      by_cases h128:ch < 128
      ·have HQ:Hid (Q=some (128*v+ch,tz)):=by unfold Hid;rw[←HNG2.out,nG,if_neg (λh=>hc128 h.2),if_neg hv,if_pos h128]
       have hcm:ch % 128=ch:=by omega
       have hw4:IntKind.i64.wrap (128*v+ch)=128*v+ch:=by rw[IntKind.wrap_i64];omega
       go_wp2
       go_ret
       show N2Post Q _ _ _ _ _ _
       rw[HQ.out]
       refine⟨⟨?_,?_⟩,HG4.out⟩
       ·first|rfl|exact congrArg (λx=>Ending.returned (Value.int IntKind.i64 x)) (by omega)
       ·rw[HTL.out,show n - (n - (k+(0+1)))=k+(0+1) by have:=HJ.out.2;omega]
        exact HR4.out
      ·have HQ:Hid (nG (128*v+(ch - 128)) (((0+1:Nat):Int)) tz=Q):=by unfold Hid;rw[←HNG2.out,nG,if_neg (λh=>hc128 h.2),if_neg hv,if_neg h128];rfl
       have hcm:ch % 128=ch - 128:=by omega
       have hw4:IntKind.i64.wrap (128*v+(ch - 128))=128*v+(ch - 128):=by rw[IntKind.wrap_i64];omega
       have hjb:0 < 140737488355328:=by have:=HJ.out.2;omega
       go_wp2
       go_roundw
       case rel=>exact⟨0+1,128*v+(ch - 128),by have:=HJ.out.2;omega,by first|rfl|go_num,by first|rfl|exact congrArg (Value.int IntKind.i64) (by omega),by omega,by omega,HDZ.out ▸ HQ.out,HR4.out,HG4.out⟩
       case measure=>simp[intOf];have:=HJ.out.2;omega
   ·have hj0':((j:Int) == 0)=false:=by simp;omega
    by_cases hv:36028797018963967 < v
    ·have HQ:Hid (Q=none):=by unfold Hid;rw[←HNG2.out,nG,if_neg (λh=>hj0 (by omega)),if_pos hv]
     go_upto_region 5 with fail
     go_quiet (fail)
     go_wp2
     go_ret
     exact(HBAD.out _ HQ.out).choose_spec.1
    ·go_upto_region 5 with fail
     go_quiet (fail)
     have hw1:IntKind.i64.wrap (128*v)=128*v:=by rw[IntKind.wrap_i64];omega
     obtain⟨w2,hw2⟩:∃x,x=wr.drewN nq:=⟨_,rfl⟩
     rw[←hw2]
     have HR2:Hid (w2.heap[rb]?=some (r2O (.slice (some ⟨g,off,none⟩) n c) (k+j) false)):=by rw[hw2];exact HRH.out
     have HG2:Hid (w.grownBy w2 (some rb)):=by rw[hw2];exact grown_trans HGR.out (C.grown_drewN _ _ _)
     have hce3:w2.cell? ⟨g,off+a.toNat,none⟩=some (.int .u8 ch):=by rw[hw2];exact hce2
     obtain⟨t0,t1,t2,tf⟩:=r2_cells HR2.out
     rw[←HAE.out] at t1
     clear s0 s1 s2 f1 f2 hce2 hw2
     go_upto_region 8 with fail
     go_quiet (fail)
     obtain⟨w3,hw3⟩:∃x,x=w2.drewN nq:=⟨_,rfl⟩
     rw[←hw3]
     have HR3:Hid (w3.heap[rb]?=some (r2O (.slice (some ⟨g,off,none⟩) n c) (k+j) false)):=by rw[hw3];exact HR2.out
     have HG3:Hid (w.grownBy w3 (some rb)):=by rw[hw3];exact grown_trans HG2.out (C.grown_drewN _ _ _)
     obtain⟨y0,y1,y2,yf⟩:=r2_cells HR3.out
     have yf1:=yf 1
     rw[←HAE.out] at y1
     clear t0 t1 t2 tf hw3 hce3 yf
     have hwa:IntKind.i64.wrap (a+1)=a+1:=by rw[IntKind.wrap_i64];omega
     have HR4:Hid ((w3.setCell ⟨rb,1,none⟩ (.int .i64 (a+1))).heap[rb]?=some (r2O (.slice (some ⟨g,off,none⟩) n c) (k+(j+1)) false)):=by
      have e:a+1=((k+(j+1):Nat):Int):=by rw[HAE.out];omega
      unfold Hid
      rw[e]
      simp[World.setCell,Array.getElem?_modify,HR3.out]
     have HG4:Hid (w.grownBy (w3.setCell ⟨rb,1,none⟩ (.int .i64 (a+1))) (some rb)):=grown_trans HG3.out (grown_set _ _ _ _)
     by_cases h128:ch < 128
     ·have HQ:Hid (Q=some (128*v+ch,tz)):=by unfold Hid;rw[←HNG2.out,nG,if_neg (λh=>hj0 (by omega)),if_neg hv,if_pos h128]
      have hcm:ch % 128=ch:=by omega
      have hw4:IntKind.i64.wrap (128*v+ch)=128*v+ch:=by rw[IntKind.wrap_i64];omega
      go_wp2
      go_ret
      show N2Post Q _ _ _ _ _ _
      rw[HQ.out]
      refine⟨⟨?_,?_⟩,HG4.out⟩
      ·first|rfl|exact congrArg (λx=>Ending.returned (Value.int IntKind.i64 x)) (by omega)
      ·rw[HTL.out,show n - (n - (k+(j+1)))=k+(j+1) by have:=HJ.out.2;omega]
       exact HR4.out
     ·have HQ:Hid (nG (128*v+(ch - 128)) (((j+1:Nat):Int)) tz=Q):=by unfold Hid;rw[←HNG2.out,nG,if_neg (λh=>hj0 (by omega)),if_neg hv,if_neg h128];rfl
      have hcm:ch % 128=ch - 128:=by omega
      have hw4:IntKind.i64.wrap (128*v+(ch - 128))=128*v+(ch - 128):=by rw[IntKind.wrap_i64];omega
      have hjb:j < 140737488355328:=by have:=HJ.out.2;omega
      go_wp2
      go_roundw
      case rel=>exact⟨j+1,128*v+(ch - 128),by have:=HJ.out.2;omega,by first|rfl|go_num,by first|rfl|exact congrArg (Value.int IntKind.i64) (by omega),by omega,by omega,HDZ.out ▸ HQ.out,HR4.out,HG4.out⟩
      case measure=>simp[intOf];have:=HJ.out.2;omega
  ·have HQ:Hid (Q=none):=by unfold Hid;rw[←HNG.out,List.drop_eq_nil_of_le (by rw[HL.out];omega)];rfl
   have hge:(n:Int)<= a:=by omega
   clear ha
   go_upto_region 5 with fail
   go_quiet (fail)
   go_wp2
   go_ret
   show N2Post Q _ _ _ _ _ _
   rw[HQ.out]
   exact⟨⟨rfl,k+j,hkj,hbad.out (wr.drewN _) HRH.out⟩,grown_trans (grown_trans HGR.out (C.grown_drewN _ _ _)) (grown_set _ _ _ _)⟩
theorem step_append_at {P:Program} {ops:Array Oper} {o:Oper} {a:Act} {w:World} {K:Act-> World-> Prop} {Q:Exit-> Act-> World-> Prop} {E:Prop}
 (hg:o.guard=none) (s x:Operand) (t:TypeId) (hop:o.op=Op.call {callee:=Callee.builtin Builtin.append,args:=#[s,x],argTypes:=#[t,t]})
 (base:Nat) (e:TypeId) (i:TypeInfo) (z:Value) (size bytes:Nat) (ht:P.underlying t=some (.slice e)) (hi:P.info? e=some i) (hz:i.zero=some z)
 (hsize:i.size=size) (hby:i.bytes=bytes) (hzs:z.cells.size=size) (hsz:0 < size)
 (v:Value) (n:Nat) (xs:List Value) (hs:a.eval s=v) (hown:w.ownsRow base e size v n xs)
 (ad:Addr) (m c:Nat) (news:List Value) (hx:a.eval x=.slice (some ad) m c) (hl:news.length=m*size) (hnews:∀j u,news[j]?=some u-> w.cell? (ad.add j)=some u) (h1:∀u∈news,u.oneCell'=true)
 (h63:n+m<= maxLen) (hbytes:(n+m)*bytes<= 140737488355328) (hbase:base<= w.heap.size)
 (hK:∀v' w',w'.ownsRow base e size v' (n+m) (xs++news)-> w.grownBy w' v.ownBlock-> (v'.ownBlock=v.ownBlock∨v'.ownBlock=some w.heap.size)-> K (a.put o.dst v') w'):
 if Region.wanted o (yielded ops a.tmps)=true then Oper.wp P o a w K Q else E:=by
 have hw:Region.wanted o (yielded ops a.tmps)=true:=by simp[Region.wanted,hg]
 rw[if_pos hw]
 obtain⟨v',w',hrun,r2,r3,_,r5⟩:=run_append_own_at (P:=P) w base t o.type e i z size bytes ht hi hz hsize hby hzs hsz v n xs hown ad m c news hl hnews h1 h63 hbytes hbase
 unfold Oper.wp
 simp[execOp,hop,resolve,invoke,builtin,hs,hx,hrun,Result.andThen]
 exact hK v' w' r2 r3 r5
end Go.Proofs.YtllhbhogfffedaaGreatDoor
namespace Go.Proofs.YtllhbhogfffedaaGreatDoor
def noDefer (ops:Array Oper):Bool:=ops.all λo=>match o.op with| .defer _=>false|_=>true
open Go.RowKit
set_option linter.unusedVariables false
set_option linter.unusedSimpArgs false
theorem num2_bad (rb k:Nat) (sl:Value) (w:World) (hh:w.heap[rb]?=some (r2O sl k true)):
 Calls Tryz.prog 92 #[.pointer (some ⟨rb,0,none⟩)] w λe w'=>e=.returned (.int .i64 0)/\ w=w':=by
 obtain⟨s0,s1,s2,sf⟩:=r2_cells hh
 clear hh sf
 go_enter Tryz.func92,Tryz.ntmps92
 go_wp2_with fail
 refine wp_loop_rounds 1 ?_
 rw[rounds_succ]
 go_wp2
 go_ret
 exact⟨rfl,rfl⟩
def bytP (zs:List Int):Option (List Int×List Int):=match numP zs with
 |none=>none
 |some (n,t)=>if n<= t.length then some (t.take n.toNat,t.drop n.toNat) else none
structure R2 (W:World) (rb g off n c:Nat) (zs:List Int) (q:Option (List Int)):Prop where
 hp:match q with
  |some t=>W.heap[rb]?=some (r2O (.slice (some ⟨g,off,none⟩) n c) (n - t.length) false)
  |none=>∃k,k<= n/\ W.heap[rb]?=some (r2O (.slice (some ⟨g,off,none⟩) n c) k true)
 cl:∀i,i < n-> W.cell? ⟨g,off+i,none⟩=some (.int .u8 (zs.getD i 0))
 le:zs.length=n
 nc:n<= c
 mx:n<= 131072/\ c<= 9223372036854775807
 ne:g≠rb
 tl:∀t,q=some t-> t.length<= n/\ zs.drop (n - t.length)=t
theorem R2.grown {W W':World} {rb g off n c:Nat} {zs:List Int} {q q':Option (List Int)} (h:R2 W rb g off n c zs q) (hg:W.grownBy W' (some rb)) (hp:match q' with
 |some t=>W'.heap[rb]?=some (r2O (.slice (some ⟨g,off,none⟩) n c) (n - t.length) false)
 |none=>∃k,k<= n/\ W'.heap[rb]?=some (r2O (.slice (some ⟨g,off,none⟩) n c) k true)) (ht:∀t,q'=some t-> t.length<= n/\ zs.drop (n - t.length)=t):R2 W' rb g off n c zs q':=
 ⟨hp,λi hi=>hg.cell (h.cl i hi) (by simp;exact h.ne),h.le,h.nc,h.mx,h.ne,ht⟩
theorem R2.keep {W W':World} {rb g off n c:Nat} {zs:List Int} {q:Option (List Int)} {row:Option Nat} (h:R2 W rb g off n c zs q) (hg:W.grownBy W' row) (h1:row≠some rb) (h2:row≠some g):R2 W' rb g off n c zs q:=by
 refine⟨?_,λi hi=>hg.cell (h.cl i hi) (λe=>h2 (by rw[←e])),h.le,h.nc,h.mx,h.ne,h.tl⟩
 have hp:=h.hp
 cases q with
 |some t=>exact(hg.block rb (Array.getElem?_eq_some_iff.mp hp).1 (λe=>h1 e.symm)).trans hp
 |none=>
  obtain⟨k,hk,hh⟩:=hp
  exact⟨k,hk,(hg.block rb (Array.getElem?_eq_some_iff.mp hh).1 (λe=>h1 e.symm)).trans hh⟩
theorem R2.below {W W':World} {rb g off n c:Nat} {zs:List Int} {q:Option (List Int)} (h:R2 W rb g off n c zs q) (hb:Below W.heap.size W W'):R2 W' rb g off n c zs q:=
 h.keep (row:=none) ⟨hb.os,hb.tape,hb.output,hb.size,λk hk _=>hb.block k hk⟩ (by simp) (by simp)
theorem R2.rblt {W:World} {rb g off n c:Nat} {zs:List Int} {q:Option (List Int)} (h:R2 W rb g off n c zs q):rb < W.heap.size:=by
 have hp:=h.hp
 cases q with
 |some t=>exact(Array.getElem?_eq_some_iff.mp hp).1
 |none=>obtain⟨k,hk,hh⟩:=hp;exact(Array.getElem?_eq_some_iff.mp hh).1
theorem tail_of {zs t t':List Int} {n:Nat} {e:List Int} (hl:zs.length=n) (h1:t.length<= n) (h2:zs.drop (n - t.length)=t) (h3:t=e++t'):t'.length<= n/\ zs.drop (n - t'.length)=t':=by
 subst h3
 rw[List.length_append] at h1 h2
 refine⟨by omega,?_⟩
 have h4:(zs.drop (n - (e.length+t'.length))).drop e.length=t':=by rw[h2,List.drop_left]
 rw[List.drop_drop] at h4
 rw[show n - t'.length=n - (e.length+t'.length)+e.length by omega]
 exact h4
theorem R2.some_k {W:World} {rb g off n c:Nat} {zs:List Int} {q:Option (List Int)} (h:R2 W rb g off n c zs q):∃k b,k<= n/\ W.heap[rb]?=some (r2O (.slice (some ⟨g,off,none⟩) n c) k b):=by
 have hp:=h.hp
 cases q with
 |some t=>exact⟨_,_,by omega,hp⟩
 |none=>obtain⟨k,hk,hh⟩:=hp;exact⟨k,_,hk,hh⟩
theorem R2.bad {W:World} {rb g off n c:Nat} {zs:List Int} {q:Option (List Int)} (h:R2 W rb g off n c zs q):R2 (W.setCell ⟨rb,2,none⟩ (.bool true)) rb g off n c zs none:=by
 obtain⟨k,b,hk,hh⟩:=h.some_k
 refine h.grown (grown_set _ _ _ _) ⟨k,hk,?_⟩ (λt ht=>by cases ht)
 simp[World.setCell,Array.getElem?_modify,hh]
def num2P (q:Option (List Int)):Int×Option (List Int):=match q with
 |none=>(0,none)
 |some t=>match numP t with
  |none=>(0,none)
  |some (v,t')=>(v,some t')
theorem num2_all (rb g off n c:Nat) (zs:List Int) (q:Option (List Int)) (w:World) (hb:Bytey zs) (h:R2 w rb g off n c zs q):
 Calls Tryz.prog 92 #[.pointer (some ⟨rb,0,none⟩)] w λe w'=>e=.returned (.int .i64 (num2P q).1)/\ R2 w' rb g off n c zs (num2P q).2/\ w.grownBy w' (some rb):=by
 cases q with
 |none=>
  obtain⟨k,hk,hh⟩:=h.hp
  exact(num2_bad rb k _ w hh).mono λe w' ⟨h1,h2⟩=>⟨h1,h2 ▸ h,h2 ▸ World.grownBy.refl _ _⟩
 |some t=>
  have hp:w.heap[rb]?=some (r2O (.slice (some ⟨g,off,none⟩) n c) (n - t.length) false):=h.hp
  obtain⟨h1,h2⟩:=h.tl t rfl
  have hn:=num2_any rb g off n c (n - t.length) zs w hp h.le h.cl (by omega) hb (by have:=h.mx;omega) h.ne
  rw[h2] at hn
  have hbt:Bytey t:=by rw[←h2];exact bytey_drop hb _
  refine hn.mono λe w' hq=>?_
  cases hnp:numP t with
  |none=>
   have hnq:num2P (some t)=(0,none):=by unfold num2P;simp only[hnp]
   rw[hnq]
   rw[hnp] at hq
   obtain⟨⟨e1,k,hk,hh⟩,hg⟩:=hq
   exact⟨e1,h.grown hg ⟨k,hk,hh⟩ (λt' ht=>by cases ht),hg⟩
  |some p=>
   obtain⟨v,t'⟩:=p
   have hnq:num2P (some t)=(v,some t'):=by unfold num2P;simp only[hnp]
   rw[hnq]
   rw[hnp] at hq
   obtain⟨⟨e1,hh⟩,hg⟩:=hq
   obtain⟨_,_,_,h4,_,_,_,_⟩:=numP_inv hbt hnp
   exact⟨e1,h.grown hg hh (λt'' ht=>by cases ht;exact tail_of h.le h1 h2 h4),hg⟩
theorem R2.app {w w3 w5:World} {rb g off n c nn m:Nat} {e:TypeId} {v:Value} {xs:List Value} {o:Obj} {zs:List Int} {q:Option (List Int)} (h:R2 w3 rb g off n c zs q) (hso:w3.ownsRow w.heap.size e nn v m xs) (hg:(w3.alloc o).grownBy w5 v.ownBlock) (h1:rb < w.heap.size) (h2:g < w.heap.size):R2 w5 rb g off n c zs q:=by
 have h3:R2 (w3.alloc o) rb g off n c zs q:=h.below ((Below.refl _ _).alloc (aqH _) _)
 refine h3.keep hg ?_ ?_
 ·intro e'
  have:=(hso.lt rb e').1
  omega
 ·intro e'
  have:=(hso.lt g e').1
  omega
theorem num2_bd {q:Option (List Int)} (hb:∀t,q=some t-> Bytey t):0<= (num2P q).1/\ (num2P q).1<= 4611686018427387903/\ (∀t',(num2P q).2=some t'-> Bytey t'/\ ∃t,q=some t/\ t'.length+1<= t.length):=by
 cases q with
 |none=>exact⟨by simp[num2P],by simp[num2P],λt' h=>by simp[num2P] at h⟩
 |some t=>
  cases hnp:numP t with
  |none=>
   have e:num2P (some t)=(0,none):=by unfold num2P;simp only[hnp]
   rw[e];exact⟨by simp,by simp,λt' h=>by cases h⟩
  |some p=>
   obtain⟨v,t1⟩:=p
   have e:num2P (some t)=(v,some t1):=by unfold num2P;simp only[hnp]
   rw[e]
   have h1:=numP_bd (hb t rfl) hnp
   have h2:=numP_by (hb t rfl) hnp
   exact⟨h1.1,h1.2,λt' h=>by cases h;exact⟨h2.1,t,rfl,h2.2⟩⟩
def sp2P:Nat-> Option (List Int)-> List (Int×Int)×Option (List Int)
 |0,q=>([],q)
 |k+1,q=>match sp2P k q with
  |(l,none)=>(l,none)
  |(l,some t)=>(l++[((num2P (some t)).1,(num2P (some t)).1+(num2P (num2P (some t)).2).1)],if 4611686018427387903 - (num2P (some t)).1 < (num2P (num2P (some t)).2).1 then none else (num2P (num2P (some t)).2).2)
def sps2P (q:Option (List Int)):List (Int×Int)×Option (List Int):=sp2P (num2P q).1.toNat (num2P q).2
theorem sp2P_no {k:Nat} {q:Option (List Int)} {l:List (Int×Int)} (h:sp2P k q=(l,none)):∀j,sp2P (k+j) q=(l,none)
 |0=>h
 |j+1=>by
  have:=sp2P_no h j
  show (match sp2P (k+j) q with|(l,none)=>(l,none)|(l,some t)=>_)=(l,none)
  rw[this]
theorem sp2P_by:∀{k:Nat} {q:Option (List Int)} {l:List (Int×Int)} {t:List Int},(∀t,q=some t-> Bytey t)-> sp2P k q=(l,some t)-> l.length=k/\ Bytey t/\ ∃t0,q=some t0/\ t.length+2*k<= t0.length
 |0,q,l,t,hb,h=>by
  simp only[sp2P,Prod.mk.injEq] at h
  obtain⟨rfl,rfl⟩:=h
  exact⟨rfl,hb t rfl,t,rfl,by simp⟩
 |k+1,q,l,t,hb,h=>by
  simp only[sp2P] at h
  split at h
  ·cases h
  ·rename_i l' t' h1
   obtain⟨q1,q2,t0,q3,q4⟩:=sp2P_by hb h1
   simp only[Prod.mk.injEq] at h
   obtain⟨rfl,h2⟩:=h
   split at h2
   ·cases h2
   ·obtain⟨_,_,b3⟩:=num2_bd (q:=some t') (λt h=>by cases h;exact q2)
    obtain⟨_,_,b6⟩:=num2_bd (q:=(num2P (some t')).2) (λt h=>(b3 t h).1)
    obtain⟨c1,t1,c2,c3⟩:=b6 t h2
    obtain⟨d1,t2,d2,d3⟩:=b3 t1 c2
    cases d2
    exact⟨by simp[q1],c1,t0,q3,by omega⟩
theorem spans2_all (rb g off n c:Nat) (zs:List Int) (q:Option (List Int)) (w:World) (hb:Bytey zs) (h:R2 w rb g off n c zs q) (hgl:g < w.heap.size):
 Calls Tryz.prog 91 #[.pointer (some ⟨rb,0,none⟩)] w λe w'=>(∃v,e=.returned v/\ C.SOwn w' w.heap.size v (sps2P q).1)/\ R2 w' rb g off n c zs (sps2P q).2/\ w.grownBy w' (some rb):=by
 obtain⟨i0,hi,hz0,hz1,hz2⟩:=info_parts C.Tryz.info_span
 have hbq:∀t,q=some t-> Bytey t:=λt ht=>by rw[←(h.tl t ht).2];exact bytey_drop hb _
 have hlq:∀t,q=some t-> t.length<= n:=λt ht=>(h.tl t ht).1
 have hmx:=h.mx.1
 have hrl:=h.rblt
 have hne:=h.ne
 obtain⟨b1,b2,b3⟩:=num2_bd hbq
 have HQ:Hid (sps2P q=sp2P (num2P q).1.toNat (num2P q).2):=rfl
 have HN1:=num2_all rb g off n c zs q w hb h
 rw[HQ.out]
 have hl1:Hid (∀t,(num2P q).2=some t-> t.length<= n):=λt ht=>by
  obtain⟨_,t0,e0,e1⟩:=b3 t ht
  have:=hlq t0 e0
  omega
 have HB1:Hid (∀t,(num2P q).2=some t-> Bytey t):=λt ht=>(b3 t ht).1
 have HBZ:Hid (Bytey zs):=hb
 clear b3 hbq hlq HQ h hb
 generalize (num2P q).1=N at*
 generalize (num2P q).2=q1 at*
 generalize hS:sp2P N.toNat q1=S
 have HS:Hid (sp2P N.toNat q1=S):=hS
 clear hS
 go_enter Tryz.func91,Tryz.ntmps91
 go_wp2_with (go_at_call 92;refine HN1.mono ?_;rintro e w1 ⟨rfl,hr1,hg1⟩)
 have HR1:Hid (R2 w1 rb g off n c zs q1):=hr1
 have HG1:Hid (w.grownBy w1 (some rb)):=hg1
 clear hr1 hg1 HN1
 go_loopw [4,5] (λlv i wr=>∃(k:Nat) (l:List (Int×Int)) (qk:Option (List Int)),(k:Int)<= N/\ i=.int .i64 k/\ sp2P k q1=(l,qk)/\ C.SOwn wr w.heap.size lv l/\ R2 wr rb g off n c zs qk/\ w.grownBy wr (some rb)) (λ_ i _=>(N - intOf i).toNat)
 case atStart=>exact⟨0,[],q1,by omega,rfl,rfl,C.SOwn.nil _ _,HR1.out,HG1.out⟩
 case round=>
  obtain⟨k,l,qk,hk,rfl,hsp,hso,hrd,hgr⟩:=hrel
  have HSP:Hid (sp2P k q1=(l,qk)):=hsp
  have HSO:Hid (C.SOwn wr w.heap.size u4 l):=hso
  have HRD:Hid (R2 wr rb g off n c zs qk):=hrd
  have HGR:Hid (w.grownBy wr (some rb)):=hgr
  have hsw:=hgr.size
  clear hsp hso hrd hgr HR1 HG1
  by_cases hkN:(k:Int) < N
  ·cases qk with
   |none=>
    obtain⟨kk,_,hhb⟩:=HRD.out.hp
    obtain⟨s0,s1,s2,_⟩:=r2_cells hhb
    have HF:Hid (S=(l,none)):=by
     unfold Hid;rw[←HS.out]
     have:=sp2P_no HSP.out (N.toNat - k)
     rw[show k+(N.toNat - k)=N.toNat by omega] at this
     exact this
    clear hhb
    go_wp2
    go_ret
    rw[HF.out]
    exact⟨⟨_,rfl,HSO.out⟩,HRD.out,HGR.out⟩
   |some t=>
    have hhb:wr.heap[rb]?=some (r2O (.slice (some ⟨g,off,none⟩) n c) (n - t.length) false):=HRD.out.hp
    obtain⟨s0,s1,s2,_⟩:=r2_cells hhb
    clear s0 s1 hhb
    obtain⟨hll,hbt,t0,e0,e1⟩:=sp2P_by HB1.out HSP.out
    have hk2:k<= 131072:=by have:=hl1.out t0 e0;omega
    obtain⟨a1,a2,a3⟩:=num2_bd (q:=some t) (λt h=>by cases h;exact hbt)
    obtain⟨c1,c2,_⟩:=num2_bd (q:=(num2P (some t)).2) (λt h=>(a3 t h).1)
    have HN2:=num2_all rb g off n c zs (some t) wr HBZ.out HRD.out
    have HN3:Hid (∀W,R2 W rb g off n c zs (num2P (some t)).2-> Calls Tryz.prog 92 #[.pointer (some ⟨rb,0,none⟩)] W λe w'=>e=.returned (.int .i64 (num2P (num2P (some t)).2).1)/\ R2 w' rb g off n c zs (num2P (num2P (some t)).2).2/\ W.grownBy w' (some rb)):=λW hW=>num2_all rb g off n c zs _ W HBZ.out hW
    have HSP2:Hid (sp2P (k+1) q1=(l++[((num2P (some t)).1,(num2P (some t)).1+(num2P (num2P (some t)).2).1)],if 4611686018427387903 - (num2P (some t)).1 < (num2P (num2P (some t)).2).1 then none else (num2P (num2P (some t)).2).2)):=by unfold Hid;simp only[sp2P,HSP.out]
    clear a3 hbt e0 e1
    generalize (num2P (num2P (some t)).2).2=q3 at*
    generalize (num2P (num2P (some t)).2).1=y at*
    generalize (num2P (some t)).2=q2 at*
    generalize (num2P (some t)).1=x at*
    have hwr:IntKind.i64.wrap (x+y)=x+y:=by rw[IntKind.wrap_i64];omega
    have hws:IntKind.i64.wrap (4611686018427387903 - x)=4611686018427387903 - x:=by rw[IntKind.wrap_i64];omega
    go_upto_region 7 with (go_at_call 92;refine HN2.mono ?_;rintro e w2 ⟨rfl,hr2,hg2⟩;have HR2:Hid (R2 w2 rb g off n c zs q2):=hr2;have HG2:Hid (w.grownBy w2 (some rb)):=grown_trans HGR.out hg2;have HS2:Hid (C.SOwn w2 w.heap.size u4 l):=own_keep6 HSO.out hg2 (by intro j hj;have:=(HSO.out.lt j hj).1;simp;omega);clear hr2 hg2)
    go_upto_region 8 with (go_at_call 92;refine(HN3.out _ HR2.out).mono ?_;rintro e w3 ⟨rfl,hr3,hg3⟩;have HR3:Hid (R2 w3 rb g off n c zs q3):=hr3;have HG3:Hid (w.grownBy w3 (some rb)):=grown_trans HG2.out hg3;have HS3:Hid (C.SOwn w3 w.heap.size u4 l):=own_keep6 HS2.out hg3 (by intro j hj;have:=(HS2.out.lt j hj).1;simp;omega);clear hr3 hg3)
    have hs3:=HG3.out.size
    clear s2 HN2
    by_cases hxy:4611686018427387903 - x < y
    ·have HSP3:Hid (sp2P (k+1) q1=(l++[(x,x+y)],none)):=by have:=HSP2.out;rw[if_pos hxy] at this;exact this
     obtain⟨kk,bb,_,hhb⟩:=HR3.out.some_k
     obtain⟨s0,s1,s2,sf⟩:=r2_cells hhb
     have sf2:=sf 2
     have HR4:Hid (R2 (w3.setCell ⟨rb,2,none⟩ (.bool true)) rb g off n c zs none):=HR3.out.bad
     have HG4:Hid (w.grownBy (w3.setCell ⟨rb,2,none⟩ (.bool true)) (some rb)):=grown_trans HG3.out (grown_set _ _ _ _)
     have HS4:Hid (C.SOwn (w3.setCell ⟨rb,2,none⟩ (.bool true)) w.heap.size u4 l):=own_keep6 HS3.out (grown_set _ _ _ _) (by intro j hj;have:=(HS3.out.lt j hj).1;simp;omega)
     clear hhb sf
     go_upto_region 10 with fail
     clear s0 s1 s2 sf2
     generalize w3.setCell ⟨rb,2,none⟩ (.bool true)=w4 at*
     have hs4:=HG4.out.size
     go_wp2_with (at_builtin;refine wpList_append_own_at _ rfl _ _ 79 rfl w.heap.size 128 i0 (.agg #[.int .i64 0,.int .i64 0]) 2 16 Tryz.underlying79 hi hz0 hz1 hz2 rfl (by decide) _ _ _ rfl (own_below6 HS4.out ((Below.refl _ _).alloc (aqH _) _)) ⟨w4.heap.size,0,none⟩ 1 1 [.int .i64 x,.int .i64 (x+y)] rfl rfl ?c1 ?c2 ?c3 ?c4 ?c5 ?_)
     case c1=>exact C.cell_two_at _ _ _ _ _ (by simp)
     case c2=>intro x hx;simp at hx;rcases hx with rfl|rfl<;>rfl
     case c3=>unfold maxLen;omega
     case c4=>omega
     case c5=>simp;omega
     intro v5 w5 hown5 hgrow5 _ hst5
     have HS5:Hid (C.SOwn w5 w.heap.size v5 (l++[(x,x+y)])):=by
      unfold Hid C.SOwn
      rw[List.length_append,List.flatMap_append,hll]
      exact hown5
     have HG5:Hid (w.grownBy w5 (some rb)):=grown_app HG4.out HS4.out hgrow5
     have HR5:Hid (R2 w5 rb g off n c zs none):=HR4.out.app HS4.out hgrow5 hrl hgl
     clear hown5 hgrow5 hst5
     go_wp2
     go_roundw
     case rel=>exact⟨k+1,l++[(x,x+y)],none,by omega,by go_num,HSP3.out,HS5.out,HR5.out,HG5.out⟩
     case measure=>simp[intOf];omega
    ·have HSP3:Hid (sp2P (k+1) q1=(l++[(x,x+y)],q3)):=by have:=HSP2.out;rw[if_neg hxy] at this;exact this
     have HR4:Hid (R2 w3 rb g off n c zs q3):=HR3.out
     have HG4:Hid (w.grownBy w3 (some rb)):=HG3.out
     have HS4:Hid (C.SOwn w3 w.heap.size u4 l):=HS3.out
     go_upto_region 10 with fail
     go_wp2_with (at_builtin;refine wpList_append_own_at _ rfl _ _ 79 rfl w.heap.size 128 i0 (.agg #[.int .i64 0,.int .i64 0]) 2 16 Tryz.underlying79 hi hz0 hz1 hz2 rfl (by decide) _ _ _ rfl (own_below6 HS4.out ((Below.refl _ _).alloc (aqH _) _)) ⟨w3.heap.size,0,none⟩ 1 1 [.int .i64 x,.int .i64 (x+y)] rfl rfl ?c1 ?c2 ?c3 ?c4 ?c5 ?_)
     try (case c1=>exact C.cell_two_at _ _ _ _ _ (by simp))
     try (case c2=>first|(intro x hx;simp at hx;rcases hx with rfl|rfl<;>rfl)|simp[Value.oneCell'])
     try (case c3=>first|(unfold maxLen;omega)|omega)
     try (case c4=>omega)
     try (case c5=>first|(simp;omega)|omega)
     intro v5 w5 hown5 hgrow5 _ hst5
     have HS5:Hid (C.SOwn w5 w.heap.size v5 (l++[(x,x+y)])):=by
      unfold Hid C.SOwn
      rw[List.length_append,List.flatMap_append,hll]
      exact hown5
     have HG5:Hid (w.grownBy w5 (some rb)):=grown_app HG4.out HS4.out hgrow5
     have HR5:Hid (R2 w5 rb g off n c zs q3):=HR4.out.app HS4.out hgrow5 hrl hgl
     clear hown5 hgrow5 hst5
     go_wp2
     go_roundw
     case rel=>exact⟨k+1,l++[(x,x+y)],q3,by omega,by go_num,HSP3.out,HS5.out,HR5.out,HG5.out⟩
     case measure=>simp[intOf];omega
  ·have hkn:N.toNat=k:=by omega
   have HF:Hid (S=(l,qk)):=by unfold Hid;rw[←HS.out,hkn];exact HSP.out
   have hkN':¬(k:Int) < N:=hkN
   go_wp2
   go_ret
   rw[HF.out]
   exact⟨⟨_,rfl,HSO.out⟩,HRD.out,HGR.out⟩
def byt2P (q:Option (List Int)):List Int×Option (List Int):=match q with
 |none=>([],none)
 |some t=>match bytP t with
  |none=>([],none)
  |some (d,t')=>(d,some t')
theorem byt2_eq (q:Option (List Int)):byt2P q=match (num2P q).2 with
 |none=>([],none)
 |some t1=>if (num2P q).1<= t1.length then (t1.take (num2P q).1.toNat,some (t1.drop (num2P q).1.toNat)) else ([],none):=by
 cases q with
 |none=>rfl
 |some t=>
  unfold byt2P bytP
  cases hn:numP t with
  |none=>
   have e:num2P (some t)=(0,none):=by unfold num2P;simp only[hn]
   rw[e]
   simp only[hn]
  |some p=>
   obtain⟨v,t1⟩:=p
   have e:num2P (some t)=(v,some t1):=by unfold num2P;simp only[hn]
   rw[e]
   by_cases h:v<= t1.length
   ·simp only[hn,if_pos h]
   ·simp only[hn,if_neg h]
theorem bytes2_all (rb g off n c:Nat) (zs:List Int) (q:Option (List Int)) (w:World) (hb:Bytey zs) (h:R2 w rb g off n c zs q) (hgl:g < w.heap.size):
 Calls Tryz.prog 90 #[.pointer (some ⟨rb,0,none⟩)] w λe w'=>(∃v,e=.returned v/\ w'.ownsRow w.heap.size 5 1 v (byt2P q).1.length ((byt2P q).1.map (Value.int .u8)))/\ R2 w' rb g off n c zs (byt2P q).2/\ w.grownBy w' (some rb):=by
 obtain⟨i0,hi,hz0,hz1,hz2⟩:=info_parts Tryz.info_u8
 have hbq:∀t,q=some t-> Bytey t:=λt ht=>by rw[←(h.tl t ht).2];exact bytey_drop hb _
 have hmx:=h.mx.1
 have hmc:=h.mx.2
 have hnc:=h.nc
 have hrl:=h.rblt
 have hne:=h.ne
 obtain⟨b1,b2,_⟩:=num2_bd hbq
 obtain⟨B,hB⟩:∃B,B=byt2P q:=⟨_,rfl⟩
 have HQ:Hid (B=_):=hB.trans (byt2_eq q)
 have HN1:=num2_all rb g off n c zs q w hb h
 rw[←hB]
 clear hbq h hb hB
 generalize (num2P q).1=N at*
 generalize (num2P q).2=q1 at*
 go_enter Tryz.func90,Tryz.ntmps90
 go_upto_region 2 with (go_at_call 92;refine HN1.mono ?_;rintro e w1 ⟨rfl,hr1,hg1⟩)
 have HR1:Hid (R2 w1 rb g off n c zs q1):=hr1
 have HG1:Hid (w.grownBy w1 (some rb)):=hg1
 have hs1:=hg1.size
 clear hr1 hg1 HN1
 have HBAD:Hid (∀nq,R2 ((w1.drewN nq).setCell ⟨rb,2,none⟩ (.bool true)) rb g off n c zs none/\ w.grownBy ((w1.drewN nq).setCell ⟨rb,2,none⟩ (.bool true)) (some rb)):=λnq=>
  ⟨(HR1.out.keep (row:=none) (C.grown_drewN w1 nq none) (by simp) (by simp)).bad,grown_trans (grown_trans HG1.out (C.grown_drewN _ _ _)) (grown_set _ _ _ _)⟩
 cases q1 with
 |none=>
  obtain⟨kk,_,hhb⟩:=HR1.out.hp
  obtain⟨s0,s1,s2,sf⟩:=r2_cells hhb
  have sf2:=sf 2
  clear hhb sf s0 s1
  have HV:Hid (B=([],none)):=HQ.out
  clear HQ
  go_quiet (fail)
  go_wp2
  go_ret
  rw[HV.out]
  exact⟨⟨_,rfl,World.ownsRow_nil _ _ _ _⟩,(HBAD.out _).1,(HBAD.out _).2⟩
 |some t1=>
  have hhb:w1.heap[rb]?=some (r2O (.slice (some ⟨g,off,none⟩) n c) (n - t1.length) false):=HR1.out.hp
  obtain⟨hl1,hd1⟩:=HR1.out.tl t1 rfl
  obtain⟨s0,s1,s2,sf⟩:=r2_cells hhb
  have sf2:=sf 2
  obtain⟨F,hF⟩:∃F:Nat,F=n - t1.length:=⟨_,rfl⟩
  rw[←hF] at s1
  obtain⟨a,ha⟩:∃a:Int,a=(F:Int):=⟨_,rfl⟩
  rw[←ha] at s1
  have ha0:0<= a:=by omega
  have ha1:a<= (n:Int):=by omega
  have hwn:IntKind.i64.wrap ((n:Int) - a)=(n:Int) - a:=by rw[IntKind.wrap_i64];omega
  have HAE:Hid (a=(F:Int)/\ F=n - t1.length):=⟨ha,hF⟩
  have HD1:Hid (t1.length<= n/\ zs.drop (n - t1.length)=t1):=⟨hl1,hd1⟩
  have HHB:Hid (w1.heap[rb]?=some (r2O (.slice (some ⟨g,off,none⟩) n c) (n - t1.length) false)):=hhb
  have hFt:F+t1.length=n:=by omega
  clear hhb sf hd1 hF
  by_cases hNt:N<= t1.length
  ·have hle:¬(n:Int) - a < N:=by omega
   have HV:Hid (B=(t1.take N.toNat,some (t1.drop N.toNat))):=by have:=HQ.out;simp only[if_pos hNt] at this;exact this
   clear ha HQ
   go_quiet (fail)
   obtain⟨w2,hw2⟩:∃x,x=w1.drewN nq:=⟨_,rfl⟩
   rw[←hw2]
   have HR2:Hid (R2 w2 rb g off n c zs (some t1)):=by rw[hw2];exact HR1.out.keep (row:=none) (C.grown_drewN w1 nq none) (by simp) (by simp)
   have HG2:Hid (w.grownBy w2 (some rb)):=by rw[hw2];exact grown_trans HG1.out (C.grown_drewN _ _ _)
   have HH2:Hid (w2.heap[rb]?=some (r2O (.slice (some ⟨g,off,none⟩) n c) (n - t1.length) false)):=by rw[hw2];exact HHB.out
   have hs2:w.heap.size<= w2.heap.size:=HG2.out.size
   clear s0 s1 s2 sf2 hw2 HR1 HG1 HHB hs1 HBAD
   obtain⟨m,rfl⟩:∃m:Nat,N=(m:Int):=⟨N.toNat,by omega⟩
   obtain⟨s0,s1,s2,sf⟩:=r2_cells HH2.out
   have sf1:=sf 1
   rw[←HAE.out.2] at s1
   have hFa:=HAE.out.1
   subst hFa
   have ham:(F:Int)+(m:Int)<= (n:Int):=by have:=HAE.out.2;omega
   have hF0:(0:Int)<= (F:Int):=by omega
   obtain⟨T,hT⟩:∃T:Nat,T=F+m:=⟨_,rfl⟩
   have hFm:(F:Int)<= (T:Int):=by omega
   have hac:(T:Int)<= (c:Int):=by omega
   have hwm:IntKind.i64.wrap ((F:Int)+(m:Int))=(T:Int):=by rw[IntKind.wrap_i64];omega
   have HTF:Hid (T=F+m):=hT
   have hTm:T - F=m:=by omega
   clear hT
   have HNW:Hid (∀W:World,W.heap[g]?=w2.heap[g]?-> ∀j u,((t1.take m).map (Value.int .u8))[j]?=some u-> W.cell? ((⟨g,off+F,none⟩:Addr).add j)=some u):=λW hW j u hj=>by
    have hjl:j < m/\ j < t1.length:=by
     have:=(List.getElem?_eq_some_iff.mp hj).1
     rw[List.length_map,List.length_take] at this
     omega
    have hat:F=n - t1.length:=HAE.out.2
    rw[List.getElem?_map,List.getElem?_take,if_pos hjl.1] at hj
    rw[show (⟨g,off+F,none⟩:Addr).add j=⟨g,off+(n - t1.length+j),none⟩ from by rw[←hat];unfold Addr.add;split<;>simp_all [Nat.add_assoc]]
    have h1:=HR2.out.cl (n - t1.length+j) (by have:=HD1.out.1;omega)
    have h2:W.cell? ⟨g,off+(n - t1.length+j),none⟩=w2.cell? ⟨g,off+(n - t1.length+j),none⟩:=by simp only[World.cell?];rw[hW]
    rw[h2,h1]
    have h3:zs[n - t1.length+j]?=t1[j]?:=by rw[←List.getElem?_drop,HD1.out.2]
    rw[List.getD_eq_getElem?_getD,h3]
    rw[List.getElem?_eq_getElem hjl.2] at hj ⊢
    simpa using hj
   have htm:(t1.take m).length=m:=by rw[List.length_take];omega
   have HNV:Hid (((t1.take m).map (Value.int .u8)).length=m*1/\ ∀u∈(t1.take m).map (Value.int .u8),u.oneCell'=true):=⟨by rw[List.length_map,htm,Nat.mul_one],λu hu=>by obtain⟨y,_,rfl⟩:=List.mem_map.mp hu;rfl⟩
   go_upto_region 6 with fail
   clear sf s2
   by_cases hca:c=F
   ·have HM0:Hid (m=0):=by unfold Hid;omega
    have hac2:(T:Int)<= (F:Int):=by omega
    go_region_law (first
     |(refine step_append_at rfl (.tmp 28) (.tmp 43) 35 rfl w.heap.size 5 i0 (.int .u8 0) 1 1 Tryz.underlying35 hi hz0 hz1 hz2 rfl (by decide) (.slice none 0 0) 0 [] (by first|rfl|simp[Act.eval,Act.put]) (World.ownsRow_nil _ _ _ _) ⟨g,off,none⟩ m _ ((t1.take m).map (Value.int .u8)) (by first|rfl|simp[Act.eval,Act.put]) HNV.out.1 (λj u hj=>by exfalso;have h1:=(List.getElem?_eq_some_iff.mp hj).1;rw[HNV.out.1,HM0.out] at h1;omega) HNV.out.2 (by unfold maxLen;omega) (by omega) (by simp;omega) ?_
       intro v6 w6 hown6 hgrow6 hat6))
    all_goals (
     have HS6:Hid (w6.ownsRow w.heap.size 5 1 v6 m ((t1.take m).map (Value.int .u8))):=by
      have:=hown6;rw[Nat.zero_add,List.nil_append] at this;exact this
     have hgw:w2.grownBy w6 none:=grown_trans (C.grown_drewN w2 1 none) hgrow6
     have HR6:Hid (R2 w6 rb g off n c zs (some t1)):=HR2.out.keep hgw (by simp) (by simp)
     have HG6:Hid (w.grownBy w6 (some rb)):=grow_below HG2.out (B:=w2.heap.size) ⟨hgw.os,hgw.tape,hgw.output,hgw.size,λk hk=>hgw.block k hk (by simp)⟩ hs2
     clear hown6 hgrow6 hat6 hgw s0 s1 sf1
     have hh6:w6.heap[rb]?=some (r2O (.slice (some ⟨g,off,none⟩) n c) (n - t1.length) false):=HR6.out.hp
     have HH6:Hid (w6.heap[rb]?=some (r2O (.slice (some ⟨g,off,none⟩) n c) F false)):=by rw[←HAE.out.2] at hh6;exact hh6
     obtain⟨z0,z1,z2,zf⟩:=r2_cells HH6.out
     have zf1:=zf 1
     clear hh6 zf
     have HH7:Hid ((w6.setCell ⟨rb,1,none⟩ (.int .i64 T)).heap[rb]?=some (r2O (.slice (some ⟨g,off,none⟩) n c) T false)):=by unfold Hid;simp[World.setCell,Array.getElem?_modify,HH6.out]
     have HR7:Hid (R2 (w6.setCell ⟨rb,1,none⟩ (.int .i64 T)) rb g off n c zs (some (t1.drop m))):=by
      have htl:=tail_of HR6.out.le HD1.out.1 HD1.out.2 (List.take_append_drop m t1).symm
      refine HR6.out.grown (grown_set _ _ _ _) ?_ (λt ht=>by cases ht;exact htl)
      show _=some (r2O _ (n - (t1.drop m).length) false)
      have e:n - (t1.drop m).length=T:=by rw[List.length_drop,HTF.out];have:=HAE.out.2;omega
      rw[e];exact HH7.out
     have HG7:Hid (w.grownBy (w6.setCell ⟨rb,1,none⟩ (.int .i64 T)) (some rb)):=grown_trans HG6.out (grown_set _ _ _ _)
     have HS7:Hid ((w6.setCell ⟨rb,1,none⟩ (.int .i64 T)).ownsRow w.heap.size 5 1 v6 m ((t1.take m).map (Value.int .u8))):=own_keep6 HS6.out (grown_set _ _ _ _) (by intro j hj;have:=(HS6.out.lt j hj).1;simp;omega)
     go_wp2
     go_ret
     rw[HV.out]
     refine⟨⟨_,rfl,?_⟩,?_,HG7.out⟩
     ·show World.ownsRow _ _ _ 1 _ (t1.take ((m:Int).toNat)).length _
      rw[Int.toNat_natCast,htm]
      exact HS7.out
     ·show R2 _ _ _ _ _ _ _ (some (t1.drop ((m:Int).toNat)))
      rw[Int.toNat_natCast]
      first|exact HR7.out|exact hca ▸ HR7.out)
   ·go_region_law (first
     |(refine step_append_at rfl (.tmp 28) (.tmp 43) 35 rfl w.heap.size 5 i0 (.int .u8 0) 1 1 Tryz.underlying35 hi hz0 hz1 hz2 rfl (by decide) (.slice none 0 0) 0 [] (by first|rfl|simp[Act.eval,Act.put]) (World.ownsRow_nil _ _ _ _) ⟨g,off+F,none⟩ m (c - F) ((t1.take m).map (Value.int .u8)) (by first|rfl|simp[Act.eval,Act.put]) HNV.out.1 (HNW.out _ rfl) HNV.out.2 (by unfold maxLen;omega) (by omega) (by simp;omega) ?_
       intro v6 w6 hown6 hgrow6 hat6))
    all_goals (
     have HS6:Hid (w6.ownsRow w.heap.size 5 1 v6 m ((t1.take m).map (Value.int .u8))):=by
      have:=hown6;rw[Nat.zero_add,List.nil_append] at this;exact this
     have hgw:w2.grownBy w6 none:=grown_trans (C.grown_drewN w2 1 none) hgrow6
     have HR6:Hid (R2 w6 rb g off n c zs (some t1)):=HR2.out.keep hgw (by simp) (by simp)
     have HG6:Hid (w.grownBy w6 (some rb)):=grow_below HG2.out (B:=w2.heap.size) ⟨hgw.os,hgw.tape,hgw.output,hgw.size,λk hk=>hgw.block k hk (by simp)⟩ hs2
     clear hown6 hgrow6 hat6 hgw s0 s1 sf1
     have hh6:w6.heap[rb]?=some (r2O (.slice (some ⟨g,off,none⟩) n c) (n - t1.length) false):=HR6.out.hp
     have HH6:Hid (w6.heap[rb]?=some (r2O (.slice (some ⟨g,off,none⟩) n c) F false)):=by rw[←HAE.out.2] at hh6;exact hh6
     obtain⟨z0,z1,z2,zf⟩:=r2_cells HH6.out
     have zf1:=zf 1
     clear hh6 zf
     have HH7:Hid ((w6.setCell ⟨rb,1,none⟩ (.int .i64 T)).heap[rb]?=some (r2O (.slice (some ⟨g,off,none⟩) n c) T false)):=by unfold Hid;simp[World.setCell,Array.getElem?_modify,HH6.out]
     have HR7:Hid (R2 (w6.setCell ⟨rb,1,none⟩ (.int .i64 T)) rb g off n c zs (some (t1.drop m))):=by
      have htl:=tail_of HR6.out.le HD1.out.1 HD1.out.2 (List.take_append_drop m t1).symm
      refine HR6.out.grown (grown_set _ _ _ _) ?_ (λt ht=>by cases ht;exact htl)
      show _=some (r2O _ (n - (t1.drop m).length) false)
      have e:n - (t1.drop m).length=T:=by rw[List.length_drop,HTF.out];have:=HAE.out.2;omega
      rw[e];exact HH7.out
     have HG7:Hid (w.grownBy (w6.setCell ⟨rb,1,none⟩ (.int .i64 T)) (some rb)):=grown_trans HG6.out (grown_set _ _ _ _)
     have HS7:Hid ((w6.setCell ⟨rb,1,none⟩ (.int .i64 T)).ownsRow w.heap.size 5 1 v6 m ((t1.take m).map (Value.int .u8))):=own_keep6 HS6.out (grown_set _ _ _ _) (by intro j hj;have:=(HS6.out.lt j hj).1;simp;omega)
     go_wp2
     go_ret
     rw[HV.out]
     refine⟨⟨_,rfl,?_⟩,?_,HG7.out⟩
     ·show World.ownsRow _ _ _ 1 _ (t1.take ((m:Int).toNat)).length _
      rw[Int.toNat_natCast,htm]
      exact HS7.out
     ·show R2 _ _ _ _ _ _ _ (some (t1.drop ((m:Int).toNat)))
      rw[Int.toNat_natCast]
      first|exact HR7.out|exact hca ▸ HR7.out)
  ·have hgt:(n:Int) - a < N:=by omega
   have HV:Hid (B=([],none)):=by have:=HQ.out;simp only[if_neg hNt] at this;exact this
   clear ha HQ
   go_quiet (fail)
   go_wp2
   go_ret
   rw[HV.out]
   exact⟨⟨_,rfl,World.ownsRow_nil _ _ _ _⟩,(HBAD.out _).1,(HBAD.out _).2⟩
theorem pow_mono {a b:Nat} (h:a<= b):(128:Int) ^ a<= 128 ^ b:=by
 have:=Nat.pow_le_pow_right (n:=128) (by omega) h
 exact_mod_cast this
theorem div_pow (n:Int) (k:Nat):n / 128 ^ (k+1) / 128=n / 128 ^ (k+1+1):=by
 rw[Int.pow_succ (128:Int) (k+1),Int.ediv_ediv_of_nonneg (Int.pow_nonneg (by omega))]
theorem tl_rev (n:Int) (k:Nat):(tl n (k+1)).reverse=(tl n k).reverse++[n / 128 ^ (k+1) % 128+128]:=by
 show ((n / 128 ^ (k+1) % 128+128)::tl n k).reverse=_
 rw[List.reverse_cons]
def lowV (n:Int) (k:Nat):List Value:=(tl n k).reverse.map (Value.int .u8)
theorem more_digits {n:Int} {k:Nat} (h0:0<= n) (h1:n<= 18446744073709551615) (h:0 < n / 128 ^ (k+1)):k+1 < sz n:=by
 have hb:=sz_bounds n h0 h1
 rcases Nat.lt_or_ge (k+1) (sz n) with q|q
 ·exact q
 ·exfalso
  have h2:(128:Int) ^ sz n<= 128 ^ (k+1):=pow_mono q
  have h3:n < 128 ^ (k+1):=by omega
  rw[Int.ediv_eq_zero_of_lt h0 h3] at h
  omega
theorem all_digits {n:Int} {k:Nat} (h0:0<= n) (h1:n<= 18446744073709551615) (h:¬0 < n / 128 ^ (k+1)) (hk:k+1<= sz n):k+1=sz n:=by
 have hb:=sz_bounds n h0 h1
 rcases Nat.lt_or_ge (k+1) (sz n) with q|q
 ·exfalso
  have h2:=hb.2.2.2 (by omega)
  have h3:(128:Int) ^ (k+1)<= 128 ^ (sz n - 1):=pow_mono (by omega)
  have hp:(0:Int) < 128 ^ (k+1):=Int.pow_pos (by omega)
  have h4:1<= n / 128 ^ (k+1):=by rw[Int.le_ediv_iff_mul_le hp];omega
  omega
 ·omega
theorem own_pos7 {w:World} {base n sz:Nat} {e:TypeId} {v:Value} {xs:List Value} (h:w.ownsRow base e sz v n xs) (hn:0 < n):∃g cap,v=.slice (some ⟨g,0,none⟩) n cap/\ base<= g:=by
 obtain⟨_,⟨rfl,rfl⟩|⟨g,cap,cur,rfl,hb,_⟩⟩:=h
 ·omega
 ·exact⟨g,cap,rfl,hb⟩
theorem own_low {w:World} {base n:Nat} {e:TypeId} {v:Value} {xs:List Value} {g:Nat} (h:w.ownsRow base e 1 v n xs) (hg:v.ownBlock=some g):g < w.heap.size:=(h.lt g hg).2
theorem number2_any (v:Value) (m:Nat) (xs:List Value) (base:Nat) (n:Int) (w:World) (h0:0<= n) (h1:n<= 4611686018427387903)
 (hown:w.ownsRow base 5 1 v m xs) (hbase:base<= w.heap.size) (hm:m+10<= 140737488355328):
 Calls Tryz.prog 87 #[v,.int .i64 n] w λe w'=>∃v',e=.returned v'/\
  w'.ownsRow base 5 1 v' (m+sz n) (xs++(enc n).map (Value.int .u8))/\ Below base w w'/\ Keeps8 w w':=by
 obtain⟨i0,hi,hz0,hz1,hz2⟩:=info_parts Tryz.info_u8
 have hsz:=sz_bounds n h0 (by omega)
 have HOW:Hid (w.ownsRow base 5 1 v m xs):=hown
 have hm0:0<= n % 128/\ n % 128 < 128:=by omega
 have HD1:Hid (n / 128=n / 128 ^ (0+1)):=by unfold Hid;rfl
 have HNN:Hid (0<= n/\ n<= 18446744073709551615):=⟨h0,by omega⟩
 clear hown
 go_enter Tryz.func87,Tryz.ntmps87
 go_wp2_with (at_builtin;refine append_any _ rfl _ _ 35 rfl w.heap.size 5 i0 (.int .u8 0) 1 Tryz.underlying35 hi hz0 hz1 hz2 rfl _ 0 [] rfl (World.ownsRow_nil _ _ _ _) .u8 _ _ _ [n % 128] rfl (by intro h;cases h) rfl (Blk.lies (k:=.u8) (t:=5) (xs:=[n % 128]) (by exact heap_new6 _ _) 1) (by unfold maxLen;omega) (by omega) (by simp) ?_;intro v1 w1 ho1 hg1)
 have HO1:Hid (w1.ownsRow w.heap.size 5 1 v1 (0+1) (lowV n 0)):=ho1
 have HB1:Hid (Below w.heap.size w w1):=own_grown ((Below.refl _ _).alloc (aqH _) _) (show World.grownBy _ w1 (Value.slice none 0 0).ownBlock from hg1) (World.ownsRow_nil _ w.heap.size 5 1) (by simp)
 clear ho1 hg1
 rw[HD1.out]
 go_loopw [1,5] (λt lo wr=>∃k:Nat,k+1<= sz n/\ t=.int .i64 (n / 128 ^ (k+1))/\ wr.ownsRow w.heap.size 5 1 lo (k+1) (lowV n k)/\ Below w.heap.size w wr) (λt _ _=>(intOf t).toNat)
 case atStart=>exact⟨0,by omega,rfl,HO1.out,HB1.out⟩
 case round=>
  obtain⟨k,hk,rfl,ho,hb⟩:=hrel
  have HO:Hid (wr.ownsRow w.heap.size 5 1 u5 (k+1) (lowV n k)):=ho
  have HB:Hid (Below w.heap.size w wr):=hb
  clear ho hb HO1 HB1 HD1
  have hd0:0<= n / 128 ^ (k+1):=Int.ediv_nonneg h0 (Int.pow_nonneg (by omega))
  have HDV:Hid (n / 128 ^ (k+1) / 128=n / 128 ^ (k+1+1)):=div_pow n k
  have HTR:Hid (lowV n (k+1)=lowV n k++[128+n / 128 ^ (k+1) % 128].map (Value.int .u8)):=by unfold Hid lowV;rw[tl_rev,List.map_append,Int.add_comm]
  have HMO:Hid (0 < n / 128 ^ (k+1)-> k+1 < sz n):=more_digits HNN.out.1 HNN.out.2
  have HAL:Hid (¬0 < n / 128 ^ (k+1)-> k+1=sz n):=λh=>all_digits HNN.out.1 HNN.out.2 h hk
  have hd1:n / 128 ^ (k+1)<= n:=Int.ediv_le_self _ h0
  generalize n / 128 ^ (k+1)=d at*
  by_cases hp:0 < d
  ·have hk2:=HMO.out hp
   have hdm:0<= d % 128/\ d % 128 < 128:=by omega
   have hsw:=HB.out.size
   go_wp2_with (at_builtin;refine append_any _ rfl _ _ 35 rfl w.heap.size 5 i0 (.int .u8 0) 1 Tryz.underlying35 hi hz0 hz1 hz2 rfl _ _ _ rfl (own_below6 HO.out ((Below.refl _ _).alloc (aqH _) _)) .u8 _ _ _ [128+d % 128] rfl (by intro h;cases h) rfl (Blk.lies (k:=.u8) (t:=5) (xs:=[128+d % 128]) (by exact heap_new6 _ _) 1) (by unfold maxLen;omega) (by omega) (by simp;omega) ?_;intro v2 w2 ho2 hg2)
   have HO2:Hid (w2.ownsRow w.heap.size 5 1 v2 (k+1+1) (lowV n (k+1))):=by
    unfold Hid
    rw[HTR.out]
    exact ho2
   have HB2:Hid (Below w.heap.size w w2):=own_grown (HB.out.alloc hsw _) hg2 (own_below6 HO.out ((Below.refl _ _).alloc (aqH _) _)) (by simp;omega)
   go_roundw
   case rel=>exact⟨k+1,by omega,by rw[HDV.out],HO2.out,HB2.out⟩
   case measure=>simp[intOf];omega
  ·have hks:=HAL.out hp
   obtain⟨gl,cl,rfl,hgl⟩:=own_pos7 HO.out (by omega)
   have HEN:Hid (enc n=tl n k):=by unfold Hid enc;rw[←hks];rfl
   have hlow:∀j,j < k+1-> wr.cell? ⟨gl,j,none⟩=some (.int .u8 ((enc n).getD (k - j) 0)):=λj hj=>by
    rw[World.ownsRow.cellAt HO.out j (by omega),HEN.out]
    unfold lowV
    rw[List.getElem?_map,List.getElem?_reverse (by rw[tl_length];exact hj),tl_length,List.getD_eq_getElem?_getD]
    have hl:k - j < (tl n k).length:=by rw[tl_length];omega
    rw[show k+1 - 1 - j=k - j by omega,List.getElem?_eq_getElem hl]
    rfl
   have HHB:Hid (∃cs,wr.heap[gl]?=some (.cells cs 5 (0,0))):=by
    obtain⟨_,⟨h,_⟩|⟨g,cap,cur,hv,_,hh,_⟩⟩:=HO.out
    ·cases h
    ·simp only[Value.slice.injEq,aqG,Addr.mk.injEq] at hv
     obtain⟨⟨rfl,_⟩,_⟩:=hv
     exact⟨cur,hh⟩
   have hel:(enc n).length=k+1:=by rw[HEN.out,tl_length]
   have HEL:Hid ((enc n).length=k+1):=hel
   have HLOW:Hid (∀j,j < k+1-> wr.cell? ⟨gl,j,none⟩=some (.int .u8 ((enc n).getD (k - j) 0))):=hlow
   have HV:Hid (wr.ownsRow base 5 1 v m xs):=own_below6 HOW.out HB.out
   have HVB:Hid (∀g,v.ownBlock=some g-> g < w.heap.size):=λg hg=>own_low HOW.out hg
   have HBB:Hid (Below base w wr):=HB.out.mono hbase
   have hglw:gl < wr.heap.size:=by obtain⟨cs,hc⟩:=HHB.out;exact(Array.getElem?_eq_some_iff.mp hc).1
   have HKW:Hid (Keeps8 w wr):=Keeps8.below HB.out
   have hwk:IntKind.i64.wrap ((k:Int)+1 - 1)=(k:Int):=by rw[IntKind.wrap_i64];omega
   have hk9:k+1<= 10:=by omega
   have HRES:Hid (sz n=k+1):=hks.symm
   clear hlow hel HO HTR HDV HMO HAL hks HOW HEN hd0 hd1 hk HNN
   have hsw:=HB.out.size
   go_wp2_with fail
   obtain⟨w4,h4⟩:∃x,x=wr:=⟨_,rfl⟩
   subst h4
   go_loopw [0,6] (λb i wx=>∃j:Nat,j<= k+1/\ i=.int .i64 ((j:Int) - 1)/\ wx.ownsRow base 5 1 b (m+(k+1 - j)) (xs++((enc n).take (k+1 - j)).map (Value.int .u8))/\ b.ownBlock≠some gl/\ wx.heap[gl]?=w4.heap[gl]?/\ w4.heap.size<= wx.heap.size/\ Below base w wx/\ Keeps8 w wx) (λ_ i _=>(intOf i+1).toNat)
   case atStart=>
    refine⟨k+1,aqH _,by first|rfl|(congr 1;omega)|go_num,?_,λh=>?_,rfl,aqH _,HBB.out,HKW.out⟩
    ·rw[Nat.sub_self,List.take_zero,List.map_nil,List.append_nil];exact HV.out
    ·have:=HVB.out _ h;omega
   case round=>
    obtain⟨j,hj,rfl,ho,hne,hgb,hsx,hbx,hkx⟩:=hrel
    have HOx:Hid (wr.ownsRow base 5 1 u0 (m+(k+1 - j)) (xs++((enc n).take (k+1 - j)).map (Value.int .u8))):=ho
    have HNE:Hid (u0.ownBlock≠some gl):=hne
    have HGB:Hid (wr.heap[gl]?=w4.heap[gl]?):=hgb
    have HBX:Hid (Below base w wr):=hbx
    have HKX:Hid (Keeps8 w wr):=hkx
    clear ho hne hgb hbx hkx
    by_cases hj1:1<= j
    ·have hj1':0<= (j:Int) - 1:=by omega
     have hc:wr.cell? ⟨gl,j - 1,none⟩=some (.int .u8 ((enc n).getD (k+1 - j) 0)):=by
      have h2:=HLOW.out (j - 1) (by omega)
      rw[show k - (j - 1)=k+1 - j by omega] at h2
      have h3:wr.cell? ⟨gl,j - 1,none⟩=w4.cell? ⟨gl,j - 1,none⟩:=by simp only[World.cell?];rw[HGB.out]
      rw[h3];exact h2
     have HTK:Hid ((enc n).take (k+1 - (j - 1))=(enc n).take (k+1 - j)++[(enc n).getD (k+1 - j) 0]):=by
      unfold Hid
      rw[show k+1 - (j - 1)=(k+1 - j)+1 by omega]
      exact take_snoc' _ _ (by rw[HEL.out];omega)
     generalize (enc n).getD (k+1 - j) 0=y at*
     have hnj:((j:Int) - 1).toNat=j - 1:=by omega
     have hjl:(j:Int) - 1 < (k:Int)+1:=by omega
     have hcx:wr.cell? ⟨gl,((j:Int) - 1).toNat,none⟩=some (.int .u8 y):=by rw[hnj];exact hc
     have hwj:IntKind.i64.wrap ((j:Int) - 1 - 1)=(j:Int) - 1 - 1:=by rw[IntKind.wrap_i64];omega
     have hsb:=HBX.out.size
     go_wp2_with (at_builtin;refine append_at _ rfl _ _ 35 rfl base 5 i0 (.int .u8 0) 1 Tryz.underlying35 hi hz0 hz1 hz2 rfl _ _ _ rfl (own_below6 HOx.out ((Below.refl _ _).alloc (aqH _) _)) .u8 _ _ _ [y] rfl (by intro h;cases h) rfl (Blk.lies (k:=.u8) (t:=5) (xs:=[y]) (by exact heap_new6 _ _) 1) (by unfold maxLen;omega) (by omega) (by simp;omega) ?_;intro v2 w2 ho2 hg2 hst2)
     have HOA:=own_below6 HOx.out ((Below.refl _ _).alloc (aqH _) (.cells #[.int .u8 y] 5))
     have HO2:Hid (w2.ownsRow base 5 1 v2 (m+(k+1 - (j - 1))) (xs++((enc n).take (k+1 - (j - 1))).map (Value.int .u8))):=by
      unfold Hid
      rw[HTK.out,List.map_append,←List.append_assoc]
      exact grow_to ho2 (by omega)
     have HG2:Hid (w2.heap[gl]?=w4.heap[gl]?):=(hg2.block gl (by simp;omega) (λh=>HNE.out h.symm)).trans ((Below.heap_alloc wr _ gl (by omega)).trans HGB.out)
     have HN2:Hid (v2.ownBlock≠some gl):=λh=>by
      rcases hst2 gl h with q|q
      ·exact HNE.out q
      ·simp at q;omega
     have HK2:Hid (Keeps8 w w2):=(HKX.out.trans (Keeps8.below ((Below.refl _ _).alloc (aqH _) _))).trans (Keeps8.grown HOA hg2)
     have HB2:Hid (Below base w w2):=own_grown (HBX.out.alloc (by omega) _) hg2 HOA (by simp;omega)
     have hz2':w4.heap.size<= w2.heap.size:=by have:=hg2.size;simp at this;omega
     go_roundw
     case rel=>exact⟨j - 1,by omega,congrArg (Value.int IntKind.i64) (by omega),HO2.out,HN2.out,HG2.out,hz2',HB2.out,HK2.out⟩
     case measure=>simp[intOf];omega
    ·obtain rfl:j=0:=by omega
     have HFIN:Hid (wr.ownsRow base 5 1 u0 (m+sz n) (xs++(enc n).map (Value.int .u8))):=by
      unfold Hid
      have h:=HOx.out
      rw[Nat.sub_zero,←HEL.out,List.take_length] at h
      rw[HRES.out,←HEL.out]
      exact h
     clear HOx
     go_wp2
     go_ret
     exact⟨_,rfl,HFIN.out,HBX.out,HKX.out⟩
def ltB (r:Rc) (c:UInt8):List Int:=if c=68 then enc r.data.length++r.data else if c=83 then spB r.spans else enc (nmA r (ltL.idxOf c))
def letOk (k:Int) (c:UInt8):Bool:=(c == 68 && hasB (kf k) 9) || ((c == 83 && hasB (kf k) 8) || ltL.contains c)
theorem let_all {k:Int} (h:kf k≠0):(fsB k).all (letOk k)=true:=by
 rcases kf_cases h with rfl|rfl|rfl|rfl|rfl|rfl|rfl|rfl|rfl|rfl|rfl|rfl<;>decide
theorem let_cases {k:Int} (h:kf k≠0) {c:UInt8} (hc:c∈fsB k):(c=68/\ hasB (kf k) 9=true)∨(c=83/\ hasB (kf k) 8=true)∨∃j,j < 8/\ c=ltL.getD j 0:=by
 have h1:=List.all_eq_true.mp (let_all h) c hc
 unfold letOk at h1
 simp only[Bool.or_eq_true,Bool.and_eq_true,beq_iff_eq] at h1
 rcases h1 with h1|h1|h1
 ·exact .inl h1
 ·exact .inr (.inl h1)
 ·right;right
  have h2:c∈ltL:=List.contains_iff_mem.mp h1
  obtain⟨j,hj⟩:=List.getElem?_of_mem h2
  have hl:j < ltL.length:=(List.getElem?_eq_some_iff.mp hj).1
  exact⟨j,hl,by rw[List.getD_eq_getElem?_getD,hj];rfl⟩
theorem nmB_zero (f:Int) (r:Rc):nmB f r 0=[]:=rfl
theorem ltB68 (r:Rc):ltB r 68=enc r.data.length++r.data:=by unfold ltB;rw[if_pos rfl]
theorem ltB83 (r:Rc):ltB r 83=spB r.spans:=by unfold ltB;rw[if_neg (by decide),if_pos rfl]
theorem ltBn (r:Rc) (j:Nat) (hj:j < 8):ltB r (ltL.getD j 0)=enc (nmA r j):=by
 have:j=0∨j=1∨j=2∨j=3∨j=4∨j=5∨j=6∨j=7:=by omega
 rcases this with rfl|rfl|rfl|rfl|rfl|rfl|rfl|rfl<;>(unfold ltB;rw[if_neg (by decide),if_neg (by decide)];rfl)
theorem ltB79 (r:Rc):ltB r 79=enc (nmA r 0):=ltBn r 0 (by decide)
theorem ltB78 (r:Rc):ltB r 78=enc (nmA r 1):=ltBn r 1 (by decide)
theorem ltB80 (r:Rc):ltB r 80=enc (nmA r 2):=ltBn r 2 (by decide)
theorem ltB86 (r:Rc):ltB r 86=enc (nmA r 3):=ltBn r 3 (by decide)
theorem ltB70 (r:Rc):ltB r 70=enc (nmA r 4):=ltBn r 4 (by decide)
theorem ltB82 (r:Rc):ltB r 82=enc (nmA r 5):=ltBn r 5 (by decide)
theorem ltB90 (r:Rc):ltB r 90=enc (nmA r 6):=ltBn r 6 (by decide)
theorem ltB72 (r:Rc):ltB r 72=enc (nmA r 7):=ltBn r 7 (by decide)
theorem prl1 (r:Rc) (h:r.kind=1):prB r=r.kind::(fsB r.kind).flatMap (ltB r):=by
 unfold prB tailB
 rw[h]
 have e0:hasB (kf 1) 0=true:=by decide
 have e1:hasB (kf 1) 1=false:=by decide
 have e2:hasB (kf 1) 2=false:=by decide
 have e3:hasB (kf 1) 3=false:=by decide
 have e4:hasB (kf 1) 4=false:=by decide
 have e5:hasB (kf 1) 5=false:=by decide
 have e6:hasB (kf 1) 6=true:=by decide
 have e7:hasB (kf 1) 7=false:=by decide
 have e8:hasB (kf 1) 8=false:=by decide
 have e9:hasB (kf 1) 9=false:=by decide
 have hf:fsB 1=[79,90]:=by decide
 rw[hf]
 simp only[nmB_succ,nmB_zero,e0,e1,e2,e3,e4,e5,e6,e7,e8,e9,if_true,Bool.false_eq_true,if_false,List.nil_append,List.append_nil,List.flatMap_cons,List.flatMap_nil,ltB68,ltB83,ltB79,ltB78,ltB80,ltB86,ltB70,ltB82,ltB90,ltB72,List.append_assoc]
theorem prl2 (r:Rc) (h:r.kind=2):prB r=r.kind::(fsB r.kind).flatMap (ltB r):=by
 unfold prB tailB
 rw[h]
 have e0:hasB (kf 2) 0=false:=by decide
 have e1:hasB (kf 2) 1=false:=by decide
 have e2:hasB (kf 2) 2=false:=by decide
 have e3:hasB (kf 2) 3=false:=by decide
 have e4:hasB (kf 2) 4=false:=by decide
 have e5:hasB (kf 2) 5=false:=by decide
 have e6:hasB (kf 2) 6=true:=by decide
 have e7:hasB (kf 2) 7=false:=by decide
 have e8:hasB (kf 2) 8=false:=by decide
 have e9:hasB (kf 2) 9=false:=by decide
 have hf:fsB 2=[90]:=by decide
 rw[hf]
 simp only[nmB_succ,nmB_zero,e0,e1,e2,e3,e4,e5,e6,e7,e8,e9,if_true,Bool.false_eq_true,if_false,List.nil_append,List.append_nil,List.flatMap_cons,List.flatMap_nil,ltB68,ltB83,ltB79,ltB78,ltB80,ltB86,ltB70,ltB82,ltB90,ltB72,List.append_assoc]
theorem prl3 (r:Rc) (h:r.kind=3):prB r=r.kind::(fsB r.kind).flatMap (ltB r):=by
 unfold prB tailB
 rw[h]
 have e0:hasB (kf 3) 0=true:=by decide
 have e1:hasB (kf 3) 1=true:=by decide
 have e2:hasB (kf 3) 2=true:=by decide
 have e3:hasB (kf 3) 3=true:=by decide
 have e4:hasB (kf 3) 4=false:=by decide
 have e5:hasB (kf 3) 5=true:=by decide
 have e6:hasB (kf 3) 6=true:=by decide
 have e7:hasB (kf 3) 7=false:=by decide
 have e8:hasB (kf 3) 8=false:=by decide
 have e9:hasB (kf 3) 9=true:=by decide
 have hf:fsB 3=[79,78,80,86,82,90,68]:=by decide
 rw[hf]
 simp only[nmB_succ,nmB_zero,e0,e1,e2,e3,e4,e5,e6,e7,e8,e9,if_true,Bool.false_eq_true,if_false,List.nil_append,List.append_nil,List.flatMap_cons,List.flatMap_nil,ltB68,ltB83,ltB79,ltB78,ltB80,ltB86,ltB70,ltB82,ltB90,ltB72,List.append_assoc]
theorem prl4 (r:Rc) (h:r.kind=4):prB r=r.kind::(fsB r.kind).flatMap (ltB r):=by
 unfold prB tailB
 rw[h]
 have e0:hasB (kf 4) 0=true:=by decide
 have e1:hasB (kf 4) 1=true:=by decide
 have e2:hasB (kf 4) 2=false:=by decide
 have e3:hasB (kf 4) 3=false:=by decide
 have e4:hasB (kf 4) 4=false:=by decide
 have e5:hasB (kf 4) 5=false:=by decide
 have e6:hasB (kf 4) 6=false:=by decide
 have e7:hasB (kf 4) 7=true:=by decide
 have e8:hasB (kf 4) 8=false:=by decide
 have e9:hasB (kf 4) 9=false:=by decide
 have hf:fsB 4=[79,78,72]:=by decide
 rw[hf]
 simp only[nmB_succ,nmB_zero,e0,e1,e2,e3,e4,e5,e6,e7,e8,e9,if_true,Bool.false_eq_true,if_false,List.nil_append,List.append_nil,List.flatMap_cons,List.flatMap_nil,ltB68,ltB83,ltB79,ltB78,ltB80,ltB86,ltB70,ltB82,ltB90,ltB72,List.append_assoc]
theorem prl5 (r:Rc) (h:r.kind=5):prB r=r.kind::(fsB r.kind).flatMap (ltB r):=by
 unfold prB tailB
 rw[h]
 have e0:hasB (kf 5) 0=true:=by decide
 have e1:hasB (kf 5) 1=true:=by decide
 have e2:hasB (kf 5) 2=false:=by decide
 have e3:hasB (kf 5) 3=false:=by decide
 have e4:hasB (kf 5) 4=false:=by decide
 have e5:hasB (kf 5) 5=false:=by decide
 have e6:hasB (kf 5) 6=false:=by decide
 have e7:hasB (kf 5) 7=false:=by decide
 have e8:hasB (kf 5) 8=false:=by decide
 have e9:hasB (kf 5) 9=false:=by decide
 have hf:fsB 5=[79,78]:=by decide
 rw[hf]
 simp only[nmB_succ,nmB_zero,e0,e1,e2,e3,e4,e5,e6,e7,e8,e9,if_true,Bool.false_eq_true,if_false,List.nil_append,List.append_nil,List.flatMap_cons,List.flatMap_nil,ltB68,ltB83,ltB79,ltB78,ltB80,ltB86,ltB70,ltB82,ltB90,ltB72,List.append_assoc]
theorem prl6 (r:Rc) (h:r.kind=6):prB r=r.kind::(fsB r.kind).flatMap (ltB r):=by
 unfold prB tailB
 rw[h]
 have e0:hasB (kf 6) 0=true:=by decide
 have e1:hasB (kf 6) 1=true:=by decide
 have e2:hasB (kf 6) 2=false:=by decide
 have e3:hasB (kf 6) 3=true:=by decide
 have e4:hasB (kf 6) 4=true:=by decide
 have e5:hasB (kf 6) 5=true:=by decide
 have e6:hasB (kf 6) 6=true:=by decide
 have e7:hasB (kf 6) 7=false:=by decide
 have e8:hasB (kf 6) 8=false:=by decide
 have e9:hasB (kf 6) 9=true:=by decide
 have hf:fsB 6=[79,78,86,70,82,90,68]:=by decide
 rw[hf]
 simp only[nmB_succ,nmB_zero,e0,e1,e2,e3,e4,e5,e6,e7,e8,e9,if_true,Bool.false_eq_true,if_false,List.nil_append,List.append_nil,List.flatMap_cons,List.flatMap_nil,ltB68,ltB83,ltB79,ltB78,ltB80,ltB86,ltB70,ltB82,ltB90,ltB72,List.append_assoc]
theorem prl7 (r:Rc) (h:r.kind=7):prB r=r.kind::(fsB r.kind).flatMap (ltB r):=by
 unfold prB tailB
 rw[h]
 have e0:hasB (kf 7) 0=true:=by decide
 have e1:hasB (kf 7) 1=true:=by decide
 have e2:hasB (kf 7) 2=false:=by decide
 have e3:hasB (kf 7) 3=false:=by decide
 have e4:hasB (kf 7) 4=false:=by decide
 have e5:hasB (kf 7) 5=false:=by decide
 have e6:hasB (kf 7) 6=false:=by decide
 have e7:hasB (kf 7) 7=false:=by decide
 have e8:hasB (kf 7) 8=false:=by decide
 have e9:hasB (kf 7) 9=false:=by decide
 have hf:fsB 7=[79,78]:=by decide
 rw[hf]
 simp only[nmB_succ,nmB_zero,e0,e1,e2,e3,e4,e5,e6,e7,e8,e9,if_true,Bool.false_eq_true,if_false,List.nil_append,List.append_nil,List.flatMap_cons,List.flatMap_nil,ltB68,ltB83,ltB79,ltB78,ltB80,ltB86,ltB70,ltB82,ltB90,ltB72,List.append_assoc]
theorem prl8 (r:Rc) (h:r.kind=8):prB r=r.kind::(fsB r.kind).flatMap (ltB r):=by
 unfold prB tailB
 rw[h]
 have e0:hasB (kf 8) 0=true:=by decide
 have e1:hasB (kf 8) 1=true:=by decide
 have e2:hasB (kf 8) 2=false:=by decide
 have e3:hasB (kf 8) 3=false:=by decide
 have e4:hasB (kf 8) 4=false:=by decide
 have e5:hasB (kf 8) 5=false:=by decide
 have e6:hasB (kf 8) 6=false:=by decide
 have e7:hasB (kf 8) 7=true:=by decide
 have e8:hasB (kf 8) 8=false:=by decide
 have e9:hasB (kf 8) 9=false:=by decide
 have hf:fsB 8=[79,78,72]:=by decide
 rw[hf]
 simp only[nmB_succ,nmB_zero,e0,e1,e2,e3,e4,e5,e6,e7,e8,e9,if_true,Bool.false_eq_true,if_false,List.nil_append,List.append_nil,List.flatMap_cons,List.flatMap_nil,ltB68,ltB83,ltB79,ltB78,ltB80,ltB86,ltB70,ltB82,ltB90,ltB72,List.append_assoc]
theorem prl9 (r:Rc) (h:r.kind=9):prB r=r.kind::(fsB r.kind).flatMap (ltB r):=by
 unfold prB tailB
 rw[h]
 have e0:hasB (kf 9) 0=true:=by decide
 have e1:hasB (kf 9) 1=true:=by decide
 have e2:hasB (kf 9) 2=false:=by decide
 have e3:hasB (kf 9) 3=false:=by decide
 have e4:hasB (kf 9) 4=false:=by decide
 have e5:hasB (kf 9) 5=false:=by decide
 have e6:hasB (kf 9) 6=false:=by decide
 have e7:hasB (kf 9) 7=false:=by decide
 have e8:hasB (kf 9) 8=false:=by decide
 have e9:hasB (kf 9) 9=false:=by decide
 have hf:fsB 9=[79,78]:=by decide
 rw[hf]
 simp only[nmB_succ,nmB_zero,e0,e1,e2,e3,e4,e5,e6,e7,e8,e9,if_true,Bool.false_eq_true,if_false,List.nil_append,List.append_nil,List.flatMap_cons,List.flatMap_nil,ltB68,ltB83,ltB79,ltB78,ltB80,ltB86,ltB70,ltB82,ltB90,ltB72,List.append_assoc]
theorem prl10 (r:Rc) (h:r.kind=10):prB r=r.kind::(fsB r.kind).flatMap (ltB r):=by
 unfold prB tailB
 rw[h]
 have e0:hasB (kf 10) 0=true:=by decide
 have e1:hasB (kf 10) 1=true:=by decide
 have e2:hasB (kf 10) 2=false:=by decide
 have e3:hasB (kf 10) 3=false:=by decide
 have e4:hasB (kf 10) 4=false:=by decide
 have e5:hasB (kf 10) 5=false:=by decide
 have e6:hasB (kf 10) 6=false:=by decide
 have e7:hasB (kf 10) 7=false:=by decide
 have e8:hasB (kf 10) 8=false:=by decide
 have e9:hasB (kf 10) 9=false:=by decide
 have hf:fsB 10=[79,78]:=by decide
 rw[hf]
 simp only[nmB_succ,nmB_zero,e0,e1,e2,e3,e4,e5,e6,e7,e8,e9,if_true,Bool.false_eq_true,if_false,List.nil_append,List.append_nil,List.flatMap_cons,List.flatMap_nil,ltB68,ltB83,ltB79,ltB78,ltB80,ltB86,ltB70,ltB82,ltB90,ltB72,List.append_assoc]
theorem prl11 (r:Rc) (h:r.kind=11):prB r=r.kind::(fsB r.kind).flatMap (ltB r):=by
 unfold prB tailB
 rw[h]
 have e0:hasB (kf 11) 0=false:=by decide
 have e1:hasB (kf 11) 1=false:=by decide
 have e2:hasB (kf 11) 2=false:=by decide
 have e3:hasB (kf 11) 3=false:=by decide
 have e4:hasB (kf 11) 4=false:=by decide
 have e5:hasB (kf 11) 5=false:=by decide
 have e6:hasB (kf 11) 6=true:=by decide
 have e7:hasB (kf 11) 7=false:=by decide
 have e8:hasB (kf 11) 8=true:=by decide
 have e9:hasB (kf 11) 9=false:=by decide
 have hf:fsB 11=[90,83]:=by decide
 rw[hf]
 simp only[nmB_succ,nmB_zero,e0,e1,e2,e3,e4,e5,e6,e7,e8,e9,if_true,Bool.false_eq_true,if_false,List.nil_append,List.append_nil,List.flatMap_cons,List.flatMap_nil,ltB68,ltB83,ltB79,ltB78,ltB80,ltB86,ltB70,ltB82,ltB90,ltB72,List.append_assoc]
theorem prl12 (r:Rc) (h:r.kind=12):prB r=r.kind::(fsB r.kind).flatMap (ltB r):=by
 unfold prB tailB
 rw[h]
 have e0:hasB (kf 12) 0=true:=by decide
 have e1:hasB (kf 12) 1=true:=by decide
 have e2:hasB (kf 12) 2=false:=by decide
 have e3:hasB (kf 12) 3=true:=by decide
 have e4:hasB (kf 12) 4=false:=by decide
 have e5:hasB (kf 12) 5=true:=by decide
 have e6:hasB (kf 12) 6=true:=by decide
 have e7:hasB (kf 12) 7=false:=by decide
 have e8:hasB (kf 12) 8=false:=by decide
 have e9:hasB (kf 12) 9=false:=by decide
 have hf:fsB 12=[79,78,86,82,90]:=by decide
 rw[hf]
 simp only[nmB_succ,nmB_zero,e0,e1,e2,e3,e4,e5,e6,e7,e8,e9,if_true,Bool.false_eq_true,if_false,List.nil_append,List.append_nil,List.flatMap_cons,List.flatMap_nil,ltB68,ltB83,ltB79,ltB78,ltB80,ltB86,ltB70,ltB82,ltB90,ltB72,List.append_assoc]
theorem pr_letters (r:Rc) (h:kf r.kind≠0):prB r=r.kind::(fsB r.kind).flatMap (ltB r):=by
 rcases kf_cases h with h|h|h|h|h|h|h|h|h|h|h|h
 ·exact prl1 r h
 ·exact prl2 r h
 ·exact prl3 r h
 ·exact prl4 r h
 ·exact prl5 r h
 ·exact prl6 r h
 ·exact prl7 r h
 ·exact prl8 r h
 ·exact prl9 r h
 ·exact prl10 r h
 ·exact prl11 r h
 ·exact prl12 r h
def setN (r:Rc) (j:Nat) (n:Int):Rc:=
 if j=0 then {r with org:=n} else if j=1 then {r with num:=n} else if j=2 then {r with peer:=n} else if j=3 then {r with srv:=n}
 else if j=4 then {r with off:=n} else if j=5 then {r with red:=n} else if j=6 then {r with size:=n} else {r with how:=n}
theorem with2_any (r:Rc) (sa da:Option Addr) (ns nd sc dc:Nat) (j:Nat) (hj:j < 8) (n:Int) (w:World):
 Calls Tryz.prog 93 #[.agg (rcC r (.slice sa ns sc) (.slice da nd dc)),.int .u8 (ltL.getD j 0).toNat,.int .i64 n] w λe w'=>e=.returned (.agg (rcC (setN r j n) (.slice sa ns sc) (.slice da nd dc)))/\ Below w.heap.size w w':=by
 have:j=0∨j=1∨j=2∨j=3∨j=4∨j=5∨j=6∨j=7:=by omega
 rcases this with rfl|rfl|rfl|rfl|rfl|rfl|rfl|rfl
 ·go_enter Tryz.func93,Tryz.ntmps93
  go_wp2
  refine bodyPost_ret (v:=.agg (rcC {r with org:=n} (.slice sa ns sc) (.slice da nd dc))) (by simp[results,Tryz.results93,go_sem,rcC]) rfl ?_
  exact⟨rfl,((Below.refl _ _).alloc (aqH _) _).alloc (by simp) _⟩
 ·go_enter Tryz.func93,Tryz.ntmps93
  go_wp2
  refine bodyPost_ret (v:=.agg (rcC {r with num:=n} (.slice sa ns sc) (.slice da nd dc))) (by simp[results,Tryz.results93,go_sem,rcC]) rfl ?_
  exact⟨rfl,((Below.refl _ _).alloc (aqH _) _).alloc (by simp) _⟩
 ·go_enter Tryz.func93,Tryz.ntmps93
  go_wp2
  refine bodyPost_ret (v:=.agg (rcC {r with peer:=n} (.slice sa ns sc) (.slice da nd dc))) (by simp[results,Tryz.results93,go_sem,rcC]) rfl ?_
  exact⟨rfl,((Below.refl _ _).alloc (aqH _) _).alloc (by simp) _⟩
 ·go_enter Tryz.func93,Tryz.ntmps93
  go_wp2
  refine bodyPost_ret (v:=.agg (rcC {r with srv:=n} (.slice sa ns sc) (.slice da nd dc))) (by simp[results,Tryz.results93,go_sem,rcC]) rfl ?_
  exact⟨rfl,((Below.refl _ _).alloc (aqH _) _).alloc (by simp) _⟩
 ·go_enter Tryz.func93,Tryz.ntmps93
  go_wp2
  refine bodyPost_ret (v:=.agg (rcC {r with off:=n} (.slice sa ns sc) (.slice da nd dc))) (by simp[results,Tryz.results93,go_sem,rcC]) rfl ?_
  exact⟨rfl,((Below.refl _ _).alloc (aqH _) _).alloc (by simp) _⟩
 ·go_enter Tryz.func93,Tryz.ntmps93
  go_wp2
  refine bodyPost_ret (v:=.agg (rcC {r with red:=n} (.slice sa ns sc) (.slice da nd dc))) (by simp[results,Tryz.results93,go_sem,rcC]) rfl ?_
  exact⟨rfl,((Below.refl _ _).alloc (aqH _) _).alloc (by simp) _⟩
 ·go_enter Tryz.func93,Tryz.ntmps93
  go_wp2
  refine bodyPost_ret (v:=.agg (rcC {r with size:=n} (.slice sa ns sc) (.slice da nd dc))) (by simp[results,Tryz.results93,go_sem,rcC]) rfl ?_
  exact⟨rfl,((Below.refl _ _).alloc (aqH _) _).alloc (by simp) _⟩
 ·go_enter Tryz.func93,Tryz.ntmps93
  go_wp2
  refine bodyPost_ret (v:=.agg (rcC {r with how:=n} (.slice sa ns sc) (.slice da nd dc))) (by simp[results,Tryz.results93,go_sem,rcC]) rfl ?_
  exact⟨rfl,((Below.refl _ _).alloc (aqH _) _).alloc (by simp) _⟩
def upL (s:Rc×Option (List Int)) (c:UInt8):Rc×Option (List Int):=
 if c=68 then ({s.1 with data:=(byt2P s.2).1},(byt2P s.2).2)
 else if c=83 then ({s.1 with spans:=(sps2P s.2).1},(sps2P s.2).2)
 else (setN s.1 (ltL.idxOf c) (num2P s.2).1,(num2P s.2).2)
def runL (s:Rc×Option (List Int)) (cs:List UInt8):Rc×Option (List Int):=cs.foldl upL s
def isL (c:UInt8):Prop:=c=68∨c=83∨∃j,j < 8/\ c=ltL.getD j 0
theorem idx_lt (j:Nat) (hj:j < 8):ltL.idxOf (ltL.getD j 0)=j:=by
 have:j=0∨j=1∨j=2∨j=3∨j=4∨j=5∨j=6∨j=7:=by omega
 rcases this with rfl|rfl|rfl|rfl|rfl|rfl|rfl|rfl<;>decide
theorem lt_ne (j:Nat) (hj:j < 8):ltL.getD j 0≠68/\ ltL.getD j 0≠83:=by
 have:j=0∨j=1∨j=2∨j=3∨j=4∨j=5∨j=6∨j=7:=by omega
 rcases this with rfl|rfl|rfl|rfl|rfl|rfl|rfl|rfl<;>decide
theorem upL68 (s:Rc×Option (List Int)):upL s 68=({s.1 with data:=(byt2P s.2).1},(byt2P s.2).2):=by unfold upL;rw[if_pos rfl]
theorem upL83 (s:Rc×Option (List Int)):upL s 83=({s.1 with spans:=(sps2P s.2).1},(sps2P s.2).2):=by unfold upL;rw[if_neg (by decide),if_pos rfl]
theorem upLn (s:Rc×Option (List Int)) (j:Nat) (hj:j < 8):upL s (ltL.getD j 0)=(setN s.1 j (num2P s.2).1,(num2P s.2).2):=by
 unfold upL;rw[if_neg (lt_ne j hj).1,if_neg (lt_ne j hj).2,idx_lt j hj]
theorem nmA_setN (r:Rc) (j i:Nat) (hj:j < 8) (hi:i < 8) (n:Int):nmA (setN r j n) i=if i=j then n else nmA r i:=by
 have h1:j=0∨j=1∨j=2∨j=3∨j=4∨j=5∨j=6∨j=7:=by omega
 have h2:i=0∨i=1∨i=2∨i=3∨i=4∨i=5∨i=6∨i=7:=by omega
 rcases h1 with rfl|rfl|rfl|rfl|rfl|rfl|rfl|rfl<;>rcases h2 with rfl|rfl|rfl|rfl|rfl|rfl|rfl|rfl<;>rfl
theorem setN_lists (r:Rc) (j:Nat) (n:Int):(setN r j n).spans=r.spans/\ (setN r j n).data=r.data/\ (setN r j n).kind=r.kind:=by
 unfold setN
 repeat' split
 all_goals exact⟨rfl,rfl,rfl⟩
theorem ltB_congr {r r':Rc} (c:UInt8) (hc:isL c) (h1:c=68-> r'.data=r.data) (h2:c=83-> r'.spans=r.spans) (h3:∀j,j < 8-> c=ltL.getD j 0-> nmA r' j=nmA r j):ltB r' c=ltB r c:=by
 rcases hc with rfl|rfl|⟨j,hj,rfl⟩
 ·rw[ltB68,ltB68,h1 rfl]
 ·rw[ltB83,ltB83,h2 rfl]
 ·rw[ltBn r' j hj,ltBn r j hj,h3 j hj rfl]
theorem upL_other (s:Rc×Option (List Int)) {c d:UInt8} (hc:isL c) (hd:isL d) (hne:d≠c):ltB (upL s c).1 d=ltB s.1 d:=by
 rcases hc with rfl|rfl|⟨j,hj,rfl⟩
 ·rw[upL68]
  exact ltB_congr d hd (λh=>absurd h hne) (λ_=>rfl) (λ_ _ _=>rfl)
 ·rw[upL83]
  exact ltB_congr d hd (λ_=>rfl) (λh=>absurd h hne) (λ_ _ _=>rfl)
 ·rw[upLn s j hj]
  refine ltB_congr d hd (λ_=>(setN_lists _ _ _).2.1) (λ_=>(setN_lists _ _ _).1) (λi hi e=>?_)
  rw[nmA_setN _ j i hj hi,if_neg]
  intro e2;subst e2;exact hne e
theorem upL_kind (s:Rc×Option (List Int)) {c:UInt8} (hc:isL c):(upL s c).1.kind=s.1.kind:=by
 rcases hc with rfl|rfl|⟨j,hj,rfl⟩
 ·rw[upL68]
 ·rw[upL83]
 ·rw[upLn s j hj];exact(setN_lists _ _ _).2.2
theorem num2_inv {q:Option (List Int)} {v:Int} {t':List Int} (hb:∀t,q=some t-> Bytey t) (h:num2P q=(v,some t')):∃t,q=some t/\ t=enc v++t'/\ Bytey t'/\ 0<= v:=by
 cases q with
 |none=>simp[num2P] at h
 |some t=>
  cases hn:numP t with
  |none=>unfold num2P at h;simp only[hn] at h;cases h
  |some p=>
   obtain⟨v2,t2⟩:=p
   unfold num2P at h;simp only[hn,Prod.mk.injEq,aqG] at h
   obtain⟨rfl,rfl⟩:=h
   obtain⟨_,_,_,h4,_,_,h7,_⟩:=numP_inv (hb t rfl) hn
   exact⟨t,rfl,h4,(numP_by (hb t rfl) hn).1,h7⟩
theorem sp2_inv:∀{k:Nat} {q:Option (List Int)} {l:List (Int×Int)} {t':List Int},(∀t,q=some t-> Bytey t)-> sp2P k q=(l,some t')-> ∃t,q=some t/\ t=l.flatMap spB1++t'
 |0,q,l,t',hb,h=>by
  simp only[sp2P,Prod.mk.injEq] at h
  obtain⟨rfl,rfl⟩:=h
  exact⟨t',rfl,by simp⟩
 |k+1,q,l,t',hb,h=>by
  simp only[sp2P] at h
  split at h
  ·cases h
  ·rename_i l' t1 h1
   obtain⟨t,e1,e2⟩:=sp2_inv hb h1
   have hbt:=(sp2P_by hb h1).2.1
   simp only[Prod.mk.injEq] at h
   obtain⟨rfl,h2⟩:=h
   split at h2
   ·cases h2
   ·obtain⟨_,_,b3⟩:=num2_bd (q:=some t1) (λt h=>by cases h;exact hbt)
    obtain⟨t2,f1,f2,_,_⟩:=num2_inv (q:=(num2P (some t1)).2) (v:=(num2P (num2P (some t1)).2).1) (t':=t') (λt h=>(b3 t h).1) (by rw[←h2])
    obtain⟨t3,g1,g2,_,_⟩:=num2_inv (q:=some t1) (v:=(num2P (some t1)).1) (t':=t2) (λt h=>by cases h;exact hbt) (by rw[←f1])
    cases g1
    refine⟨t,e1,?_⟩
    have hx:∀a b:Int,a+b - a=b:=λa b=>by omega
    rw[e2,List.flatMap_append]
    simp only[List.flatMap_cons,List.flatMap_nil,List.append_nil,spB1,List.append_assoc,hx]
    rw[←f2,←g2]
theorem upL_took (s:Rc×Option (List Int)) {c:UInt8} (hc:isL c) {t':List Int} (hb:∀t,s.2=some t-> Bytey t) (h:(upL s c).2=some t'):∃t,s.2=some t/\ t=ltB (upL s c).1 c++t'/\ Bytey t':=by
 rcases hc with rfl|rfl|⟨j,hj,rfl⟩
 ·rw[upL68] at h ⊢
  simp only at h
  rw[byt2_eq] at h
  cases hq:(num2P s.2).2 with
  |none=>rw[hq] at h;cases h
  |some t1=>
   rw[hq] at h
   simp only at h
   split at h
   ·rename_i hn
    simp only[aqG] at h
    obtain⟨t,e1,e2,e3,e4⟩:=num2_inv (v:=(num2P s.2).1) (t':=t1) hb (by rw[←hq])
    refine⟨t,e1,?_,by rw[←h];exact bytey_drop e3 _⟩
    have hd:(byt2P s.2).1=t1.take (num2P s.2).1.toNat:=by rw[byt2_eq,hq];simp only[if_pos hn]
    rw[ltB68]
    simp only[hd]
    have hlen:(((t1.take (num2P s.2).1.toNat).length:Nat):Int)=(num2P s.2).1:=by rw[List.length_take];omega
    rw[hlen,List.append_assoc,←h,List.take_append_drop]
    exact e2
   ·cases h
 ·rw[upL83] at h ⊢
  simp only at h
  unfold sps2P at h
  obtain⟨_,_,b3⟩:=num2_bd hb
  have hs:sp2P (num2P s.2).1.toNat (num2P s.2).2=((sps2P s.2).1,some t'):=by unfold sps2P;rw[←h]
  obtain⟨t1,e1,e2⟩:=sp2_inv (λt h=>(b3 t h).1) hs
  obtain⟨hl,hbt,_⟩:=sp2P_by (λt h=>(b3 t h).1) hs
  obtain⟨t,f1,f2,_,f4⟩:=num2_inv (v:=(num2P s.2).1) (t':=t1) hb (by rw[←e1])
  refine⟨t,f1,?_,hbt⟩
  rw[ltB83]
  unfold spB
  simp only
  rw[hl,Int.toNat_of_nonneg f4,f2,e2,List.append_assoc]
 ·rw[upLn s j hj] at h ⊢
  simp only at h
  obtain⟨t,e1,e2,e3,e4⟩:=num2_inv (v:=(num2P s.2).1) (t':=t') hb (by rw[←h])
  refine⟨t,e1,?_,e3⟩
  rw[ltBn _ j hj,nmA_setN _ j j hj hj,if_pos rfl]
  exact e2
theorem run_inv:∀(cs:List UInt8) (s:Rc×Option (List Int)) {t':List Int},(∀c∈cs,isL c)-> cs.Nodup-> (∀t,s.2=some t-> Bytey t)-> (runL s cs).2=some t'-> ∃t,s.2=some t/\ t=cs.flatMap (ltB (runL s cs).1)++t'/\ (runL s cs).1.kind=s.1.kind/\ ∀d,isL d-> d∉cs-> ltB (runL s cs).1 d=ltB s.1 d
 |[],s,t',hL,hN,hb,h=>by
  exact⟨t',h,by simp,rfl,λ_ _ _=>rfl⟩
 |c::cs,s,t',hL,hN,hb,h=>by
  have hc:=hL c (by simp)
  rw[List.nodup_cons] at hN
  have hr:runL s (c::cs)=runL (upL s c) cs:=rfl
  rw[hr] at h ⊢
  have hbu:∀t,(upL s c).2=some t-> Bytey t:=λt ht=>by
   obtain⟨_,_,_,h3⟩:=upL_took s hc hb ht
   exact h3
  obtain⟨t1,e1,e2,e3,e4⟩:=run_inv cs (upL s c) (λd hd=>hL d (List.mem_cons_of_mem _ hd)) hN.2 hbu h
  obtain⟨t,f1,f2,f3⟩:=upL_took s hc hb e1
  refine⟨t,f1,?_,e3.trans (upL_kind s hc),λd hd hnd=>?_⟩
  ·rw[List.flatMap_cons,e4 c hc hN.1,List.append_assoc,f2,e2]
  ·rw[e4 d hd (λh=>hnd (List.mem_cons_of_mem _ h))]
   exact upL_other s hc hd (λe=>hnd (by rw[e];simp))
def cpL (r s:Rc) (c:UInt8):Rc:=if c=68 then {s with data:=r.data} else if c=83 then {s with spans:=r.spans} else setN s (ltL.idxOf c) (nmA r (ltL.idxOf c))
theorem num2_fwd {n:Int} (t:List Int) (h0:0<= n) (h1:n<= 4611686018427387903):num2P (some (enc n++t))=(n,some t):=by
 unfold num2P;simp only[numP_enc t h0 h1]
theorem sp2_fwd:∀(n:Nat) (l:List (Int×Int)) (t:List Int),l.length=n-> SpOk l-> sp2P n (some (l.flatMap spB1++t))=(l,some t)
 |0,l,t,hl,h=>by
  obtain rfl:=List.eq_nil_of_length_eq_zero hl
  rfl
 |n+1,l,t,hl,h=>by
  have hne:l≠[]:=by intro e;rw[e] at hl;simp at hl
  obtain⟨l',p,rfl⟩:∃l' p,l=l'++[p]:=⟨l.dropLast,l.getLast hne,(List.dropLast_concat_getLast hne).symm⟩
  have hp:=h p (by simp)
  have h1:=sp2_fwd n l' (spB1 p++t) (by simpa using hl) (λq hq=>h q (by simp[hq]))
  rw[List.flatMap_append,List.append_assoc,List.flatMap_cons,List.flatMap_nil,List.append_nil]
  simp only[sp2P,h1]
  obtain⟨a,b⟩:=p
  simp only at hp
  have e1:num2P (some (spB1 (a,b)++t))=(a,some (enc (b - a)++t)):=by unfold spB1;rw[List.append_assoc];exact num2_fwd _ (by omega) (by omega)
  have e2:num2P (some (enc (b - a)++t))=(b - a,some t):=num2_fwd _ (by omega) (by omega)
  rw[e1]
  simp only[e2]
  rw[if_neg (by omega),show a+(b - a)=b by omega]
theorem upL_fwd {r:Rc} (hm:mayB6 r=true) (s:Rc) (t:List Int) {c:UInt8} (hc:c∈fsB r.kind):upL (s,some (ltB r c++t)) c=(cpL r s c,some t):=by
 obtain⟨h1,h2,h3,h4⟩:=may_parts hm
 rcases let_cases h1 hc with ⟨rfl,h9⟩|⟨rfl,h8⟩|⟨j,hj,rfl⟩
 ·have q:=h4 h9
  rw[upL68,ltB68]
  unfold cpL
  rw[if_pos rfl]
  have e:num2P (some (enc (r.data.length:Int)++r.data++t))=((r.data.length:Int),some (r.data++t)):=by rw[List.append_assoc];exact num2_fwd _ (by omega) (by omega)
  have e2:byt2P (some (enc (r.data.length:Int)++r.data++t))=(r.data,some t):=by
   rw[byt2_eq,e]
   simp only
   rw[if_pos (by rw[List.length_append];omega),Int.toNat_natCast,List.take_left,List.drop_left]
  simp only[e2]
 ·obtain⟨q1,q2⟩:=h3 h8
  rw[upL83,ltB83]
  unfold cpL
  rw[if_neg (by decide),if_pos rfl]
  have e2:sps2P (some (spB r.spans++t))=(r.spans,some t):=by
   unfold sps2P spB
   rw[List.append_assoc,num2_fwd _ (by omega) (by omega)]
   simp only[Int.toNat_natCast]
   exact sp2_fwd _ _ _ rfl q2
  simp only[e2]
 ·have q:=okN_bd (okNs_at h2 hj)
  rw[upLn _ j hj,ltBn r j hj]
  unfold cpL
  rw[if_neg (lt_ne j hj).1,if_neg (lt_ne j hj).2,idx_lt j hj]
  simp only[num2_fwd t q.1 q.2]
theorem run_fwd {r:Rc} (hm:mayB6 r=true) (t:List Int):∀(cs:List UInt8) (s:Rc),(∀c∈cs,c∈fsB r.kind)-> runL (s,some (cs.flatMap (ltB r)++t)) cs=(cs.foldl (cpL r) s,some t)
 |[],s,h=>by simp[runL]
 |c::cs,s,h=>by
  rw[List.flatMap_cons,List.append_assoc]
  show runL (upL (s,some (ltB r c++(cs.flatMap (ltB r)++t))) c) cs=_
  rw[upL_fwd hm s _ (h c (by simp))]
  exact run_fwd hm t cs _ (λd hd=>h d (List.mem_cons_of_mem _ hd))
theorem fold1 {r:Rc} (h:mayB6 r=true) (hk:r.kind=1):(fsB r.kind).foldl (cpL r) (mkR r.kind [])=r:=by
 obtain⟨h1,h2,h3,h4⟩:=may_parts h
 obtain⟨h5,h6⟩:=may_lists h
 rw[hk] at h2 h5 h6
 have e1:r.num=0:=okN_zero (okNs_at h2 (show 1 < 8 by omega)) (by decide)
 have e2:r.peer=0:=okN_zero (okNs_at h2 (show 2 < 8 by omega)) (by decide)
 have e3:r.srv=0:=okN_zero (okNs_at h2 (show 3 < 8 by omega)) (by decide)
 have e4:r.off=0:=okN_zero (okNs_at h2 (show 4 < 8 by omega)) (by decide)
 have e5:r.red=0:=okN_zero (okNs_at h2 (show 5 < 8 by omega)) (by decide)
 have e7:r.how=0:=okN_zero (okNs_at h2 (show 7 < 8 by omega)) (by decide)
 have e8:r.spans=[]:=h5 (by decide)
 have e9:r.data=[]:=h6 (by decide)
 clear h h1 h2 h3 h4 h5 h6
 cases r
 simp only at*
 subst hk e1 e2 e3 e4 e5 e7 e8 e9
 rfl
theorem fold2 {r:Rc} (h:mayB6 r=true) (hk:r.kind=2):(fsB r.kind).foldl (cpL r) (mkR r.kind [])=r:=by
 obtain⟨h1,h2,h3,h4⟩:=may_parts h
 obtain⟨h5,h6⟩:=may_lists h
 rw[hk] at h2 h5 h6
 have e0:r.org=0:=okN_zero (okNs_at h2 (show 0 < 8 by omega)) (by decide)
 have e1:r.num=0:=okN_zero (okNs_at h2 (show 1 < 8 by omega)) (by decide)
 have e2:r.peer=0:=okN_zero (okNs_at h2 (show 2 < 8 by omega)) (by decide)
 have e3:r.srv=0:=okN_zero (okNs_at h2 (show 3 < 8 by omega)) (by decide)
 have e4:r.off=0:=okN_zero (okNs_at h2 (show 4 < 8 by omega)) (by decide)
 have e5:r.red=0:=okN_zero (okNs_at h2 (show 5 < 8 by omega)) (by decide)
 have e7:r.how=0:=okN_zero (okNs_at h2 (show 7 < 8 by omega)) (by decide)
 have e8:r.spans=[]:=h5 (by decide)
 have e9:r.data=[]:=h6 (by decide)
 clear h h1 h2 h3 h4 h5 h6
 cases r
 simp only at*
 subst hk e0 e1 e2 e3 e4 e5 e7 e8 e9
 rfl
theorem fold3 {r:Rc} (h:mayB6 r=true) (hk:r.kind=3):(fsB r.kind).foldl (cpL r) (mkR r.kind [])=r:=by
 obtain⟨h1,h2,h3,h4⟩:=may_parts h
 obtain⟨h5,h6⟩:=may_lists h
 rw[hk] at h2 h5 h6
 have e4:r.off=0:=okN_zero (okNs_at h2 (show 4 < 8 by omega)) (by decide)
 have e7:r.how=0:=okN_zero (okNs_at h2 (show 7 < 8 by omega)) (by decide)
 have e8:r.spans=[]:=h5 (by decide)
 clear h h1 h2 h3 h4 h5 h6
 cases r
 simp only at*
 subst hk e4 e7 e8
 rfl
theorem fold4 {r:Rc} (h:mayB6 r=true) (hk:r.kind=4):(fsB r.kind).foldl (cpL r) (mkR r.kind [])=r:=by
 obtain⟨h1,h2,h3,h4⟩:=may_parts h
 obtain⟨h5,h6⟩:=may_lists h
 rw[hk] at h2 h5 h6
 have e2:r.peer=0:=okN_zero (okNs_at h2 (show 2 < 8 by omega)) (by decide)
 have e3:r.srv=0:=okN_zero (okNs_at h2 (show 3 < 8 by omega)) (by decide)
 have e4:r.off=0:=okN_zero (okNs_at h2 (show 4 < 8 by omega)) (by decide)
 have e5:r.red=0:=okN_zero (okNs_at h2 (show 5 < 8 by omega)) (by decide)
 have e6:r.size=0:=okN_zero (okNs_at h2 (show 6 < 8 by omega)) (by decide)
 have e8:r.spans=[]:=h5 (by decide)
 have e9:r.data=[]:=h6 (by decide)
 clear h h1 h2 h3 h4 h5 h6
 cases r
 simp only at*
 subst hk e2 e3 e4 e5 e6 e8 e9
 rfl
theorem fold5 {r:Rc} (h:mayB6 r=true) (hk:r.kind=5):(fsB r.kind).foldl (cpL r) (mkR r.kind [])=r:=by
 obtain⟨h1,h2,h3,h4⟩:=may_parts h
 obtain⟨h5,h6⟩:=may_lists h
 rw[hk] at h2 h5 h6
 have e2:r.peer=0:=okN_zero (okNs_at h2 (show 2 < 8 by omega)) (by decide)
 have e3:r.srv=0:=okN_zero (okNs_at h2 (show 3 < 8 by omega)) (by decide)
 have e4:r.off=0:=okN_zero (okNs_at h2 (show 4 < 8 by omega)) (by decide)
 have e5:r.red=0:=okN_zero (okNs_at h2 (show 5 < 8 by omega)) (by decide)
 have e6:r.size=0:=okN_zero (okNs_at h2 (show 6 < 8 by omega)) (by decide)
 have e7:r.how=0:=okN_zero (okNs_at h2 (show 7 < 8 by omega)) (by decide)
 have e8:r.spans=[]:=h5 (by decide)
 have e9:r.data=[]:=h6 (by decide)
 clear h h1 h2 h3 h4 h5 h6
 cases r
 simp only at*
 subst hk e2 e3 e4 e5 e6 e7 e8 e9
 rfl
theorem fold6 {r:Rc} (h:mayB6 r=true) (hk:r.kind=6):(fsB r.kind).foldl (cpL r) (mkR r.kind [])=r:=by
 obtain⟨h1,h2,h3,h4⟩:=may_parts h
 obtain⟨h5,h6⟩:=may_lists h
 rw[hk] at h2 h5 h6
 have e2:r.peer=0:=okN_zero (okNs_at h2 (show 2 < 8 by omega)) (by decide)
 have e7:r.how=0:=okN_zero (okNs_at h2 (show 7 < 8 by omega)) (by decide)
 have e8:r.spans=[]:=h5 (by decide)
 clear h h1 h2 h3 h4 h5 h6
 cases r
 simp only at*
 subst hk e2 e7 e8
 rfl
theorem fold7 {r:Rc} (h:mayB6 r=true) (hk:r.kind=7):(fsB r.kind).foldl (cpL r) (mkR r.kind [])=r:=by
 obtain⟨h1,h2,h3,h4⟩:=may_parts h
 obtain⟨h5,h6⟩:=may_lists h
 rw[hk] at h2 h5 h6
 have e2:r.peer=0:=okN_zero (okNs_at h2 (show 2 < 8 by omega)) (by decide)
 have e3:r.srv=0:=okN_zero (okNs_at h2 (show 3 < 8 by omega)) (by decide)
 have e4:r.off=0:=okN_zero (okNs_at h2 (show 4 < 8 by omega)) (by decide)
 have e5:r.red=0:=okN_zero (okNs_at h2 (show 5 < 8 by omega)) (by decide)
 have e6:r.size=0:=okN_zero (okNs_at h2 (show 6 < 8 by omega)) (by decide)
 have e7:r.how=0:=okN_zero (okNs_at h2 (show 7 < 8 by omega)) (by decide)
 have e8:r.spans=[]:=h5 (by decide)
 have e9:r.data=[]:=h6 (by decide)
 clear h h1 h2 h3 h4 h5 h6
 cases r
 simp only at*
 subst hk e2 e3 e4 e5 e6 e7 e8 e9
 rfl
theorem fold8 {r:Rc} (h:mayB6 r=true) (hk:r.kind=8):(fsB r.kind).foldl (cpL r) (mkR r.kind [])=r:=by
 obtain⟨h1,h2,h3,h4⟩:=may_parts h
 obtain⟨h5,h6⟩:=may_lists h
 rw[hk] at h2 h5 h6
 have e2:r.peer=0:=okN_zero (okNs_at h2 (show 2 < 8 by omega)) (by decide)
 have e3:r.srv=0:=okN_zero (okNs_at h2 (show 3 < 8 by omega)) (by decide)
 have e4:r.off=0:=okN_zero (okNs_at h2 (show 4 < 8 by omega)) (by decide)
 have e5:r.red=0:=okN_zero (okNs_at h2 (show 5 < 8 by omega)) (by decide)
 have e6:r.size=0:=okN_zero (okNs_at h2 (show 6 < 8 by omega)) (by decide)
 have e8:r.spans=[]:=h5 (by decide)
 have e9:r.data=[]:=h6 (by decide)
 clear h h1 h2 h3 h4 h5 h6
 cases r
 simp only at*
 subst hk e2 e3 e4 e5 e6 e8 e9
 rfl
theorem fold9 {r:Rc} (h:mayB6 r=true) (hk:r.kind=9):(fsB r.kind).foldl (cpL r) (mkR r.kind [])=r:=by
 obtain⟨h1,h2,h3,h4⟩:=may_parts h
 obtain⟨h5,h6⟩:=may_lists h
 rw[hk] at h2 h5 h6
 have e2:r.peer=0:=okN_zero (okNs_at h2 (show 2 < 8 by omega)) (by decide)
 have e3:r.srv=0:=okN_zero (okNs_at h2 (show 3 < 8 by omega)) (by decide)
 have e4:r.off=0:=okN_zero (okNs_at h2 (show 4 < 8 by omega)) (by decide)
 have e5:r.red=0:=okN_zero (okNs_at h2 (show 5 < 8 by omega)) (by decide)
 have e6:r.size=0:=okN_zero (okNs_at h2 (show 6 < 8 by omega)) (by decide)
 have e7:r.how=0:=okN_zero (okNs_at h2 (show 7 < 8 by omega)) (by decide)
 have e8:r.spans=[]:=h5 (by decide)
 have e9:r.data=[]:=h6 (by decide)
 clear h h1 h2 h3 h4 h5 h6
 cases r
 simp only at*
 subst hk e2 e3 e4 e5 e6 e7 e8 e9
 rfl
theorem fold10 {r:Rc} (h:mayB6 r=true) (hk:r.kind=10):(fsB r.kind).foldl (cpL r) (mkR r.kind [])=r:=by
 obtain⟨h1,h2,h3,h4⟩:=may_parts h
 obtain⟨h5,h6⟩:=may_lists h
 rw[hk] at h2 h5 h6
 have e2:r.peer=0:=okN_zero (okNs_at h2 (show 2 < 8 by omega)) (by decide)
 have e3:r.srv=0:=okN_zero (okNs_at h2 (show 3 < 8 by omega)) (by decide)
 have e4:r.off=0:=okN_zero (okNs_at h2 (show 4 < 8 by omega)) (by decide)
 have e5:r.red=0:=okN_zero (okNs_at h2 (show 5 < 8 by omega)) (by decide)
 have e6:r.size=0:=okN_zero (okNs_at h2 (show 6 < 8 by omega)) (by decide)
 have e7:r.how=0:=okN_zero (okNs_at h2 (show 7 < 8 by omega)) (by decide)
 have e8:r.spans=[]:=h5 (by decide)
 have e9:r.data=[]:=h6 (by decide)
 clear h h1 h2 h3 h4 h5 h6
 cases r
 simp only at*
 subst hk e2 e3 e4 e5 e6 e7 e8 e9
 rfl
theorem fold11 {r:Rc} (h:mayB6 r=true) (hk:r.kind=11):(fsB r.kind).foldl (cpL r) (mkR r.kind [])=r:=by
 obtain⟨h1,h2,h3,h4⟩:=may_parts h
 obtain⟨h5,h6⟩:=may_lists h
 rw[hk] at h2 h5 h6
 have e0:r.org=0:=okN_zero (okNs_at h2 (show 0 < 8 by omega)) (by decide)
 have e1:r.num=0:=okN_zero (okNs_at h2 (show 1 < 8 by omega)) (by decide)
 have e2:r.peer=0:=okN_zero (okNs_at h2 (show 2 < 8 by omega)) (by decide)
 have e3:r.srv=0:=okN_zero (okNs_at h2 (show 3 < 8 by omega)) (by decide)
 have e4:r.off=0:=okN_zero (okNs_at h2 (show 4 < 8 by omega)) (by decide)
 have e5:r.red=0:=okN_zero (okNs_at h2 (show 5 < 8 by omega)) (by decide)
 have e7:r.how=0:=okN_zero (okNs_at h2 (show 7 < 8 by omega)) (by decide)
 have e9:r.data=[]:=h6 (by decide)
 clear h h1 h2 h3 h4 h5 h6
 cases r
 simp only at*
 subst hk e0 e1 e2 e3 e4 e5 e7 e9
 rfl
theorem fold12 {r:Rc} (h:mayB6 r=true) (hk:r.kind=12):(fsB r.kind).foldl (cpL r) (mkR r.kind [])=r:=by
 obtain⟨h1,h2,h3,h4⟩:=may_parts h
 obtain⟨h5,h6⟩:=may_lists h
 rw[hk] at h2 h5 h6
 have e2:r.peer=0:=okN_zero (okNs_at h2 (show 2 < 8 by omega)) (by decide)
 have e4:r.off=0:=okN_zero (okNs_at h2 (show 4 < 8 by omega)) (by decide)
 have e7:r.how=0:=okN_zero (okNs_at h2 (show 7 < 8 by omega)) (by decide)
 have e8:r.spans=[]:=h5 (by decide)
 have e9:r.data=[]:=h6 (by decide)
 clear h h1 h2 h3 h4 h5 h6
 cases r
 simp only at*
 subst hk e2 e4 e7 e8 e9
 rfl
theorem fold_all {r:Rc} (h:mayB6 r=true):(fsB r.kind).foldl (cpL r) (mkR r.kind [])=r:=by
 rcases kf_cases (may_parts h).1 with hk|hk|hk|hk|hk|hk|hk|hk|hk|hk|hk|hk
 ·exact fold1 h hk
 ·exact fold2 h hk
 ·exact fold3 h hk
 ·exact fold4 h hk
 ·exact fold5 h hk
 ·exact fold6 h hk
 ·exact fold7 h hk
 ·exact fold8 h hk
 ·exact fold9 h hk
 ·exact fold10 h hk
 ·exact fold11 h hk
 ·exact fold12 h hk
theorem fs_nodup (k:Int):(fsB k).Nodup:=by
 by_cases h:kf k=0
 ·rw[no_letters h];exact List.nodup_nil
 ·rcases kf_cases h with rfl|rfl|rfl|rfl|rfl|rfl|rfl|rfl|rfl|rfl|rfl|rfl<;>decide
theorem fs_isL (k:Int):∀c∈fsB k,isL c:=λc hc=>by
 by_cases h:kf k=0
 ·rw[no_letters h] at hc;cases hc
 ·rcases let_cases h hc with ⟨e,_⟩|⟨e,_⟩|e
  ·exact .inl e
  ·exact .inr (.inl e)
  ·exact .inr (.inr e)
def r2R (s:Rc×Option (List Int)):Rc×Int:=match s.2 with
 |some []=>if mayB6 s.1 then (s.1,0) else (rz0,61)
 |_=>(rz0,61)
theorem r2_eq {k:Int} {t0:List Int} (hb:Bytey (k::t0)) (hl:(k::t0).length<= 131072):r2R (runL (mkR k [],some t0) (fsB k))=rdR (k::t0):=by
 have hb0:Bytey t0:=λz hz=>hb z (List.mem_cons_of_mem _ hz)
 unfold rdR
 rw[if_neg (by omega)]
 cases hq:readP (k::t0) with
 |some r=>
  obtain⟨hz,hm⟩:=read_inv hb hq
  rw[pr_letters r (may_parts hm).1] at hz
  simp only[List.cons.injEq] at hz
  obtain⟨rfl,hz⟩:=hz
  have h1:=run_fwd hm [] (fsB r.kind) (mkR r.kind []) (λc hc=>hc)
  rw[List.append_nil,←hz,fold_all hm] at h1
  rw[h1]
  unfold r2R
  simp only[hm,if_true]
 |none=>
  unfold r2R
  split
  ·rename_i h1
   split
   ·rename_i hm
    exfalso
    obtain⟨t,e1,e2,e3,_⟩:=run_inv (fsB k) (mkR k [],some t0) (fs_isL k) (fs_nodup k) (λt h=>by cases h;exact hb0) h1
    simp only[aqG] at e1
    subst e1
    have hk:(runL (mkR k [],some t0) (fsB k)).1.kind=k:=e3
    have h2:=pr_letters (runL (mkR k [],some t0) (fsB k)).1 (may_parts hm).1
    rw[hk,←List.append_nil ((fsB k).flatMap _),←e2] at h2
    have h3:=read_back hm
    rw[h2,hq] at h3
    cases h3
   ·rfl
  ·rfl
theorem byt2_len {q:Option (List Int)} {n:Nat} (hb:∀t,q=some t-> Bytey t) (h:∀t,q=some t-> t.length<= n):(byt2P q).1.length<= n:=by
 obtain⟨_,_,b3⟩:=num2_bd hb
 rw[byt2_eq]
 cases hq:(num2P q).2 with
 |none=>simp
 |some t1=>
  obtain⟨_,t,e1,e2⟩:=b3 t1 hq
  have:=h t e1
  simp only
  split
  ·simp only[List.length_take];omega
  ·simp
structure Rd2 (wr w:World) (B bx rb g off n c:Nat) (zs:List Int) (s:Rc×Option (List Int)):Prop where
 ex:∃sa da sc dc,wr.heap[bx]?=some (rcO s.1 (.slice sa s.1.spans.length sc) (.slice da s.1.data.length dc))/\ C.SOwn wr B (.slice sa s.1.spans.length sc) s.1.spans/\ wr.ownsRow B 5 1 (.slice da s.1.data.length dc) s.1.data.length (s.1.data.map (Value.int .u8))/\ ∀j,(Value.slice sa s.1.spans.length sc).ownBlock=some j-> (Value.slice da s.1.data.length dc).ownBlock≠some j
 rd:R2 wr rb g off n c zs s.2
 be:Below w.heap.size w wr
 zh:wr.heap[w.heap.size]?=some (rcO rz0 (.slice none 0 0) (.slice none 0 0))
 dl:s.1.data.length<= n
 sz:B<= wr.heap.size
end Go.Proofs.YtllhbhogfffedaaGreatDoor
