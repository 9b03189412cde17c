import Derived.Test.YtllhbhogfffedaaGreatDoorRcFrm
import Derived.Test.YtllhbhogfffedaaGreatDoorNums
import Derived.WalkSmall
import Derived.Deep.RegionHeld3
import Derived.Deep.CutRange
import Derived.Deep.QuietTactic
import Derived.BigQuiet
import Derived.Deep.RegionWith
import Derived.Deep.Slices
import Derived.Test.YtllhbhogfffedaaGreatDoorChecked
import Derived.WalkKit
import Derived.LaidEql
import Derived.Stop.Asserts
import Derived.RowKitTokens
set_option maxHeartbeats 8000000
set_option maxRecDepth 100000
namespace Go.Proofs.YtllhbhogfffedaaGreatDoor
open Go.RowKit
def fsB (k:Int):List UInt8:=
 if k=1 then [79,90] else if k=2 then [90] else if k=3 then [79,78,80,86,82,90,68] else if k=4 then [79,78,72] else if k=8 then [79,78,72]
 else if k=5 then [79,78] else if k=7 then [79,78] else if k=9 then [79,78] else if k=10 then [79,78] else if k=6 then [79,78,86,70,82,90,68]
 else if k=11 then [90,83] else if k=12 then [79,78,86,82,90] else []
abbrev fsV (k:Int):Value:=.string ⟨(fsB k).toArray⟩
theorem fields2_any (k:Int) (w:World):
 Calls Tryz.prog 86 #[.int .i64 k] w λe w'=>e=.returned (fsV k)/\ w=w':=by
 by_cases h1:k=1
 ·subst h1
  go_enter Tryz.func86,Tryz.ntmps86
  go_wp2
  go_ret
  exact⟨rfl,rfl⟩
 by_cases h2:k=2
 ·subst h2
  go_enter Tryz.func86,Tryz.ntmps86
  go_wp2
  go_ret
  exact⟨rfl,rfl⟩
 by_cases h3:k=3
 ·subst h3
  go_enter Tryz.func86,Tryz.ntmps86
  go_wp2
  go_ret
  exact⟨rfl,rfl⟩
 by_cases h4:k=4
 ·subst h4
  go_enter Tryz.func86,Tryz.ntmps86
  go_wp2
  go_ret
  exact⟨rfl,rfl⟩
 by_cases h8:k=8
 ·subst h8
  go_enter Tryz.func86,Tryz.ntmps86
  go_wp2
  go_ret
  exact⟨rfl,rfl⟩
 by_cases h5:k=5
 ·subst h5
  go_enter Tryz.func86,Tryz.ntmps86
  go_wp2
  go_ret
  exact⟨rfl,rfl⟩
 by_cases h7:k=7
 ·subst h7
  go_enter Tryz.func86,Tryz.ntmps86
  go_wp2
  go_ret
  exact⟨rfl,rfl⟩
 by_cases h9:k=9
 ·subst h9
  go_enter Tryz.func86,Tryz.ntmps86
  go_wp2
  go_ret
  exact⟨rfl,rfl⟩
 by_cases h10:k=10
 ·subst h10
  go_enter Tryz.func86,Tryz.ntmps86
  go_wp2
  go_ret
  exact⟨rfl,rfl⟩
 by_cases h6:k=6
 ·subst h6
  go_enter Tryz.func86,Tryz.ntmps86
  go_wp2
  go_ret
  exact⟨rfl,rfl⟩
 by_cases h11:k=11
 ·subst h11
  go_enter Tryz.func86,Tryz.ntmps86
  go_wp2
  go_ret
  exact⟨rfl,rfl⟩
 by_cases h12:k=12
 ·subst h12
  go_enter Tryz.func86,Tryz.ntmps86
  go_wp2
  go_ret
  exact⟨rfl,rfl⟩
 have HE:Hid (fsB k=[]):=by unfold Hid fsB;rw[if_neg h1,if_neg h2,if_neg h3,if_neg h4,if_neg h8,if_neg h5,if_neg h7,if_neg h9,if_neg h10,if_neg h6,if_neg h11,if_neg h12]
 go_enter Tryz.func86,Tryz.ntmps86
 go_wp2
 go_ret
 exact⟨congrArg Ending.returned (show Value.string ⟨#[]⟩=Value.string ⟨(fsB k).toArray⟩ by rw[HE.out]),rfl⟩
def hasS (l:List UInt8) (c:UInt8):Bool:=l.contains c
theorem hasS_cons (x:UInt8) (l:List UInt8) (c:UInt8):hasS (x::l) c=(c == x || hasS l c):=by unfold hasS;rw[List.contains_cons]
theorem has2_any (l:List UInt8) (c:UInt8) (hl:l.length<= 10) (w:World):
 Calls Tryz.prog 109 #[.string ⟨l.toArray⟩,.int .u8 c.toNat] w λe w'=>e=.returned (.bool (hasS l c))/\ w=w':=by
 go_enter Tryz.func109,Tryz.ntmps109
 go_wp2_with fail
 go_loop [5] (λi=>∃k:Nat,k<= l.length/\ i=.int .i64 k/\ hasS l c=hasS (l.drop k) c) (λi=>l.length - (intOf i).toNat)
 case atStart=>exact⟨0,Nat.zero_le _,rfl,rfl⟩
 case round=>
  obtain⟨k,hk,rfl,hh⟩:=hrel
  have HH:Hid (hasS l c=hasS (l.drop k) c):=hh
  clear hh
  by_cases hlt:k < l.length
  ·have hlt':(k:Int) < (l.length:Int):=by omega
   have HD:Hid (l.drop k=l[k]::l.drop (k+1)):=List.drop_eq_getElem_cons hlt
   go_wp2
   ·rename_i h _
    have hx:l[k]=c:=by
     have h2:(l[k].toNat:Int)=(c.toNat:Int):=beq_iff_eq.mp h
     exact UInt8.toNat_inj.mp (by omega)
    go_ret
    exact⟨congrArg (λb=>Ending.returned (Value.bool b)) (by rw[HH.out,HD.out,hasS_cons,hx];simp),rfl⟩
   ·rename_i h
    have hx:¬c=l[k]:=by
     intro e
     have h2:¬(l[k].toNat:Int)=(c.toNat:Int):=beq_eq_false_iff_ne.mp h
     exact h2 (by rw[e])
    go_round
    case rel=>exact⟨k+1,by omega,by go_num,by rw[HH.out,HD.out,hasS_cons,beq_false_of_ne hx];rfl⟩
    case measure=>simp[intOf];omega
  ·have he:l.drop k=[]:=List.drop_eq_nil_of_le (by omega)
   have HE:Hid (hasS l c=false):=by unfold Hid;rw[HH.out,he];rfl
   go_wp2
   go_ret
   exact⟨congrArg (λb=>Ending.returned (Value.bool b)) HE.out.symm,rfl⟩
abbrev ltL:List UInt8:=[79,78,80,86,70,82,90,72]
theorem get2_any (r:Rc) (sv dv:Value) (i:Nat) (hi:i < 8) (w:World):
 Calls Tryz.prog 88 #[.agg (rcC r sv dv),.int .u8 (ltL.getD i 0).toNat] w λe w'=>e=.returned (.int .i64 (nmA r i))/\ w'=w.alloc (rcO r sv dv):=by
 have:i=0∨i=1∨i=2∨i=3∨i=4∨i=5∨i=6∨i=7:=by omega
 rcases this with rfl|rfl|rfl|rfl|rfl|rfl|rfl|rfl
 all_goals
  go_enter Tryz.func88,Tryz.ntmps88
  go_wp2
  go_ret
  exact⟨rfl,rfl⟩
end Go.Proofs.YtllhbhogfffedaaGreatDoor
namespace Go.Proofs.YtllhbhogfffedaaGreatDoor.C
open Go.RowKit
theorem refmay_any (f t:Int) (w:World):Calls Tryz.prog 125 #[.agg #[.int .i64 f,.int .i64 t]] w λe w'=>e=.returned (.bool (mayB (f,t)))/\ Below w.heap.size w w':=by
 have hb:Below w.heap.size w (w.alloc (.cells #[.int .i64 f,.int .i64 t] 128)):=(Below.refl _ _).alloc (Nat.le_refl _) _
 have HB:Hid (Below w.heap.size w (w.alloc (.cells #[.int .i64 f,.int .i64 t] 128))):=hb
 clear hb
 go_enter Tryz.func125,Tryz.ntmps125
 by_cases h1:0<= f
 ·by_cases h2:f < t
  ·have h2':f<= t:=by omega
   by_cases h3:t<= 4611686018427387903
   ·go_wp2
    go_ret
    exact⟨by simp[mayB,askB,h1,h2,h2',h3],HB.out⟩
   ·go_wp2
    go_ret
    exact⟨by simp[mayB,askB];omega,HB.out⟩
  ·go_wp2
   go_ret
   exact⟨by simp[mayB,askB];omega,HB.out⟩
 ·go_wp2
  go_ret
  exact⟨by simp[mayB,askB];omega,HB.out⟩
def lst (l:List Sp) (k:Nat):Int:=match k with
 |0=>0
 |k+1=>(l.getD k (0,0)).2+1
theorem refright_any (a:Option Addr) (c:Nat) (l:List Sp) (w:World) (h:Spa w a l) (hm:l.length<= 9223372036854775807):Calls Tryz.prog 115 #[.slice a l.length c] w λe w'=>e=.returned (.bool (setB l))/\ Below w.heap.size w w':=by
 have HS:Hid (Spa w a l):=h
 clear h
 go_enter Tryz.func115,Tryz.ntmps115
 by_cases h2:2000 < l.length
 ·have h2':(2000:Int) < (l.length:Int):=by omega
  have HV:Hid (setB l=false):=by unfold Hid setB;rw[decide_eq_false (by omega)];rfl
  generalize setB l=V at*
  go_wp2
  go_ret
  exact⟨by rw[HV.out];rfl,Below.refl _ _⟩
 ·have h2':¬(2000:Int) < (l.length:Int):=by omega
  have HE:Hid (rtB 0 l=setB l):=by unfold Hid setB;rw[decide_eq_true (by omega)];rfl
  generalize setB l=V at*
  go_wp2_with fail
  go_loopw [3] (λi wr=>∃(k:Nat),k<= l.length/\ i=.int .i64 k/\ Below w.heap.size w wr/\ rtB (lst l k) (l.drop k)=V) (λi _=>l.length - (intOf i).toNat)
  case atStart=>exact⟨0,by omega,rfl,Below.refl _ _,HE.out⟩
  case round=>
   obtain⟨k,hk,rfl,hbe,hrt⟩:=hrel
   have HBe:Hid (Below w.heap.size w wr):=hbe
   have HR:Hid (rtB (lst l k) (l.drop k)=V):=hrt
   clear hbe hrt HE
   by_cases hlt:k < l.length
   ·have hlt':(k:Int) < (l.length:Int):=by omega
    obtain⟨p,hp⟩:=get_some l k hlt
    obtain⟨g,off,rfl,q1,q2⟩:=(HS.out.below HBe.out).at hp
    rw[drop_get l k p hp] at HR
    obtain⟨p1,p2⟩:=p
    simp only at q1 q2
    have HR2:Hid ((mayB (p1,p2) && (decide (lst l k<= p1) && rtB (p2+1) (l.drop (k+1))))=V):=HR.out
    have hA:=refmay_any p1 p2 wr
    have HM:Hid (mayB (p1,p2)=true-> 0<= p1/\ p1 < p2/\ p2<= 4611686018427387903):=by
     intro h;simp[mayB,askB] at h;omega
    have HL:Hid (lst l (k+1)=p2+1):=by unfold Hid lst;simp only;rw[List.getD_eq_getElem?_getD,hp];rfl
    clear HR
    generalize mayB (p1,p2)=m at*
    go_wp2_with fail
    refine hA.mono ?_
    rintro e w2 ⟨rfl,hb2⟩
    clear hA q1 q2
    have HB2:Hid (Below w.heap.size w w2):=HBe.out.trans (hb2.mono HBe.out.size)
    clear hb2 HBe
    cases m with
    |false=>
     have HV:Hid (V=false):=HR2.out.symm
     clear HR2 HM HL hp
     go_wp2_with fail
     go_quiet (fail)
     go_wp2
     go_ret
     exact⟨by rw[HV.out];rfl,below_drewN HB2.out _⟩
    |true=>
     obtain⟨m1,m2,m3⟩:=HM.out rfl
     clear HM
     by_cases hk0:k=0
     ·subst hk0
      have HR3:Hid (rtB (lst l (0+1)) (l.drop (0+1))=V):=by
       have:=HR2.out;rw[decide_eq_true (show lst l 0<= p1 from m1)] at this;rw[Hid,HL.out];exact this
      clear HR2 HL hp
      go_wp2_with fail
      go_quiet (fail)
      go_wp2
      go_roundw
      case rel=>exact⟨0+1,by omega,by go_num,below_drewN HB2.out _,HR3.out⟩
      case measure=>simp[intOf];omega
     ·obtain⟨j,rfl⟩:∃j,k=j+1:=⟨k - 1,by omega⟩
      obtain⟨u,hu⟩:=get_some l j (by omega)
      obtain⟨g',off',he,r1,r2⟩:=(HS.out.below HB2.out).at hu
      obtain⟨g2,off2,he2,t1,t2⟩:=(HS.out.below HB2.out).at hp
      simp only[Option.some.injEq,Addr.mk.injEq,and_true] at he he2
      obtain⟨rfl,rfl⟩:=he
      obtain⟨rfl,rfl⟩:=he2
      obtain⟨u1,u2⟩:=u
      have HLs:Hid (lst l (j+1)=u2+1):=by unfold Hid lst;simp only;rw[List.getD_eq_getElem?_getD,hu];rfl
      rw[HLs.out] at HR2
      simp only at r1 r2 t1 t2
      have hj:(0:Int) < ((j+1:Nat):Int):=by omega
      clear hu hp HLs
      by_cases e1:p1<= u2
      ·have HV:Hid (V=false):=by have:=HR2.out;rw[decide_eq_false (by omega)] at this;exact this.symm
       clear HR2 HL
       have hd:decide (p1<= u2)=true:=decide_eq_true e1
       go_wp2_with fail
       go_quiet (fail)
       go_wp2
       go_ret
       exact⟨by rw[HV.out];rfl,below_drewN HB2.out _⟩
      ·have HR3:Hid (rtB (lst l (j+1+1)) (l.drop (j+1+1))=V):=by
        have:=HR2.out;rw[decide_eq_true (show u2+1<= p1 by omega)] at this;rw[Hid,HL.out];exact this
       clear HR2 HL
       have hd:decide (p1<= u2)=false:=decide_eq_false e1
       go_wp2_with fail
       go_quiet (fail)
       go_wp2
       go_roundw
       case rel=>exact⟨j+1+1,by omega,by go_num,below_drewN HB2.out _,HR3.out⟩
       case measure=>simp[intOf];omega
   ·have hkn:k=l.length:=by omega
    have HV:Hid (V=true):=by have:=HR.out;rw[hkn,List.drop_length] at this;exact this.symm
    clear HR
    subst hkn
    go_wp2
    go_ret
    exact⟨by rw[HV.out];rfl,HBe.out⟩
end Go.Proofs.YtllhbhogfffedaaGreatDoor.C
namespace Go.Proofs.YtllhbhogfffedaaGreatDoor
open Go.RowKit
set_option linter.unusedVariables false
set_option linter.unusedSimpArgs false
theorem lenB_yes {n low:Int} (h:n=0∨(low<= n/\ n<= 65536)):lenB n low=true:=by
 unfold lenB
 rcases h with h|h
 ·subst h;rfl
 ·rw[decide_eq_true h.1,decide_eq_true h.2,Bool.and_true,Bool.or_true]
theorem lenB_no {n low:Int} (h:¬n=0/\ ¬(low<= n/\ n<= 65536)):lenB n low=false:=by
 unfold lenB
 rw[beq_false_of_ne h.1,Bool.false_or]
 by_cases h1:low<= n
 ·rw[decide_eq_true h1,decide_eq_false (λh2=>h.2 ⟨h1,h2⟩)];rfl
 ·rw[decide_eq_false h1];rfl
theorem fit_k1 (r:Rc) (sa da:Option Addr) (ns nd sc dc:Nat) (w:World) (hns:r.spans.length=ns) (hnd:r.data.length=nd) (hm:nd<= 140737488355328) (hs:C.Ls w (.slice sa ns sc) r.spans) (hb:∀i < 8,0<= nmA r i/\ nmA r i<= 4611686018427387903) (hk:r.kind=1):
 Calls Tryz.prog 110 #[.agg (rcC r (.slice sa ns sc) (.slice da nd dc))] w λe w'=>e=.returned (.bool (suitB r))/\ Below w.heap.size w w':=by
 have HB:Hid (Below w.heap.size w (w.alloc (rcO r (.slice sa ns sc) (.slice da nd dc)))):=(Below.refl _ _).alloc (aqH _) _
 have HS:Hid (suitB r=(decide (1<= r.size) && decide (r.size<= 1073741824))):=by unfold Hid suitB;rw[hk,if_pos rfl]
 generalize suitB r=S at*
 clear hb
 obtain⟨kind,org,num,peer,srv,off,red,size,how,spans,data⟩:=r
 simp only at HS hk
 subst hk
 clear hns hnd hs
 rw[HS.out]
 clear HS
 by_cases p0:1<= size
 ·have p0':decide (1<= size)=true:=decide_eq_true p0
  have hv:(decide (1<= size) && decide (size<= 1073741824))=decide (size<= 1073741824):=by simp only[p0',Bool.true_and,Bool.false_and,Bool.and_false,Bool.and_true]
  rw[hv]
  clear hv
  go_enter Tryz.func110,Tryz.ntmps110
  go_wp2
  go_ret
  exact⟨rfl,HB.out⟩
 ·have p0':decide (1<= size)=false:=decide_eq_false p0
  have hv:(decide (1<= size) && decide (size<= 1073741824))=false:=by simp only[p0',Bool.true_and,Bool.false_and,Bool.and_false,Bool.and_true]
  rw[hv]
  clear hv
  go_enter Tryz.func110,Tryz.ntmps110
  go_wp2
  go_ret
  exact⟨rfl,HB.out⟩
theorem fit_k2 (r:Rc) (sa da:Option Addr) (ns nd sc dc:Nat) (w:World) (hns:r.spans.length=ns) (hnd:r.data.length=nd) (hm:nd<= 140737488355328) (hs:C.Ls w (.slice sa ns sc) r.spans) (hb:∀i < 8,0<= nmA r i/\ nmA r i<= 4611686018427387903) (hk:r.kind=2):
 Calls Tryz.prog 110 #[.agg (rcC r (.slice sa ns sc) (.slice da nd dc))] w λe w'=>e=.returned (.bool (suitB r))/\ Below w.heap.size w w':=by
 have HB:Hid (Below w.heap.size w (w.alloc (rcO r (.slice sa ns sc) (.slice da nd dc)))):=(Below.refl _ _).alloc (aqH _) _
 have HS:Hid (suitB r=(decide (1<= r.size))):=by unfold Hid suitB;rw[hk,if_neg (by decide),if_pos rfl]
 generalize suitB r=S at*
 clear hb
 obtain⟨kind,org,num,peer,srv,off,red,size,how,spans,data⟩:=r
 simp only at HS hk
 subst hk
 clear hns hnd hs
 rw[HS.out]
 clear HS
 go_enter Tryz.func110,Tryz.ntmps110
 go_wp2
 go_ret
 exact⟨rfl,HB.out⟩
theorem fit_k3 (r:Rc) (sa da:Option Addr) (ns nd sc dc:Nat) (w:World) (hns:r.spans.length=ns) (hnd:r.data.length=nd) (hm:nd<= 140737488355328) (hs:C.Ls w (.slice sa ns sc) r.spans) (hb:∀i < 8,0<= nmA r i/\ nmA r i<= 4611686018427387903) (hk:r.kind=3):
 Calls Tryz.prog 110 #[.agg (rcC r (.slice sa ns sc) (.slice da nd dc))] w λe w'=>e=.returned (.bool (suitB r))/\ Below w.heap.size w w':=by
 have HB:Hid (Below w.heap.size w (w.alloc (rcO r (.slice sa ns sc) (.slice da nd dc)))):=(Below.refl _ _).alloc (aqH _) _
 have HS:Hid (suitB r=(decide (1<= r.peer) && ((decide (1<= r.red) && decide (r.red<= r.size)) && (decide (r.size<= 65536) && ((nd:Int) == r.red))))):=by unfold Hid suitB;rw[hk,if_neg (by decide),if_neg (by decide),if_pos rfl];rw[hnd]
 generalize suitB r=S at*
 clear hb
 obtain⟨kind,org,num,peer,srv,off,red,size,how,spans,data⟩:=r
 simp only at HS hk
 subst hk
 clear hns hnd hs
 rw[HS.out]
 clear HS
 by_cases p0:1<= peer
 ·have p0':decide (1<= peer)=true:=decide_eq_true p0
  by_cases p1:1<= red
  ·have p1':decide (1<= red)=true:=decide_eq_true p1
   by_cases p2:red<= size
   ·have p2':decide (red<= size)=true:=decide_eq_true p2
    by_cases p3:size<= 65536
    ·have p3':decide (size<= 65536)=true:=decide_eq_true p3
     have hv:(decide (1<= peer) && ((decide (1<= red) && decide (red<= size)) && (decide (size<= 65536) && ((nd:Int) == red))))=((nd:Int) == red):=by simp only[p0',p1',p2',p3',Bool.true_and,Bool.false_and,Bool.and_false,Bool.and_true]
     rw[hv]
     clear hv
     go_enter Tryz.func110,Tryz.ntmps110
     go_wp2
     go_ret
     exact⟨rfl,HB.out⟩
    ·have p3':decide (size<= 65536)=false:=decide_eq_false p3
     have hv:(decide (1<= peer) && ((decide (1<= red) && decide (red<= size)) && (decide (size<= 65536) && ((nd:Int) == red))))=false:=by simp only[p0',p1',p2',p3',Bool.true_and,Bool.false_and,Bool.and_false,Bool.and_true]
     rw[hv]
     clear hv
     go_enter Tryz.func110,Tryz.ntmps110
     go_wp2
     go_ret
     exact⟨rfl,HB.out⟩
   ·have p2':decide (red<= size)=false:=decide_eq_false p2
    have hv:(decide (1<= peer) && ((decide (1<= red) && decide (red<= size)) && (decide (size<= 65536) && ((nd:Int) == red))))=false:=by simp only[p0',p1',p2',Bool.true_and,Bool.false_and,Bool.and_false,Bool.and_true]
    rw[hv]
    clear hv
    go_enter Tryz.func110,Tryz.ntmps110
    go_wp2
    go_ret
    exact⟨rfl,HB.out⟩
  ·have p1':decide (1<= red)=false:=decide_eq_false p1
   have hv:(decide (1<= peer) && ((decide (1<= red) && decide (red<= size)) && (decide (size<= 65536) && ((nd:Int) == red))))=false:=by simp only[p0',p1',Bool.true_and,Bool.false_and,Bool.and_false,Bool.and_true]
   rw[hv]
   clear hv
   go_enter Tryz.func110,Tryz.ntmps110
   go_wp2
   go_ret
   exact⟨rfl,HB.out⟩
 ·have p0':decide (1<= peer)=false:=decide_eq_false p0
  have hv:(decide (1<= peer) && ((decide (1<= red) && decide (red<= size)) && (decide (size<= 65536) && ((nd:Int) == red))))=false:=by simp only[p0',Bool.true_and,Bool.false_and,Bool.and_false,Bool.and_true]
  rw[hv]
  clear hv
  go_enter Tryz.func110,Tryz.ntmps110
  go_wp2
  go_ret
  exact⟨rfl,HB.out⟩
theorem fit_k4 (r:Rc) (sa da:Option Addr) (ns nd sc dc:Nat) (w:World) (hns:r.spans.length=ns) (hnd:r.data.length=nd) (hm:nd<= 140737488355328) (hs:C.Ls w (.slice sa ns sc) r.spans) (hb:∀i < 8,0<= nmA r i/\ nmA r i<= 4611686018427387903) (hk:r.kind=4):
 Calls Tryz.prog 110 #[.agg (rcC r (.slice sa ns sc) (.slice da nd dc))] w λe w'=>e=.returned (.bool (suitB r))/\ Below w.heap.size w w':=by
 have HB:Hid (Below w.heap.size w (w.alloc (rcO r (.slice sa ns sc) (.slice da nd dc)))):=(Below.refl _ _).alloc (aqH _) _
 have HS:Hid (suitB r=(decide (r.how<= 6))):=by unfold Hid suitB;rw[hk,if_neg (by decide),if_neg (by decide),if_neg (by decide),if_pos rfl]
 generalize suitB r=S at*
 clear hb
 obtain⟨kind,org,num,peer,srv,off,red,size,how,spans,data⟩:=r
 simp only at HS hk
 subst hk
 clear hns hnd hs
 rw[HS.out]
 clear HS
 go_enter Tryz.func110,Tryz.ntmps110
 go_wp2
 go_ret
 exact⟨rfl,HB.out⟩
theorem fit_k8 (r:Rc) (sa da:Option Addr) (ns nd sc dc:Nat) (w:World) (hns:r.spans.length=ns) (hnd:r.data.length=nd) (hm:nd<= 140737488355328) (hs:C.Ls w (.slice sa ns sc) r.spans) (hb:∀i < 8,0<= nmA r i/\ nmA r i<= 4611686018427387903) (hk:r.kind=8):
 Calls Tryz.prog 110 #[.agg (rcC r (.slice sa ns sc) (.slice da nd dc))] w λe w'=>e=.returned (.bool (suitB r))/\ Below w.heap.size w w':=by
 have HB:Hid (Below w.heap.size w (w.alloc (rcO r (.slice sa ns sc) (.slice da nd dc)))):=(Below.refl _ _).alloc (aqH _) _
 have HS:Hid (suitB r=(decide (r.how<= 5))):=by unfold Hid suitB;rw[hk,if_neg (by decide),if_neg (by decide),if_neg (by decide),if_neg (by decide),if_neg (by decide),if_pos rfl]
 generalize suitB r=S at*
 clear hb
 obtain⟨kind,org,num,peer,srv,off,red,size,how,spans,data⟩:=r
 simp only at HS hk
 subst hk
 clear hns hnd hs
 rw[HS.out]
 clear HS
 go_enter Tryz.func110,Tryz.ntmps110
 go_wp2
 go_ret
 exact⟨rfl,HB.out⟩
theorem fit_k12 (r:Rc) (sa da:Option Addr) (ns nd sc dc:Nat) (w:World) (hns:r.spans.length=ns) (hnd:r.data.length=nd) (hm:nd<= 140737488355328) (hs:C.Ls w (.slice sa ns sc) r.spans) (hb:∀i < 8,0<= nmA r i/\ nmA r i<= 4611686018427387903) (hk:r.kind=12):
 Calls Tryz.prog 110 #[.agg (rcC r (.slice sa ns sc) (.slice da nd dc))] w λe w'=>e=.returned (.bool (suitB r))/\ Below w.heap.size w w':=by
 have HB:Hid (Below w.heap.size w (w.alloc (rcO r (.slice sa ns sc) (.slice da nd dc)))):=(Below.refl _ _).alloc (aqH _) _
 have HS:Hid (suitB r=((decide (1<= r.red) && decide (r.red<= 65536)) && lenB r.size r.red)):=by unfold Hid suitB;rw[hk,if_neg (by decide),if_neg (by decide),if_neg (by decide),if_neg (by decide),if_neg (by decide),if_neg (by decide),if_neg (by decide),if_pos rfl]
 have hoff:=hb 4 (by omega)
 rw[show nmA r 4=r.off from rfl] at hoff
 clear hb
 generalize suitB r=S at*
 obtain⟨kind,org,num,peer,srv,off,red,size,how,spans,data⟩:=r
 simp only at HS hk hoff
 subst hk
 clear hns hnd hs
 rw[HS.out]
 clear HS
 by_cases p0:1<= red
 ·have p0':decide (1<= red)=true:=decide_eq_true p0
  by_cases p1:red<= 65536
  ·have p1':decide (red<= 65536)=true:=decide_eq_true p1
   by_cases z0:size=0
   ·have hz:(size == 0)=true:=beq_iff_eq.mpr z0
    have hl:lenB size red=true:=lenB_yes (by omega)
    clear z0
    have hv:((decide (1<= red) && decide (red<= 65536)) && lenB size red)=true:=by simp only[p0',p1',hl,Bool.true_and,Bool.false_and,Bool.and_false,Bool.and_true]
    rw[hv]
    clear hv
    go_enter Tryz.func110,Tryz.ntmps110
    go_wp2
    go_ret
    exact⟨rfl,HB.out⟩
   ·have hz:(size == 0)=false:=beq_false_of_ne z0
    by_cases z1:red<= size
    ·by_cases z2:size<= 65536
     ·have hl:lenB size red=true:=lenB_yes (by omega)
      have hv:((decide (1<= red) && decide (red<= 65536)) && lenB size red)=true:=by simp only[p0',p1',hl,Bool.true_and,Bool.false_and,Bool.and_false,Bool.and_true]
      rw[hv]
      clear hv
      go_enter Tryz.func110,Tryz.ntmps110
      go_wp2
      go_ret
      exact⟨rfl,HB.out⟩
     ·have hl:lenB size red=false:=lenB_no (by omega)
      have hv:((decide (1<= red) && decide (red<= 65536)) && lenB size red)=false:=by simp only[p0',p1',hl,Bool.true_and,Bool.false_and,Bool.and_false,Bool.and_true]
      rw[hv]
      clear hv
      go_enter Tryz.func110,Tryz.ntmps110
      go_wp2
      go_ret
      exact⟨rfl,HB.out⟩
    ·have hl:lenB size red=false:=lenB_no (by omega)
     have hv:((decide (1<= red) && decide (red<= 65536)) && lenB size red)=false:=by simp only[p0',p1',hl,Bool.true_and,Bool.false_and,Bool.and_false,Bool.and_true]
     rw[hv]
     clear hv
     go_enter Tryz.func110,Tryz.ntmps110
     go_wp2
     go_ret
     exact⟨rfl,HB.out⟩
  ·have p1':decide (red<= 65536)=false:=decide_eq_false p1
   have hv:((decide (1<= red) && decide (red<= 65536)) && lenB size red)=false:=by simp only[p0',p1',Bool.true_and,Bool.false_and,Bool.and_false,Bool.and_true]
   rw[hv]
   clear hv
   go_enter Tryz.func110,Tryz.ntmps110
   go_wp2
   go_ret
   exact⟨rfl,HB.out⟩
 ·have p0':decide (1<= red)=false:=decide_eq_false p0
  have hv:((decide (1<= red) && decide (red<= 65536)) && lenB size red)=false:=by simp only[p0',Bool.true_and,Bool.false_and,Bool.and_false,Bool.and_true]
  rw[hv]
  clear hv
  go_enter Tryz.func110,Tryz.ntmps110
  go_wp2
  go_ret
  exact⟨rfl,HB.out⟩
theorem fit_no (r:Rc) (sa da:Option Addr) (ns nd sc dc:Nat) (w:World) (hns:r.spans.length=ns) (hnd:r.data.length=nd) (hm:nd<= 140737488355328) (hs:C.Ls w (.slice sa ns sc) r.spans) (hb:∀i < 8,0<= nmA r i/\ nmA r i<= 4611686018427387903) (hk:r.kind≠1/\ r.kind≠2/\ r.kind≠3/\ r.kind≠4/\ r.kind≠6/\ r.kind≠8/\ r.kind≠11/\ r.kind≠12):
 Calls Tryz.prog 110 #[.agg (rcC r (.slice sa ns sc) (.slice da nd dc))] w λe w'=>e=.returned (.bool (suitB r))/\ Below w.heap.size w w':=by
 have HB:Hid (Below w.heap.size w (w.alloc (rcO r (.slice sa ns sc) (.slice da nd dc)))):=(Below.refl _ _).alloc (aqH _) _
 obtain⟨k1,k2,k3,k4,k6,k8,k11,k12⟩:=hk
 have HS:Hid (suitB r=true):=by unfold Hid suitB;rw[if_neg k1,if_neg k2,if_neg k3,if_neg k4,if_neg k6,if_neg k8,if_neg k11,if_neg k12]
 rw[HS.out]
 clear HS hs hb
 go_enter Tryz.func110,Tryz.ntmps110
 go_wp2
 go_ret
 exact⟨rfl,HB.out⟩
theorem fit_k6 (r:Rc) (sa da:Option Addr) (ns nd sc dc:Nat) (w:World) (hns:r.spans.length=ns) (hnd:r.data.length=nd) (hm:nd<= 140737488355328) (hs:C.Ls w (.slice sa ns sc) r.spans) (hb:∀i < 8,0<= nmA r i/\ nmA r i<= 4611686018427387903) (hk:r.kind=6):
 Calls Tryz.prog 110 #[.agg (rcC r (.slice sa ns sc) (.slice da nd dc))] w λe w'=>e=.returned (.bool (suitB r))/\ Below w.heap.size w w':=by
 have HB:Hid (Below w.heap.size w (w.alloc (rcO r (.slice sa ns sc) (.slice da nd dc)))):=(Below.refl _ _).alloc (aqH _) _
 have HS:Hid (suitB r=(decide (1<= (nd:Int)) && (decide (r.off+(nd:Int)<= 65536) && (lenB r.red (r.off+(nd:Int)) && lenB r.size (max (r.off+(nd:Int)) r.red))))):=by unfold Hid suitB;rw[hk,if_neg (by decide),if_neg (by decide),if_neg (by decide),if_neg (by decide),if_pos rfl];rw[hnd]
 have hoff:=hb 4 (by omega)
 rw[show nmA r 4=r.off from rfl] at hoff
 clear hb
 generalize suitB r=S at*
 obtain⟨kind,org,num,peer,srv,off,red,size,how,spans,data⟩:=r
 simp only at HS hk hoff
 subst hk
 clear hns hnd hs
 rw[HS.out]
 clear HS
 obtain⟨ho0,ho1⟩:=hoff
 have hwe:IntKind.i64.wrap (off+(nd:Int))=off+(nd:Int):=by rw[IntKind.wrap_i64];omega
 by_cases p0:1<= (nd:Int)
 ·have p0':decide (1<= (nd:Int))=true:=decide_eq_true p0
  by_cases p1:off<= 65536
  ·by_cases p2:off+(nd:Int)<= 65536
   ·have p2':decide (off+(nd:Int)<= 65536)=true:=decide_eq_true p2
    by_cases r0:red=0
    ·have hr:(red == 0)=true:=beq_iff_eq.mpr r0
     by_cases z0:size=0
     ·have hz:(size == 0)=true:=beq_iff_eq.mpr z0
      first|(exfalso;omega)|skip
      all_goals
       have hl1:lenB red (off+(nd:Int))=true:=lenB_yes (by omega)
       have hl2:lenB size (max (off+(nd:Int)) red)=true:=lenB_yes (by omega)
       clear z0
       clear r0
       have hv:(decide (1<= (nd:Int)) && (decide (off+(nd:Int)<= 65536) && (lenB red (off+(nd:Int)) && lenB size (max (off+(nd:Int)) red))))=true:=by simp only[p0',p2',hl1,hl2,Bool.true_and,Bool.false_and,Bool.and_false,Bool.and_true]
       rw[hv]
       clear hv
       go_enter Tryz.func110,Tryz.ntmps110
       go_wp2
       go_ret
       exact⟨rfl,HB.out⟩
     ·have hz:(size == 0)=false:=beq_false_of_ne z0
      by_cases z1:off+(nd:Int)<= size
      ·by_cases z2:red<= size
       ·by_cases z3:size<= 65536
        ·first|(exfalso;omega)|skip
         all_goals
          have hl1:lenB red (off+(nd:Int))=true:=lenB_yes (by omega)
          have hl2:lenB size (max (off+(nd:Int)) red)=true:=lenB_yes (by omega)
          clear r0
          have hv:(decide (1<= (nd:Int)) && (decide (off+(nd:Int)<= 65536) && (lenB red (off+(nd:Int)) && lenB size (max (off+(nd:Int)) red))))=true:=by simp only[p0',p2',hl1,hl2,Bool.true_and,Bool.false_and,Bool.and_false,Bool.and_true]
          rw[hv]
          clear hv
          go_enter Tryz.func110,Tryz.ntmps110
          go_wp2
          go_ret
          exact⟨rfl,HB.out⟩
        ·first|(exfalso;omega)|skip
         all_goals
          have hl1:lenB red (off+(nd:Int))=true:=lenB_yes (by omega)
          have hl2:lenB size (max (off+(nd:Int)) red)=false:=lenB_no (by omega)
          clear r0
          have hv:(decide (1<= (nd:Int)) && (decide (off+(nd:Int)<= 65536) && (lenB red (off+(nd:Int)) && lenB size (max (off+(nd:Int)) red))))=false:=by simp only[p0',p2',hl1,hl2,Bool.true_and,Bool.false_and,Bool.and_false,Bool.and_true]
          rw[hv]
          clear hv
          go_enter Tryz.func110,Tryz.ntmps110
          go_wp2
          go_ret
          exact⟨rfl,HB.out⟩
       ·first|(exfalso;omega)|skip
        all_goals
         have hl1:lenB red (off+(nd:Int))=true:=lenB_yes (by omega)
         have hl2:lenB size (max (off+(nd:Int)) red)=false:=lenB_no (by omega)
         clear r0
         have hv:(decide (1<= (nd:Int)) && (decide (off+(nd:Int)<= 65536) && (lenB red (off+(nd:Int)) && lenB size (max (off+(nd:Int)) red))))=false:=by simp only[p0',p2',hl1,hl2,Bool.true_and,Bool.false_and,Bool.and_false,Bool.and_true]
         rw[hv]
         clear hv
         go_enter Tryz.func110,Tryz.ntmps110
         go_wp2
         go_ret
         exact⟨rfl,HB.out⟩
      ·first|(exfalso;omega)|skip
       all_goals
        have hl1:lenB red (off+(nd:Int))=true:=lenB_yes (by omega)
        have hl2:lenB size (max (off+(nd:Int)) red)=false:=lenB_no (by omega)
        clear r0
        have hv:(decide (1<= (nd:Int)) && (decide (off+(nd:Int)<= 65536) && (lenB red (off+(nd:Int)) && lenB size (max (off+(nd:Int)) red))))=false:=by simp only[p0',p2',hl1,hl2,Bool.true_and,Bool.false_and,Bool.and_false,Bool.and_true]
        rw[hv]
        clear hv
        go_enter Tryz.func110,Tryz.ntmps110
        go_wp2
        go_ret
        exact⟨rfl,HB.out⟩
    ·have hr:(red == 0)=false:=beq_false_of_ne r0
     by_cases r1:off+(nd:Int)<= red
     ·by_cases r2:red<= 65536
      ·by_cases z0:size=0
       ·have hz:(size == 0)=true:=beq_iff_eq.mpr z0
        first|(exfalso;omega)|skip
        all_goals
         have hl1:lenB red (off+(nd:Int))=true:=lenB_yes (by omega)
         have hl2:lenB size (max (off+(nd:Int)) red)=true:=lenB_yes (by omega)
         clear z0
         have hv:(decide (1<= (nd:Int)) && (decide (off+(nd:Int)<= 65536) && (lenB red (off+(nd:Int)) && lenB size (max (off+(nd:Int)) red))))=true:=by simp only[p0',p2',hl1,hl2,Bool.true_and,Bool.false_and,Bool.and_false,Bool.and_true]
         rw[hv]
         clear hv
         go_enter Tryz.func110,Tryz.ntmps110
         go_wp2
         go_ret
         exact⟨rfl,HB.out⟩
       ·have hz:(size == 0)=false:=beq_false_of_ne z0
        by_cases z1:off+(nd:Int)<= size
        ·by_cases z2:red<= size
         ·by_cases z3:size<= 65536
          ·first|(exfalso;omega)|skip
           all_goals
            have hl1:lenB red (off+(nd:Int))=true:=lenB_yes (by omega)
            have hl2:lenB size (max (off+(nd:Int)) red)=true:=lenB_yes (by omega)
            have hv:(decide (1<= (nd:Int)) && (decide (off+(nd:Int)<= 65536) && (lenB red (off+(nd:Int)) && lenB size (max (off+(nd:Int)) red))))=true:=by simp only[p0',p2',hl1,hl2,Bool.true_and,Bool.false_and,Bool.and_false,Bool.and_true]
            rw[hv]
            clear hv
            go_enter Tryz.func110,Tryz.ntmps110
            go_wp2
            go_ret
            exact⟨rfl,HB.out⟩
          ·first|(exfalso;omega)|skip
           all_goals
            have hl1:lenB red (off+(nd:Int))=true:=lenB_yes (by omega)
            have hl2:lenB size (max (off+(nd:Int)) red)=false:=lenB_no (by omega)
            have hv:(decide (1<= (nd:Int)) && (decide (off+(nd:Int)<= 65536) && (lenB red (off+(nd:Int)) && lenB size (max (off+(nd:Int)) red))))=false:=by simp only[p0',p2',hl1,hl2,Bool.true_and,Bool.false_and,Bool.and_false,Bool.and_true]
            rw[hv]
            clear hv
            go_enter Tryz.func110,Tryz.ntmps110
            go_wp2
            go_ret
            exact⟨rfl,HB.out⟩
         ·first|(exfalso;omega)|skip
          all_goals
           have hl1:lenB red (off+(nd:Int))=true:=lenB_yes (by omega)
           have hl2:lenB size (max (off+(nd:Int)) red)=false:=lenB_no (by omega)
           have hv:(decide (1<= (nd:Int)) && (decide (off+(nd:Int)<= 65536) && (lenB red (off+(nd:Int)) && lenB size (max (off+(nd:Int)) red))))=false:=by simp only[p0',p2',hl1,hl2,Bool.true_and,Bool.false_and,Bool.and_false,Bool.and_true]
           rw[hv]
           clear hv
           go_enter Tryz.func110,Tryz.ntmps110
           go_wp2
           go_ret
           exact⟨rfl,HB.out⟩
        ·first|(exfalso;omega)|skip
         all_goals
          have hl1:lenB red (off+(nd:Int))=true:=lenB_yes (by omega)
          have hl2:lenB size (max (off+(nd:Int)) red)=false:=lenB_no (by omega)
          have hv:(decide (1<= (nd:Int)) && (decide (off+(nd:Int)<= 65536) && (lenB red (off+(nd:Int)) && lenB size (max (off+(nd:Int)) red))))=false:=by simp only[p0',p2',hl1,hl2,Bool.true_and,Bool.false_and,Bool.and_false,Bool.and_true]
          rw[hv]
          clear hv
          go_enter Tryz.func110,Tryz.ntmps110
          go_wp2
          go_ret
          exact⟨rfl,HB.out⟩
      ·by_cases z0:size=0
       ·have hz:(size == 0)=true:=beq_iff_eq.mpr z0
        first|(exfalso;omega)|skip
        all_goals
         have hl1:lenB red (off+(nd:Int))=false:=lenB_no (by omega)
         have hl2:lenB size (max (off+(nd:Int)) red)=true:=lenB_yes (by omega)
         clear z0
         have hv:(decide (1<= (nd:Int)) && (decide (off+(nd:Int)<= 65536) && (lenB red (off+(nd:Int)) && lenB size (max (off+(nd:Int)) red))))=false:=by simp only[p0',p2',hl1,hl2,Bool.true_and,Bool.false_and,Bool.and_false,Bool.and_true]
         rw[hv]
         clear hv
         go_enter Tryz.func110,Tryz.ntmps110
         go_wp2
         go_ret
         exact⟨rfl,HB.out⟩
       ·have hz:(size == 0)=false:=beq_false_of_ne z0
        by_cases z1:off+(nd:Int)<= size
        ·by_cases z2:red<= size
         ·by_cases z3:size<= 65536
          ·first|(exfalso;omega)|skip
           all_goals
            have hl1:lenB red (off+(nd:Int))=false:=lenB_no (by omega)
            have hl2:lenB size (max (off+(nd:Int)) red)=true:=lenB_yes (by omega)
            have hv:(decide (1<= (nd:Int)) && (decide (off+(nd:Int)<= 65536) && (lenB red (off+(nd:Int)) && lenB size (max (off+(nd:Int)) red))))=false:=by simp only[p0',p2',hl1,hl2,Bool.true_and,Bool.false_and,Bool.and_false,Bool.and_true]
            rw[hv]
            clear hv
            go_enter Tryz.func110,Tryz.ntmps110
            go_wp2
            go_ret
            exact⟨rfl,HB.out⟩
          ·first|(exfalso;omega)|skip
           all_goals
            have hl1:lenB red (off+(nd:Int))=false:=lenB_no (by omega)
            have hl2:lenB size (max (off+(nd:Int)) red)=false:=lenB_no (by omega)
            have hv:(decide (1<= (nd:Int)) && (decide (off+(nd:Int)<= 65536) && (lenB red (off+(nd:Int)) && lenB size (max (off+(nd:Int)) red))))=false:=by simp only[p0',p2',hl1,hl2,Bool.true_and,Bool.false_and,Bool.and_false,Bool.and_true]
            rw[hv]
            clear hv
            go_enter Tryz.func110,Tryz.ntmps110
            go_wp2
            go_ret
            exact⟨rfl,HB.out⟩
         ·first|(exfalso;omega)|skip
          all_goals
           have hl1:lenB red (off+(nd:Int))=false:=lenB_no (by omega)
           have hl2:lenB size (max (off+(nd:Int)) red)=false:=lenB_no (by omega)
           have hv:(decide (1<= (nd:Int)) && (decide (off+(nd:Int)<= 65536) && (lenB red (off+(nd:Int)) && lenB size (max (off+(nd:Int)) red))))=false:=by simp only[p0',p2',hl1,hl2,Bool.true_and,Bool.false_and,Bool.and_false,Bool.and_true]
           rw[hv]
           clear hv
           go_enter Tryz.func110,Tryz.ntmps110
           go_wp2
           go_ret
           exact⟨rfl,HB.out⟩
        ·first|(exfalso;omega)|skip
         all_goals
          have hl1:lenB red (off+(nd:Int))=false:=lenB_no (by omega)
          have hl2:lenB size (max (off+(nd:Int)) red)=false:=lenB_no (by omega)
          have hv:(decide (1<= (nd:Int)) && (decide (off+(nd:Int)<= 65536) && (lenB red (off+(nd:Int)) && lenB size (max (off+(nd:Int)) red))))=false:=by simp only[p0',p2',hl1,hl2,Bool.true_and,Bool.false_and,Bool.and_false,Bool.and_true]
          rw[hv]
          clear hv
          go_enter Tryz.func110,Tryz.ntmps110
          go_wp2
          go_ret
          exact⟨rfl,HB.out⟩
     ·by_cases z0:size=0
      ·have hz:(size == 0)=true:=beq_iff_eq.mpr z0
       first|(exfalso;omega)|skip
       all_goals
        have hl1:lenB red (off+(nd:Int))=false:=lenB_no (by omega)
        have hl2:lenB size (max (off+(nd:Int)) red)=true:=lenB_yes (by omega)
        clear z0
        have hv:(decide (1<= (nd:Int)) && (decide (off+(nd:Int)<= 65536) && (lenB red (off+(nd:Int)) && lenB size (max (off+(nd:Int)) red))))=false:=by simp only[p0',p2',hl1,hl2,Bool.true_and,Bool.false_and,Bool.and_false,Bool.and_true]
        rw[hv]
        clear hv
        go_enter Tryz.func110,Tryz.ntmps110
        go_wp2
        go_ret
        exact⟨rfl,HB.out⟩
      ·have hz:(size == 0)=false:=beq_false_of_ne z0
       by_cases z1:off+(nd:Int)<= size
       ·by_cases z2:red<= size
        ·by_cases z3:size<= 65536
         ·first|(exfalso;omega)|skip
          all_goals
           have hl1:lenB red (off+(nd:Int))=false:=lenB_no (by omega)
           have hl2:lenB size (max (off+(nd:Int)) red)=true:=lenB_yes (by omega)
           have hv:(decide (1<= (nd:Int)) && (decide (off+(nd:Int)<= 65536) && (lenB red (off+(nd:Int)) && lenB size (max (off+(nd:Int)) red))))=false:=by simp only[p0',p2',hl1,hl2,Bool.true_and,Bool.false_and,Bool.and_false,Bool.and_true]
           rw[hv]
           clear hv
           go_enter Tryz.func110,Tryz.ntmps110
           go_wp2
           go_ret
           exact⟨rfl,HB.out⟩
         ·first|(exfalso;omega)|skip
          all_goals
           have hl1:lenB red (off+(nd:Int))=false:=lenB_no (by omega)
           have hl2:lenB size (max (off+(nd:Int)) red)=false:=lenB_no (by omega)
           have hv:(decide (1<= (nd:Int)) && (decide (off+(nd:Int)<= 65536) && (lenB red (off+(nd:Int)) && lenB size (max (off+(nd:Int)) red))))=false:=by simp only[p0',p2',hl1,hl2,Bool.true_and,Bool.false_and,Bool.and_false,Bool.and_true]
           rw[hv]
           clear hv
           go_enter Tryz.func110,Tryz.ntmps110
           go_wp2
           go_ret
           exact⟨rfl,HB.out⟩
        ·first|(exfalso;omega)|skip
         all_goals
          have hl1:lenB red (off+(nd:Int))=false:=lenB_no (by omega)
          have hl2:lenB size (max (off+(nd:Int)) red)=false:=lenB_no (by omega)
          have hv:(decide (1<= (nd:Int)) && (decide (off+(nd:Int)<= 65536) && (lenB red (off+(nd:Int)) && lenB size (max (off+(nd:Int)) red))))=false:=by simp only[p0',p2',hl1,hl2,Bool.true_and,Bool.false_and,Bool.and_false,Bool.and_true]
          rw[hv]
          clear hv
          go_enter Tryz.func110,Tryz.ntmps110
          go_wp2
          go_ret
          exact⟨rfl,HB.out⟩
       ·first|(exfalso;omega)|skip
        all_goals
         have hl1:lenB red (off+(nd:Int))=false:=lenB_no (by omega)
         have hl2:lenB size (max (off+(nd:Int)) red)=false:=lenB_no (by omega)
         have hv:(decide (1<= (nd:Int)) && (decide (off+(nd:Int)<= 65536) && (lenB red (off+(nd:Int)) && lenB size (max (off+(nd:Int)) red))))=false:=by simp only[p0',p2',hl1,hl2,Bool.true_and,Bool.false_and,Bool.and_false,Bool.and_true]
         rw[hv]
         clear hv
         go_enter Tryz.func110,Tryz.ntmps110
         go_wp2
         go_ret
         exact⟨rfl,HB.out⟩
   ·have p2':decide (off+(nd:Int)<= 65536)=false:=decide_eq_false p2
    have hv:(decide (1<= (nd:Int)) && (decide (off+(nd:Int)<= 65536) && (lenB red (off+(nd:Int)) && lenB size (max (off+(nd:Int)) red))))=false:=by simp only[p0',p2',Bool.true_and,Bool.false_and,Bool.and_false,Bool.and_true]
    rw[hv]
    clear hv
    go_enter Tryz.func110,Tryz.ntmps110
    go_wp2
    go_ret
    exact⟨rfl,HB.out⟩
  ·have p2':decide (off+(nd:Int)<= 65536)=false:=decide_eq_false (by omega)
   have hv:(decide (1<= (nd:Int)) && (decide (off+(nd:Int)<= 65536) && (lenB red (off+(nd:Int)) && lenB size (max (off+(nd:Int)) red))))=false:=by simp only[p0',p2',Bool.true_and,Bool.false_and,Bool.and_false,Bool.and_true]
   rw[hv]
   clear hv
   go_enter Tryz.func110,Tryz.ntmps110
   go_wp2
   go_ret
   exact⟨rfl,HB.out⟩
 ·have p0':decide (1<= (nd:Int))=false:=decide_eq_false p0
  have hv:(decide (1<= (nd:Int)) && (decide (off+(nd:Int)<= 65536) && (lenB red (off+(nd:Int)) && lenB size (max (off+(nd:Int)) red))))=false:=by simp only[p0',Bool.true_and,Bool.false_and,Bool.and_false,Bool.and_true]
  rw[hv]
  clear hv
  go_enter Tryz.func110,Tryz.ntmps110
  go_wp2
  go_ret
  exact⟨rfl,HB.out⟩
theorem fit_k11 (r:Rc) (sa da:Option Addr) (ns nd sc dc:Nat) (w:World) (hns:r.spans.length=ns) (hs:C.Ls w (.slice sa ns sc) r.spans) (hk:r.kind=11):
 Calls Tryz.prog 110 #[.agg (rcC r (.slice sa ns sc) (.slice da nd dc))] w λe w'=>e=.returned (.bool (suitB r))/\ Below w.heap.size w w':=by
 have HB:Hid (Below w.heap.size w (w.alloc (rcO r (.slice sa ns sc) (.slice da nd dc)))):=(Below.refl _ _).alloc (aqH _) _
 have HX:Hid ((w.alloc (rcO r (.slice sa ns sc) (.slice da nd dc))).heap[w.heap.size]?=some (rcO r (.slice sa ns sc) (.slice da nd dc))):=heap_new6 w _
 have HR:Hid (Calls Tryz.prog 115 #[.slice sa ns sc] (w.alloc (rcO r (.slice sa ns sc) (.slice da nd dc))) λe w'=>e=.returned (.bool (C.setB r.spans))/\ Below (w.alloc (rcO r (.slice sa ns sc) (.slice da nd dc))).heap.size (w.alloc (rcO r (.slice sa ns sc) (.slice da nd dc))) w'):=by
  have h1:=hs.below HB.out
  obtain⟨a',c',hv,hsp,_,_⟩:=h1.shape
  simp only[Value.slice.injEq] at hv
  obtain⟨rfl,_,rfl⟩:=hv
  have h2:=C.refright_any sa sc r.spans (w.alloc (rcO r (.slice sa ns sc) (.slice da nd dc))) hsp h1.small
  rw[hns] at h2
  exact h2
 have HS:Hid (suitB r=(decide (1<= r.size) && ((decide (1<= (ns:Int)) && decide ((ns:Int)<= 500)) && (C.setB r.spans && decide (1<= (r.spans.head?.getD (0,0)).1))))):=by
  unfold Hid suitB
  rw[hk,if_neg (by decide),if_neg (by decide),if_neg (by decide),if_neg (by decide),if_neg (by decide),if_neg (by decide),if_pos rfl]
  unfold tombB
  rw[hns]
 have HC:Hid (1<= (ns:Int)-> ∃g off,sa=some ⟨g,off,none⟩/\ ∀W,Below w.heap.size w W-> W.cell? ⟨g,off,none⟩=some (.int .i64 (r.spans.head?.getD (0,0)).1)):=λh1=>by
  obtain⟨a',c',hv,hsp,_,_⟩:=hs.shape
  simp only[Value.slice.injEq] at hv
  obtain⟨rfl,_,rfl⟩:=hv
  rcases hsp with h0|⟨g,off,rfl,hc⟩
  ·rw[h0] at hns;simp at hns;omega
  ·obtain⟨p,ps,hp⟩:∃p ps,r.spans=p::ps:=by
    cases hq:r.spans with
    |nil=>rw[hq] at hns;simp at hns;omega
    |cons p ps=>exact⟨p,ps,rfl⟩
   refine⟨g,off,rfl,λW hW=>?_⟩
   have h2:=(hc 0 p (by rw[hp];rfl)).1
   simp only[Nat.zero_mul,Nat.add_zero] at h2
   rw[hp]
   exact C.cell_below h2 hW
 generalize (r.spans.head?.getD (0,0)).1=fr at*
 generalize C.setB r.spans=b at*
 generalize suitB r=S at*
 obtain⟨kind,org,num,peer,srv,off,red,size,how,spans,data⟩:=r
 simp only at HS hk
 subst hk
 clear hns hs
 rw[HS.out]
 clear HS
 by_cases p0:1<= size
 ·have p0':decide (1<= size)=true:=decide_eq_true p0
  cases b with
  |false=>
   have hv:(decide (1<= size) && ((decide (1<= (ns:Int)) && decide ((ns:Int)<= 500)) && (false && decide (1<= fr))))=false:=by simp
   rw[hv]
   clear hv
   go_enter Tryz.func110,Tryz.ntmps110
   go_wp2_with (go_at_call 115;refine HR.out.mono ?_;rintro e w1 ⟨rfl,hb1⟩;obtain⟨c0,c1,c2,c3,c4,c5,c6,c7,c8,c9,c10⟩:=rc_cells ((hb1.block _ (by simp)).trans HX.out))
   go_ret
   exact⟨rfl,HB.out.trans (hb1.mono HB.out.size)⟩
  |true=>
   by_cases p1:1<= (ns:Int)
   ·have p1':decide (1<= (ns:Int))=true:=decide_eq_true p1
    obtain⟨g,off',rfl,hcl⟩:=HC.out p1
    have HCL:Hid (∀W,Below w.heap.size w W-> W.cell? ⟨g,off',none⟩=some (.int .i64 fr)):=hcl
    clear hcl HC
    by_cases p2:(ns:Int)<= 500
    ·have p2':decide ((ns:Int)<= 500)=true:=decide_eq_true p2
     have hv:(decide (1<= size) && ((decide (1<= (ns:Int)) && decide ((ns:Int)<= 500)) && (true && decide (1<= fr))))=decide (1<= fr):=by rw[p0',p1',p2'];simp
     rw[hv]
     clear hv
     go_enter Tryz.func110,Tryz.ntmps110
     go_wp2_with (go_at_call 115;refine HR.out.mono ?_;rintro e w1 ⟨rfl,hb1⟩;obtain⟨c0,c1,c2,c3,c4,c5,c6,c7,c8,c9,c10⟩:=rc_cells ((hb1.block _ (by simp)).trans HX.out);have hcl1:=HCL.out w1 (HB.out.trans (hb1.mono HB.out.size)))
     go_ret
     exact⟨rfl,HB.out.trans (hb1.mono HB.out.size)⟩
    ·have p2':decide ((ns:Int)<= 500)=false:=decide_eq_false p2
     have hv:(decide (1<= size) && ((decide (1<= (ns:Int)) && decide ((ns:Int)<= 500)) && (true && decide (1<= fr))))=false:=by rw[p2'];simp
     rw[hv]
     clear hv
     go_enter Tryz.func110,Tryz.ntmps110
     go_wp2_with (go_at_call 115;refine HR.out.mono ?_;rintro e w1 ⟨rfl,hb1⟩;obtain⟨c0,c1,c2,c3,c4,c5,c6,c7,c8,c9,c10⟩:=rc_cells ((hb1.block _ (by simp)).trans HX.out))
     go_ret
     exact⟨rfl,HB.out.trans (hb1.mono HB.out.size)⟩
   ·have p1':decide (1<= (ns:Int))=false:=decide_eq_false p1
    have hv:(decide (1<= size) && ((decide (1<= (ns:Int)) && decide ((ns:Int)<= 500)) && (true && decide (1<= fr))))=false:=by rw[p1'];simp
    rw[hv]
    clear hv HC
    go_enter Tryz.func110,Tryz.ntmps110
    go_wp2_with (go_at_call 115;refine HR.out.mono ?_;rintro e w1 ⟨rfl,hb1⟩;obtain⟨c0,c1,c2,c3,c4,c5,c6,c7,c8,c9,c10⟩:=rc_cells ((hb1.block _ (by simp)).trans HX.out))
    go_ret
    exact⟨rfl,HB.out.trans (hb1.mono HB.out.size)⟩
 ·have p0':decide (1<= size)=false:=decide_eq_false p0
  rw[p0',Bool.false_and]
  clear HC
  go_enter Tryz.func110,Tryz.ntmps110
  go_wp2_with (go_at_call 115;refine HR.out.mono ?_;rintro e w1 ⟨rfl,hb1⟩;obtain⟨c0,c1,c2,c3,c4,c5,c6,c7,c8,c9,c10⟩:=rc_cells ((hb1.block _ (by simp)).trans HX.out))
  go_ret
  exact⟨rfl,HB.out.trans (hb1.mono HB.out.size)⟩
theorem fit2_any (r:Rc) (sa da:Option Addr) (ns nd sc dc:Nat) (w:World) (hns:r.spans.length=ns) (hnd:r.data.length=nd) (hm:nd<= 140737488355328) (hs:C.Ls w (.slice sa ns sc) r.spans) (hb:∀i < 8,0<= nmA r i/\ nmA r i<= 4611686018427387903):
 Calls Tryz.prog 110 #[.agg (rcC r (.slice sa ns sc) (.slice da nd dc))] w λe w'=>e=.returned (.bool (suitB r))/\ Below w.heap.size w w':=by
 by_cases k1:r.kind=1
 ·exact fit_k1 r sa da ns nd sc dc w hns hnd hm hs hb k1
 by_cases k2:r.kind=2
 ·exact fit_k2 r sa da ns nd sc dc w hns hnd hm hs hb k2
 by_cases k3:r.kind=3
 ·exact fit_k3 r sa da ns nd sc dc w hns hnd hm hs hb k3
 by_cases k4:r.kind=4
 ·exact fit_k4 r sa da ns nd sc dc w hns hnd hm hs hb k4
 by_cases k6:r.kind=6
 ·exact fit_k6 r sa da ns nd sc dc w hns hnd hm hs hb k6
 by_cases k8:r.kind=8
 ·exact fit_k8 r sa da ns nd sc dc w hns hnd hm hs hb k8
 by_cases k11:r.kind=11
 ·exact fit_k11 r sa da ns nd sc dc w hns hs k11
 by_cases k12:r.kind=12
 ·exact fit_k12 r sa da ns nd sc dc w hns hnd hm hs hb k12
 exact fit_no r sa da ns nd sc dc w hns hnd hm hs hb ⟨k1,k2,k3,k4,k6,k8,k11,k12⟩
theorem letters {k:Int} (h:kf k≠0):(∀i < 8,hasS (fsB k) (ltL.getD i 0)=hasB (kf k) i)/\ hasS (fsB k) 83=hasB (kf k) 8/\ hasS (fsB k) 68=hasB (kf k) 9/\ fsB k≠[]/\ (fsB k).length<= 10:=by
 rcases kf_cases h with rfl|rfl|rfl|rfl|rfl|rfl|rfl|rfl|rfl|rfl|rfl|rfl<;>decide
theorem no_letters {k:Int} (h:kf k=0):fsB k=[]:=by
 by_cases hk:0<= k/\ k < 13
 ·have:k=0∨k=1∨k=2∨k=3∨k=4∨k=5∨k=6∨k=7∨k=8∨k=9∨k=10∨k=11∨k=12:=by omega
  rcases this with rfl|rfl|rfl|rfl|rfl|rfl|rfl|rfl|rfl|rfl|rfl|rfl|rfl
  ·rfl
  all_goals exact absurd h (by decide)
 ·unfold fsB
  rw[if_neg (by omega),if_neg (by omega),if_neg (by omega),if_neg (by omega),if_neg (by omega),if_neg (by omega),if_neg (by omega),if_neg (by omega),if_neg (by omega),if_neg (by omega),if_neg (by omega),if_neg (by omega)]
theorem index_lt (i:Nat) (hi:i < 8) (w:World):(Instr.index 9 (.string ⟨#[79,78,80,86,70,82,90,72]⟩) (.int .i64 i)).run Tryz.prog w=.ok (.int .u8 (ltL.getD i 0).toNat) w:=by
 have:i=0∨i=1∨i=2∨i=3∨i=4∨i=5∨i=6∨i=7:=by omega
 have i0:(Instr.index 9 (.string ⟨#[79,78,80,86,70,82,90,72]⟩) (.int .i64 0)).run Tryz.prog w=.ok (.int .u8 79) w:=by kernel_rfl
 have i1:(Instr.index 9 (.string ⟨#[79,78,80,86,70,82,90,72]⟩) (.int .i64 1)).run Tryz.prog w=.ok (.int .u8 78) w:=by kernel_rfl
 have i2:(Instr.index 9 (.string ⟨#[79,78,80,86,70,82,90,72]⟩) (.int .i64 2)).run Tryz.prog w=.ok (.int .u8 80) w:=by kernel_rfl
 have i3:(Instr.index 9 (.string ⟨#[79,78,80,86,70,82,90,72]⟩) (.int .i64 3)).run Tryz.prog w=.ok (.int .u8 86) w:=by kernel_rfl
 have i4:(Instr.index 9 (.string ⟨#[79,78,80,86,70,82,90,72]⟩) (.int .i64 4)).run Tryz.prog w=.ok (.int .u8 70) w:=by kernel_rfl
 have i5:(Instr.index 9 (.string ⟨#[79,78,80,86,70,82,90,72]⟩) (.int .i64 5)).run Tryz.prog w=.ok (.int .u8 82) w:=by kernel_rfl
 have i6:(Instr.index 9 (.string ⟨#[79,78,80,86,70,82,90,72]⟩) (.int .i64 6)).run Tryz.prog w=.ok (.int .u8 90) w:=by kernel_rfl
 have i7:(Instr.index 9 (.string ⟨#[79,78,80,86,70,82,90,72]⟩) (.int .i64 7)).run Tryz.prog w=.ok (.int .u8 72) w:=by kernel_rfl
 rcases this with rfl|rfl|rfl|rfl|rfl|rfl|rfl|rfl
 ·exact i0
 ·exact i1
 ·exact i2
 ·exact i3
 ·exact i4
 ·exact i5
 ·exact i6
 ·exact i7
def okR (f:Int) (i:Nat) (n:Int):Bool:=decide (0<= n) && (decide (n<= 4611686018427387903) && (hasB f i || n == 0))
def okRs (f:Int) (r:Rc) (k:Nat):Bool:=(List.range k).all λi=>okR f i (nmA r i)
theorem okRs_succ (f:Int) (r:Rc) (k:Nat):okRs f r (k+1)=(okRs f r k && okR f k (nmA r k)):=by
 unfold okRs;rw[List.range_succ,List.all_append];simp
theorem okRs_no {f:Int} {r:Rc}:∀{k j:Nat},k<= j-> okRs f r k=false-> okRs f r j=false
 |k,0,h,h0=>by obtain rfl:k=0:=by omega
               exact h0
 |k,j+1,h,h0=>by
  rcases Nat.lt_or_ge j k with q|q
  ·obtain rfl:k=j+1:=by omega
   exact h0
  ·rw[okRs_succ,okRs_no q h0];rfl
theorem okR_of {f:Int} {i:Nat} {n:Int} (h:okN f i n=true):okR f i n=true:=by
 have hb:=okN_bd h
 unfold okR
 rw[decide_eq_true hb.1,decide_eq_true hb.2]
 unfold okN at h
 cases hq:hasB f i with
 |true=>rfl
 |false=>rw[hq] at h;simpa using h
theorem okR_bd {f:Int} {i:Nat} {n:Int} (h:okR f i n=true):0<= n/\ n<= 4611686018427387903:=by
 unfold okR at h
 simp only[Bool.and_eq_true,decide_eq_true_eq] at h
 exact⟨h.1,h.2.1⟩
theorem okRs_at {f:Int} {r:Rc} {k i:Nat} (h:okRs f r k=true) (hi:i < k):okR f i (nmA r i)=true:=by
 unfold okRs at h
 rw[List.all_eq_true] at h
 exact h i (List.mem_range.mpr hi)
theorem okN_R {f:Int} {i:Nat} {n:Int} (h:okR f i n=true) (h2:2<= i):okN f i n=true:=by
 have hb:=okR_bd h
 unfold okR at h
 unfold okN
 cases hq:hasB f i with
 |true=>
  rw[if_pos rfl]
  unfold numB
  rw[if_neg (by omega),if_neg (by omega),decide_eq_true hb.1,decide_eq_true hb.2]
  rfl
 |false=>rw[hq] at h;simp at h;simp[h.2.2]
theorem may_eq {r:Rc} {ns nd:Nat} (hk:kf r.kind≠0) (hok:okRs (kf r.kind) r 8=true) (hns:r.spans.length=ns) (hnd:r.data.length=nd):
 mayB6 r=((if hasB (kf r.kind) 1 then decide (1<= r.num) && decide (r.num < 4611686018427387903) else true) && ((if hasB (kf r.kind) 0 then decide (1<= r.org) else true) && (((hasB (kf r.kind) 9 || nd == 0) && (hasB (kf r.kind) 8 || ns == 0)) && suitB r))):=by
 have h0:=okRs_at hok (show 0 < 8 by omega)
 have h1:=okRs_at hok (show 1 < 8 by omega)
 have e:okNs (kf r.kind) r 8=(okN (kf r.kind) 0 r.org && okN (kf r.kind) 1 r.num):=by
  have h2:=okN_R (okRs_at hok (show 2 < 8 by omega)) (by omega)
  have h3:=okN_R (okRs_at hok (show 3 < 8 by omega)) (by omega)
  have h4:=okN_R (okRs_at hok (show 4 < 8 by omega)) (by omega)
  have h5:=okN_R (okRs_at hok (show 5 < 8 by omega)) (by omega)
  have h6:=okN_R (okRs_at hok (show 6 < 8 by omega)) (by omega)
  have h7:=okN_R (okRs_at hok (show 7 < 8 by omega)) (by omega)
  rw[okNs_succ,okNs_succ,okNs_succ,okNs_succ,okNs_succ,okNs_succ,okNs_succ,okNs_succ,h2,h3,h4,h5,h6,h7]
  simp only[Bool.and_true]
  rfl
 have e0:okN (kf r.kind) 0 r.org=(if hasB (kf r.kind) 0 then decide (1<= r.org) else true):=by
  have hb:=okR_bd h0
  unfold okR at h0
  unfold okN
  rw[show nmA r 0=r.org from rfl] at h0 hb
  cases hq:hasB (kf r.kind) 0 with
  |true=>
   rw[if_pos rfl,if_pos rfl]
   unfold numB
   rw[if_pos rfl,decide_eq_true hb.2,Bool.and_true]
  |false=>rw[hq] at h0;simp at h0;simp[h0.2.2]
 have e1:okN (kf r.kind) 1 r.num=(if hasB (kf r.kind) 1 then decide (1<= r.num) && decide (r.num < 4611686018427387903) else true):=by
  have hb:=okR_bd h1
  unfold okR at h1
  unfold okN
  rw[show nmA r 1=r.num from rfl] at h1 hb
  cases hq:hasB (kf r.kind) 1 with
  |true=>
   rw[if_pos rfl,if_pos rfl]
   unfold numB
   rw[if_neg (by omega),if_pos rfl]
   congr 1
   exact decide_eq_decide.mpr (by omega)
  |false=>rw[hq] at h1;simp at h1;simp[h1.2.2]
 unfold mayB6 allowB
 rw[e,e0,e1,hns,hnd]
 have hk':(kf r.kind != 0)=true:=by simpa using hk
 rw[hk']
 generalize hasB (kf r.kind) 0=b0
 generalize hasB (kf r.kind) 1=b1
 generalize hasB (kf r.kind) 8=b8
 generalize hasB (kf r.kind) 9=b9
 generalize decide (1<= r.org)=x0
 generalize (decide (1<= r.num) && decide (r.num < 4611686018427387903))=x1
 generalize (nd == 0)=x2
 generalize (ns == 0)=x3
 generalize suitB r=x4
 cases b0<;>cases b1<;>cases b8<;>cases b9<;>cases x0<;>cases x1<;>cases x2<;>cases x3<;>cases x4<;>rfl
theorem okRs_of {f:Int} {r:Rc} {k:Nat} (h:okNs f r k=true):okRs f r k=true:=by
 unfold okRs
 rw[List.all_eq_true]
 intro i hi
 exact okR_of (okNs_at h (List.mem_range.mp hi))
theorem right2_any (r:Rc) (sa da:Option Addr) (ns nd sc dc:Nat) (w:World) (hr:RIn w r sa da ns nd sc dc):
 Calls Tryz.prog 85 #[.agg (rcC r (.slice sa ns sc) (.slice da nd dc))] w λe w'=>e=.returned (.int .i64 (prR r).2)/\ Below w.heap.size w w':=by
 have HB:Hid (Below w.heap.size w (w.alloc (rcO r (.slice sa ns sc) (.slice da nd dc)))):=(Below.refl _ _).alloc (aqH _) _
 have HX:Hid ((w.alloc (rcO r (.slice sa ns sc) (.slice da nd dc))).heap[w.heap.size]?=some (rcO r (.slice sa ns sc) (.slice da nd dc))):=heap_new6 w _
 by_cases hk:kf r.kind=0
 ·have hl:=no_letters hk
  have HP:Hid ((prR r).2=60):=by unfold Hid prR mayB6;rw[hk];rfl
  have HF:Hid (∀W,Calls Tryz.prog 86 #[.int .i64 r.kind] W λe w'=>e=.returned (.string ⟨#[]⟩)/\ W=w'):=λW=>by
   have:=fields2_any r.kind W
   rw[show fsV r.kind=.string ⟨#[]⟩ by show Value.string ⟨(fsB r.kind).toArray⟩=_;rw[hl]] at this
   exact this
  rw[HP.out]
  clear HP hl hk hr
  go_enter Tryz.func85,Tryz.ntmps85
  go_wp2_with (go_at_call 86;refine(HF.out _).mono ?_;rintro e w1 ⟨rfl,rfl⟩)
  go_ret
  exact⟨rfl,HB.out⟩
 ·obtain⟨hl8,hlS,hlD,hne,hl10⟩:=letters hk
  have HF:Hid (∀W,Calls Tryz.prog 86 #[.int .i64 r.kind] W λe w'=>e=.returned (.string ⟨(fsB r.kind).toArray⟩)/\ W=w'):=λW=>fields2_any r.kind W
  have HHS:Hid (∀(c:UInt8) W,Calls Tryz.prog 109 #[.string ⟨(fsB r.kind).toArray⟩,.int .u8 c.toNat] W λe w'=>e=.returned (.bool (hasS (fsB r.kind) c))/\ W=w'):=λc W=>has2_any _ c hl10 W
  have hne':(fsB r.kind == [])=false:=beq_eq_false_iff_ne.mpr hne
  have HL8:Hid (∀i < 8,hasS (fsB r.kind) (ltL.getD i 0)=hasB (kf r.kind) i):=hl8
  have HLS:Hid (hasS (fsB r.kind) 83=hasB (kf r.kind) 8):=hlS
  have HLD:Hid (hasS (fsB r.kind) 68=hasB (kf r.kind) 9):=hlD
  have HRI:Hid (RIn w r sa da ns nd sc dc):=hr
  have HKF:Hid (kf r.kind≠0):=hk
  have HPN:Hid (okRs (kf r.kind) r 8=false-> (prR r).2=60):=λh=>by
   have hm:mayB6 r=false:=by
    cases hq:mayB6 r with
    |false=>rfl
    |true=>
     have h2:=(may_parts hq).2.1
     rw[okRs_of h2] at h
     cases h
   unfold prR;rw[hm];rfl
  clear hl8 hlS hlD hne hl10 hr hk
  generalize fsB r.kind=fs at*
  generalize hfk:kf r.kind=f at*
  have HFK:Hid (kf r.kind=f):=hfk
  clear hfk
  go_enter Tryz.func85,Tryz.ntmps85
  go_wp2_with (go_at_call 86;refine(HF.out _).mono ?_;rintro e w1 ⟨rfl,rfl⟩)
  clear HF
  go_loopw [4] (λi wr=>∃k:Nat,k<= 8/\ i=.int .i64 k/\ okRs f r k=true/\ Below w.heap.size w wr/\ wr.heap[w.heap.size]?=some (rcO r (.slice sa ns sc) (.slice da nd dc))) (λi _=>8 - (intOf i).toNat)
  case atStart=>exact⟨0,by omega,rfl,rfl,HB.out,HX.out⟩
  case round=>
   obtain⟨k,hk,rfl,hok,hb,hx⟩:=hrel
   have HOK:Hid (okRs f r k=true):=hok
   have HBr:Hid (Below w.heap.size w wr):=hb
   have HXr:Hid (wr.heap[w.heap.size]?=some (rcO r (.slice sa ns sc) (.slice da nd dc))):=hx
   obtain⟨c0,c1,c2,c3,c4,c5,c6,c7,c8,c9,c10⟩:=rc_cells hx
   clear hok hb hx HB HX
   by_cases hlt:k < 8
   ·have hlt':(k:Int) < 8:=by omega
    have ik:=index_lt k hlt
    have HG:Hid (∀W,Calls Tryz.prog 88 #[.agg (rcC r (.slice sa ns sc) (.slice da nd dc)),.int .u8 (ltL.getD k 0).toNat] W λe w'=>e=.returned (.int .i64 (nmA r k))/\ w'=W.alloc (rcO r (.slice sa ns sc) (.slice da nd dc))):=λW=>get2_any r _ _ k hlt W
    have HH:Hid (∀W,Calls Tryz.prog 109 #[.string ⟨fs.toArray⟩,.int .u8 (ltL.getD k 0).toNat] W λe w'=>e=.returned (.bool (hasB f k))/\ W=w'):=λW=>(HL8.out k hlt) ▸ HHS.out _ W
    generalize ((ltL.getD k 0).toNat:Int)=ch at*
    have HOS:Hid (okRs f r (k+1)=okR f k (nmA r k)):=by unfold Hid;rw[okRs_succ,HOK.out];rfl
    have HOR:Hid (okR f k (nmA r k)=(decide (0<= nmA r k) && (decide (nmA r k<= 4611686018427387903) && (hasB f k || nmA r k == 0)))):=rfl
    have HNO:Hid (okR f k (nmA r k)=false-> (prR r).2=60):=λh=>by rw[HPN.out (okRs_no (k:=k+1) (j:=8) (by omega) (by rw[HOS.out];exact h))]
    have HLT:Hid (w.heap.size < wr.heap.size):=(Array.getElem?_eq_some_iff.mp HXr.out).1
    generalize nmA r k=n at*
    generalize hasB f k=b at*
    go_upto_region 7 with fail
    go_region_with (go_at_call 88;refine(HG.out _).mono ?_;rintro e w2 ⟨rfl,rfl⟩)
    all_goals
     by_cases n0:0<= n
     ·by_cases n1:n<= 4611686018427387903
      ·have n1':¬4611686018427387903 < n:=by omega
       cases b with
       |true=>
        go_wp2_with (go_at_call 109;refine(HH.out _).mono ?_;rintro e w' ⟨rfl,rfl⟩)
        go_roundw
        case rel=>exact⟨k+1,by omega,by go_num,by rw[HOS.out,HOR.out,decide_eq_true n0,decide_eq_true n1];rfl,(HBr.out.alloc HBr.out.size _).drew,(Below.heap_alloc wr _ _ HLT.out).trans HXr.out⟩
        case measure=>simp[intOf];omega
       |false=>
        by_cases nz:n=0
        ·have nz':(n != 0)=false:=by simpa using nz
         have HOT:Hid (okRs f r (k+1)=true):=by unfold Hid;rw[HOS.out,HOR.out,decide_eq_true n0,decide_eq_true n1,nz];rfl
         clear nz
         go_wp2_with (go_at_call 109;refine(HH.out _).mono ?_;rintro e w' ⟨rfl,rfl⟩)
         go_roundw
         case rel=>exact⟨k+1,by omega,by go_num,HOT.out,(HBr.out.alloc HBr.out.size _).drew,(Below.heap_alloc wr _ _ HLT.out).trans HXr.out⟩
         case measure=>simp[intOf];omega
        ·have hf:okR f k n=false:=by rw[HOR.out,decide_eq_true n0,decide_eq_true n1,beq_false_of_ne nz];rfl
         have HPE:=HNO.out hf
         have nz':(n != 0)=true:=by simpa using nz
         go_wp2_with (go_at_call 109;refine(HH.out _).mono ?_;rintro e w' ⟨rfl,rfl⟩)
         go_ret
         exact⟨congrArg (λx=>Ending.returned (Value.int IntKind.i64 x)) HPE.symm,(HBr.out.alloc HBr.out.size _).drew⟩
      ·have hf:okR f k n=false:=by rw[HOR.out,decide_eq_false n1,Bool.false_and,Bool.and_false]
       have HPE:=HNO.out hf
       go_wp2_with (go_at_call 109;refine(HH.out _).mono ?_;rintro e w' ⟨rfl,rfl⟩)
       go_ret
       exact⟨congrArg (λx=>Ending.returned (Value.int IntKind.i64 x)) HPE.symm,(HBr.out.alloc HBr.out.size _).drew⟩
     ·have hf:okR f k n=false:=by rw[HOR.out,decide_eq_false n0,Bool.false_and]
      have HPE:=HNO.out hf
      go_wp2_with (go_at_call 109;refine(HH.out _).mono ?_;rintro e w' ⟨rfl,rfl⟩)
      go_ret
      exact⟨congrArg (λx=>Ending.returned (Value.int IntKind.i64 x)) HPE.symm,(HBr.out.alloc HBr.out.size _).drew⟩
   ·obtain rfl:k=8:=by omega
    have hRI:=HRI.out.below HBr.out
    have hnum:∀i < 8,0<= nmA r i/\ nmA r i<= 4611686018427387903:=λi hi=>okR_bd (okRs_at HOK.out hi)
    have HFT:Hid (Calls Tryz.prog 110 #[.agg (rcC r (.slice sa ns sc) (.slice da nd dc))] wr λe w'=>e=.returned (.bool (suitB r))/\ Below wr.heap.size wr w'):=fit2_any r sa da ns nd sc dc wr hRI.spn hRI.dat hRI.big hRI.spa hnum
    have HAS:Hid (∀W,Calls Tryz.prog 109 #[.string ⟨fs.toArray⟩,.int .u8 78] W λe w'=>e=.returned (.bool (hasB f 1))/\ W=w'):=λW=>(HL8.out 1 (by omega)) ▸ HHS.out 78 W
    have HAO:Hid (∀W,Calls Tryz.prog 109 #[.string ⟨fs.toArray⟩,.int .u8 79] W λe w'=>e=.returned (.bool (hasB f 0))/\ W=w'):=λW=>(HL8.out 0 (by omega)) ▸ HHS.out 79 W
    have HAD:Hid (∀W,Calls Tryz.prog 109 #[.string ⟨fs.toArray⟩,.int .u8 68] W λe w'=>e=.returned (.bool (hasB f 9))/\ W=w'):=λW=>HLD.out ▸ HHS.out 68 W
    have HAP:Hid (∀W,Calls Tryz.prog 109 #[.string ⟨fs.toArray⟩,.int .u8 83] W λe w'=>e=.returned (.bool (hasB f 8))/\ W=w'):=λW=>HLS.out ▸ HHS.out 83 W
    have HMY:Hid (mayB6 r=((if hasB f 1 then decide (1<= r.num) && decide (r.num < 4611686018427387903) else true) && ((if hasB f 0 then decide (1<= r.org) else true) && (((hasB f 9 || nd == 0) && (hasB f 8 || ns == 0)) && suitB r)))):=by
     unfold Hid
     rw[←HFK.out] at HOK ⊢
     exact may_eq (HFK.out ▸ HKF.out) HOK.out hRI.spn hRI.dat
    have HPR:Hid ((prR r).2=if mayB6 r then 0 else 60):=by unfold Hid prR;split<;>rfl
    generalize mayB6 r=M at*
    generalize suitB r=S at*
    generalize hasB f 0=b0 at*
    generalize hasB f 1=b1 at*
    generalize hasB f 8=b8 at*
    generalize hasB f 9=b9 at*
    clear HL8 HHS HLS HLD HRI HKF HPN HOK HFK hRI hnum
    have HM2:Hid (M=(!((b1 && (decide (r.num < 1) || decide (4611686018427387903<= r.num))) || (b0 && decide (r.org < 1))) && (!((!b9 && decide (0 < nd)) || (!b8 && decide (0 < ns))) && S))):=by
     unfold Hid
     rw[HMY.out,show decide (1<= r.num)=!decide (r.num < 1) from by rw[←decide_not];exact decide_eq_decide.mpr (by omega),show decide (r.num < 4611686018427387903)=!decide (4611686018427387903<= r.num) from by rw[←decide_not];exact decide_eq_decide.mpr (by omega),show decide (1<= r.org)=!decide (r.org < 1) from by rw[←decide_not];exact decide_eq_decide.mpr (by omega),show (nd == 0)=!decide (0 < nd) from by cases nd<;>simp,show (ns == 0)=!decide (0 < ns) from by cases ns<;>simp]
     generalize decide (r.num < 1)=x1
     generalize decide (4611686018427387903<= r.num)=x2
     generalize decide (r.org < 1)=x3
     generalize decide (0 < nd)=x4
     generalize decide (0 < ns)=x5
     cases b0<;>cases b1<;>cases b8<;>cases b9<;>cases x1<;>cases x2<;>cases x3<;>cases x4<;>cases x5<;>cases S<;>rfl
    clear HMY
    obtain⟨B15,hB15⟩:∃B15,B15=((b1 && (decide (r.num < 1) || decide (4611686018427387903<= r.num))) || (b0 && decide (r.org < 1))):=⟨_,rfl⟩
    obtain⟨B17,hB17⟩:∃B17,B17=((!b9 && decide (0 < nd)) || (!b8 && decide (0 < ns))):=⟨_,rfl⟩
    rw[←hB15,←hB17] at HM2
    have H15:Hid (B15=((b1 && (decide (r.num < 1) || decide (4611686018427387903<= r.num))) || (b0 && decide (r.org < 1)))):=hB15
    have H17:Hid (B17=((!b9 && decide (0 < nd)) || (!b8 && decide (0 < ns)))):=hB17
    clear hB15 hB17
    go_upto_region 15 with (first|(go_at_call_of 109 (Value.int .u8 78);refine(HAS.out _).mono ?_;rintro e w' ⟨rfl,rfl⟩)|(go_at_call_of 109 (Value.int .u8 79);refine(HAO.out _).mono ?_;rintro e w' ⟨rfl,rfl⟩)|(go_at_call_of 109 (Value.int .u8 68);refine(HAD.out _).mono ?_;rintro e w' ⟨rfl,rfl⟩)|(go_at_call_of 109 (Value.int .u8 83);refine(HAP.out _).mono ?_;rintro e w' ⟨rfl,rfl⟩))
    go_cut [72] from 51 to 72 (λq wx=>q=.bool B15/\ wx=wr)
    case first=>
     clear H17 HM2 HPR HFT
     cases b1 with
     |false=>
      cases b0 with
      |false=>
       go_wp2_with fail
       go_meet
       exact⟨congrArg Value.bool (by rw[H15.out];rfl),rfl⟩
      |true=>
       go_wp2_with fail
       go_meet
       exact⟨congrArg Value.bool (by rw[H15.out];rfl),rfl⟩
     |true=>
      by_cases a1:r.num < 1
      ·have d1:decide (r.num < 1)=true:=decide_eq_true a1
       go_wp2_with fail
       go_meet
       exact⟨congrArg Value.bool (by rw[H15.out,d1];rfl),rfl⟩
      ·have d1:decide (r.num < 1)=false:=decide_eq_false a1
       by_cases a2:4611686018427387903<= r.num
       ·have d2:decide (4611686018427387903<= r.num)=true:=decide_eq_true a2
        go_wp2_with fail
        go_meet
        exact⟨congrArg Value.bool (by rw[H15.out,d1,d2];rfl),rfl⟩
       ·have d2:decide (4611686018427387903<= r.num)=false:=decide_eq_false a2
        cases b0 with
        |false=>
         go_wp2_with fail
         go_meet
         exact⟨congrArg Value.bool (by rw[H15.out,d1,d2];rfl),rfl⟩
        |true=>
         go_wp2_with fail
         go_meet
         exact⟨congrArg Value.bool (by rw[H15.out,d1,d2];rfl),rfl⟩
    case rest=>
     obtain⟨rfl,rfl⟩:=hcut
     cases B15 with
     |true=>
      have hP:(prR r).2=60:=by rw[HPR.out,HM2.out];rfl
      clear HPR HM2 H15 H17
      go_wp2
      go_ret
      exact⟨congrArg (λx=>Ending.returned (Value.int IntKind.i64 x)) hP.symm,HBr.out⟩
     |false=>
      clear H15
      go_upto_region 17 with fail
      go_cut [90] from 73 to 90 (λq wx=>q=.bool B17/\ wx=wc)
      case first=>
       clear HM2 HPR HFT
       cases b9 with
       |true=>
        cases b8 with
        |false=>
         go_wp2_with fail
         go_meet
         exact⟨congrArg Value.bool (by rw[H17.out];rfl),rfl⟩
        |true=>
         go_wp2_with fail
         go_meet
         exact⟨congrArg Value.bool (by rw[H17.out];rfl),rfl⟩
       |false=>
        by_cases a4:0 < nd
        ·have d4:decide (0 < nd)=true:=decide_eq_true a4
         go_wp2_with fail
         go_meet
         exact⟨congrArg Value.bool (by rw[H17.out,d4];rfl),rfl⟩
        ·obtain rfl:nd=0:=by omega
         cases b8 with
         |false=>
          go_wp2_with fail
          go_meet
          exact⟨congrArg Value.bool (by rw[H17.out];rfl),rfl⟩
         |true=>
          go_wp2_with fail
          go_meet
          exact⟨congrArg Value.bool (by rw[H17.out];rfl),rfl⟩
      case rest=>
       obtain⟨rfl,rfl⟩:=hcut
       cases B17 with
       |true=>
        have hP:(prR r).2=60:=by rw[HPR.out,HM2.out];rfl
        clear HPR HM2 H17
        go_wp2
        go_ret
        exact⟨congrArg (λx=>Ending.returned (Value.int IntKind.i64 x)) hP.symm,HBr.out⟩
       |false=>
        cases S with
        |true=>
         have hP:(prR r).2=0:=by rw[HPR.out,HM2.out];rfl
         clear HPR HM2 H17
         go_wp2_with (go_at_call 110;refine HFT.out.mono ?_;rintro e w9 ⟨rfl,hb9⟩)
         go_ret
         exact⟨congrArg (λx=>Ending.returned (Value.int IntKind.i64 x)) hP.symm,HBr.out.trans (hb9.mono HBr.out.size)⟩
        |false=>
         have hP:(prR r).2=60:=by rw[HPR.out,HM2.out];rfl
         clear HPR HM2 H17
         go_wp2_with (go_at_call 110;refine HFT.out.mono ?_;rintro e w9 ⟨rfl,hb9⟩)
         go_ret
         exact⟨congrArg (λx=>Ending.returned (Value.int IntKind.i64 x)) hP.symm,HBr.out.trans (hb9.mono HBr.out.size)⟩
def RLin (w:World) (a:Option Addr) (l:List Rc):Prop:=
 l=[]∨∃g off,a=some ⟨g,off,none⟩/\ ∀i r,l[i]?=some r-> ∃sa da sc dc,(∀j u,(rcC r (.slice sa r.spans.length sc) (.slice da r.data.length dc))[j]?=some u-> w.cell? ⟨g,off+i*11+j,none⟩=some u)/\ RIn w r sa da r.spans.length r.data.length sc dc
theorem RLin.nil (w:World) (a:Option Addr):RLin w a []:=.inl rfl
theorem RLin.below {w w':World} {a:Option Addr} {l:List Rc} (h:RLin w a l) (hb:Below w.heap.size w w'):RLin w' a l:=by
 rcases h with h|⟨g,off,ha,h⟩
 ·exact .inl h
 ·refine .inr ⟨g,off,ha,λi r hr=>?_⟩
  obtain⟨sa,da,sc,dc,h1,h2⟩:=h i r hr
  exact⟨sa,da,sc,dc,λj u hj=>C.cell_below (h1 j u hj) hb,h2.below hb⟩
theorem RLin.at {w:World} {a:Option Addr} {l:List Rc} (h:RLin w a l) {i:Nat} {r:Rc} (hr:l[i]?=some r):∃g off sa da sc dc,a=some ⟨g,off,none⟩/\ (∀j u,(rcC r (.slice sa r.spans.length sc) (.slice da r.data.length dc))[j]?=some u-> w.cell? ⟨g,off+i*11+j,none⟩=some u)/\ RIn w r sa da r.spans.length r.data.length sc dc:=by
 rcases h with rfl|⟨g,off,ha,h⟩
 ·simp at hr
 ·obtain⟨sa,da,sc,dc,h1,h2⟩:=h i r hr
  exact⟨g,off,sa,da,sc,dc,ha,h1,h2⟩
open Go.ChangeShapes Go.WideShapes Go.ChangeAt Go.RowKit
variable {H:Type} {enc:TypeId×Value-> H} {W:World}
theorem rwAll_mem {P:Program} {e:TypeId}:∀{l:List (DataW H)} {d:DataW H},d∈l-> ∀n∈d.weights P e,n∈DataW.weightsAll P e l
 |x::l,d,hd,n,hn=>by
  simp only[DataW.weightsAll,List.mem_append]
  rcases List.mem_cons.mp hd with rfl|h
  ·exact .inl hn
  ·exact .inr (rwAll_mem h n hn)
theorem rbytes_rec:Tryz.prog.bytesOf 81=120:=by kernel_rfl
end Go.Proofs.YtllhbhogfffedaaGreatDoor
namespace Go.Proofs.YtllhbhogfffedaaGreatDoor
open Go.RowKit Go.Extern.Stop Go.Stop Go.Extern
set_option linter.unusedVariables false
theorem isSame7 (a:Addr) (w:World):
 Calls Tryz.prog 43 #[.iface 218 (.pointer (some a)),.iface 218 (.pointer (some a))] w λe w'=>e=.returned (.bool true)/\ w'=w:=by
 have q1:(Tryz.prog.info? 218).map (·.comparable)=some true:=by kernel_rfl
 have q2:(Tryz.prog.info? 238).map (·.size)=some 1:=by kernel_rfl
 obtain⟨i,hi,hc⟩:=Option.map_eq_some_iff.1 q1
 obtain⟨j,hj,hs⟩:=Option.map_eq_some_iff.1 q2
 have k1:=@run_callFunc_extern Tryz.prog 77 _ Extern.ReflectliteType.typeOf Tryz.func77 (by kernel_rfl) (by kernel_rfl) (by kernel_rfl) (by kernel_rfl)
 have k2:∀(w:World),(callFunc 167 #[.agg #[.pointer (some ⟨5,218,none⟩)]]).run Tryz.prog w=.ok (.value (.bool true)) w:=by
  intro w
  have q:=@run_callFunc_extern Tryz.prog 167 _ (Extern.ReflectliteType.method λt=>do Extern.Rtype.noPackHeld "Comparable" t;pure (.bool (←typeInfo t).comparable)) Tryz.func167 (by kernel_rfl) (by kernel_rfl) (by kernel_rfl) (by kernel_rfl)
  rw[q]
  have q':((Extern.ReflectliteType.method λt=>do Extern.Rtype.noPackHeld "Comparable" t;pure (.bool (←typeInfo t).comparable)) #[.agg #[.pointer (some ⟨5,218,none⟩)]]).run Tryz.prog w=.ok (.bool true) w:=by kernel_rfl
  rw[q']
  rfl
 have k3:∀(v:Value) (w:World),(Extern.ReflectliteType.typeOf #[.iface 218 v]).run Tryz.prog w=.ok (.iface 172 (.agg #[.pointer (some ⟨5,218,none⟩)])) w:=by intro v w;kernel_rfl
 have k5:∀(v:Value) (w:World),(Go.method 348 172 v "Comparable").run Tryz.prog w=.ok (167,v) w:=by intro v w;kernel_rfl
 have k6:=run_eql_iface_ptr_same (P:=Tryz.prog) w a Tryz.underlying43 Tryz.underlying218 hi hc hj
 go_enter Tryz.func43,Tryz.ntmps43
 go_wp2
 refine wp_loop_rounds 1 ?_
 rw[rounds_succ]
 go_wp2
 go_ret
 exact⟨rfl,rfl⟩
theorem isNil7 (b:Addr) (w:World):
 Calls Tryz.prog 43 #[.nilIface,.iface 218 (.pointer (some b))] w λe w'=>e=.returned (.bool false)/\ w'=w:=by
 have k:=run_eql_iface_nil_left (P:=Tryz.prog) w 218 (.pointer (some b)) Tryz.underlying43
 go_enter Tryz.func43,Tryz.ntmps43
 go_wp2
 go_ret
 exact⟨rfl,rfl⟩
theorem isOther7 (a b:Addr) (ca cb:Array Value) (ta tb:TypeId) (w:World) (hne:a≠b) (ha:w.heap[a.block]?=some (.cells ca ta (0,0))) (hb:w.heap[b.block]?=some (.cells cb tb (0,0))):
 Calls Tryz.prog 43 #[.iface 218 (.pointer (some a)),.iface 218 (.pointer (some b))] w λe w'=>e=.returned (.bool false)/\ w'=w:=by
 have q1:(Tryz.prog.info? 218).map (·.comparable)=some true:=by kernel_rfl
 have q2:(Tryz.prog.info? 238).map (·.size)=some 1:=by kernel_rfl
 obtain⟨i,hi,hc⟩:=Option.map_eq_some_iff.1 q1
 obtain⟨j,hj,hs⟩:=Option.map_eq_some_iff.1 q2
 have k1:=@run_callFunc_extern Tryz.prog 77 _ Extern.ReflectliteType.typeOf Tryz.func77 (by kernel_rfl) (by kernel_rfl) (by kernel_rfl) (by kernel_rfl)
 have k2:∀(w:World),(callFunc 167 #[.agg #[.pointer (some ⟨5,218,none⟩)]]).run Tryz.prog w=.ok (.value (.bool true)) w:=by
  intro w
  have q:=@run_callFunc_extern Tryz.prog 167 _ (Extern.ReflectliteType.method λt=>do Extern.Rtype.noPackHeld "Comparable" t;pure (.bool (←typeInfo t).comparable)) Tryz.func167 (by kernel_rfl) (by kernel_rfl) (by kernel_rfl) (by kernel_rfl)
  rw[q]
  have q':((Extern.ReflectliteType.method λt=>do Extern.Rtype.noPackHeld "Comparable" t;pure (.bool (←typeInfo t).comparable)) #[.agg #[.pointer (some ⟨5,218,none⟩)]]).run Tryz.prog w=.ok (.bool true) w:=by kernel_rfl
  rw[q']
  rfl
 have k3:∀(v:Value) (w:World),(Extern.ReflectliteType.typeOf #[.iface 218 v]).run Tryz.prog w=.ok (.iface 172 (.agg #[.pointer (some ⟨5,218,none⟩)])) w:=by intro v w;kernel_rfl
 have k5:∀(v:Value) (w:World),(Go.method 348 172 v "Comparable").run Tryz.prog w=.ok (167,v) w:=by intro v w;kernel_rfl
 have k6:=run_eql_iface_ptr_other (P:=Tryz.prog) w Tryz.underlying43 Tryz.underlying218 hi hc hj (by omega) hne ha hb
 have n1:∀(v:Value) (xT:TypeId) (w:World),(Instr.typeAssert (.iface 218 v) xT 174 true).run Tryz.prog w=.ok (.tuple #[.nilIface,.bool false]) w:=λv xT w=>run_typeAssert_lacksB Tryz.underlying174 (by kernel_rfl) (by kernel_rfl) v xT w
 have n2:∀(v:Value) (xT:TypeId) (w:World),(Instr.typeAssert (.iface 218 v) xT 177 true).run Tryz.prog w=.ok (.tuple #[.nilIface,.bool false]) w:=λv xT w=>run_typeAssert_lacksB Tryz.underlying177 (by kernel_rfl) (by kernel_rfl) v xT w
 have n3:∀(v:Value) (xT:TypeId) (w:World),(Instr.typeAssert (.iface 218 v) xT 178 true).run Tryz.prog w=.ok (.tuple #[.nilIface,.bool false]) w:=λv xT w=>run_typeAssert_lacksB Tryz.underlying178 (by kernel_rfl) (by kernel_rfl) v xT w
 go_enter Tryz.func43,Tryz.ntmps43
 go_wp2
 refine wp_loop_rounds 1 ?_
 rw[rounds_succ]
 go_wp2
 go_ret
 exact⟨rfl,rfl⟩
end Go.Proofs.YtllhbhogfffedaaGreatDoor
