import Derived.Test.YtllhbhogfffedaaGreatDoorRcR28
import Derived.Test.YtllhbhogfffedaaGreatDoorJpCor
import Derived.Maps.AppendAt
import Derived.Test.YtllhbhogfffedaaGreatDoorRcFst
import Derived.BigQuiet
set_option maxHeartbeats 8000000
set_option maxRecDepth 100000
namespace Go.Proofs.YtllhbhogfffedaaGreatDoor
open Go.RowKit
set_option linter.unusedVariables false
set_option linter.unusedSimpArgs false
theorem four2_any (base m:Nat) (v:Value) (zs:List Int) (n:Int) (w:World) (hn:0<= n/\ n < 4294967296) (ho:w.ownsRow base 5 1 v m (zs.map (Value.int .u8))) (hm:m<= 140737488355000) (hB:base<= w.heap.size):
 Calls Tryz.prog 54 #[v,.int .i64 n] w λe w'=>∃v',e=.returned v'/\ w'.ownsRow base 5 1 v' (m+4) ((zs++wd4 n).map (Value.int .u8))/\ w.grownBy w' v.ownBlock/\ (∀j,v'.ownBlock=some j-> v.ownBlock=some j∨w.heap.size<= j):=by
 obtain⟨i0,hinf,hz0,hz1,hz2⟩:=info_parts Tryz.info_u8
 obtain⟨a,cap,rfl⟩:∃a cap,v=.slice a m cap:=by
  obtain⟨_,⟨rfl,rfl⟩|⟨g,cap,cur,rfl,_⟩⟩:=ho
  ·exact⟨none,0,rfl⟩
  ·exact⟨_,cap,rfl⟩
 obtain⟨n0,n1⟩:=hn
 have HO:Hid (∀o,(w.alloc o).ownsRow base 5 1 (.slice a m cap) m (zs.map (Value.int .u8))):=λo=>ho.alloc o
 clear ho
 have q0:Int.tdiv n 16777216=n / 16777216:=Int.tdiv_eq_ediv_of_nonneg n0
 have q1:Int.tdiv n 65536=n / 65536:=Int.tdiv_eq_ediv_of_nonneg n0
 have q2:Int.tdiv n 256=n / 256:=Int.tdiv_eq_ediv_of_nonneg n0
 go_enter Tryz.func54,Tryz.ntmps54
 go_wp2_with (at_builtin;refine wpList_append_own_at _ rfl _ _ 35 rfl base 5 i0 (.int .u8 0) 1 1 Tryz.underlying35 hinf hz0 hz1 hz2 rfl (by decide) _ _ _ rfl (HO.out _) ⟨w.heap.size,0,none⟩ 4 4 [.int .u8 (n / 16777216),.int .u8 (n / 65536 % 256),.int .u8 (n / 256 % 256),.int .u8 (n % 256)] rfl rfl (four_lit _ _ _ _ _ _) (by intro u hu;simp at hu;rcases hu with rfl|rfl|rfl|rfl<;>rfl) (by unfold maxLen;omega) (by omega) (by simp;omega) ?_;intro v1 w1 o1 g1 _ t1)
 have hs1:=g1.size
 simp only[World.size_alloc] at hs1
 have HV:Hid (∀j,v1.ownBlock=some j-> (Value.slice a m cap).ownBlock=some j∨w.heap.size<= j):=λj hj=>by
  rcases t1 with t|t
  ·exact .inl (t ▸ hj)
  ·right;rw[hj] at t;simp at t;omega
 have HG:Hid (w.grownBy w1 (Value.slice a m cap).ownBlock):=by
  refine⟨g1.os,g1.tape,g1.output,by omega,λg hg hne=>?_⟩
  exact(g1.block g (by simp;omega) hne).trans (((Below.refl w.heap.size w).alloc (aqH _) _).block g hg)
 have HR:Hid (w1.ownsRow base 5 1 v1 (m+4) ((zs++wd4 n).map (Value.int .u8))):=by unfold Hid;rw[List.map_append];exact o1
 clear o1 g1 t1
 go_wp2
 go_ret
 exact⟨_,rfl,HR.out,HG.out,HV.out⟩
theorem frame2_any (l:List Rc) (a:Option Addr) (n c:Nat) (w:World) (hl:l.length=n) (hn:n<= 1048576) (ha:RLin w a l) (hd:∀r∈l,Bytey r.data):
 Calls Tryz.prog 23 #[.slice a n c] w (PrPost (fmR l) w):=by
 obtain⟨i0,hinf,hz0,hz1,hz2⟩:=info_parts Tryz.info_u8
 have HL:Hid (l.length=n):=hl
 have HA:Hid (RLin w a l):=ha
 have HD:Hid (∀r∈l,Bytey r.data):=hd
 clear hl ha hd
 go_enter Tryz.func23,Tryz.ntmps23
 go_wp2_with fail
 go_loopw [4,5] (λv i wr=>∃(k:Nat),k<= n/\ i=.int .i64 k/\ (∀r∈l.take k,mayB6 r=true)/\ wr.ownsRow w.heap.size 5 1 v ((l.take k).flatMap frB).length (((l.take k).flatMap frB).map (Value.int .u8))/\ Below w.heap.size w wr) (λ_ i _=>n - (intOf i).toNat)
 case atStart=>exact⟨0,Nat.zero_le _,rfl,λr hr=>by simp at hr,by simpa using World.ownsRow_nil w w.heap.size _ _,Below.refl _ _⟩
 case round=>
  obtain⟨k,hk,rfl,hok,hrow,hbw⟩:=hrel
  have hmb:=fr_len hok
  rw[List.length_take,HL.out,Nat.min_eq_left hk] at hmb
  have HOK:Hid (∀r∈l.take k,mayB6 r=true):=hok
  have HRW:Hid (wr.ownsRow w.heap.size 5 1 u4 ((l.take k).flatMap frB).length (((l.take k).flatMap frB).map (Value.int .u8))):=hrow
  have HBW:Hid (Below w.heap.size w wr):=hbw
  by_cases hlt:k < n
  ·have hkl:k < l.length:=by rw[HL.out];exact hlt
   obtain⟨r,hr⟩:∃r,l[k]?=some r:=⟨l[k],List.getElem?_eq_getElem hkl⟩
   have hrm:r∈l:=List.mem_of_getElem? hr
   obtain⟨g,off,sa,da,sc,dc,rfl,hc,hri⟩:=(HA.out.below hbw).at hr
   have c0:=hc 0 _ rfl
   have c1:=hc 1 _ rfl
   have c2:=hc 2 _ rfl
   have c3:=hc 3 _ rfl
   have c4:=hc 4 _ rfl
   have c5:=hc 5 _ rfl
   have c6:=hc 6 _ rfl
   have c7:=hc 7 _ rfl
   have c8:=hc 8 _ rfl
   have c9:=hc 9 _ rfl
   have c10:=hc 10 _ rfl
   simp only[Nat.add_zero] at c0
   have hlt':(k:Int) < (n:Int):=by omega
   have HP:=print2_any r sa da r.spans.length r.data.length sc dc wr hri
   have HR:Hid (l[k]?=some r):=hr
   have HRM:Hid (r∈l):=hrm
   have HBB:Hid (Below w.heap.size w wr):=HBW.out
   clear hc hri hbw hr hrm hok hrow
   cases hm:mayB6 r with
   |false=>
    have HE:Hid (fmR l=([],60)):=fmR_no HRM.out hm
    have HPR:Hid (prR r=([],60)):=by unfold Hid prR;rw[hm];rfl
    rw[HPR.out] at HP
    clear HPR hm
    go_wp2_with (go_at_call 52;refine HP.mono ?_;rintro e w2 ⟨v2,rfl,ho2,hb2⟩)
    refine bodyPost_ret (v:=.tuple #[.slice none 0 0,.int .i64 60]) (by simp[results,Tryz.results23,go_sem]) rfl ?_
    show PrPost (fmR l) w _ _
    rw[HE.out]
    exact⟨_,rfl,World.ownsRow_nil _ _ _ _,HBB.out.trans (hb2.mono HBB.out.size)⟩
   |true=>
    have HPR:Hid (prR r=(prB r,0)):=by unfold Hid prR;rw[hm];rfl
    have HOK2:Hid (∀q∈l.take (k+1),mayB6 q=true):=takeOk6 HOK.out HR.out hm
    have hpl:=prB_len hm
    have HBP:Hid (Bytey (prB r)):=prB_bytey hm (HD.out r HRM.out)
    have hcr:=crs_lt HBP.out
    have HTK:Hid ((l.take (k+1)).flatMap frB=(((l.take k).flatMap frB++wd4 (((prB r).length:Nat):Int))++wd4 ((crs (prB r):Nat):Int))++prB r):=by
     unfold Hid
     rw[fr_take l hkl,(List.getElem?_eq_some_iff.mp HR.out).2]
     unfold frB
     simp only[List.append_assoc]
    have hwX:IntKind.i64.wrap ((crs (prB r):Nat):Int)=((crs (prB r):Nat):Int):=by simp[IntKind.wrap,IntKind.bits,IntKind.signed];omega
    rw[HPR.out] at HP
    clear HPR hm
    generalize hA:(l.take k).flatMap frB=A at*
    generalize prB r=B at*
    obtain⟨m,hmA⟩:∃m,A.length=m:=⟨_,rfl⟩
    obtain⟨q,hq⟩:∃q,B.length=q:=⟨_,rfl⟩
    obtain⟨X,hX⟩:∃X,crs B=X:=⟨_,rfl⟩
    rw[hmA] at HRW hmb
    have HQL:Hid (B.length=q):=hq
    have HXX:Hid (crs B=X):=hX
    have HMA:Hid (A.length=m):=hmA
    rw[hq] at HTK hpl
    rw[hX] at HTK hcr hwX
    clear hq hX hmA hA
    go_upto_region 8 with (go_at_call 52;refine HP.mono ?_;rintro e w2 ⟨v2,rfl,ho2,hb2⟩;simp only[HQL.out] at ho2;obtain⟨p2,x2,rfl,hlz2,hln2,hnx2,hcx2⟩:=row_sh2 ho2)
    have hs2:=hb2.size
    have hsw:w.heap.size<= wr.heap.size:=HBW.out.size
    have HB2:Hid (Below w.heap.size w w2):=HBB.out.trans (hb2.mono hsw)
    have HR2:Hid (w2.ownsRow w.heap.size 5 1 u4 m (A.map (Value.int .u8))):=own_below6 HRW.out hb2
    have HVL:Hid (∀j,u4.ownBlock=some j-> j < wr.heap.size):=λj hj=>(HRW.out.lt j hj).2
    have HO2:Hid (w2.ownsRow wr.heap.size 5 1 (.slice p2 q x2) q (B.map (Value.int .u8))):=ho2
    have HPW:Hid (∀(v:Value) (zs:List Int) (m':Nat) (W:World) (y:Int),0<= y/\ y < 4294967296-> W.ownsRow w.heap.size 5 1 v m' (zs.map (Value.int .u8))-> m'<= 140737488355000-> w.heap.size<= W.heap.size-> Calls Tryz.prog 54 #[v,.int .i64 y] W λe w'=>∃v',e=.returned v'/\ w'.ownsRow w.heap.size 5 1 v' (m'+4) ((zs++wd4 y).map (Value.int .u8))/\ W.grownBy w' v.ownBlock/\ (∀j,v'.ownBlock=some j-> v.ownBlock=some j∨W.heap.size<= j)):=λv zs m' W y h1 h2 h3 h4=>four2_any _ m' v zs y W h1 h2 h3 h4
    have HZN:Hid (p2=none-> q=0/\ x2=0):=λh=>by
     obtain⟨_,⟨h1,h2⟩|⟨g',cap',cur,h1,_⟩⟩:=HO2.out
     ·simp only[Value.slice.injEq] at h1;exact⟨h1.2.1,h1.2.2⟩
     ·rw[h] at h1;cases h1
    clear hb2 ho2 hlz2 hln2 c0 c1 c2 c3 c4 c5 c6 c7 c8 c9 c10 HP
    have HS2:Hid (Lies .u8 w2 p2 B):=by obtain⟨p',x',h1,h2,_⟩:=row_sh2 HO2.out;simp only[Value.slice.injEq] at h1;obtain⟨rfl,_,rfl⟩:=h1;exact h2
    have HSU:Hid (Calls Tryz.prog 53 #[.slice p2 q x2] w2 λe w'=>e=.returned (.int .u32 (X:Nat))/\ w2=w'):=by
     have:=rsum_any p2 B q x2 w2 HBP.out HQL.out (by omega) HS2.out
     rw[HXX.out] at this
     exact this
    go_upto_region 10 with (first
     |(go_at_call 53;refine HSU.out.mono ?_;rintro e w' ⟨rfl,rfl⟩)
     |(go_at_call 54;refine(HPW.out _ A m _ _ (by omega) HR2.out (by omega) (by omega)).mono ?_;rintro e w3 ⟨v3,rfl,hr3,hg3,hf3⟩))
    have hs3:=hg3.size
    have HO3:Hid (w3.ownsRow wr.heap.size 5 1 (.slice p2 q x2) q (B.map (Value.int .u8))):=own_keep6 HO2.out hg3 (λj hj e=>by have:=HVL.out j e;have:=(HO2.out.lt j hj).1;omega)
    have HR3:Hid (w3.ownsRow w.heap.size 5 1 v3 (m+4) ((A++wd4 (q:Int)).map (Value.int .u8))):=hr3
    have HB3:Hid (Below w.heap.size w w3):=HB2.out.grown hg3 HB2.out.size (λj hj=>(HR2.out.lt j hj).1)
    have HV3:Hid (∀j,v3.ownBlock=some j-> j < wr.heap.size∨w2.heap.size<= j):=λj hj=>by rcases hf3 j hj with h|h;exact .inl (HVL.out j h);exact .inr h
    have HO2B:Hid (∀j,(Value.slice p2 q x2).ownBlock=some j-> wr.heap.size<= j/\ j < w2.heap.size):=λj hj=>HO2.out.lt j hj
    clear hr3 hg3 hf3 HR2 HO2 HB2 HSU HS2
    go_upto_region 11 with (go_at_call 54;refine(HPW.out _ (A++wd4 (q:Int)) (m+4) _ _ (by omega) HR3.out (by omega) (by omega)).mono ?_;rintro e w4 ⟨v4,rfl,hr4,hg4,hf4⟩)
    have hs4:=hg4.size
    have HO4:Hid (w4.ownsRow wr.heap.size 5 1 (.slice p2 q x2) q (B.map (Value.int .u8))):=own_keep6 HO3.out hg4 (λj hj e=>by have:=HO2B.out j hj;rcases HV3.out j e with h|h<;>omega)
    have HR4:Hid (w4.ownsRow w.heap.size 5 1 v4 (m+4+4) (((A++wd4 (q:Int))++wd4 (X:Int)).map (Value.int .u8))):=hr4
    have HB4:Hid (Below w.heap.size w w4):=HB3.out.grown hg4 HB3.out.size (λj hj=>(HR3.out.lt j hj).1)
    have HS4:Hid (Lies .u8 w4 p2 B):=by obtain⟨p',x',h1,h2,_⟩:=row_sh2 HO4.out;simp only[Value.slice.injEq] at h1;obtain⟨rfl,_,rfl⟩:=h1;exact h2
    clear hr4 hg4 hf4 HR3 HO3 HB3 HO4
    go_wp2_with (at_builtin;refine append_at _ rfl _ _ 35 rfl w.heap.size 5 i0 (.int .u8 0) 1 Tryz.underlying35 hinf hz0 hz1 hz2 rfl _ _ _ rfl HR4.out .u8 _ _ _ B rfl HZN.out HQL.out HS4.out (by unfold maxLen;omega) (by omega) HB4.out.size ?_;intro v5 w5 ho5 hg5 hf5)
    have HR5:Hid (w5.ownsRow w.heap.size 5 1 v5 ((l.take (k+1)).flatMap frB).length (((l.take (k+1)).flatMap frB).map (Value.int .u8))):=by
     unfold Hid
     rw[HTK.out,List.map_append]
     have:(A++wd4 (q:Int)++wd4 (X:Int)++B).length=m+4+4+q:=by simp[wd4,HMA.out,HQL.out];omega
     rw[this]
     exact ho5
    have HB5:Hid (Below w.heap.size w w5):=HB4.out.grown hg5 HB4.out.size (λj hj=>(HR4.out.lt j hj).1)
    clear ho5 hg5 hf5
    go_wp2
    go_roundw
    case rel=>exact⟨k+1,by omega,by go_num,HOK2.out,HR5.out,HB5.out⟩
    case measure=>simp[intOf];omega
  ·obtain rfl:k=n:=by omega
   have HE:Hid (fmR l=(l.flatMap frB,0)):=fmR_ok (by have:=HOK.out;rw[List.take_of_length_le (by rw[HL.out];exact aqH _)] at this;exact this)
   have HR2:Hid (wr.ownsRow w.heap.size 5 1 u4 (l.flatMap frB).length ((l.flatMap frB).map (Value.int .u8))):=by have:=HRW.out;rw[List.take_of_length_le (by rw[HL.out];exact aqH _)] at this;exact this
   clear hok hrow hbw
   go_wp2
   refine bodyPost_ret (v:=.tuple #[u4,.int .i64 0]) (by simp[results,Tryz.results23,go_sem]) rfl ?_
   show PrPost (fmR l) w _ _
   rw[HE.out]
   exact⟨_,rfl,HR2.out,HBW.out⟩
end Go.Proofs.YtllhbhogfffedaaGreatDoor
namespace Go.Proofs.YtllhbhogfffedaaGreatDoor.K
open Go.RowKit
set_option linter.unusedVariables false
set_option linter.unusedSimpArgs false
abbrev rbO (x:Nat) (n o:Nat) (d:Bool):Array Value:=#[.pointer (some ⟨x,0,none⟩),.int .i64 n,.int .i64 o,.bool d]
def Rb (w:World) (j x:Nat) (J:Jl):Prop:=∃n o:Nat,w.heap[j]?=some (.cells (rbO x n o J.dead) 125 (0,0))/\ (J.dead=false-> n=J.n/\ o=J.k)
theorem Rb.lt {w:World} {j x:Nat} {J:Jl} (h:Rb w j x J):j < w.heap.size:=by obtain⟨_,_,h,_⟩:=h;exact(Array.getElem?_eq_some_iff.1 h).1
theorem Rb.same {w V:World} {j x:Nat} {J:Jl} (h:Rb w j x J) (hs:V.heap[j]?=w.heap[j]?):Rb V j x J:=by obtain⟨n,o,h,hn⟩:=h;exact⟨n,o,hs.trans h,hn⟩
theorem Rb.dead {w:World} {j x:Nat} {J:Jl} (h:Rb w j x J):w.cell? ⟨j,3,none⟩=some (.bool J.dead):=by obtain⟨n,o,h,_⟩:=h;exact cell_of_row _ _ 3 _ _ _ h
theorem Rb.cells {w:World} {j x:Nat} {J:Jl} (h:Rb w j x J) (hd:J.dead=false):w.heap[j]?=some (.cells (rbO x J.n J.k J.dead) 125 (0,0)):=by
 obtain⟨n,o,h,hn⟩:=h
 obtain⟨rfl,rfl⟩:=hn hd
 exact h
theorem Rb.c {w:World} {j x:Nat} {J:Jl} (h:Rb w j x J) (hd:J.dead=false):w.cell? ⟨j,0,none⟩=some (.pointer (some ⟨x,0,none⟩))/\ w.cell? ⟨j,1,none⟩=some (.int .i64 J.n)/\ w.cell? ⟨j,2,none⟩=some (.int .i64 J.k):=
 ⟨cell_of_row _ _ 0 _ _ _ (h.cells hd),cell_of_row _ _ 1 _ _ _ (h.cells hd),cell_of_row _ _ 2 _ _ _ (h.cells hd)⟩
theorem Rb.z {w:World} {j x:Nat} {J:Jl} (h:Rb w j x J) (i:Nat):w.frozen? ⟨j,i,none⟩=false:=by obtain⟨n,o,h,_⟩:=h;exact frozen_of_row _ _ i _ _ h
theorem rb_set1 {V:World} {j x:Nat} {J:Jl} {n:Nat} (h:Rb V j x J) (hd:J.dead=false):Rb (V.setCell ⟨j,1,none⟩ (.int .i64 n)) j x ⟨n,J.k,J.dead⟩:=⟨n,J.k,heap_setCell_same _ j 1 _ _ _ (h.cells hd),λ_=>⟨rfl,rfl⟩⟩
theorem rb_set2 {V:World} {j x:Nat} {J:Jl} {n:Nat} (h:Rb V j x J) (hd:J.dead=false):Rb (V.setCell ⟨j,2,none⟩ (.int .i64 n)) j x ⟨J.n,n,J.dead⟩:=⟨J.n,n,heap_setCell_same _ j 2 _ _ _ (h.cells hd),λ_=>⟨rfl,rfl⟩⟩
def enJ (c:Nat):Int:=if c<= 3 then enE c else c
theorem enJ_d {r:Nat} (h:r<= 3):enJ r=enE r:=if_pos h
theorem enE_0 {r:Nat} (h:r<= 3) (h0:r≠0):enE r≠0:=by unfold enE;rw[if_neg h0];split;omega;split<;>omega
theorem enE_6 {r:Nat}:(enE r=6)↔r=2:=by
 unfold enE
 constructor
 ·intro h
  split at h
  ·omega
  ·split at h
   ·omega
   ·split at h
    ·assumption
    ·omega
 ·rintro rfl;rfl
theorem edied_any (w:World) (j x:Nat) (J:Jl) (r:Nat) (h:Rb w j x J):Calls Tryz.prog 98 #[.pointer (some ⟨j,0,none⟩),.int .i64 (enE r)] w λe w'=>e=.returned (.int .i64 (enE r))/\ Rb w' j x (hdJ J r)/\ Kd (λk=>k=j) w w':=by
 have k3:=h.dead
 have z3:=h.z 3
 have HJ:Hid (Rb w j x J):=h
 obtain⟨z,hz⟩:∃z,enE r=z:=⟨_,rfl⟩
 have HZ:Hid (enE r=z):=hz
 rw[hz]
 clear h hz
 by_cases h6:z=6
 ·have hb:(z == 6)=true:=by simp[h6]
  subst h6
  have hr:r=2:=enE_6.1 HZ.out
  go_enter Tryz.func98,Tryz.ntmps98
  go_wp2
  go_ret
  refine⟨rfl,?_,kd_set⟩
  unfold hdJ
  rw[if_pos hr]
  obtain⟨n,o,h,_⟩:=HJ.out
  exact⟨n,o,heap_setCell_same _ j 3 _ _ _ h,λq=>by cases q⟩
 ·have hb:(z == 6)=false:=by simp[h6]
  have hr:r≠2:=λe=>h6 (by rw[←HZ.out];exact enE_6.2 e)
  go_enter Tryz.func98,Tryz.ntmps98
  go_wp2
  go_ret
  refine⟨rfl,?_,Kd.refl _ _⟩
  unfold hdJ
  rw[if_neg hr]
  exact HJ.out
def szJ (J:Jl):Nat:=if J.dead=true then 0 else J.n
def lsJ (J:Jl):Nat:=if J.dead=true then 0 else J.k
theorem eSize_any (w:World) (j x:Nat) (J:Jl) (h:Rb w j x J):Calls Tryz.prog 34 #[.pointer (some ⟨j,0,none⟩)] w λe w'=>e=.returned (.int .i64 (szJ J:Nat))/\ w'=w:=by
 have k3:=h.dead
 cases hd:J.dead with
 |true=>
  rw[hd] at k3
  have HR:Hid (szJ J=0):=by show _=_;unfold szJ;rw[if_pos hd]
  clear h
  go_enter Tryz.func34,Tryz.ntmps34
  go_wp2
  go_ret
  exact⟨by rw[HR.out];rfl,rfl⟩
 |false=>
  rw[hd] at k3
  obtain⟨_,k1,_⟩:=h.c hd
  have HR:Hid (szJ J=J.n):=by show _=_;unfold szJ;rw[if_neg (by simp[hd])]
  clear h
  go_enter Tryz.func34,Tryz.ntmps34
  go_wp2
  go_ret
  exact⟨by rw[HR.out];rfl,rfl⟩
theorem eLoose_any (w:World) (j x:Nat) (J:Jl) (h:Rb w j x J):Calls Tryz.prog 35 #[.pointer (some ⟨j,0,none⟩)] w λe w'=>e=.returned (.int .i64 (lsJ J:Nat))/\ w'=w:=by
 have k3:=h.dead
 cases hd:J.dead with
 |true=>
  rw[hd] at k3
  have HR:Hid (lsJ J=0):=by show _=_;unfold lsJ;rw[if_pos hd]
  clear h
  go_enter Tryz.func35,Tryz.ntmps35
  go_wp2
  go_ret
  exact⟨by rw[HR.out];rfl,rfl⟩
 |false=>
  rw[hd] at k3
  obtain⟨_,_,k2⟩:=h.c hd
  have HR:Hid (lsJ J=J.k):=by show _=_;unfold lsJ;rw[if_neg (by simp[hd])]
  clear h
  go_enter Tryz.func35,Tryz.ntmps35
  go_wp2
  go_ret
  exact⟨by rw[HR.out];rfl,rfl⟩
structure Wk (w V:World) (x j:Nat) (F:Nat-> Prop) (D:Dk) (J:Jl):Prop where
 foot:∃F':Nat-> Prop,Em V x F' D/\ ∀k,F' k-> (F k∨w.heap.size<= k)/\ k < V.heap.size
 jb:Rb V j x J
 kd:Kd (λk=>F k∨k=j) w V
section
variable {w V U:World} {x j:Nat} {F:Nat-> Prop} {D D':Dk} {J J':Jl}
theorem Wk.start (h:Em w x F D) (hj:Rb w j x J):Wk w w x j F D J:=⟨⟨fc F w,h.fc,λk q=>⟨.inl q.1,q.2⟩⟩,hj,Kd.refl _ _⟩
theorem Wk.below (h:Wk w V x j F D J) (hb:Below V.heap.size V U):Wk w U x j F D J:=by
 obtain⟨F',h1,h2⟩:=h.foot
 exact⟨⟨F',h1.below hb,λk q=>⟨(h2 k q).1,Nat.lt_of_lt_of_le (h2 k q).2 hb.size⟩⟩,h.jb.same (hb.block _ h.jb.lt),h.kd.trans (Kd.below hb)⟩
theorem Wk.call (h:Wk w V x j F D J) (hj:¬F j/\ j < w.heap.size):∃F',Em V x F' D/\ (∀k,F' k-> (F k∨w.heap.size<= k)/\ k < V.heap.size)/\ (¬F' j)/\ ∀U D',Em U x (up F' V) D'-> Kd F' V U-> Wk w U x j F D' J:=by
 obtain⟨F',h1,h2⟩:=h.foot
 have n:∀{k},k < w.heap.size-> ¬F k-> ¬F' k:=λhk hn q=>(h2 _ q).1.elim hn (λq=>by omega)
 refine⟨F',h1,h2,n hj.2 hj.1,λU D' hD hK=>?_⟩
 have hv:=h.kd.size
 refine⟨⟨fc (up F' V) U,hD.fc,λk q=>⟨Or.elim q.1 (λq=>(h2 k q).1) (λq=>.inr (by omega)),q.2⟩⟩,h.jb.same (hK.same _ h.jb.lt (n hj.2 hj.1)),Kd.next h.kd hK (λk q=>(h2 k q).1.elim (λq=>.inl (.inl q)) .inr)⟩
theorem Wk.jour (h:Wk w V x j F D J) (hj0:¬F j/\ j < w.heap.size) (hj:Rb U j x J') (hK:Kd (λk=>k=j) V U):Wk w U x j F D J':=by
 obtain⟨F',h1,h2⟩:=h.foot
 have nj:¬F' j:=λq=>(h2 _ q).1.elim hj0.1 (λq=>by omega)
 exact⟨⟨F',h1.same (λk q hk=>hK.same k hk (λe=>nj (e ▸ q))),λk q=>⟨(h2 k q).1,Nat.lt_of_lt_of_le (h2 k q).2 hK.size⟩⟩,hj,Kd.next h.kd hK (λk q=>.inl (.inr q))⟩
end
def WkP (w:World) (x j:Nat) (F:Nat-> Prop) (R:Dk×Jl×Nat) (e:Ending) (w':World):Prop:=e=.returned (.int .i64 (enJ R.2.2))/\ Wk w w' x j F R.1 R.2.1
structure OpK (w w':World) (x:Nat) (F':Nat-> Prop) (O:Opn) (pj v:Value):Prop where
 no:O.r≠0-> pj=.pointer none/\ v=.slice none 0 0
 yes:O.r=0-> ∃j os,pj=.pointer (some ⟨j,0,none⟩)/\ w.heap.size<= j/\ Rb w' j x ⟨O.n,O.k,false⟩/\ (¬F' j)/\ Rl w' w.heap.size v os/\ os.map Ro.r=O.l
def OkP (w:World) (x:Nat) (F:Nat-> Prop) (O:Opn) (e:Ending) (w':World):Prop:=
 ∃pj v F',e=.returned (.tuple #[pj,v,.int .i64 (enE O.r)])/\ Em w' x F' O.d/\ (∀k,F' k-> F k∨w.heap.size<= k)/\ Kd F w w'/\ OpK w w' x F' O pj v
theorem fileD_v (D:Dk) (s:ByteArray) (g:Nat-> List Fl):(fileD D s g).2=0∨(fileD D s g).2=2∨(fileD D s g).2=3:=by
 have ha:actR D=0∨actR D=2:=by unfold actR;split<;>simp
 unfold fileD
 split
 ·exact .inr (.inl rfl)
 ·split
  ·exact .inr (.inr rfl)
  ·exact ha.elim .inl (λh=>.inr (.inl h))
theorem rdN_v (D:Dk) (s:ByteArray):rdN D s=0∨rdN D s=2∨rdN D s=3:=by
 unfold rdN
 split
 ·exact .inr (.inl rfl)
 ·split
  ·exact .inr (.inr rfl)
  ·exact .inl rfl
theorem v_rm {r:Nat} (h:r=0∨r=2∨r=3):(rmE r≠0-> r=2/\ rmE r=2)/\ (rmE r=0-> ¬enE r=6):=by
 rcases h with rfl|rfl|rfl<;>refine⟨λq=>?_,λq=>?_⟩
 ·exact absurd rfl q
 ·decide
 ·exact⟨rfl,rfl⟩
 ·cases q
 ·exact absurd rfl q
 ·decide
theorem OkP.err {w w':World} {x:Nat} {F F':Nat-> Prop} {O:Opn} {e:Ending} {r:Nat} (hr:O.r=r) (hr0:r≠0) (he:e=.returned (.tuple #[.pointer none,.slice none 0 0,.int .i64 (enE r)])) (hD:Em w' x F' O.d) (hF:∀k,F' k-> F k∨w.heap.size<= k) (hK:Kd F w w'):OkP w x F O e w':=
 ⟨_,_,F',by rw[hr];exact he,hD,hF,hK,⟨λ_=>⟨rfl,rfl⟩,λh=>absurd (hr.symm.trans h) hr0⟩⟩
theorem eopen_any (w:World) (x:Nat) (F:Nat-> Prop) (D:Dk) (B:Nat) (h:Em w x F D) (hk:D.Ok B) (hB:B<= 1099511627776):
 Calls Tryz.prog 30 #[.pointer (some ⟨x,0,none⟩)] w λe w'=>OkP w x F (opX D) e w':=by
 have HR:=eRemove_any w x F D jnN B h hk hB
 obtain⟨O,hO⟩:∃O,opX D=O:=⟨_,rfl⟩
 have hok:(rmD D).1.Ok B:=ok_file hk (λi=>fsok_erase hk.files)
 have hv0:=v_rm (fileD_v D jnN (λi=>D.fs.eraseIdx i))
 rw[hO]
 obtain⟨⟨D1,r0⟩,hR⟩:∃R:Dk×Nat,rmD D=R:=⟨_,rfl⟩
 unfold opX at hO
 unfold EP at HR
 rw[hR] at hO hok
 rw[show fileD D jnN (λi=>D.fs.eraseIdx i)=(D1,r0) from hR] at HR hv0
 simp only at hO hok hv0 HR
 unfold jnN at HR
 by_cases hr:rmE r0=0
 case neg=>
  rw[if_neg hr] at hO
  have HO:Hid (O.d=D1/\ O.r=2):=by rw[←hO];exact⟨rfl,(hv0.1 hr).2⟩
  rw[(hv0.1 hr).1,show enE 2=6 from rfl] at HR
  clear hO hok hr hR hv0 h hk
  go_enter Tryz.func30,Tryz.ntmps30
  go_wp2_with (go_at_call 63;refine HR.mono ?_;rintro e w1 ⟨rfl,hD1,hK1⟩;have HW:Hid (Em w1 x (up F w) D1/\ Kd F w w1):=⟨hD1,hK1⟩;clear hD1 hK1)
  refine bodyPost_ret (v:=.tuple #[.pointer none,.slice none 0 0,.int .i64 6]) (by simp[results,Tryz.results30,go_sem]) rfl ?_
  exact OkP.err HO.out.2 (by decide) rfl (by rw[HO.out.1];exact HW.out.1) (λk q=>q) HW.out.2
 case pos=>
  rw[if_pos hr] at hO
  obtain⟨z0,hz0⟩:∃z,enE r0=z:=⟨_,rfl⟩
  have h60:=hv0.2 hr
  rw[hz0] at HR h60
  have hb60:(z0 == 6)=false:=by simp[h60]
  have H0:Hid (D1.Ok B):=hok
  have HO:Hid (opB D1=O):=hO
  clear hO hok hr hR hv0 h hk hz0
  go_enter Tryz.func30,Tryz.ntmps30
  go_wp2_with fail
  refine HR.mono ?_
  clear HR
  rintro e w1 ⟨rfl,hDm,hK1⟩
  obtain⟨F1,hF1⟩:∃F1,fc (up F w) w1=F1:=⟨_,rfl⟩
  have hDm1:=hDm.fc
  rw[hF1] at hDm1
  have hw1:=hK1.size
  have HF1:Hid (∀k,F1 k-> (F k∨w.heap.size<= k)/\ k < w1.heap.size):=λk q=>by rw[←hF1] at q;exact q
  have HA:=eRead_any w1 x F1 D1 jN B hDm1 H0.out hB
  have H1:Hid (Em w1 x F1 D1/\ Kd F w w1):=⟨hDm1,hK1⟩
  obtain⟨hby,hbl⟩:=rd_byt H0.out jN
  have hv1:=v_rm (rdN_v D1 jN)
  have hO:=HO.out
  unfold opB at hO
  unfold RdE at HA
  obtain⟨bs,hbs⟩:∃bs,rdB D1 jN=bs:=⟨_,rfl⟩
  rw[hbs] at hby hbl HA hO
  obtain⟨r1,hr1⟩:∃r,rdN D1 jN=r:=⟨_,rfl⟩
  rw[hr1] at HA hO hv1
  unfold jN at HA
  clear hDm hK1 hDm1 hF1 HO hr1
  by_cases hr:rmE r1=0
  case neg=>
   rw[if_neg hr] at hO
   have HO:Hid (O.d=D1/\ O.r=2):=by rw[←hO];exact⟨rfl,(hv1.1 hr).2⟩
   rw[(hv1.1 hr).1,show enE 2=6 from rfl] at HA
   clear hO hr hby hbl hbs hv1
   go_wp2_with (go_at_call 64;refine HA.mono ?_;rintro e w2 ⟨v2,rfl,ho2,hb2⟩;obtain⟨a2,c2,hv2⟩:=d_shape ho2;subst hv2;have HW:Hid (Below w1.heap.size w1 w2):=hb2;clear ho2 hb2)
   refine bodyPost_ret (v:=.tuple #[.pointer none,.slice none 0 0,.int .i64 6]) (by simp[results,Tryz.results30,go_sem]) rfl ?_
   exact OkP.err HO.out.2 (by decide) rfl (by rw[HO.out.1];exact H1.out.1.below HW.out) (λk q=>(HF1.out k q).1) (H1.out.2.trans (Kd.below HW.out))
  case pos=>
   rw[if_pos hr] at hO
   obtain⟨z1,hz1⟩:∃z,enE r1=z:=⟨_,rfl⟩
   have h61:=hv1.2 hr
   rw[hz1] at HA h61
   have hb61:(z1 == 6)=false:=by simp[h61]
   have HO:Hid (opC D1 bs=O):=hO
   clear hO hr hv1 hz1
   go_wp2_with fail
   refine HA.mono ?_
   clear HA
   rintro e w2 ⟨v2,rfl,ho2,hb2⟩
   obtain⟨a2,c2,hv2⟩:=d_shape ho2
   subst hv2
   obtain⟨hz2,hn2,hc2,hl2⟩:=lies_own (own_low7 ho2 (Nat.zero_le _))
   have hcm:c2<= 9223372036854775807:=by
    obtain⟨_,⟨e,_⟩|⟨g,cap,cur,e,_,_,_,hm,_⟩⟩:=ho2
    ·obtain⟨_,_,e3⟩:=Value.slice.inj e;rw[e3];omega
    ·obtain⟨_,_,e3⟩:=Value.slice.inj e;rw[e3];exact hm
   have HS:=scan2_any a2 bs bs.length c2 w2 hby rfl hc2 hcm (by omega) hz2
   have hsl:=scR_len hby
   have hw2:=hb2.size
   unfold ScPost at HS
   have H2:Hid (Below w1.heap.size w1 w2):=hb2
   clear ho2 hb2 hz2 hn2 hcm
   have hO:=HO.out
   unfold opC at hO
   clear HO
   obtain⟨⟨ql,qn⟩,hq⟩:∃q:List Rc×Nat,scR bs=q:=⟨_,rfl⟩
   rw[hq] at HS hsl hO
   simp only at HS hsl hO
   obtain⟨m,hm⟩:∃m,bs.length=m:=⟨_,rfl⟩
   rw[hm] at hO hsl hbl hl2 hc2 HS ⊢
   clear hm hq hbs hby
   go_wp2_with fail
   refine HS.mono ?_
   clear HS
   rintro e w3 ⟨v3,os,rfl,hrl,hom,hb3⟩
   obtain⟨a3,c3,hv3⟩:=d_shape hrl.row
   have hw3:=hb3.size
   have HW3:Hid (Rl w3 w2.heap.size v3 os/\ os.map Ro.r=ql/\ Below w1.heap.size w1 w3):=⟨hrl,hom,H2.out.trans (hb3.mono hw2)⟩
   clear hrl hom hb3 H2
   obtain⟨w4,hw4⟩:∃V,w3.alloc (.cells #[.pointer (some ⟨x,0,none⟩),.int .i64 qn,.int .i64 qn,.bool false] 125)=V:=⟨_,rfl⟩
   have hb4:Below w3.heap.size w3 w4:=by rw[←hw4];exact(Below.refl _ _).alloc (aqH _) _
   have hs4:w4.heap.size=w3.heap.size+1:=by rw[←hw4];simp
   have hj4:w4.heap[w3.heap.size]?=some (.cells #[.pointer (some ⟨x,0,none⟩),.int .i64 qn,.int .i64 qn,.bool false] 125 (0,0)):=by
    have:=heap_new6 w3 (.cells #[.pointer (some ⟨x,0,none⟩),.int .i64 qn,.int .i64 qn,.bool false] 125)
    rw[hw4] at this
    exact this
   have H4:Hid (Below w3.heap.size w3 w4/\ w4.heap[w3.heap.size]?=some (.cells #[.pointer (some ⟨x,0,none⟩),.int .i64 qn,.int .i64 qn,.bool false] 125 (0,0))/\ w4.heap.size=w3.heap.size+1):=⟨hb4,hj4,hs4⟩
   clear hb4 hj4 hs4
   obtain⟨nos,hnos⟩:∃nos,os.length=nos:=⟨_,rfl⟩
   rw[hnos] at hv3
   clear hnos
   have HV3:Hid (Value.slice a3 nos c3=v3):=hv3.symm
   rw[hv3]
   clear hv3
   by_cases hlt:qn < m
   case neg=>
    rw[if_neg hlt] at hO
    have HO:Hid (O=⟨D1,0,ql,qn,qn⟩):=hO.symm
    have hle:¬(qn:Int) < (m:Int):=by omega
    clear hO hlt
    go_wp2
    refine bodyPost_ret (v:=.tuple #[.pointer (some ⟨w3.heap.size,0,none⟩),.slice a3 nos c3,.int .i64 0]) (by simp[results,Tryz.results30,go_sem]) rfl ?_
    rw[HO.out]
    refine⟨_,v3,F1,by rw[HV3.out];rfl,(H1.out.1.below HW3.out.2.2).below H4.out.1,λk q=>(HF1.out k q).1,(H1.out.2.trans (Kd.below HW3.out.2.2)).trans (Kd.below H4.out.1),λh=>absurd rfl h,λ_=>⟨w3.heap.size,os,rfl,by omega,⟨qn,qn,H4.out.2.1,λ_=>⟨rfl,rfl⟩⟩,λq=>by have:=(HF1.out _ q).2;omega,rl_keep HW3.out.1 (by omega) (λk _ hk=>H4.out.1.block k hk),HW3.out.2.1⟩⟩
   case pos=>
    rw[if_pos hlt] at hO
    have hle:(qn:Int) < (m:Int):=by omega
    have hdm4:Em w4 x F1 D1:=(H1.out.1.below HW3.out.2.2).below H4.out.1
    have HC:=eCut_any w4 x F1 D1 jN (qn:Nat) B hdm4 H0.out hB
    have hv2:=fileD_v D1 jN (λi=>cutF D1.fs i (qn:Nat))
    obtain⟨⟨D2,r2⟩,hR2⟩:∃R:Dk×Nat,fileD D1 jN (λi=>cutF D1.fs i (qn:Nat))=R:=⟨_,rfl⟩
    unfold EP at HC
    rw[hR2] at HC hO hv2
    simp only at HC hO hv2
    unfold jN at HC
    have hr3:r2<= 3:=by omega
    clear hdm4 hR2 hlt hv2
    by_cases hr:r2=0
    case neg=>
     rw[if_neg hr] at hO
     have HO:Hid (O.d=D2/\ O.r=r2/\ r2≠0):=by rw[←hO];exact⟨rfl,rfl,hr⟩
     have hne:=enE_0 hr3 hr
     obtain⟨z2,hz2⟩:∃z,enE r2=z:=⟨_,rfl⟩
     rw[hz2] at HC hne
     have HZ2:Hid (enE r2=z2):=hz2
     have hbz:(z2 == 0)=false:=by simp[hne]
     clear hO hr hz2
     go_wp2_with (go_at_call 65;refine HC.mono ?_;rintro e w5 ⟨rfl,hD5,hK5⟩;have HW:Hid (Em w5 x (up F1 w4) D2/\ Kd F1 w4 w5):=⟨hD5,hK5⟩;clear hD5 hK5)
     refine bodyPost_ret (v:=.tuple #[.pointer none,.slice none 0 0,.int .i64 z2]) (by simp[results,Tryz.results30,go_sem]) rfl ?_
     exact OkP.err HO.out.2.1 HO.out.2.2 (by rw[HZ2.out]) (by rw[HO.out.1];exact HW.out.1) (λk q=>Or.elim q (λq=>(HF1.out k q).1) (λq=>.inr (by have:=H4.out.2.2;omega))) (Kd.next ((H1.out.2.trans (Kd.below HW3.out.2.2)).trans (Kd.below H4.out.1)) HW.out.2 (λk q=>(HF1.out k q).1))
    case pos=>
     rw[if_pos hr] at hO
     have HO:Hid (O=⟨D2,0,ql,qn,0⟩):=hO.symm
     rw[hr,show enE 0=0 from rfl] at HC
     clear hO hr hr3
     have HJ:Hid (¬F1 w3.heap.size):=λq=>by have:=(HF1.out _ q).2;omega
     go_wp2_with (go_at_call 65;refine HC.mono ?_;rintro e w5 ⟨rfl,hD5,hK5⟩;have HW:Hid (Em w5 x (up F1 w4) D2/\ Kd F1 w4 w5):=⟨hD5,hK5⟩;have hj5:=(hK5.same _ (by have:=H4.out.2.2;omega) HJ.out).trans H4.out.2.1;have c5:=cell_of_row _ _ 2 _ _ _ hj5;have z5:=frozen_of_row _ _ 2 _ _ hj5;have HJ5:Hid (w5.heap[w3.heap.size]?=some (.cells #[.pointer (some ⟨x,0,none⟩),.int .i64 qn,.int .i64 qn,.bool false] 125 (0,0))):=hj5;clear hD5 hK5 hj5)
     refine bodyPost_ret (v:=.tuple #[.pointer (some ⟨w3.heap.size,0,none⟩),.slice a3 nos c3,.int .i64 0]) (by simp[results,Tryz.results30,go_sem]) rfl ?_
     have hw5:=HW.out.2.size
     have hs4:=H4.out.2.2
     have hd5:Em (w5.setCell ⟨w3.heap.size,2,none⟩ (.int .i64 0)) x (fc (λk=>up F1 w4 k/\ k≠w3.heap.size) w5) D2:=by
      have:=HW.out.1.fc.mono (G:=fc (λk=>up F1 w4 k/\ k≠w3.heap.size) w5) (λk q _=>⟨⟨q.1,λe=>by rw[e] at q;exact q.1.elim HJ.out (λq=>by omega)⟩,q.2⟩)
      exact this.same (λk q _=>heap_setCell_other _ _ _ _ q.1.2)
     rw[HO.out]
     refine⟨_,v3,_,by rw[HV3.out];rfl,hd5,λk q=>Or.elim q.1.1 (λq=>(HF1.out k q).1) (λq=>.inr (by omega)),(Kd.next ((H1.out.2.trans (Kd.below HW3.out.2.2)).trans (Kd.below H4.out.1)) HW.out.2 (λk q=>(HF1.out k q).1)).next (G:=λk=>k=w3.heap.size) (Kd.set rfl) (λk q=>.inr (by omega)),λh=>absurd rfl h,λ_=>⟨w3.heap.size,os,rfl,by omega,⟨qn,0,heap_setCell_same _ _ 2 _ _ _ HJ5.out,λ_=>⟨rfl,rfl⟩⟩,λq=>q.1.2 rfl,rl_keep HW3.out.1 (by omega) (λk hk1 hk2=>(heap_setCell_other _ _ _ _ (by show k≠w3.heap.size;omega)).trans ((HW.out.2.same k (by omega) (λq=>by have:=(HF1.out _ q).2;omega)).trans (H4.out.1.block k hk2))),HW3.out.2.1⟩⟩
theorem frE_case (J:Jl) (l:List Rc):(J.dead=true/\ frE J l=70)∨(J.dead=false/\ frE J l=60/\ fmR l=([],60))∨(J.dead=false/\ frE J l=0/\ fmR l=(l.flatMap frB,0)/\ l.all mayB6=true):=by
 unfold frE fmR
 cases J.dead with
 |true=>exact .inl ⟨rfl,rfl⟩
 |false=>
  by_cases h:l.all mayB6=true
  ·rw[if_neg (by simp),if_pos h,if_pos h];exact .inr (.inr ⟨rfl,rfl,rfl,h⟩)
  ·rw[if_neg (by simp),if_neg h,if_neg h];exact .inr (.inl ⟨rfl,rfl,rfl⟩)
theorem all_bytey {l:List Rc} (h:l.all mayB6=true) (hd:∀r∈l,Bytey r.data):Bytey (l.flatMap frB):=fr_bytey (λr hr=>⟨List.all_eq_true.mp h r hr,hd r hr⟩)
theorem ewrite_any (w:World) (x j:Nat) (F:Nat-> Prop) (D:Dk) (J:Jl) (B:Nat) (l:List Rc) (a:Option Addr) (n c:Nat) (sync:Bool) (h:Em w x F D) (hk:D.Ok B) (hB:B<= 549755813888) (nj:¬F j) (hj:Rb w j x J) (hl:l.length=n) (hn:n<= 1048576) (ha:RLin w a l) (hd:∀r∈l,Bytey r.data) (hJn:J.n<= 549755813888) (hJk:J.k<= 549755813888) (hlb:frE J l=0-> (l.flatMap frB).length<= 137438953472):
 Calls Tryz.prog 70 #[.pointer (some ⟨j,0,none⟩),.slice a n c,.bool sync] w λe w'=>WkP w x j F (wrX D J l sync) e w':=by
 have HFR:=frame2_any l a n c w hl hn ha hd
 obtain⟨R,hR⟩:∃R,wrX D J l sync=R:=⟨_,rfl⟩
 rw[hR]
 unfold wrX at hR
 have k3:=hj.dead
 have HN:Hid (¬F j/\ j < w.heap.size):=⟨nj,hj.lt⟩
 have H0:Hid (D.Ok B/\ Wk w w x j F D J/\ Em w x (fc F w) D/\ Rb w j x J):=⟨hk,Wk.start h hj,h.fc,hj⟩
 have HL:Hid (l.length=n):=hl
 rcases frE_case J l with ⟨hdd,hfe⟩|⟨hdd,hfe,hfm⟩|⟨hdd,hfe,hfm,hall⟩
 ·rw[hfe,if_neg (by decide)] at hR
  have HR:Hid (R=(D,J,70)):=hR.symm
  rw[hdd] at k3
  clear h hk hj hl ha hd hR HFR hlb hfe hdd
  go_enter Tryz.func70,Tryz.ntmps70
  go_wp2
  go_ret
  exact⟨by rw[HR.out];rfl,by rw[HR.out];exact H0.out.2.1⟩
 ·rw[hfe,if_neg (by decide)] at hR
  have HR:Hid (R=(D,J,60)):=hR.symm
  rw[hdd] at k3
  rw[hfm] at HFR
  unfold PrPost at HFR
  clear h hk hj hl ha hd hR hlb hfe hdd hfm
  go_enter Tryz.func70,Tryz.ntmps70
  go_wp2_with (go_at_call 23;refine HFR.mono ?_;rintro e V1 ⟨v1,rfl,ho1,hb1⟩;obtain⟨a1,c1,hv1⟩:=d_shape ho1;subst hv1;have HB1:Hid (Below w.heap.size w V1):=hb1;clear ho1 hb1)
  go_ret
  exact⟨by rw[HR.out];rfl,by rw[HR.out];exact H0.out.2.1.below HB1.out⟩
 ·rw[hfe,if_pos rfl] at hR
  have hlb:=hlb hfe
  have HBY:Hid (Bytey (l.flatMap frB)):=all_bytey hall hd
  have HDD:Hid (J.dead=false):=hdd
  rw[hdd] at k3
  rw[hfm] at HFR
  unfold PrPost at HFR
  simp only at HFR
  clear h hk hj hl ha hd hfe hdd hfm hall
  go_enter Tryz.func70,Tryz.ntmps70
  go_wp2_with fail
  refine HFR.mono ?_
  clear HFR
  rintro e V1 ⟨v1,rfl,ho1,hb1⟩
  have hw1:=hb1.size
  have HWV1:Hid (Wk w V1 x j F D J):=H0.out.2.1.below hb1
  have HF1:Hid (Em V1 x (fc F w) D):=H0.out.2.2.1.below hb1
  unfold wrA at hR
  obtain⟨bs,hbs⟩:∃bs,l.flatMap frB=bs:=⟨_,rfl⟩
  rw[hbs] at ho1 hlb hR HBY
  obtain⟨m,hm⟩:∃m,bs.length=m:=⟨_,rfl⟩
  have HM:Hid (bs.length=m):=hm
  rw[hm] at ho1 hlb
  obtain⟨a1,c1,hv1⟩:=d_shape ho1
  subst hv1
  have HO1:Hid (V1.ownsRow w.heap.size 5 1 (.slice a1 m c1) m (bs.map (Value.int .u8))):=ho1
  clear ho1 hb1 hbs k3
  rw[HL.out,HM.out] at hR
  by_cases hn0:n=0
  ·rw[if_pos hn0] at hR
   have hz:¬(0:Int) < (n:Int):=by omega
   have hokB:D.Ok (B+137438953472):=H0.out.1.up (by omega)
   clear hn0 HO1 HF1
   unfold wrS at hR
   cases sync with
   |false=>
    rw[if_pos (.inl rfl)] at hR
    have HR:Hid (R=(D,J,0)):=hR.symm
    clear hR
    go_wp2
    go_ret
    exact⟨by rw[HR.out];rfl,by rw[HR.out];exact HWV1.out⟩
   |true=>
    obtain⟨k0,k1,k2⟩:=HWV1.out.jb.c HDD.out
    by_cases hk0:J.k=0
    case pos=>
     rw[if_pos (.inr hk0)] at hR
     have HR:Hid (R=(D,J,0)):=hR.symm
     rw[hk0] at k2
     clear hR hk0
     go_wp2
     go_ret
     exact⟨by rw[HR.out];rfl,by rw[HR.out];exact HWV1.out⟩
    case neg=>
     rw[if_neg (by simp[hk0])] at hR
     have hkz:(0:Int) < (J.k:Int):=by omega
     obtain⟨F5,h51,h52,nj5,hnext5⟩:=HWV1.out.call HN.out
     have HSY:=eSync_any V1 x F5 D jN (B+137438953472) h51 hokB (by omega)
     have hrr:=fileD_v D jN (λi=>synF D.fs i)
     obtain⟨⟨D5,r5⟩,hR5⟩:∃R:Dk×Nat,fileD D jN (λi=>synF D.fs i)=R:=⟨_,rfl⟩
     unfold EP at HSY
     rw[hR5] at HSY hR hrr
     simp only at HSY hR hrr
     unfold jN at HSY
     have HNX5:Hid (∀U D',Em U x (up F5 V1) D'-> Kd F5 V1 U-> Wk w U x j F D' J):=hnext5
     clear hR5 hnext5 h51 h52 nj5 hk0
     obtain⟨z5,hz5⟩:∃z,enE r5=z:=⟨_,rfl⟩
     rw[hz5] at HSY
     have HZr5:Hid (enE r5=z5):=hz5
     by_cases hr5:r5=0
     case neg=>
      rw[if_neg hr5] at hR
      have HR:Hid (R=(D5,hdJ J r5,r5)):=hR.symm
      have hne:=enE_0 (r:=r5) (by omega) hr5
      rw[hz5] at hne
      have hbz:(z5 == 0)=false:=by simp[hne]
      have HR3:Hid (r5<= 3/\ True):=⟨by omega,trivial⟩
      clear hR hr5 hrr hz5
      go_wp2_with fail
      refine HSY.mono ?_
      clear HSY
      rintro e V5 ⟨rfl,hD5,hK5⟩
      have HWV5:Hid (Wk w V5 x j F D5 J):=HNX5.out V5 D5 hD5 hK5
      clear hD5 hK5 HNX5 k0 k1 k2
      have HDI:=edied_any V5 j x J r5 HWV5.out.jb
      rw[HZr5.out] at HDI
      go_wp2_with (go_at_call 98;refine HDI.mono ?_;rintro e Ur5 ⟨rfl,hjU,hKU⟩;have HWU:Hid (Wk w Ur5 x j F D5 (hdJ J r5)):=HWV5.out.jour HN.out hjU hKU;clear hjU hKU)
      clear HDI
      go_ret
      exact⟨by rw[HR.out];show _=Ending.returned (.int .i64 (enJ r5));rw[enJ_d HR3.out.1,HZr5.out];rfl,by rw[HR.out];exact HWU.out⟩
     case pos=>
      rw[if_pos hr5] at hR
      have HR:Hid (R=(D5,⟨J.n,0,J.dead⟩,0)):=hR.symm
      have hz0:z5=0:=by rw[←hz5,hr5];rfl
      rw[hz0] at HSY
      clear hR hr5 hrr hz5 hz0
      go_wp2_with fail
      refine HSY.mono ?_
      clear HSY
      rintro e V5 ⟨rfl,hD5,hK5⟩
      have HWV5:Hid (Wk w V5 x j F D5 J):=HNX5.out V5 D5 hD5 hK5
      clear hD5 hK5 HNX5 k0 k1 k2
      obtain⟨k0,k1,k2⟩:=HWV5.out.jb.c HDD.out
      have z2:=HWV5.out.jb.z 2
      have HW7:Hid (Wk w (V5.setCell ⟨j,2,none⟩ (.int .i64 0)) x j F D5 ⟨J.n,0,J.dead⟩):=HWV5.out.jour HN.out (rb_set2 (n:=0) HWV5.out.jb HDD.out) kd_set
      go_wp2
      go_ret
      exact⟨by rw[HR.out];rfl,by rw[HR.out];exact HW7.out⟩
  ·rw[if_neg hn0] at hR
   have hz:(0:Int) < (n:Int):=by omega
   clear hn0
   obtain⟨F1,hF1⟩:∃F1,fc F w=F1:=⟨_,rfl⟩
   have h1:=HF1.out
   have h2:∀k,F1 k-> F k/\ k < w.heap.size:=λk q=>by rw[←hF1] at q;exact q
   rw[hF1] at h1
   have HNX:Hid (∀U D',Em U x (up F1 V1) D'-> Kd F1 V1 U-> Wk w U x j F D' J):=λU D' hD hK=>by
    have hv:=hw1
    refine⟨⟨fc (up F1 V1) U,hD.fc,λk q=>⟨Or.elim q.1 (λq=>.inl (h2 k q).1) (λq=>.inr (by omega)),q.2⟩⟩,HWV1.out.jb.same (hK.same _ HWV1.out.jb.lt (λq=>HN.out.1 (h2 _ q).1)),Kd.next HWV1.out.kd hK (λk q=>.inl (.inl (h2 k q).1))⟩
   obtain⟨hz1,hnn1,hcc1,hll1⟩:=lies_own (own_low7 HO1.out (Nat.zero_le _))
   have HAP:=eAppend_any V1 x F1 D jN a1 m c1 bs B h1 H0.out.1 (by omega) HM.out hz1 (λb off hne e q=>by
    have hb:=(World.ownsRow.lt HO1.out b (by rw[e];rfl)).1
    have:=(h2 b q).2
    omega) hnn1 (by omega)
   have hrr:=appD_r D jN bs
   have hokB:(appD D jN bs).1.Ok (B+137438953472):=ok_app H0.out.1 HBY.out (by rw[HM.out];omega) (by omega)
   unfold EP at HAP
   obtain⟨⟨D2,r2⟩,hR2⟩:∃R:Dk×Nat,appD D jN bs=R:=⟨_,rfl⟩
   rw[hR2] at HAP hR hrr hokB
   simp only at HAP hR hrr hokB
   unfold jN at HAP
   obtain⟨k0,k1,k2⟩:=HWV1.out.jb.c HDD.out
   clear hR2 h1 h2 hF1 HF1 hz1 hnn1 hcc1 hll1
   obtain⟨z2,hz2⟩:∃z,enE r2=z:=⟨_,rfl⟩
   rw[hz2] at HAP
   have HZr2:Hid (enE r2=z2):=hz2
   by_cases hr2:r2=0
   case neg=>
    rw[if_neg hr2] at hR
    have HR:Hid (R=(D2,hdJ J r2,r2)):=hR.symm
    have hne:=enE_0 hrr hr2
    rw[hz2] at hne
    have hbz:(z2 == 0)=false:=by simp[hne]
    have HR3:Hid (r2<= 3/\ True):=⟨hrr,trivial⟩
    clear hR hr2 hrr hz2
    go_wp2_with fail
    refine HAP.mono ?_
    clear HAP
    rintro e V2 ⟨rfl,hD2,hK2⟩
    have HWV2:Hid (Wk w V2 x j F D2 J):=HNX.out V2 D2 hD2 hK2
    clear hD2 hK2 HNX k0 k1 k2
    have HDI:=edied_any V2 j x J r2 HWV2.out.jb
    rw[HZr2.out] at HDI
    go_wp2_with (go_at_call 98;refine HDI.mono ?_;rintro e Ur2 ⟨rfl,hjU,hKU⟩;have HWU:Hid (Wk w Ur2 x j F D2 (hdJ J r2)):=HWV2.out.jour HN.out hjU hKU;clear hjU hKU)
    clear HDI
    go_ret
    exact⟨by rw[HR.out];show _=Ending.returned (.int .i64 (enJ r2));rw[enJ_d HR3.out.1,HZr2.out];rfl,by rw[HR.out];exact HWU.out⟩
   case pos=>
    rw[if_pos hr2] at hR
    have hz0:z2=0:=by rw[←hz2,hr2];rfl
    rw[hz0] at HAP
    clear hr2 hrr hz2 hz0
    go_wp2_with fail
    refine HAP.mono ?_
    clear HAP
    rintro e V2 ⟨rfl,hD2,hK2⟩
    have HWV2:Hid (Wk w V2 x j F D2 J):=HNX.out V2 D2 hD2 hK2
    clear hD2 hK2 HNX k0 k1 k2
    obtain⟨k0,k1,k2⟩:=HWV2.out.jb.c HDD.out
    have z1:=HWV2.out.jb.z 1
    have z2:=HWV2.out.jb.z 2
    have q1:IntKind.i64.wrap ((J.n:Int)+(m:Int))=(J.n:Int)+(m:Int):=by rw[IntKind.wrap_i64];omega
    have q2:IntKind.i64.wrap ((J.k:Int)+(m:Int))=(J.k:Int)+(m:Int):=by rw[IntKind.wrap_i64];omega
    obtain⟨V4,hV4⟩:∃V,(V2.setCell ⟨j,1,none⟩ (.int .i64 ((J.n:Int)+(m:Int)))).setCell ⟨j,2,none⟩ (.int .i64 ((J.k:Int)+(m:Int)))=V:=⟨_,rfl⟩
    have HWV4:Hid (Wk w V4 x j F D2 ⟨J.n+m,J.k+m,J.dead⟩):=by
     have e1:=rb_set1 (n:=J.n+m) HWV2.out.jb HDD.out
     have e2:=rb_set2 (n:=J.k+m) e1 HDD.out
     have:=HWV2.out.jour HN.out e2 ((kd_set (V:=V2)).trans kd_set)
     rw[show (((J.n+m:Nat):Int))=(J.n:Int)+(m:Int) by omega,show (((J.k+m:Nat):Int))=(J.k:Int)+(m:Int) by omega,hV4] at this
     exact this
    clear HWV2 HWV1
    obtain⟨J4,hJ4⟩:∃J4:Jl,⟨J.n+m,J.k+m,J.dead⟩=J4:=⟨_,rfl⟩
    have HDD:Hid (J4.dead=false):=by rw[←hJ4];exact HDD.out
    rw[hJ4] at HWV4 hR
    clear hJ4
    go_upto_region 12 with fail
    clear k0 k1 k2 z1 z2 hV4
    unfold wrS at hR
    cases sync with
    |false=>
     rw[if_pos (.inl rfl)] at hR
     have HR:Hid (R=(D2,J4,0)):=hR.symm
     clear hR
     go_wp2
     go_ret
     exact⟨by rw[HR.out];rfl,by rw[HR.out];exact HWV4.out⟩
    |true=>
     obtain⟨k0,k1,k2⟩:=HWV4.out.jb.c HDD.out
     by_cases hk0:J4.k=0
     case pos=>
      rw[if_pos (.inr hk0)] at hR
      have HR:Hid (R=(D2,J4,0)):=hR.symm
      rw[hk0] at k2
      clear hR hk0
      go_wp2
      go_ret
      exact⟨by rw[HR.out];rfl,by rw[HR.out];exact HWV4.out⟩
     case neg=>
      rw[if_neg (by simp[hk0])] at hR
      have hkz:(0:Int) < (J4.k:Int):=by omega
      obtain⟨F5,h51,h52,nj5,hnext5⟩:=HWV4.out.call HN.out
      have HSY:=eSync_any V4 x F5 D2 jN (B+137438953472) h51 hokB (by omega)
      have hrr:=fileD_v D2 jN (λi=>synF D2.fs i)
      obtain⟨⟨D5,r5⟩,hR5⟩:∃R:Dk×Nat,fileD D2 jN (λi=>synF D2.fs i)=R:=⟨_,rfl⟩
      unfold EP at HSY
      rw[hR5] at HSY hR hrr
      simp only at HSY hR hrr
      unfold jN at HSY
      have HNX5:Hid (∀U D',Em U x (up F5 V4) D'-> Kd F5 V4 U-> Wk w U x j F D' J4):=hnext5
      clear hR5 hnext5 h51 h52 nj5 hk0
      obtain⟨z5,hz5⟩:∃z,enE r5=z:=⟨_,rfl⟩
      rw[hz5] at HSY
      have HZr5:Hid (enE r5=z5):=hz5
      by_cases hr5:r5=0
      case neg=>
       rw[if_neg hr5] at hR
       have HR:Hid (R=(D5,hdJ J4 r5,r5)):=hR.symm
       have hne:=enE_0 (r:=r5) (by omega) hr5
       rw[hz5] at hne
       have hbz:(z5 == 0)=false:=by simp[hne]
       have HR3:Hid (r5<= 3/\ True):=⟨by omega,trivial⟩
       clear hR hr5 hrr hz5
       go_wp2_with fail
       refine HSY.mono ?_
       clear HSY
       rintro e V5 ⟨rfl,hD5,hK5⟩
       have HWV5:Hid (Wk w V5 x j F D5 J4):=HNX5.out V5 D5 hD5 hK5
       clear hD5 hK5 HNX5 k0 k1 k2
       have HDI:=edied_any V5 j x J4 r5 HWV5.out.jb
       rw[HZr5.out] at HDI
       go_wp2_with (go_at_call 98;refine HDI.mono ?_;rintro e Ur5 ⟨rfl,hjU,hKU⟩;have HWU:Hid (Wk w Ur5 x j F D5 (hdJ J4 r5)):=HWV5.out.jour HN.out hjU hKU;clear hjU hKU)
       clear HDI
       go_ret
       exact⟨by rw[HR.out];show _=Ending.returned (.int .i64 (enJ r5));rw[enJ_d HR3.out.1,HZr5.out];rfl,by rw[HR.out];exact HWU.out⟩
      case pos=>
       rw[if_pos hr5] at hR
       have HR:Hid (R=(D5,⟨J4.n,0,J4.dead⟩,0)):=hR.symm
       have hz0:z5=0:=by rw[←hz5,hr5];rfl
       rw[hz0] at HSY
       clear hR hr5 hrr hz5 hz0
       go_wp2_with fail
       refine HSY.mono ?_
       clear HSY
       rintro e V5 ⟨rfl,hD5,hK5⟩
       have HWV5:Hid (Wk w V5 x j F D5 J4):=HNX5.out V5 D5 hD5 hK5
       clear hD5 hK5 HNX5 k0 k1 k2
       obtain⟨k0,k1,k2⟩:=HWV5.out.jb.c HDD.out
       have z2:=HWV5.out.jb.z 2
       have HW7:Hid (Wk w (V5.setCell ⟨j,2,none⟩ (.int .i64 0)) x j F D5 ⟨J4.n,0,J4.dead⟩):=HWV5.out.jour HN.out (rb_set2 (n:=0) HWV5.out.jb HDD.out) kd_set
       go_wp2
       go_ret
       exact⟨by rw[HR.out];rfl,by rw[HR.out];exact HW7.out⟩
theorem erewrite_any (w:World) (x j:Nat) (F:Nat-> Prop) (D:Dk) (J:Jl) (B:Nat) (l:List Rc) (a:Option Addr) (n c:Nat) (h:Em w x F D) (hk:D.Ok B) (hB:B<= 549755813888) (nj:¬F j) (hj:Rb w j x J) (hl:l.length=n) (hn:n<= 1048576) (ha:RLin w a l) (hd:∀r∈l,Bytey r.data) (hJn:J.n<= 549755813888) (hJk:J.k<= 549755813888) (hlb:frE J l=0-> (l.flatMap frB).length<= 137438953472):
 Calls Tryz.prog 72 #[.pointer (some ⟨j,0,none⟩),.slice a n c] w λe w'=>WkP w x j F (rwX D J l) e w':=by
 have HFR:=frame2_any l a n c w hl hn ha hd
 obtain⟨R,hR⟩:∃R,rwX D J l=R:=⟨_,rfl⟩
 rw[hR]
 unfold rwX at hR
 have k3:=hj.dead
 have HN:Hid (¬F j/\ j < w.heap.size):=⟨nj,hj.lt⟩
 have H0:Hid (D.Ok B/\ Wk w w x j F D J/\ Em w x (fc F w) D/\ Rb w j x J):=⟨hk,Wk.start h hj,h.fc,hj⟩
 have HL:Hid (l.length=n):=hl
 rcases frE_case J l with ⟨hdd,hfe⟩|⟨hdd,hfe,hfm⟩|⟨hdd,hfe,hfm,hall⟩
 ·rw[hfe,if_neg (by decide)] at hR
  have HR:Hid (R=(D,J,70)):=hR.symm
  rw[hdd] at k3
  clear h hk hj hl ha hd hR HFR hlb hfe hdd
  go_enter Tryz.func72,Tryz.ntmps72
  go_wp2
  go_ret
  exact⟨by rw[HR.out];rfl,by rw[HR.out];exact H0.out.2.1⟩
 ·rw[hfe,if_neg (by decide)] at hR
  have HR:Hid (R=(D,J,60)):=hR.symm
  rw[hdd] at k3
  rw[hfm] at HFR
  unfold PrPost at HFR
  clear h hk hj hl ha hd hR hlb hfe hdd hfm
  go_enter Tryz.func72,Tryz.ntmps72
  go_wp2_with (go_at_call 23;refine HFR.mono ?_;rintro e V1 ⟨v1,rfl,ho1,hb1⟩;obtain⟨a1,c1,hv1⟩:=d_shape ho1;subst hv1;have HB1:Hid (Below w.heap.size w V1):=hb1;clear ho1 hb1)
  go_ret
  exact⟨by rw[HR.out];rfl,by rw[HR.out];exact H0.out.2.1.below HB1.out⟩
 ·rw[hfe,if_pos rfl] at hR
  have hlb:=hlb hfe
  have HBY:Hid (Bytey (l.flatMap frB)):=all_bytey hall hd
  have HDD:Hid (J.dead=false):=hdd
  rw[hdd] at k3
  rw[hfm] at HFR
  unfold PrPost at HFR
  simp only at HFR
  clear h hk hj hl ha hd hfe hdd hfm hall
  go_enter Tryz.func72,Tryz.ntmps72
  go_wp2_with fail
  refine HFR.mono ?_
  clear HFR
  rintro e V1 ⟨v1,rfl,ho1,hb1⟩
  have hw1:=hb1.size
  have HWV1:Hid (Wk w V1 x j F D J):=H0.out.2.1.below hb1
  have HF1:Hid (Em V1 x (fc F w) D):=H0.out.2.2.1.below hb1
  unfold rwA tnX at hR
  obtain⟨bs,hbs⟩:∃bs,l.flatMap frB=bs:=⟨_,rfl⟩
  rw[hbs] at ho1 hlb hR HBY
  obtain⟨m,hm⟩:∃m,bs.length=m:=⟨_,rfl⟩
  have HM:Hid (bs.length=m):=hm
  rw[hm] at ho1 hlb
  obtain⟨a1,c1,hv1⟩:=d_shape ho1
  subst hv1
  have HO1:Hid (V1.ownsRow w.heap.size 5 1 (.slice a1 m c1) m (bs.map (Value.int .u8))):=ho1
  clear ho1 hb1 hbs k3
  rw[HM.out] at hR
  obtain⟨F1,hF1⟩:∃F1,fc F w=F1:=⟨_,rfl⟩
  have h1:=HF1.out
  have h2:∀k,F1 k-> F k/\ k < w.heap.size:=λk q=>by rw[←hF1] at q;exact q
  rw[hF1] at h1
  have HNX:Hid (∀U D',Em U x (up F1 V1) D'-> Kd F1 V1 U-> Wk w U x j F D' J):=λU D' hD hK=>by
   have hv:=hw1
   refine⟨⟨fc (up F1 V1) U,hD.fc,λk q=>⟨Or.elim q.1 (λq=>.inl (h2 k q).1) (λq=>.inr (by omega)),q.2⟩⟩,HWV1.out.jb.same (hK.same _ HWV1.out.jb.lt (λq=>HN.out.1 (h2 _ q).1)),Kd.next HWV1.out.kd hK (λk q=>.inl (.inl (h2 k q).1))⟩
  obtain⟨hz1,hnn1,hcc1,hll1⟩:=lies_own (own_low7 HO1.out (Nat.zero_le _))
  have HAP:=eAppend_any V1 x F1 D jnN a1 m c1 bs B h1 H0.out.1 (by omega) HM.out hz1 (λb off hne e q=>by
   have hb:=(World.ownsRow.lt HO1.out b (by rw[e];rfl)).1
   have:=(h2 b q).2
   omega) hnn1 (by omega)
  have hrr:=appD_r D jnN bs
  have hokB:(appD D jnN bs).1.Ok (B+137438953472):=ok_app H0.out.1 HBY.out (by rw[HM.out];omega) (by omega)
  unfold EP at HAP
  obtain⟨⟨D2,r2⟩,hR2⟩:∃R:Dk×Nat,appD D jnN bs=R:=⟨_,rfl⟩
  rw[hR2] at HAP hR hrr hokB
  simp only at HAP hR hrr hokB
  unfold jnN at HAP
  obtain⟨k0,k1,k2⟩:=HWV1.out.jb.c HDD.out
  clear hR2 h1 h2 hF1 HF1 hz1 hnn1 hcc1 hll1
  obtain⟨zr2,hzr2⟩:∃z,enE r2=z:=⟨_,rfl⟩
  rw[hzr2] at HAP
  have HZr2:Hid (enE r2=zr2):=hzr2
  by_cases hr2:r2=0
  case neg=>
   rw[if_neg hr2] at hR
   have HR:Hid (R=(D2,hdJ J r2,r2)):=by have:=hR.symm;simp only at this;rw[if_neg hr2] at this;exact this
   have hne:=enE_0 (r:=r2) (by omega) hr2
   rw[hzr2] at hne
   have hbz:(zr2 == 0)=false:=by simp[hne]
   have HR3:Hid (r2<= 3/\ True):=⟨by omega,trivial⟩
   clear hR hr2 hrr hzr2
   go_wp2_with fail
   refine HAP.mono ?_
   clear HAP
   rintro e V2 ⟨rfl,hD2,hK2⟩
   have HWV2:Hid (Wk w V2 x j F D2 J):=HNX.out V2 D2 hD2 hK2
   clear hD2 hK2 HNX k0 k1 k2
   have HDI:=edied_any V2 j x J r2 HWV2.out.jb
   rw[HZr2.out] at HDI
   go_wp2_with (go_at_call 98;refine HDI.mono ?_;rintro e Ur2 ⟨rfl,hjU,hKU⟩;have HWU:Hid (Wk w Ur2 x j F D2 (hdJ J r2)):=HWV2.out.jour HN.out hjU hKU;clear hjU hKU)
   clear HDI
   go_ret
   exact⟨by rw[HR.out];show _=Ending.returned (.int .i64 (enJ r2));rw[enJ_d HR3.out.1,HZr2.out];rfl,by rw[HR.out];exact HWU.out⟩
  case pos=>
   rw[if_pos hr2] at hR
   have hz0:zr2=0:=by rw[←hzr2,hr2];rfl
   rw[hz0] at HAP
   clear hr2 hrr hzr2 hz0
   unfold tn2 at hR
   go_wp2_with fail
   refine HAP.mono ?_
   clear HAP
   rintro e V2 ⟨rfl,hD2,hK2⟩
   have HWV2:Hid (Wk w V2 x j F D2 J):=HNX.out V2 D2 hD2 hK2
   clear hD2 hK2 HNX k0 k1 k2
   obtain⟨k0,k1,k2⟩:=HWV2.out.jb.c HDD.out
   obtain⟨F3,h31,h32,nj3,hnext3⟩:=HWV2.out.call HN.out
   have HSY:=eSync_any V2 x F3 D2 jnN (B+137438953472) h31 hokB (by omega)
   have hrr:=fileD_v D2 jnN (λi=>synF D2.fs i)
   have hok3:(fileD D2 jnN (λi=>synF D2.fs i)).1.Ok (B+137438953472):=ok_file hokB (λi=>fsok_syn hokB.files)
   obtain⟨⟨D3,r3⟩,hR3⟩:∃R:Dk×Nat,fileD D2 jnN (λi=>synF D2.fs i)=R:=⟨_,rfl⟩
   unfold EP at HSY
   rw[hR3] at HSY hR hrr hok3
   simp only at HSY hR hrr hok3
   unfold jnN at HSY
   have HNX3:Hid (∀U D',Em U x (up F3 V2) D'-> Kd F3 V2 U-> Wk w U x j F D' J):=hnext3
   clear hR3 hnext3 h31 h32 nj3
   obtain⟨zr3,hzr3⟩:∃z,enE r3=z:=⟨_,rfl⟩
   rw[hzr3] at HSY
   have HZr3:Hid (enE r3=zr3):=hzr3
   by_cases hr3:r3=0
   case neg=>
    rw[if_neg hr3] at hR
    have HR:Hid (R=(D3,hdJ J r3,r3)):=by have:=hR.symm;simp only at this;rw[if_neg hr3] at this;exact this
    have hne:=enE_0 (r:=r3) (by omega) hr3
    rw[hzr3] at hne
    have hbz:(zr3 == 0)=false:=by simp[hne]
    have HR3:Hid (r3<= 3/\ True):=⟨by omega,trivial⟩
    clear hR hr3 hrr hzr3
    go_wp2_with fail
    refine HSY.mono ?_
    clear HSY
    rintro e V3 ⟨rfl,hD2,hK2⟩
    have HWV3:Hid (Wk w V3 x j F D3 J):=HNX3.out V3 D3 hD2 hK2
    clear hD2 hK2 HNX3 k0 k1 k2
    have HDI:=edied_any V3 j x J r3 HWV3.out.jb
    rw[HZr3.out] at HDI
    go_wp2_with (go_at_call 98;refine HDI.mono ?_;rintro e Ur3 ⟨rfl,hjU,hKU⟩;have HWU:Hid (Wk w Ur3 x j F D3 (hdJ J r3)):=HWV3.out.jour HN.out hjU hKU;clear hjU hKU)
    clear HDI
    go_ret
    exact⟨by rw[HR.out];show _=Ending.returned (.int .i64 (enJ r3));rw[enJ_d HR3.out.1,HZr3.out];rfl,by rw[HR.out];exact HWU.out⟩
   case pos=>
    rw[if_pos hr3] at hR
    have hz0:zr3=0:=by rw[←hzr3,hr3];rfl
    rw[hz0] at HSY
    clear hr3 hrr hzr3 hz0
    unfold tn3 at hR
    go_wp2_with fail
    refine HSY.mono ?_
    clear HSY
    rintro e V3 ⟨rfl,hD2,hK2⟩
    have HWV3:Hid (Wk w V3 x j F D3 J):=HNX3.out V3 D3 hD2 hK2
    clear hD2 hK2 HNX3 k0 k1 k2
    obtain⟨k0,k1,k2⟩:=HWV3.out.jb.c HDD.out
    obtain⟨F4,h41,h42,nj4,hnext4⟩:=HWV3.out.call HN.out
    have HRN:=eRename_any V3 x F4 D3 jnN jN (B+137438953472) h41 hok3 (by omega)
    have hrr:=fileD_v D3 jnN (λi=>renF D3.fs i jN)
    obtain⟨⟨D4,r4⟩,hR4⟩:∃R:Dk×Nat,fileD D3 jnN (λi=>renF D3.fs i jN)=R:=⟨_,rfl⟩
    unfold EP at HRN
    rw[hR4] at HRN hR hrr
    simp only at HRN hR hrr
    unfold jnN jN at HRN
    have HNX4:Hid (∀U D',Em U x (up F4 V3) D'-> Kd F4 V3 U-> Wk w U x j F D' J):=hnext4
    clear hR4 hnext4 h41 h42 nj4
    obtain⟨zr4,hzr4⟩:∃z,enE r4=z:=⟨_,rfl⟩
    rw[hzr4] at HRN
    have HZr4:Hid (enE r4=zr4):=hzr4
    by_cases hr4:r4=0
    case neg=>
     rw[if_neg hr4] at hR
     have HR:Hid (R=(D4,hdJ J r4,r4)):=by exact hR.symm
     have hne:=enE_0 (r:=r4) (by omega) hr4
     rw[hzr4] at hne
     have hbz:(zr4 == 0)=false:=by simp[hne]
     have HR3:Hid (r4<= 3/\ True):=⟨by omega,trivial⟩
     clear hR hr4 hrr hzr4
     go_wp2_with fail
     refine HRN.mono ?_
     clear HRN
     rintro e V4 ⟨rfl,hD2,hK2⟩
     have HWV4:Hid (Wk w V4 x j F D4 J):=HNX4.out V4 D4 hD2 hK2
     clear hD2 hK2 HNX4 k0 k1 k2
     have HDI:=edied_any V4 j x J r4 HWV4.out.jb
     rw[HZr4.out] at HDI
     go_wp2_with (go_at_call 98;refine HDI.mono ?_;rintro e Ur4 ⟨rfl,hjU,hKU⟩;have HWU:Hid (Wk w Ur4 x j F D4 (hdJ J r4)):=HWV4.out.jour HN.out hjU hKU;clear hjU hKU)
     clear HDI
     go_ret
     exact⟨by rw[HR.out];show _=Ending.returned (.int .i64 (enJ r4));rw[enJ_d HR3.out.1,HZr4.out];rfl,by rw[HR.out];exact HWU.out⟩
    case pos=>
     rw[if_pos hr4,hr4,show hdJ J 0=J from rfl] at hR
     have HR:Hid (R=(D4,⟨m,0,J.dead⟩,0)):=hR.symm
     have hz0:zr4=0:=by rw[←hzr4,hr4];rfl
     rw[hz0] at HRN
     clear hr4 hrr hzr4 hz0 hR
     go_wp2_with fail
     refine HRN.mono ?_
     clear HRN
     rintro e V4 ⟨rfl,hD2,hK2⟩
     have HWV4:Hid (Wk w V4 x j F D4 J):=HNX4.out V4 D4 hD2 hK2
     clear hD2 hK2 HNX4 k0 k1 k2
     obtain⟨k0,k1,k2⟩:=HWV4.out.jb.c HDD.out
     have z1:=HWV4.out.jb.z 1
     have z2:=HWV4.out.jb.z 2
     have HW7:Hid (Wk w ((V4.setCell ⟨j,1,none⟩ (.int .i64 (m:Nat))).setCell ⟨j,2,none⟩ (.int .i64 0)) x j F D4 ⟨m,0,J.dead⟩):=HWV4.out.jour HN.out (rb_set2 (n:=0) (rb_set1 (n:=m) HWV4.out.jb HDD.out) HDD.out) (kd_set.trans kd_set)
     go_wp2
     go_ret
     exact⟨by rw[HR.out];rfl,by rw[HR.out];exact HW7.out⟩
structure Pk (D:Dk) (m:Nat):Prop where
 fs:∀f∈D.fs,f.Ok
 len:D.fs.length<= m
 used:usd D.fs<= 100000
 room:0<= D.room/\ D.room<= 100000
 acts:0<= D.acts/\ D.acts<= 9223372036854775807
theorem Pk.ok {D:Dk} {m:Nat} (h:Pk D m):D.Ok (100000+m):=⟨h.fs,by have:=h.len;omega,by have:=h.used;omega,⟨h.room.1,by have:=h.room.2;omega⟩,h.acts⟩
theorem Pk.up {D:Dk} {m k:Nat} (h:Pk D m) (hk:m<= k):Pk D k:=⟨h.fs,Nat.le_trans h.len hk,h.used,h.room,h.acts⟩
theorem actD_room (D:Dk) (fs:List Fl):(actD D fs).room=D.room:=by unfold actD;split<;>rfl
theorem pk_act {D:Dk} {m:Nat} {fs:List Fl} (h:Pk D m) (h1:∀f∈fs,f.Ok) (h2:fs.length<= m) (h3:usd fs<= 100000):Pk (actD D fs) m:=by
 have hr:=actD_room D fs
 have ha:=(ok_act (C:=100000+m) h.ok ⟨h1,by omega,by omega⟩ (aqH _)).acts
 refine⟨?_,?_,?_,by rw[hr];exact h.room,ha⟩<;>unfold actD<;>split<;>(try split)<;>first|exact h.fs|exact h1|exact h.len|exact h2|exact h.used|exact h3
theorem pk_fs {fs:List Fl} {D:Dk} {m:Nat} (h:Pk D m) (hf:FsOk fs (100000+m)) (h2:fs.length<= m) (h3:usd fs<= 100000):Pk (actD D fs) m:=pk_act h hf.fs h2 h3
theorem usd_setF {fs:List Fl} {i:Nat} {g:Fl-> Fl} (hg:∀f∈fs,(g f).bs.length<= f.bs.length):usd (setF fs i g)<= usd fs:=by
 unfold setF
 cases hf:fs[i]? with
 |none=>exact aqH _
 |some f=>
  have h1:=usd_set (g:=g f) hf
  have h2:=hg f (List.mem_of_getElem? hf)
  show usd (fs.set i (g f))<= usd fs
  omega
theorem len_setF (fs:List Fl) (i:Nat) (g:Fl-> Fl):(setF fs i g).length=fs.length:=by unfold setF;split<;>simp
theorem pk_file {D:Dk} {m:Nat} {s:ByteArray} {g:Nat-> List Fl} (h:Pk D m) (hg:∀i,FsOk (g i) (100000+m)/\ (g i).length<= m/\ usd (g i)<= 100000):Pk (fileD D s g).1 m:=by
 unfold fileD
 split
 ·exact h
 ·split
  ·exact h
  ·exact pk_fs h (hg _).1 (hg _).2.1 (hg _).2.2
theorem pk_syn {D:Dk} {m:Nat} (h:Pk D m) (s:ByteArray):Pk (fileD D s (λi=>synF D.fs i)).1 m:=
 pk_file h (λi=>⟨fsok_syn h.ok.files,by unfold synF;rw[len_setF];exact h.len,Nat.le_trans (usd_setF (λf _=>aqH _)) h.used⟩)
theorem pk_erase {D:Dk} {m:Nat} (h:Pk D m) (s:ByteArray):Pk (fileD D s (λi=>D.fs.eraseIdx i)).1 m:=
 pk_file h (λi=>⟨fsok_erase h.ok.files,Nat.le_trans (List.length_eraseIdx_le _ _) h.len,Nat.le_trans (usd_erase _ _) h.used⟩)
theorem pk_cut {D:Dk} {m:Nat} (h:Pk D m) (s:ByteArray) (N:Int):Pk (fileD D s (λi=>cutF D.fs i N)).1 m:=
 pk_file h (λi=>⟨fsok_cut h.ok.files,by unfold cutF;rw[len_setF];exact h.len,Nat.le_trans (usd_setF (λf _=>by show (f.bs.take _).length<= _;rw[List.length_take];omega)) h.used⟩)
theorem usd_nam (fs:List Fl) (i:Nat) (s:ByteArray):usd (namF fs i s)<= usd fs:=by unfold namF;exact usd_setF (λf _=>aqH _)
theorem pk_ren {D:Dk} {m:Nat} (h:Pk D m) (s s2:ByteArray):Pk (fileD D s (λi=>renF D.fs i s2)).1 m:=
 pk_file h (λi=>by
  have hn:(namF D.fs i s2).length<= m:=by unfold namF;rw[len_setF];exact h.len
  have hu:=Nat.le_trans (usd_nam D.fs i s2) h.used
  refine⟨fsok_ren h.ok.files,?_,?_⟩<;>unfold renF<;>split<;>(try split)
  ·exact hn
  ·exact Nat.le_trans (List.length_eraseIdx_le _ _) hn
  ·exact hn
  ·exact hu
  ·exact Nat.le_trans (usd_erase _ _) hu
  ·exact hu)
theorem pk_app {D:Dk} {m:Nat} (h:Pk D m) (s:ByteArray) {zs:List Int} (hz:Bytey zs):Pk (appD D s zs).1 (m+1):=by
 unfold appD
 split
 ·exact h.up (by omega)
 ·split
  ·exact h.up (by omega)
  ·rename_i hr
   have hz2:usd D.fs+zs.length<= 100000:=by have:=h.room.2;omega
   have hf:=fsok_add (s:=s) (C:=zs.length+1) h.ok.files hz (by omega) (by omega)
   have hl:(addF D.fs s zs).length<= m+1:=by
    unfold addF
    split
    ·split
     ·rw[List.length_set];have:=h.len;omega
     ·have:=h.len;omega
    ·rw[List.length_append];have:=h.len;simp;omega
   have hu:usd (addF D.fs s zs)<= 100000:=by
    unfold addF
    split
    ·split
     ·rename_i i _ f hf
      have:=usd_set (g:=⟨f.nm,f.bs++zs,f.sf⟩) hf
      simp only[List.length_append] at this
      omega
     ·omega
    ·rw[usd_append];simp only[usd];omega
   exact pk_act (h.up (by omega)) hf.fs hl hu
theorem pk_cr {D:Dk} {m:Nat} (h:Pk D m) (keep:Int):Pk (crD D keep) m:=by
 have hk:=ok_cr (keep:=keep) h.ok
 refine⟨hk.fs,by show (D.fs.map _).length<= m;rw[List.length_map];exact h.len,?_,h.room,hk.acts⟩
 exact Nat.le_trans (usd_map_le _ (λf _=>by show (f.bs.take _).length<= _;rw[List.length_take];omega)) h.used
theorem pk_arm {D:Dk} {m:Nat} (h:Pk D m) (N:Int) (dn:Bool) (hN:N<= 9223372036854775807):Pk (armD D N dn) m:=
 ⟨h.fs,h.len,h.used,h.room,(ok_arm (dn:=dn) h.ok hN).acts⟩
theorem pk_dk0 {M:Int} (h:0<= M/\ M<= 100000):Pk (dk0 M) 0:=⟨λf hf=>absurd hf (by simp[dk0]),aqH _,by simp[dk0,usd],h,⟨Int.le_refl _,by show (0:Int)<= 9223372036854775807;omega⟩⟩
structure Jok (D:Dk) (J:Jl) (m:Nat):Prop where
 n:J.n<= 100000*m
 k:J.k<= 100000*m
 f:J.dead=false-> 0 < J.k-> ∃i,fnd D.fs jN=some i
 z:J.dead=true-> J.n=0/\ J.k=0
theorem Jok.up {D:Dk} {J:Jl} {m k:Nat} (h:Jok D J m) (hk:m<= k):Jok D J k:=⟨by have:=h.n;have:=Nat.mul_le_mul_left 100000 hk;omega,by have:=h.k;have:=Nat.mul_le_mul_left 100000 hk;omega,h.f,h.z⟩
theorem jok_dead' {D:Dk} {J:Jl} {m r:Nat} (hr:r=2):Jok D (hdJ J r) m:=by unfold hdJ;rw[if_pos hr];exact⟨Nat.zero_le _,Nat.zero_le _,λq=>(by cases q),λ_=>⟨rfl,rfl⟩⟩
theorem fnd_set_same {fs:List Fl} {i:Nat} {f g:Fl} (s:ByteArray) (hf:fs[i]?=some f) (hn:g.nm=f.nm):fnd (fs.set i g) s=fnd fs s:=by
 unfold fnd
 induction fs generalizing i with
 |nil=>simp at hf
 |cons a r ih=>
  cases i with
  |zero=>
   simp at hf
   subst hf
   have e:isN s g=isN s a:=by unfold isN;rw[hn]
   simp only[aqB,List.findIdx?_cons,e]
  |succ i=>
   simp only[aqC,List.findIdx?_cons]
   rw[ih (by simpa using hf)]
theorem fnd_setF {fs:List Fl} {i:Nat} {g:Fl-> Fl} (s:ByteArray) (hn:∀f,(g f).nm=f.nm):fnd (setF fs i g) s=fnd fs s:=by
 unfold setF
 cases hf:fs[i]? with
 |none=>rfl
 |some f=>exact fnd_set_same s hf (hn f)
theorem fnd_add (fs:List Fl) (s:ByteArray) (zs:List Int):∃i,fnd (addF fs s zs) s=some i:=by
 cases h:fnd fs s with
 |some i=>
  have hl:=fnd_lt h
  obtain⟨f,hf⟩:∃f,fs[i]?=some f:=⟨_,List.getElem?_eq_getElem hl⟩
  exact⟨i,by rw[addF_old h hf];exact(fnd_set_same (g:=⟨f.nm,f.bs++zs,f.sf⟩) s hf rfl).trans h⟩
 |none=>
  rw[addF_new h]
  refine⟨fs.length,?_⟩
  unfold fnd at h ⊢
  rw[List.findIdx?_append,h]
  simp[isN,List.findIdx?_cons]
theorem appD_cases {D:Dk} {m:Nat} (h:Pk D m) (s:ByteArray) (zs:List Int):((appD D s zs).2=1/\ (appD D s zs).1=D)∨(appD D s zs).2=2∨((appD D s zs).2=0/\ zs.length<= 100000/\ ∃i,fnd (appD D s zs).1.fs s=some i):=by
 unfold appD
 split
 ·exact .inr (.inl rfl)
 ·split
  ·exact .inl ⟨rfl,rfl⟩
  ·rename_i hr
   unfold actR
   cases hb:actB D with
   |true=>exact .inr (.inl rfl)
   |false=>
    refine .inr (.inr ⟨rfl,by have:=h.room.2;omega,?_⟩)
    unfold actD
    rw[hb]
    exact fnd_add _ _ _
theorem fileD_here {D:Dk} {s:ByteArray} {g:Nat-> List Fl} {i:Nat} (h:fnd D.fs s=some i):(fileD D s g).2=2∨((fileD D s g).2=0/\ (fileD D s g).1.fs=g i):=by
 unfold fileD
 split
 ·exact .inl rfl
 ·rw[h]
  simp only
  unfold actR actD
  cases hb:actB D with
  |true=>exact .inl rfl
  |false=>exact .inr ⟨rfl,rfl⟩
theorem pk_wrS {D:Dk} {J:Jl} {m:Nat} (h:Pk D m) (sync:Bool):Pk (wrS D J sync).1 m:=by
 unfold wrS
 split
 ·exact h
 ·split<;>exact pk_syn h _
theorem pk_wr {D:Dk} {J:Jl} {m:Nat} (h:Pk D m) (l:List Rc) (sync:Bool) (hd:∀r∈l,Bytey r.data):Pk (wrX D J l sync).1 (m+1):=by
 unfold wrX
 split
 ·rename_i hf
  have hz:Bytey (l.flatMap frB):=by
   rcases frE_case J l with ⟨_,q⟩|⟨_,q,_⟩|⟨_,_,_,q⟩
   ·omega
   ·omega
   ·exact all_bytey q hd
  unfold wrA
  split
  ·exact(pk_wrS h sync).up (by omega)
  ·split
   ·exact pk_wrS (pk_app h _ hz) sync
   ·exact pk_app h _ hz
 ·exact h.up (by omega)
theorem jok_wrS {D:Dk} {J:Jl} {m:Nat} (h:Jok D J m) (hl:J.dead=false) (sync:Bool):Jok (wrS D J sync).1 (wrS D J sync).2.1 m/\ (wrS D J sync).2.2≠3:=by
 unfold wrS
 split
 ·exact⟨h,by simp⟩
 ·rename_i hs
  have hk:0 < J.k:=by
   rcases Nat.eq_zero_or_pos J.k with q|q
   ·exact absurd (.inr q) hs
   ·exact q
  obtain⟨i,hi⟩:=h.f hl hk
  rcases fileD_here (g:=λi=>synF D.fs i) hi with q|⟨q,_⟩
  ·rw[if_neg (by omega)]
   exact⟨jok_dead' q,by simp only;omega⟩
  ·rw[if_pos q]
   exact⟨⟨h.n,Nat.zero_le _,λ_ e=>absurd e (by simp),λe=>absurd (hl.symm.trans e) (by simp)⟩,by simp⟩
theorem jok_wr {D:Dk} {J:Jl} {m:Nat} (hp:Pk D m) (h:Jok D J m) (l:List Rc) (sync:Bool):Jok (wrX D J l sync).1 (wrX D J l sync).2.1 (m+1)/\ (wrX D J l sync).2.2≠3:=by
 unfold wrX
 split
 ·rename_i hf
  have hl:=(frE_live hf).1
  unfold wrA
  split
  ·obtain⟨q1,q2⟩:=jok_wrS h hl sync
   exact⟨q1.up (by omega),q2⟩
  ·rcases appD_cases hp jN (l.flatMap frB) with ⟨q1,q2⟩|q|⟨q1,q2,q3⟩
   ·rw[if_neg (by omega)]
    simp only[q1,q2]
    exact⟨h.up (by omega),by omega⟩
   ·rw[if_neg (by omega)]
    exact⟨jok_dead' q,by simp only;omega⟩
   ·rw[if_pos q1]
    exact jok_wrS (J:=⟨J.n+(l.flatMap frB).length,J.k+(l.flatMap frB).length,J.dead⟩) ⟨by have:=h.n;show J.n+(l.flatMap frB).length<= _;omega,by have:=h.k;show J.k+(l.flatMap frB).length<= _;omega,λ_ _=>q3,λe=>absurd (hl.symm.trans e) (by simp)⟩ hl sync
 ·refine⟨h.up (by omega),?_⟩
  rcases frE_case J l with ⟨_,q⟩|⟨_,q,_⟩|⟨_,q,_⟩<;>(simp only;omega)
theorem pk_tn {D:Dk} {J:Jl} {m:Nat} (h:Pk D m) {bs:List Int} (hb:Bytey bs):Pk (tnX D J bs).1 (m+1):=by
 have h1:=pk_app h jnN hb
 unfold tnX
 split
 ·unfold tn2
  split
  ·unfold tn3
   exact pk_ren (pk_syn h1 _) _ _
  ·exact pk_syn h1 _
 ·exact h1
theorem pk_rw {D:Dk} {J:Jl} {m:Nat} (h:Pk D m) (l:List Rc) (hd:∀r∈l,Bytey r.data):Pk (rwX D J l).1 (m+1):=by
 unfold rwX
 split
 ·rename_i hf
  have hz:Bytey (l.flatMap frB):=by
   rcases frE_case J l with ⟨_,q⟩|⟨_,q,_⟩|⟨_,_,_,q⟩
   ·omega
   ·omega
   ·exact all_bytey q hd
  unfold rwA
  split<;>exact pk_tn h hz
 ·exact h.up (by omega)
theorem tn_cases {D:Dk} {J:Jl} {m:Nat} (hp:Pk D m) (bs:List Int):((tnX D J bs).2.2=1/\ (tnX D J bs).1=D/\ (tnX D J bs).2.1=J)∨((tnX D J bs).2.2=2/\ (tnX D J bs).2.1=⟨0,0,true⟩)∨((tnX D J bs).2.2=0/\ bs.length<= 100000/\ (tnX D J bs).2.1=J):=by
 unfold tnX
 rcases appD_cases hp jnN bs with ⟨q1,q2⟩|q|⟨q1,q2,i,q3⟩
 ·rw[if_neg (by omega)]
  refine .inl ⟨q1,q2,?_⟩
  simp only[q1];rfl
 ·rw[if_neg (by omega)]
  refine .inr (.inl ⟨q,?_⟩)
  simp only[q];rfl
 ·rw[if_pos q1]
  unfold tn2
  rcases fileD_here (g:=λi=>synF (appD D jnN bs).1.fs i) q3 with p|⟨p,p2⟩
  ·rw[if_neg (by omega)]
   refine .inr (.inl ⟨p,?_⟩)
   simp only[p];rfl
  ·rw[if_pos p]
   unfold tn3
   have q4:fnd (fileD (appD D jnN bs).1 jnN (λi=>synF (appD D jnN bs).1.fs i)).1.fs jnN=some i:=by
    rw[p2];unfold synF;exact(fnd_setF (g:=λf=>⟨f.nm,f.bs,(f.bs.length:Int)⟩) jnN (λf=>rfl)).trans q3
   rcases fileD_here (g:=λi=>renF (fileD (appD D jnN bs).1 jnN (λi=>synF (appD D jnN bs).1.fs i)).1.fs i jN) q4 with r|⟨r,_⟩
   ·refine .inr (.inl ⟨r,?_⟩)
    simp only[r];rfl
   ·refine .inr (.inr ⟨r,q2,?_⟩)
    simp only[r];rfl
theorem jok_rw {D:Dk} {J:Jl} {m:Nat} (hp:Pk D m) (h:Jok D J m) (l:List Rc):Jok (rwX D J l).1 (rwX D J l).2.1 (m+1)/\ (rwX D J l).2.2≠3:=by
 unfold rwX
 split
 ·rename_i hf
  have hl:=(frE_live hf).1
  unfold rwA
  rcases tn_cases (J:=J) hp (l.flatMap frB) with ⟨q1,q2,q3⟩|⟨q1,q2⟩|⟨q1,q2,q3⟩
  ·rw[if_neg (by omega),q2,q3]
   exact⟨h.up (by omega),by omega⟩
  ·rw[if_neg (by omega),q2]
   exact⟨⟨Nat.zero_le _,Nat.zero_le _,λe=>(by cases e),λ_=>⟨rfl,rfl⟩⟩,by omega⟩
  ·rw[if_pos q1]
   exact⟨⟨by show (l.flatMap frB).length<= _;omega,Nat.zero_le _,λ_ e=>absurd e (by simp),λe=>absurd ((show (tnX D J (l.flatMap frB)).2.1.dead=false by rw[q3];exact hl).symm.trans e) (by simp)⟩,by simp⟩
 ·refine⟨h.up (by omega),?_⟩
  rcases frE_case J l with ⟨_,q⟩|⟨_,q,_⟩|⟨_,q,_⟩<;>(simp only;omega)
theorem rdB_here {D:Dk} {s:ByteArray} (h:0 < (rdB D s).length):∃i,fnd D.fs s=some i:=by
 unfold rdB at h
 split at h
 ·simp at h
 ·split at h
  ·simp at h
  ·rename_i i hi;exact⟨i,hi⟩
theorem rdB_used {D:Dk} {s:ByteArray} {m:Nat} (h:Pk D m):Bytey (rdB D s)/\ (rdB D s).length<= 100000:=by
 rcases rd_get (D:=D) (s:=s) with e|⟨i,f,hf,e⟩
 ·rw[e];exact⟨λz hz=>by simp at hz,by simp⟩
 ·rw[e];exact⟨(h.fs f (List.mem_of_getElem? hf)).byt,Nat.le_trans (usd_get hf) h.used⟩
theorem pk_opn {D:Dk} {m:Nat} (h:Pk D m):Pk (opX D).d m/\ (opX D).r≠3/\ ((opX D).r=0-> Jok (opX D).d ⟨(opX D).n,(opX D).k,false⟩ (m+1)):=by
 have h1:Pk (rmD D).1 m:=pk_erase h _
 have hv:=fileD_v D jnN (λi=>D.fs.eraseIdx i)
 unfold opX
 split
 ·unfold opB
  generalize (rmD D).1=D1 at h1
  split
  ·obtain⟨hb,hl⟩:=rdB_used (s:=jN) h1
   have hs:=scR_len hb
   unfold opC
   split
   ·rename_i hlt
    obtain⟨i,hi⟩:=rdB_here (D:=D1) (s:=jN) (by omega)
    have hc:=pk_cut h1 jN ((scR (rdB D1 jN)).2:Nat)
    split
    ·exact⟨hc,by simp,λ_=>⟨by show (scR (rdB D1 jN)).2<= _;omega,Nat.zero_le _,λ_ e=>absurd e (by simp),λe=>by cases e⟩⟩
    ·rename_i hne
     rcases fileD_here (g:=λi=>cutF D1.fs i ((scR (rdB D1 jN)).2:Nat)) hi with q|⟨q,_⟩
     ·exact⟨hc,by simp only;omega,λe=>absurd e hne⟩
     ·exact absurd q hne
   ·refine⟨h1,by simp,λ_=>⟨by show (scR (rdB D1 jN)).2<= _;omega,by show (scR (rdB D1 jN)).2<= _;omega,λ_ e=>?_,λe=>by cases e⟩⟩
    have e':0 < (scR (rdB D1 jN)).2:=e
    exact rdB_here (s:=jN) (Nat.lt_of_lt_of_le e' hs)
  ·rename_i hne
   refine⟨h1,?_,λe=>absurd e hne⟩
   have:=(v_rm (rdN_v D1 jN)).1 hne
   simp only;omega
 ·rename_i hne
  refine⟨h1,?_,λe=>absurd e hne⟩
  have:=(v_rm hv).1 hne
  simp only
  unfold rmD
  omega
section
variable {w w':World} {v:Value} {L:List Fv}
theorem fo_below (h:Fo w v L) (hb:Below w.heap.size w w'):Fo w' v L:=
 ⟨d_blk h.row (λg hg=>hb.block g (d_lt h.row g hg).2),λi p hp=>d_blk (h.byt i p hp) (λg hg=>hb.block g (d_lt (h.byt i p hp) g hg).2)⟩
theorem foe_below (h:FoE w v L) (hb:Below w.heap.size w w'):FoE w' v L:=
 ⟨d_blk h.row (λg hg=>hb.block g (d_lt h.row g hg).2),λi p hp=>d_blk (h.byt i p hp) (λg hg=>hb.block g (d_lt (h.byt i p hp) g hg).2)⟩
theorem fo_at (h:Fo w v L) {i:Nat} {p:Fv} (hp:L[i]?=some p):∃g cap,v=.slice (some ⟨g,0,none⟩) L.length cap/\ w.cell? ⟨g,i*3,none⟩=some (.string p.1.nm)/\ w.cell? ⟨g,i*3+1,none⟩=some p.2/\ w.cell? ⟨g,i*3+2,none⟩=some (.int .i64 p.1.sf):=by
 have hi:=(List.getElem?_eq_some_iff.mp hp).1
 have hr:=h.row
 obtain⟨g,cap,hv⟩:=d_some h.row (by omega)
 obtain⟨k0,k1,k2⟩:=fcell_get hp
 subst hv
 exact⟨g,cap,rfl,(World.ownsRow.cellAt hr _ (by omega)).trans k0,(World.ownsRow.cellAt hr _ (by omega)).trans k1,(World.ownsRow.cellAt hr _ (by omega)).trans k2⟩
theorem foe_at (h:FoE w v L) {i:Nat} {p:Fv} (hp:L[i]?=some p):∃g cap,v=.slice (some ⟨g,0,none⟩) L.length cap/\ w.cell? ⟨g,i*3,none⟩=some (.string p.1.nm)/\ w.cell? ⟨g,i*3+1,none⟩=some p.2/\ w.cell? ⟨g,i*3+2,none⟩=some (.int .i64 p.1.sf):=by
 have hi:=(List.getElem?_eq_some_iff.mp hp).1
 have hr:=h.row
 obtain⟨g,cap,hv⟩:=d_some h.row (by omega)
 obtain⟨k0,k1,k2⟩:=fcell_get hp
 subst hv
 exact⟨g,cap,rfl,(World.ownsRow.cellAt hr _ (by omega)).trans k0,(World.ownsRow.cellAt hr _ (by omega)).trans k1,(World.ownsRow.cellAt hr _ (by omega)).trans k2⟩
end
def AlJ (w:World) (n:Nat) (v:Value) (wr:World):Prop:=∃i:Nat,v=.int .i64 i/\ i<= n/\ Below w.heap.size w wr
theorem alike_any (w:World) (q h x y:Nat) (F G:Nat-> Prop) (D:Dk) (B:Nat) (c0:w.cell? ⟨q,0,none⟩=some (.pointer (some ⟨h,0,none⟩))) (c1:w.cell? ⟨q,1,none⟩=some (.pointer (some ⟨y,0,none⟩))) (ch:w.cell? ⟨h,0,none⟩=some (.pointer (some ⟨x,0,none⟩))) (hd:Dm w x F D) (he:Em w y G D) (hk:D.Ok B) (hB:B<= 1099511627776):
 Calls Tryz.prog 11 #[.pointer (some ⟨q,0,none⟩)] w λe w'=>e=.returned (.bool true)/\ Hid (Below w.heap.size w w'):=by
 have HF:=dFiles_any w h x F D B hd hk hB ch
 unfold FilP at HF
 have H0:Hid (w.cell? ⟨q,0,none⟩=some (.pointer (some ⟨h,0,none⟩))/\ w.cell? ⟨q,1,none⟩=some (.pointer (some ⟨y,0,none⟩))/\ w.cell? ⟨h,0,none⟩=some (.pointer (some ⟨x,0,none⟩))/\ Dm w x F D/\ Em w y G D/\ D.Ok B):=⟨c0,c1,ch,hd,he,hk⟩
 obtain⟨n,hn⟩:∃n,D.fs.length=n:=⟨_,rfl⟩
 have hnb:n<= 1099511627776:=by have:=hk.len;omega
 have HN:Hid (D.fs.length=n):=hn
 clear hd he hk ch c1 hn
 go_enter Tryz.func11,Tryz.ntmps11
 go_upto_region 2 with (go_at_call 28;refine HF.mono ?_;rintro e w1 ⟨v1,L1,rfl,hfo,hm,hb1⟩)
 clear HF c0
 obtain⟨a1,k1,hv1⟩:=d_shape hfo.row
 have hl1:L1.length=n:=by rw[←HN.out,←hm,List.length_map]
 rw[hl1] at hv1
 subst hv1
 have c1:w1.cell? ⟨q,1,none⟩=some (.pointer (some ⟨y,0,none⟩)):=bel_cell hb1 H0.out.2.1
 have HE:=eFiles_any w1 y G D B (H0.out.2.2.2.2.1.below hb1) H0.out.2.2.2.2.2 hB
 unfold FilE at HE
 have H1:Hid (Fo w1 (.slice a1 n k1) L1/\ L1.map (·.1)=D.fs/\ L1.length=n/\ Below w.heap.size w w1):=⟨hfo,hm,hl1,hb1⟩
 clear hfo hm hb1 hl1
 go_upto_region 3 with (go_at_call 36;refine HE.mono ?_;rintro e w2 ⟨v2,L2,rfl,hfo,hm,hb2⟩)
 clear HE c1
 obtain⟨a2,k2,hv2⟩:=d_shape hfo.row
 have hl2:L2.length=n:=by rw[←HN.out,←hm,List.length_map]
 rw[hl2] at hv2
 subst hv2
 have hbw:Below w.heap.size w w2:=H1.out.2.2.2.trans (hb2.mono H1.out.2.2.2.size)
 have H2:Hid (Fo w2 (.slice a1 n k1) L1/\ FoE w2 (.slice a2 n k2) L2/\ L1.map (·.1)=D.fs/\ L2.map (·.1)=D.fs/\ L1.length=n/\ L2.length=n/\ Below w.heap.size w w2):=⟨fo_below H1.out.1 hb2,hfo,H1.out.2.1,hm,H1.out.2.2.1,hl2,hbw⟩
 have c0:w2.cell? ⟨q,0,none⟩=some (.pointer (some ⟨h,0,none⟩)):=bel_cell hbw H0.out.1
 have c1:w2.cell? ⟨q,1,none⟩=some (.pointer (some ⟨y,0,none⟩)):=bel_cell hbw H0.out.2.1
 have HD1:∀V:World,Below w2.heap.size w2 V-> Calls Tryz.prog 37 #[.pointer (some ⟨h,0,none⟩)] V λe w'=>e=.returned (.bool D.dw)/\ w'=V:=λV hV=>dDown_any V h x F D (H0.out.2.2.2.1.below (hbw.trans (hV.mono hbw.size))) (bel_cell (hbw.trans (hV.mono hbw.size)) H0.out.2.2.1)
 have HD2:∀V:World,Below w2.heap.size w2 V-> Calls Tryz.prog 38 #[.pointer (some ⟨y,0,none⟩)] V λe w'=>e=.returned (.bool D.dw)/\ w'=V:=λV hV=>eDown_any V y G D (H0.out.2.2.2.2.1.below (hbw.trans (hV.mono hbw.size)))
 have hne:((n:Int) != (n:Int))=false:=by simp
 have hbb:(D.dw != D.dw)=false:=by simp
 clear hfo hm hb2 hl2 H1
 go_quiet (first
  |(go_at_call 37;exact Calls.quiet_of_same (HD1 _ ⟨rfl,rfl,rfl,aqH _,λ_ _=>rfl⟩))
  |(go_at_call 38;exact Calls.quiet_of_same (HD2 _ ⟨rfl,rfl,rfl,aqH _,λ_ _=>rfl⟩)))
 clear HD1 HD2 c0 c1
 go_wp2
 go_loopw [5] (λv wr=>AlJ w2 n v wr) (λv _=>n - (intOf v).toNat)
 case atStart=>exact⟨0,rfl,by omega,⟨rfl,rfl,rfl,aqH _,λ_ _=>rfl⟩⟩
 case round=>
  obtain⟨i,rfl,hi,hBe⟩:=hrel
  have HBe:Hid (Below w2.heap.size w2 wr):=hBe
  by_cases hin:i=n
  ·have hin2:=hin.symm
   clear hin
   subst hin2
   have hz:¬(n:Int) < (n:Int):=by omega
   have HE:Hid (Below w.heap.size w wr):=H2.out.2.2.2.2.2.2.trans (hBe.mono H2.out.2.2.2.2.2.2.size)
   clear hBe
   go_wp2
   go_ret
   exact⟨rfl,HE.out⟩
  ·have hz:(i:Int) < (n:Int):=by omega
   have hi0:(0:Int)<= (i:Int):=by omega
   have hwi:IntKind.i64.wrap ((i:Int)+1)=(i:Int)+1:=by rw[IntKind.wrap_i64];omega
   obtain⟨p1,hp1⟩:∃p,L1[i]?=some p:=⟨_,List.getElem?_eq_getElem (by rw[H2.out.2.2.2.2.1];omega)⟩
   obtain⟨p2,hp2⟩:∃p,L2[i]?=some p:=⟨_,List.getElem?_eq_getElem (by rw[H2.out.2.2.2.2.2.1];omega)⟩
   have hpq:p1.1=p2.1:=by
    have h1:D.fs[i]?=some p1.1:=by rw[←H2.out.2.2.1,List.getElem?_map,hp1];rfl
    have h2:D.fs[i]?=some p2.1:=by rw[←H2.out.2.2.2.1,List.getElem?_map,hp2];rfl
    rw[h1] at h2
    simpa using h2
   have hf1:=fo_below H2.out.1 hBe
   have hf2:=foe_below H2.out.2.1 hBe
   obtain⟨g1,cp1,e1,x0,x1,x2⟩:=fo_at hf1 hp1
   obtain⟨g2,cp2,e2,y0,y1,y2⟩:=foe_at hf2 hp2
   obtain⟨rfl,-,rfl⟩:a1=some ⟨g1,0,none⟩/\ n=L1.length/\ k1=cp1:=by simpa using e1
   obtain⟨rfl,-,rfl⟩:a2=some ⟨g2,0,none⟩/\ n=L2.length/\ k2=cp2:=by simpa using e2
   have b1:=hf1.byt i p1 hp1
   have b2:=hf2.byt i p2 hp2
   rw[←hpq] at y0 y2 b2
   obtain⟨⟨nm,bs,sf⟩,pv1⟩:=p1
   obtain⟨q2,pv2⟩:=p2
   simp only at x0 x1 x2 y0 y1 y2 b1 b2
   obtain⟨d1,f1,hd1⟩:=d_shape b1
   obtain⟨d2,f2,hd2⟩:=d_shape b2
   subst hd1 hd2
   have l1:=(lies_own b1).1
   have l2:=(lies_own b2).1
   obtain⟨m,hm⟩:∃m,bs.length=m:=⟨_,rfl⟩
   have t1:∀k:Nat,(convert 35 9 (.slice d1 m f1)).run Tryz.prog (wr.drewN k)=.ok (.string (strOfNums bs)) (wr.drewN k):=λk=>conv7 (wr.drewN k) d1 m f1 bs hm l1
   have t2:∀k:Nat,(convert 35 9 (.slice d2 m f2)).run Tryz.prog (wr.drewN k)=.ok (.string (strOfNums bs)) (wr.drewN k):=λk=>conv7 (wr.drewN k) d2 m f2 bs hm l2
   have t3:=conv7 wr d1 m f1 bs hm l1
   have t4:=conv7 wr d2 m f2 bs hm l2
   rw[hm] at x1 y1
   generalize strOfNums bs=Sx at*
   have hs:(sf != sf)=false:=by simp
   clear hp1 hp2 hpq hf1 hf2 e1 e2 b1 b2 l1 l2 hm hBe
   go_wp2_with fail
   go_quiet (fail)
   have HEnd:Hid (AlJ w2 n (.int .i64 ((i:Int)+1)) (wr.drewN nq)):=⟨i+1,by simp,by omega,⟨HBe.out.os,HBe.out.tape,HBe.out.output,HBe.out.size,HBe.out.block⟩⟩
   clear t1 t2 t3 t4 x0 x1 x2 y0 y1 y2
   go_wp2
   exact⟨HEnd.out,by simp[intOf];omega⟩
end Go.Proofs.YtllhbhogfffedaaGreatDoor.K
