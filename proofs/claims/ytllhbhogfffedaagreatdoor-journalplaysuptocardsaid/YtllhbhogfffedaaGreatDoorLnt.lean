import Derived.Test.YtllhbhogfffedaaGreatDoorDkCr
import Derived.Laws.CopyOwn
import Derived.Test.YtllhbhogfffedaaGreatDoorRcFrm
import Derived.Deep.CutRange
import Derived.Test.YtllhbhogfffedaaGreatDoorNums
set_option maxHeartbeats 4000000
set_option maxRecDepth 100000
namespace Go.Proofs.YtllhbhogfffedaaGreatDoor.C
open Go.RowKit
theorem spc_put:∀(L:List Sp) (k:Nat) (a b:Int),((L.flatMap spc).set (k*2) (.int .i64 a)).set (k*2+1) (.int .i64 b)=(L.set k (a,b)).flatMap spc
 |[],k,a,b=>by simp
 |s::r,0,a,b=>by simp[spc]
 |s::r,k+1,a,b=>by
  have:=spc_put r k a b
  rw[List.flatMap_cons,List.set_cons_succ,List.flatMap_cons,←this]
  rw[List.set_append_right _ _ (by simp[spc];omega),List.set_append_right _ _ (by simp[spc];omega)]
  congr 1
  simp only[spc,List.length_cons,List.length_nil]
  rw[show (k+1)*2 - (0+1+1)=k*2 from by omega,show (k+1)*2+1 - (0+1+1)=k*2+1 from by omega]
theorem SOwn.put {W:World} {base g cap n k:Nat} {L:List Sp} (h:SOwn W base (.slice (some ⟨g,0,none⟩) n cap) L) (a b:Int):SOwn ((W.setCell ⟨g,k*2,none⟩ (.int .i64 a)).setCell ⟨g,k*2+1,none⟩ (.int .i64 b)) base (.slice (some ⟨g,0,none⟩) n cap) (L.set k (a,b)):=by
 have hn:n=L.length:=by
  obtain⟨a',c',hv⟩:=h.shape
  simp only[Value.slice.injEq] at hv;exact hv.2.1
 subst hn
 have h1:=(World.ownsRow.stored h (k*2) (.int .i64 a)).1
 have h2:=(World.ownsRow.stored h1 (k*2+1) (.int .i64 b)).1
 rw[spc_put] at h2
 unfold SOwn
 rw[List.length_set]
 exact h2
theorem grown_put (W:World) (g k:Nat) (a b:Value):W.grownBy ((W.setCell ⟨g,k*2,none⟩ a).setCell ⟨g,k*2+1,none⟩ b) (some g):=grown_trans (grown_set _ _ _ _) (grown_set _ _ _ _)
theorem SOwn.lenEq {W:World} {base n cap:Nat} {a:Option Addr} {L:List Sp} (h:SOwn W base (.slice a n cap) L):L.length=n:=by
 obtain⟨a',c',hv⟩:=h.shape
 simp only[Value.slice.injEq] at hv;exact hv.2.1.symm
theorem SOwn.cells {W:World} {base g cap n k:Nat} {L:List Sp} {p:Sp} (h:SOwn W base (.slice (some ⟨g,0,none⟩) n cap) L) (hk:L[k]?=some p):W.cell? ⟨g,k*2,none⟩=some (.int .i64 p.1)/\ W.cell? ⟨g,k*2+1,none⟩=some (.int .i64 p.2)/\ W.frozen? ⟨g,k*2,none⟩=false/\ W.frozen? ⟨g,k*2+1,none⟩=false:=by
 have hn:=h.lenEq
 subst hn
 have hkl:k < L.length:=(List.getElem?_eq_some_iff.mp hk).1
 obtain⟨q1,q2⟩:=spc_get L k p hk
 exact⟨(World.ownsRow.cellAt h _ (by omega)).trans q1,(World.ownsRow.cellAt h _ (by omega)).trans q2,World.ownsRow.frozenAt h _,World.ownsRow.frozenAt h _⟩
theorem made_spans (n:Nat):(madeCells (Value.cells (.agg #[.int .i64 0,.int .i64 0])) (n*2)).toList=(List.replicate n ((0:Int),(0:Int))).flatMap spc:=by
 apply List.ext_getElem?
 intro j
 by_cases hj:j < n*2
 ·have hr:(List.replicate n ((0:Int),(0:Int)))[j / 2]?=some (0,0):=by rw[List.getElem?_replicate,if_pos (by omega)]
  obtain⟨q1,q2⟩:=spc_get _ _ _ hr
  have e0:(madeCells (Value.cells (.agg #[.int .i64 0,.int .i64 0])) (n*2)).toList[j]?=some (.int .i64 0):=by
   simp only[madeCells,Value.cells]
   rcases Nat.mod_two_eq_zero_or_one j with h|h<;>simp[hj,h]
  rw[e0]
  rcases Nat.mod_two_eq_zero_or_one j with h|h
  ·rw[show j / 2*2=j from by omega] at q1;exact q1.symm
  ·rw[show j / 2*2+1=j from by omega] at q2;exact q2.symm
 ·rw[List.getElem?_eq_none (by simp[madeCells];omega),List.getElem?_eq_none (by rw[spc_len];simp;omega)]
def mkd (l:List Sp):List Sp:=l++[(-77,-77),(-77,-77)]
theorem set_set' (L:List Sp) (k:Nat) (x y:Sp):(L.set k x).set k y=L.set k y:=by rw[List.set_set]
def spd (n:Nat):List Sp:=(List.range n).map λ(i:Nat)=>((4*(i:Int)+1,4*(i:Int)+3):Sp)
end Go.Proofs.YtllhbhogfffedaaGreatDoor.C
namespace Go.Proofs.YtllhbhogfffedaaGreatDoor.C
open Go.RowKit
theorem run_copy_two {P:Program} (w:World) (dT sT ty elem:TypeId) (g dLen dCap:Nat) (a:Addr) (sLen sCap n:Nat) (cur:Array Value) (t:TypeId) (cs:List Value)
 (hu:P.underlying dT=some (.slice elem)) (hs:(P.info? elem).map (·.size)=some 2)
 (hg:w.heap[g]?=some (.cells cur t (0,0))) (hn:n=Nat.min sLen dLen) (hc:cs.length=n*2)
 (hsrc:∀j v,cs[j]?=some v-> w.cell? (a.add j)=some v) (hfit:cs.length<= cur.size) (h1:∀v∈cs,v.oneCell'=true):
 (Builtin.copy_ #[dT,sT] ty #[.slice (some ⟨g,0,none⟩) dLen dCap,.slice (some a) sLen sCap]).run P w=
  .ok (goInt n) (w.setRow g (cs++cur.toList.drop cs.length).toArray):=by
 have hl:=run_loadCells_list (P:=P) w a cs hsrc
 have hst:=run_storeCells_at P g 0 t cs 0 cur w hg (by simpa using hfit) h1
 cases hq:P.info? elem with
 |none=>simp[hq] at hs
 |some i=>
  have hi:i.size=2:=by simpa[hq] using hs
  simp[Builtin.copy_,run_underlying hu,Builtin.lenOf,Builtin.firstCells,sizeOf,typeInfo,hq,hi,←hn,←hc,hl,hst]
theorem run_copy_zero {P:Program} (w:World) (dT sT ty elem:TypeId) (d:Addr) (dLen dCap:Nat) (s:Option Addr) (sCap:Nat)
 (hu:P.underlying dT=some (.slice elem)) (hs:(P.info? elem).map (·.size)=some 2):
 (Builtin.copy_ #[dT,sT] ty #[.slice (some d) dLen dCap,.slice s 0 sCap]).run P w=.ok (goInt 0) w:=by
 have hl:=λa:Addr=>run_loadCells_list (P:=P) w a [] (λj v h=>by simp at h)
 cases hq:P.info? elem with
 |none=>simp[hq] at hs
 |some i=>
  cases s with
  |none=>simp[Builtin.copy_,run_underlying hu,Builtin.lenOf,Builtin.firstCells,sizeOf,typeInfo,hq,storeCells]
  |some a=>
   have:=hl a
   simp only[List.length_nil] at this
   simp[Builtin.copy_,run_underlying hu,Builtin.lenOf,Builtin.firstCells,sizeOf,typeInfo,hq,this,storeCells]
theorem spa_cells {W:World} {a:Addr} {l:List Sp} (h:Spa W (some a) l) (hne:l≠[]):∀j v,(l.flatMap spc)[j]?=some v-> W.cell? (a.add j)=some v:=by
 rcases h with h|⟨g,off,ha,hc⟩
 ·exact absurd h hne
 ·simp only[Option.some.injEq] at ha
  subst ha
  intro j v hj
  have hjl:j < (l.flatMap spc).length:=(List.getElem?_eq_some_iff.mp hj).1
  rw[spc_len] at hjl
  obtain⟨p,hp⟩:=get_some l (j / 2) (by omega)
  obtain⟨q1,q2⟩:=spc_get l _ p hp
  obtain⟨r1,r2⟩:=hc _ p hp
  have e:(⟨g,off,none⟩:Addr).add j=⟨g,off+j,none⟩:=by unfold Addr.add;split<;>simp_all
  rw[e]
  rcases Nat.mod_two_eq_zero_or_one j with h0|h0
  ·rw[show j / 2*2=j by omega] at q1 r1
   rw[hj] at q1
   rw[r1,←q1]
  ·rw[show j / 2*2+1=j by omega] at q2
   rw[show off+j / 2*2+1=off+j by omega] at r2
   rw[hj] at q2
   rw[r2,←q2]
theorem spc_one (l:List Sp):∀u∈l.flatMap spc,u.oneCell'=true:=by
 intro u hu
 obtain⟨x,_,hx⟩:=List.mem_flatMap.mp hu
 simp only[spc,List.mem_cons,List.not_mem_nil,or_false] at hx
 rcases hx with rfl|rfl<;>rfl
theorem wpList_copy_spa {P:Program} {w:World} {ops:Array Oper} {rest:List Oper} {o:Oper} {act:Act} {Q:Exit-> Act-> World-> Prop} (hgd:o.guard=none) (d s:Operand) (dT sT:TypeId)
 (ho:o.op=.call {callee:=.builtin .copy,args:=#[d,s],argTypes:=#[dT,sT]}) (hu:P.underlying dT=some (.slice 128)) (hsz:(P.info? 128).map (·.size)=some 2)
 (g N cap base:Nat) (L0 l:List Sp) (a:Option Addr) (c:Nat) (hd:act.eval d=.slice (some ⟨g,0,none⟩) N cap) (hs:act.eval s=.slice a l.length c)
 (hown:SOwn w base (.slice (some ⟨g,0,none⟩) N cap) L0) (hspa:Spa w a l) (hl:l.length<= N)
 (h:∀w',SOwn w' base (.slice (some ⟨g,0,none⟩) N cap) (l++L0.drop l.length)-> w.grownBy w' (some g)-> wpList P ops Q rest (act.put o.dst (goInt l.length)) w'):
 wpList P ops Q (o::rest) act w:=by
 have hN:=hown.lenEq
 refine wpList_plain hgd λK hK=>?_
 by_cases hne:l=[]
 ·subst hne
  have hrun:=run_copy_zero (P:=P) w dT sT o.type _ ⟨g,0,none⟩ N cap a c hu hsz
  unfold Oper.wp
  simp[execOp,ho,resolve,invoke,builtin,hd,hs,hrun,Result.andThen]
  exact hK _ _ (h w (by simpa using hown) (World.grownBy.refl _ _))
 ·have ha:∃ad,a=some ad:=by
   rcases hspa with h0|⟨g',off',h0,_⟩
   ·exact absurd h0 hne
   ·exact⟨_,h0⟩
  obtain⟨ad,rfl⟩:=ha
  obtain⟨hx,⟨hv,_⟩|⟨g0,cap0,cur,hv,hb0,hg0,hn0,hm0,hc0,ht0⟩⟩:=id hown
  ·cases hv
  simp only[Value.slice.injEq,Option.some.injEq,Addr.mk.injEq,and_true] at hv
  obtain⟨rfl,hN',rfl⟩:=hv
  rw[hN] at hn0 ht0
  have hln:(l.flatMap spc).length=l.length*2:=spc_len l
  have hrun:=run_copy_two (P:=P) w dT sT o.type 128 g N cap ad l.length c l.length cur 128 (l.flatMap spc) hu hsz hg0 (by simp[Nat.min_def];omega) hln (spa_cells hspa hne) (by rw[hln];omega) (spc_one l)
  generalize hX:l.flatMap spc=X at hrun hln
  unfold Oper.wp
  simp[execOp,ho,resolve,invoke,builtin,hd,hs,hrun,Result.andThen]
  refine hK _ _ (h _ ?_ ?_)
  ·refine⟨by rw[spc_len],.inr ⟨g,cap,_,?_,hb0,setRow_heap w g _ _ _ _ hg0,?_,hm0,?_,?_⟩⟩
   ·congr 1;simp;omega
   ·simp;omega
   ·simp only[List.size_toArray,List.length_append,List.length_drop,Array.length_toList]
    omega
   ·have e1:(l++L0.drop l.length).length=N:=by simp;omega
    rw[e1,List.flatMap_append,hX]
    have e2:(L0.drop l.length).flatMap spc=(L0.flatMap spc).drop (l.length*2):=by
     have:L0.flatMap spc=(L0.take l.length).flatMap spc++(L0.drop l.length).flatMap spc:=by rw[←List.flatMap_append,List.take_append_drop]
     rw[this,List.drop_left' (by rw[spc_len];simp;omega)]
    rw[e2,←ht0,←hln]
    rw[List.take_append,List.take_of_length_le (by rw[hln];omega),List.drop_take]
  ·refine⟨rfl,rfl,rfl,by simp[World.setRow],λj hj hne'=>?_⟩
   simp only[World.setRow]
   rw[Array.getElem?_modify,if_neg (λe=>hne' (by rw[e]))]
theorem wpList_copy_spans {P:Program} {w:World} {ops:Array Oper} {rest:List Oper} {o:Oper} {act:Act} {Q:Exit-> Act-> World-> Prop} (hgd:o.guard=none) (d s:Operand) (dT sT:TypeId)
 (ho:o.op=.call {callee:=.builtin .copy,args:=#[d,s],argTypes:=#[dT,sT]}) (hu:P.underlying dT=some (.slice 128)) (hsz:(P.info? 128).map (·.size)=some 2)
 (g N cap base:Nat) (L0 l:List Sp) (v:Value) (hd:act.eval d=.slice (some ⟨g,0,none⟩) N cap) (hs:act.eval s=v)
 (hown:SOwn w base (.slice (some ⟨g,0,none⟩) N cap) L0) (hls:Ls w v l) (hl:l.length<= N)
 (h:∀w',SOwn w' base (.slice (some ⟨g,0,none⟩) N cap) (l++L0.drop l.length)-> w.grownBy w' (some g)-> wpList P ops Q rest (act.put o.dst (goInt l.length)) w'):
 wpList P ops Q (o::rest) act w:=by
 obtain⟨a,c,rfl,hspa,_⟩:=hls.shape
 exact wpList_copy_spa hgd d s dT sT ho hu hsz g N cap base L0 l a c hd hs hown hspa hl h
end Go.Proofs.YtllhbhogfffedaaGreatDoor.C
namespace Go.Proofs.YtllhbhogfffedaaGreatDoor
open Go.RowKit
set_option linter.unusedVariables false
abbrev mkD (zs:List Int):List Int:=zs++[177,178]
abbrev mkS (l:List (Int×Int)):List (Int×Int):=l++[(-77,0),(-78,0)]
theorem rmade_eq (n:Nat):(madeCells (Value.cells (.int .u8 0)) (n*1)).toList=(List.replicate n (0:Int)).map (Value.int .u8):=by
 simp[madeCells,Value.cells,Nat.mod_one,List.map_const']
theorem rown_full {w:World} {base n g:Nat} {e:TypeId} {xs:List Value} (h:w.ownsRow base e 1 (.slice (some ⟨g,0,none⟩) n n) n xs):w.heap[g]?=some (.cells xs.toArray e (0,0)):=by
 obtain⟨_,⟨hv,_⟩|⟨g',cap,cur,hv,_,hg,_,_,hs,ht⟩⟩:=h
 ·cases hv
 ·simp only[Value.slice.injEq,aqG,Addr.mk.injEq,and_true,true_and] at hv
  obtain⟨rfl,rfl⟩:=hv
  rw[List.take_of_length_le (by simp;omega)] at ht
  rw[hg,←ht]
theorem rc_frozen {W:World} {g:Nat} {r:Rc} {sv dv:Value} (h:W.heap[g]?=some (rcO r sv dv)) (k:Nat):W.frozen? ⟨g,k,none⟩=false:=by simp[World.frozen?,h]
theorem Lies.cells6 {W:World} {a:Option Addr} {zs:List Int} (h:Lies .u8 W a zs) (hp:0 < (zs.map (Value.int .u8)).length):∃ad,a=some ad/\ ∀j v,(zs.map (Value.int .u8))[j]?=some v-> W.cell? (ad.add j)=some v:=by
 rcases h with rfl|⟨b,off,rfl,h⟩
 ·simp at hp
 ·refine⟨_,rfl,λj v hj=>?_⟩
  have hjl:j < zs.length:=by
   rcases Nat.lt_or_ge j zs.length with q|q
   ·exact q
   ·rw[List.getElem?_eq_none (by simpa using q)] at hj;cases hj
  rw[List.getElem?_map,List.getElem?_eq_getElem hjl] at hj
  simp only[Option.map_some,aqG] at hj
  rw[show (⟨b,off,none⟩:Addr).add j=⟨b,off+j,none⟩ from by unfold Addr.add;split<;>simp_all,h j hjl,←hj]
  simp[List.getD_eq_getElem?_getD,List.getElem?_eq_getElem hjl]
abbrev rz0:Rc:=⟨0,0,0,0,0,0,0,0,0,[],[]⟩
abbrev lw (w:World) (r:Rc) (sv dv:Value):World:=(w.alloc (rcO r sv dv)).alloc (rcO rz0 (.slice none 0 0) (.slice none 0 0))
def rS (W:World) (g:Nat) (r:Rc) (sv dv:Value):World:=(((((((((((W.setCell ⟨g,0,none⟩ (.int .i64 r.kind)).setCell ⟨g,1,none⟩ (.int .i64 r.org)).setCell ⟨g,2,none⟩ (.int .i64 r.num)).setCell ⟨g,3,none⟩ (.int .i64 r.peer)).setCell ⟨g,4,none⟩ (.int .i64 r.srv)).setCell ⟨g,5,none⟩ (.int .i64 r.off)).setCell ⟨g,6,none⟩ (.int .i64 r.red)).setCell ⟨g,7,none⟩ (.int .i64 r.size)).setCell ⟨g,8,none⟩ (.int .i64 r.how)).setCell ⟨g,9,none⟩ sv).setCell ⟨g,10,none⟩ dv)
theorem rS_heap (W:World) (g:Nat) (r q:Rc) (sv dv a b:Value) (h:W.heap[g]?=some (rcO q a b)):(rS W g r sv dv).heap[g]?=some (rcO r sv dv):=by
 unfold rS
 simp[World.setCell,Array.getElem?_modify,h]
theorem rS_grown (W:World) (g:Nat) (r:Rc) (sv dv:Value):W.grownBy (rS W g r sv dv) (some g):=by
 unfold rS
 iterate 10 refine C.grown_trans ?_ (grown_set _ _ _ _)
 exact grown_set _ _ _ _
theorem own_keep6 {w w':World} {base size n:Nat} {e:TypeId} {v:Value} {xs:List Value} {row:Option Nat} (h:w.ownsRow base e size v n xs) (hg:w.grownBy w' row) (hr:∀k,v.ownBlock=some k-> row≠some k):w'.ownsRow base e size v n xs:=by
 have hlt:=h.lt
 obtain⟨hl,h|⟨g,cap,cur,rfl,hb,hh,r⟩⟩:=h
 ·exact⟨hl,.inl h⟩
 ·refine⟨hl,.inr ⟨g,cap,cur,rfl,hb,?_,r⟩⟩
  rw[hg.block g (hlt g rfl).2 (λe=>hr g rfl e.symm)];exact hh
theorem lm1 {W0 w1:World} {gd n b:Nat} (hg:W0.heap.size=gd) (hown:w1.ownsRow b 5 1 (.slice (some ⟨W0.heap.size,0,none⟩) n n) n (madeCells (Value.cells (.int .u8 0)) (n*1)).toList) (hgrow:W0.grownBy w1 none):
 Hid (w1.heap[gd]?=some (.cells ((List.replicate n (0:Int)).map (Value.int .u8)).toArray 5 (0,0)))/\ Hid (Below gd W0 w1):=by
 subst hg
 rw[rmade_eq] at hown
 exact⟨rown_full hown,(Below.refl _ _).grown hgrow (aqH _) (by intro j hj;cases hj)⟩
set_option linter.unusedSimpArgs false
abbrev pcV:List PanicEntry:=[{v:=.iface 55 (.int .i64 61),recovered:=false}]
theorem must_ok (w:World):Calls Tryz.prog 117 #[.bool true] w λe w'=>(∃v,e=.returned v)/\ w=w':=by
 go_enter Tryz.func117,Tryz.ntmps117
 go_wp2
 go_end0
 exact⟨⟨_,rfl⟩,rfl⟩
theorem must_no (w:World):Calls Tryz.prog 117 #[.bool false] w λe w'=>e=.panicked pcV/\ w=w':=by
 go_enter Tryz.func117,Tryz.ntmps117
 go_wp2
 exact⟨rfl,rfl,rfl⟩
structure RdS (W:World) (rb g:Nat) (zs:List Int):Prop where
 ex:∃off n c,W.heap[rb]?=some (.cells #[.slice (some ⟨g,off,none⟩) n c] 194)/\ zs.length=n/\ n<= c/\ (n<= 140737488355328/\ c<= 9223372036854775807)/\ ∀i,i < zs.length-> W.cell? ⟨g,off+i,none⟩=some (.int .u8 (zs.getD i 0))
 ne:g≠rb
theorem take_ok (rb g:Nat) (zs:List Int) (k:Nat) (w:World) (h:RdS w rb g zs) (hk:k<= zs.length):
 Calls Tryz.prog 126 #[.pointer (some ⟨rb,0,none⟩),.int .i64 k] w λe w'=>(∃off c,e=.returned (.slice (some ⟨g,off,none⟩) k c)/\ k<= c/\ ∀i,i < k-> w'.cell? ⟨g,off+i,none⟩=some (.int .u8 (zs.getD i 0)))/\ RdS w' rb g (zs.drop k)/\ w.grownBy w' (some rb):=by
 obtain⟨off,n,c,hh,hn,hnc,hc,hcell⟩:=h.ex
 have hne:=h.ne
 have HC:Hid (∀i,i < zs.length-> w.cell? ⟨g,off+i,none⟩=some (.int .u8 (zs.getD i 0))):=hcell
 have HH:Hid (w.heap[rb]?=some (.cells #[.slice (some ⟨g,off,none⟩) n c] 194)):=hh
 have c0:w.cell? ⟨rb,0,none⟩=some (.slice (some ⟨g,off,none⟩) n c):=cell_of_row _ _ 0 _ _ _ hh
 have f0:w.frozen? ⟨rb,0,none⟩=false:=by simp[World.frozen?,hh]
 subst hn
 have hk':(k:Int)<= (zs.length:Int):=by omega
 clear hcell hh h
 by_cases hck:c=k
 ·have HS:Hid ((w.setCell ⟨rb,0,none⟩ (.slice (some ⟨g,off,none⟩) (zs.length - k) (c - k))).heap[rb]?=some (.cells #[.slice (some ⟨g,off,none⟩) (zs.length - k) (c - k)] 194)):=by unfold Hid;simp[World.setCell,Array.getElem?_modify,HH.out]
  have HG:Hid (w.grownBy (w.setCell ⟨rb,0,none⟩ (.slice (some ⟨g,off,none⟩) (zs.length - k) (c - k))) (some rb)):=grown_set _ _ _ _
  subst hck
  have hzz:zs.length=c:=by omega
  go_enter Tryz.func126,Tryz.ntmps126
  go_wp2_with (go_at_call 117;refine(must_ok _).mono ?_;rintro e w1 ⟨⟨v1,rfl⟩,rfl⟩)
  go_ret
  have hgg:∀i,(w.setCell ⟨rb,0,none⟩ (.slice (some ⟨g,off,none⟩) (zs.length - c) (c - c))).cell? ⟨g,i,none⟩=w.cell? ⟨g,i,none⟩:=λi=>World.cell?_setCell_other _ _ _ _ (by simp[hne])
  refine⟨⟨off,c,rfl,aqH _,λi hi=>?_⟩,⟨⟨off,zs.length - c,c - c,?_,by simp,by omega,by omega,λi hi=>?_⟩,hne⟩,?_⟩
  ·have h2:=HC.out i (by omega)
   first|exact(hgg _).trans h2|(simp only[Nat.sub_self,hzz] at*;exact(hgg _).trans h2)
  ·first|exact HS.out|(have:=HS.out;simp only[Nat.sub_self,hzz] at*;exact this)
  ·simp[hzz] at hi
  ·first|exact HG.out|(have:=HG.out;simp only[Nat.sub_self,hzz] at*;exact this)
 ·have HS:Hid ((w.setCell ⟨rb,0,none⟩ (.slice (some ⟨g,off+k,none⟩) (zs.length - k) (c - k))).heap[rb]?=some (.cells #[.slice (some ⟨g,off+k,none⟩) (zs.length - k) (c - k)] 194)):=by unfold Hid;simp[World.setCell,Array.getElem?_modify,HH.out]
  have HG:Hid (w.grownBy (w.setCell ⟨rb,0,none⟩ (.slice (some ⟨g,off+k,none⟩) (zs.length - k) (c - k))) (some rb)):=grown_set _ _ _ _
  go_enter Tryz.func126,Tryz.ntmps126
  go_wp2_with (go_at_call 117;refine(must_ok _).mono ?_;rintro e w1 ⟨⟨v1,rfl⟩,rfl⟩)
  go_ret
  have hgg:∀i,(w.setCell ⟨rb,0,none⟩ (.slice (some ⟨g,off+k,none⟩) (zs.length - k) (c - k))).cell? ⟨g,i,none⟩=w.cell? ⟨g,i,none⟩:=λi=>World.cell?_setCell_other _ _ _ _ (by simp[hne])
  refine⟨⟨off,c,rfl,by omega,λi hi=>(hgg _).trans (HC.out i (by omega))⟩,⟨⟨off+k,zs.length - k,c - k,HS.out,by simp,by omega,by omega,λi hi=>?_⟩,hne⟩,HG.out⟩
  have h1:i < zs.length - k:=by simpa using hi
  rw[hgg,Nat.add_assoc,HC.out (k+i) (by omega),List.getD_eq_getElem?_getD,List.getD_eq_getElem?_getD,List.getElem?_drop]
theorem take_no (rb g:Nat) (zs:List Int) (k:Int) (w:World) (h:RdS w rb g zs) (hk:¬k<= zs.length):
 Calls Tryz.prog 126 #[.pointer (some ⟨rb,0,none⟩),.int .i64 k] w λe w'=>e=.panicked pcV/\ w=w':=by
 obtain⟨off,n,c,hh,hn,hnc,hc,hcell⟩:=h.ex
 have c0:w.cell? ⟨rb,0,none⟩=some (.slice (some ⟨g,off,none⟩) n c):=cell_of_row _ _ 0 _ _ _ hh
 subst hn
 clear hcell hh h
 go_enter Tryz.func126,Tryz.ntmps126
 go_wp2_with (go_at_call 117;refine(must_no _).mono ?_;rintro e w1 ⟨rfl,rfl⟩)
 exact⟨rfl,rfl,rfl⟩
def numP (zs:List Int):Option (Int×List Int):=if (rd zs).2.2=0/\ (rd zs).1<= 4611686018427387903 then some ((rd zs).1,zs.drop (rd zs).2.1.toNat) else none
theorem numP_inv {zs t:List Int} {n:Int} (hb:Bytey zs) (h:numP zs=some (n,t)):(rd zs).2.2=0/\ (rd zs).1=n/\ (rd zs).2.1=(sz n:Int)/\ zs=enc n++t/\ t=zs.drop (sz n)/\ sz n<= zs.length/\ 0<= n/\ n<= 4611686018427387903:=by
 unfold numP at h
 split at h
 ·rename_i hc
  simp only[aqG,Prod.mk.injEq] at h
  obtain⟨rfl,rfl⟩:=h
  rcases rd_inv zs hb with ⟨h1,h2,h3,h4,h5,h6⟩|⟨h1,_⟩
  ·have ht:(rd zs).2.1.toNat=sz (rd zs).1:=by rw[h2];simp
   rw[ht]
   exact⟨h1,rfl,h2,by rw[←h4,List.take_append_drop],rfl,h3,h5,hc.2⟩
  ·exact absurd hc.1 h1
 ·cases h
theorem numP_enc {n:Int} (t:List Int) (h0:0<= n) (h1:n<= 4611686018427387903):numP (enc n++t)=some (n,t):=by
 have h:=rd_enc n h0 (by omega) t
 unfold numP
 rw[h]
 simp only[true_and,if_pos h1]
 have hl:=enc_length n h0 (by omega)
 rw[Int.toNat_natCast,←hl,List.drop_left]
theorem num_ok (rb g:Nat) (zs t:List Int) (n:Int) (w:World) (h:RdS w rb g zs) (hb:Bytey zs) (hn:numP zs=some (n,t)):
 Calls Tryz.prog 127 #[.pointer (some ⟨rb,0,none⟩)] w λe w'=>e=.returned (.int .i64 n)/\ RdS w' rb g t/\ w.grownBy w' (some rb):=by
 obtain⟨h1,h2,h3,h4,h5,h6,h7,h8⟩:=numP_inv hb hn
 have HT:=take_ok rb g zs (sz n) w h h6
 obtain⟨off,m,c,hh,hm,hnc,hc,hcell⟩:=h.ex
 have HR:=read_any (some ⟨g,off,none⟩) zs m c w hb hm (by omega) (.inr ⟨g,off,rfl,hcell⟩)
 rw[h1,h2,h3] at HR
 rw[←h5] at HT
 have c0:w.cell? ⟨rb,0,none⟩=some (.slice (some ⟨g,off,none⟩) m c):=cell_of_row _ _ 0 _ _ _ hh
 have HHT:Hid (Calls Tryz.prog 126 #[.pointer (some ⟨rb,0,none⟩),.int .i64 (sz n)] w λe w'=>(∃off c,e=.returned (.slice (some ⟨g,off,none⟩) (sz n) c)/\ (sz n)<= c/\ ∀i,i < sz n-> w'.cell? ⟨g,off+i,none⟩=some (.int .u8 (zs.getD i 0)))/\ RdS w' rb g t/\ w.grownBy w' (some rb)):=HT
 have HHR:Hid (Calls Tryz.prog 136 #[.slice (some ⟨g,off,none⟩) m c] w λe w'=>e=.returned (.tuple #[.int .u64 n,.int .i64 (sz n),.int .i64 0])/\ w=w'):=HR
 have hw:IntKind.i64.wrap n=n:=by rw[IntKind.wrap_i64];omega
 clear hh hcell h HT HR h1 h2 h3 h4 h5 h6 hn hb
 go_enter Tryz.func127,Tryz.ntmps127
 go_wp2_with (first|(go_at_call 136;refine HHR.out.mono ?_;rintro e w1 ⟨rfl,rfl⟩)|(go_at_call 117;refine(must_ok _).mono ?_;rintro e w1 ⟨⟨v1,rfl⟩,rfl⟩)|(go_at_call 126;refine HHT.out.mono ?_;rintro e w2 ⟨⟨off2,c2,rfl,_,_⟩,hr2,hg2⟩))
 go_ret
 exact⟨rfl,hr2,hg2⟩
theorem num_no (rb g:Nat) (zs:List Int) (w:World) (h:RdS w rb g zs) (hb:Bytey zs) (hn:numP zs=none):
 Calls Tryz.prog 127 #[.pointer (some ⟨rb,0,none⟩)] w λe w'=>e=.panicked pcV/\ w=w':=by
 obtain⟨off,m,c,hh,hm,hnc,hc,hcell⟩:=h.ex
 have HR:=read_any (some ⟨g,off,none⟩) zs m c w hb hm (by omega) (.inr ⟨g,off,rfl,hcell⟩)
 have c0:w.cell? ⟨rb,0,none⟩=some (.slice (some ⟨g,off,none⟩) m c):=cell_of_row _ _ 0 _ _ _ hh
 have hcs:¬((rd zs).2.2=0/\ (rd zs).1<= 4611686018427387903):=λh=>by unfold numP at hn;rw[if_pos h] at hn;cases hn
 generalize rd zs=q at*
 obtain⟨q1,q2,q3⟩:=q
 simp only at hcs HR
 have HHR:Hid (Calls Tryz.prog 136 #[.slice (some ⟨g,off,none⟩) m c] w λe w'=>e=.returned (.tuple #[.int .u64 q1,.int .i64 q2,.int .i64 q3])/\ w=w'):=HR
 clear hh hcell h HR hn hb
 by_cases h0:q3=0
 ·subst h0
  have h1:decide (q1<= 4611686018427387903)=false:=decide_eq_false (λh=>hcs ⟨rfl,h⟩)
  clear hcs
  go_enter Tryz.func127,Tryz.ntmps127
  go_wp2_with (first|(go_at_call 136;refine HHR.out.mono ?_;rintro e w1 ⟨rfl,rfl⟩)|(go_at_call 117;refine(must_no _).mono ?_;rintro e w1 ⟨rfl,rfl⟩))
  exact⟨rfl,rfl,rfl⟩
 ·clear hcs
  go_enter Tryz.func127,Tryz.ntmps127
  go_wp2_with (first|(go_at_call 136;refine HHR.out.mono ?_;rintro e w1 ⟨rfl,rfl⟩)|(go_at_call 117;refine(must_no _).mono ?_;rintro e w1 ⟨rfl,rfl⟩))
  exact⟨rfl,rfl,rfl⟩
def spP:Nat-> List Int-> Option (List (Int×Int)×List Int)
 |0,zs=>some ([],zs)
 |k+1,zs=>match spP k zs with
  |none=>none
  |some (l,t)=>match numP t with
   |none=>none
   |some (a,t1)=>match numP t1 with
    |none=>none
    |some (b,t2)=>some (l++[(a,a+b)],t2)
def spsP (zs:List Int):Option (List (Int×Int)×List Int):=match numP zs with
 |none=>none
 |some (n,t)=>spP n.toNat t
theorem bytey_drop {zs:List Int} (h:Bytey zs) (k:Nat):Bytey (zs.drop k):=λz hz=>h z (List.mem_of_mem_drop hz)
theorem numP_by {zs t:List Int} {n:Int} (hb:Bytey zs) (h:numP zs=some (n,t)):Bytey t/\ t.length+1<= zs.length:=by
 obtain⟨_,_,_,h4,h5,h6,h7,h8⟩:=numP_inv hb h
 have:=sz_bounds n h7 (by omega)
 rw[h5]
 exact⟨bytey_drop hb _,by rw[List.length_drop];omega⟩
theorem numP_bd {zs t:List Int} {n:Int} (hb:Bytey zs) (h:numP zs=some (n,t)):0<= n/\ n<= 4611686018427387903:=by
 obtain⟨_,_,_,_,_,_,h7,h8⟩:=numP_inv hb h
 exact⟨h7,h8⟩
theorem spP_by:∀{k:Nat} {zs t:List Int} {l:List (Int×Int)},Bytey zs-> spP k zs=some (l,t)-> l.length=k/\ Bytey t/\ t.length+2*k<= zs.length
 |0,zs,t,l,hb,h=>by
  simp only[spP,aqG,Prod.mk.injEq] at h
  obtain⟨rfl,rfl⟩:=h
  exact⟨rfl,hb,by simp⟩
 |k+1,zs,t,l,hb,h=>by
  simp only[spP] at h
  split at h
  ·cases h
  ·rename_i l' t' h1
   split at h
   ·cases h
   ·rename_i a t1 h2
    split at h
    ·cases h
    ·rename_i b t2 h3
     simp only[aqG,Prod.mk.injEq] at h
     obtain⟨rfl,rfl⟩:=h
     obtain⟨q1,q2,q3⟩:=spP_by hb h1
     obtain⟨q4,q5⟩:=numP_by q2 h2
     obtain⟨q6,q7⟩:=numP_by q4 h3
     exact⟨by simp[q1],q6,by omega⟩
theorem spP_no {k:Nat} {zs:List Int} (h:spP k zs=none):∀j,spP (k+j) zs=none
 |0=>h
 |j+1=>by
  have:=spP_no h j
  show (match spP (k+j) zs with|none=>none|some (l,t)=>_)=none
  rw[this]
theorem RdS.keep {w w':World} {rb g:Nat} {zs:List Int} {row:Option Nat} (h:RdS w rb g zs) (hg:w.grownBy w' row) (h1:row≠some rb) (h2:row≠some g):RdS w' rb g zs:=by
 obtain⟨⟨off,n,c,hh,hn,hnc,hc,hcell⟩,hne⟩:=h
 refine⟨⟨off,n,c,(hg.block rb (Array.getElem?_eq_some_iff.mp hh).1 (λe=>h1 e.symm)).trans hh,hn,hnc,hc,λi hi=>?_⟩,hne⟩
 exact hg.cell (hcell i hi) (λe=>h2 (by rw[←e]))
theorem RdS.rblt {w:World} {rb g:Nat} {zs:List Int} (h:RdS w rb g zs):rb < w.heap.size:=by
 obtain⟨⟨off,n,c,hh,_⟩,_⟩:=h
 exact(Array.getElem?_eq_some_iff.mp hh).1
theorem grown_app {w w3 w5:World} {rb n m:Nat} {e:TypeId} {v:Value} {xs:List Value} {o:Obj} (HG:w.grownBy w3 (some rb)) (hso:w3.ownsRow w.heap.size e n v m xs) (hg:(w3.alloc o).grownBy w5 v.ownBlock):w.grownBy w5 (some rb):=by
 have h1:=HG.size
 have h2:(w3.alloc o).heap.size=w3.heap.size+1:=by simp
 have h3:=hg.size
 refine⟨hg.os.trans HG.os,hg.tape.trans HG.tape,hg.output.trans HG.output,by omega,λk hk hne=>?_⟩
 refine(hg.block k (by omega) ?_).trans ((Below.heap_alloc w3 o k (by omega)).trans (HG.block k hk hne))
 intro e'
 have:=(hso.lt k e'.symm).1
 omega
theorem RdS.app {w w3 w5:World} {rb g n m:Nat} {e:TypeId} {v:Value} {xs:List Value} {o:Obj} {zs:List Int} (h:RdS w3 rb g zs) (hso:w3.ownsRow w.heap.size e n v m xs) (hg:(w3.alloc o).grownBy w5 v.ownBlock) (h1:rb < w.heap.size) (h2:g < w.heap.size):RdS w5 rb g zs:=by
 have h3:RdS (w3.alloc o) rb g zs:=h.keep (row:=none) ⟨rfl,rfl,rfl,by simp,λk hk _=>Below.heap_alloc w3 o k hk⟩ (by simp) (by simp)
 refine h3.keep hg ?_ ?_
 ·intro e'
  have:=(hso.lt rb e').1
  omega
 ·intro e'
  have:=(hso.lt g e').1
  omega
def SpsPost (q:Option (List (Int×Int)×List Int)) (w:World) (rb g:Nat) (e:Ending) (w':World):Prop:=
 (match q with
  |some (l,t)=>∃v,e=.returned v/\ C.SOwn w' w.heap.size v l/\ RdS w' rb g t
  |none=>e=.panicked pcV)/\ w.grownBy w' (some rb)
theorem spans_any (rb g:Nat) (zs:List Int) (w:World) (h:RdS w rb g zs) (hb:Bytey zs) (hz:zs.length<= 131072) (hgl:g < w.heap.size):
 Calls Tryz.prog 129 #[.pointer (some ⟨rb,0,none⟩)] w (SpsPost (spsP zs) w rb g):=by
 obtain⟨i0,hi,hz0,hz1,hz2⟩:=info_parts C.Tryz.info_span
 cases hn:numP zs with
 |none=>
  have HE:Hid (spsP zs=none):=by unfold Hid spsP;rw[hn]
  have HN:=num_no rb g zs w h hb hn
  rw[HE.out]
  clear h hb hn HE
  go_enter Tryz.func129,Tryz.ntmps129
  go_wp2_with (go_at_call 127;refine HN.mono ?_;rintro e w1 ⟨rfl,rfl⟩)
  exact⟨rfl,rfl,World.grownBy.refl _ _⟩
 |some p=>
  obtain⟨N,t0⟩:=p
  have HE:Hid (spsP zs=spP N.toNat t0):=by unfold Hid spsP;rw[hn]
  obtain⟨hb0,hl0⟩:=numP_by hb hn
  obtain⟨hN0,hN1⟩:=numP_bd hb hn
  have HN:=num_ok rb g zs t0 N w h hb hn
  have hrl:=h.rblt
  have hne:=h.ne
  rw[HE.out]
  generalize hQ:spP N.toNat t0=Q
  have HQ:Hid (spP N.toNat t0=Q):=hQ
  clear hQ
  have HBT:Hid (Bytey t0):=hb0
  have hl1:t0.length<= 131072:=by omega
  clear h hb hn HE hb0
  go_enter Tryz.func129,Tryz.ntmps129
  go_wp2_with (go_at_call 127;refine HN.mono ?_;rintro e w1 ⟨rfl,hr1,hg1⟩)
  have HR1:Hid (RdS w1 rb g t0):=hr1
  have HG1:Hid (w.grownBy w1 (some rb)):=hg1
  clear hr1 hg1 HN
  go_loopw [3,7] (λlv i wr=>∃(k:Nat) (l:List (Int×Int)) (t:List Int),(k:Int)<= N/\ i=.int .i64 k/\ spP k t0=some (l,t)/\ C.SOwn wr w.heap.size lv l/\ RdS wr rb g t/\ w.grownBy wr (some rb)) (λ_ i _=>(N - intOf i).toNat)
  case atStart=>exact⟨0,[],t0,by omega,rfl,rfl,C.SOwn.nil _ _,HR1.out,HG1.out⟩
  case round=>
   obtain⟨k,l,t,hk,rfl,hsp,hso,hrd,hgr⟩:=hrel
   have HSP:Hid (spP k t0=some (l,t)):=hsp
   have HSO:Hid (C.SOwn wr w.heap.size u3 l):=hso
   have HRD:Hid (RdS wr rb g t):=hrd
   have HGR:Hid (w.grownBy wr (some rb)):=hgr
   obtain⟨hll,hbt,hlt⟩:=spP_by HBT.out hsp
   have HBt:Hid (Bytey t):=hbt
   have hsw:=hgr.size
   clear hsp hso hrd hgr hbt HR1 HG1
   by_cases hkN:(k:Int) < N
   ·cases hn1:numP t with
    |none=>
     have HNO:Hid (Q=none):=by
      unfold Hid;rw[←HQ.out]
      have h1:spP (k+1) t0=none:=by simp only[spP,HSP.out,hn1]
      have h2:=spP_no h1 (N.toNat - (k+1))
      rw[show k+1+(N.toNat - (k+1))=N.toNat by omega] at h2
      exact h2
     have HN1:=num_no rb g t wr HRD.out HBt.out hn1
     rw[HNO.out]
     clear hn1
     go_wp2_with (go_at_call 127;refine HN1.mono ?_;rintro e w2 ⟨rfl,rfl⟩)
     exact⟨rfl,rfl,HGR.out⟩
    |some p1=>
     obtain⟨a,t1⟩:=p1
     have HN1:=num_ok rb g t t1 a wr HRD.out HBt.out hn1
     obtain⟨hb1,_⟩:=numP_by HBt.out hn1
     obtain⟨ha0,ha1⟩:=numP_bd HBt.out hn1
     cases hn2:numP t1 with
     |none=>
      have HNO:Hid (Q=none):=by
       unfold Hid;rw[←HQ.out]
       have h1:spP (k+1) t0=none:=by simp only[spP,HSP.out,hn1,hn2]
       have h2:=spP_no h1 (N.toNat - (k+1))
       rw[show k+1+(N.toNat - (k+1))=N.toNat by omega] at h2
       exact h2
      rw[HNO.out]
      go_upto_region 5 with (go_at_call 127;refine HN1.mono ?_;rintro e w2 ⟨rfl,hr2,hg2⟩)
      have HN2:=num_no rb g t1 w2 hr2 hb1 hn2
      have HG2:Hid (w.grownBy w2 (some rb)):=grown_trans HGR.out hg2
      clear hn1 hn2 hr2 hg2 HN1
      go_wp2_with (go_at_call 127;refine HN2.mono ?_;rintro e w3 ⟨rfl,rfl⟩)
      exact⟨rfl,rfl,HG2.out⟩
     |some p2=>
      obtain⟨b,t2⟩:=p2
      obtain⟨hb00,hb01⟩:=numP_bd hb1 hn2
      have HSP2:Hid (spP (k+1) t0=some (l++[(a,a+b)],t2)):=by unfold Hid;simp only[spP,HSP.out,hn1,hn2]
      go_upto_region 5 with (go_at_call 127;refine HN1.mono ?_;rintro e w2 ⟨rfl,hr2,hg2⟩)
      have HN2:=num_ok rb g t1 t2 b w2 hr2 hb1 hn2
      have HG2:Hid (w.grownBy w2 (some rb)):=grown_trans HGR.out hg2
      have HS2:Hid (C.SOwn w2 w.heap.size u3 l):=own_keep6 HSO.out hg2 (by intro j hj;have:=(HSO.out.lt j hj).1;simp;omega)
      have hwr:IntKind.i64.wrap (a+b)=a+b:=by rw[IntKind.wrap_i64];omega
      clear hn1 hn2 hr2 hg2 HN1 HSO HGR
      go_wp2_with (first
       |(go_at_call 127;refine HN2.mono ?_;rintro e w3 ⟨rfl,hr3,hg3⟩;have HR3:Hid (RdS w3 rb g t2):=hr3;have HG3:Hid (w.grownBy w3 (some rb)):=grown_trans HG2.out hg3;have HS3:Hid (C.SOwn w3 w.heap.size u3 l):=own_keep6 HS2.out hg3 (by intro j hj;have:=(HS2.out.lt j hj).1;simp;omega);have hs3:=HG3.out.size;clear hr3 hg3)
       |(at_builtin;refine wpList_append_own_at _ rfl _ _ 79 rfl w.heap.size 128 i0 (.agg #[.int .i64 0,.int .i64 0]) 2 16 Tryz.underlying79 hi hz0 hz1 hz2 rfl (by decide) _ _ _ rfl (own_below6 HS3.out ((Below.refl _ _).alloc (aqH _) _)) ⟨w3.heap.size,0,none⟩ 1 1 [.int .i64 a,.int .i64 (a+b)] rfl rfl ?c1 ?c2 ?c3 ?c4 ?c5 ?_))
      case c1=>exact C.cell_two_at _ _ _ _ _ (by simp)
      case c2=>intro x hx;simp at hx;rcases hx with rfl|rfl<;>rfl
      case c3=>unfold maxLen;omega
      case c4=>omega
      case c5=>simp;omega
      intro v5 w5 hown5 hgrow5 _ hst5
      have HOA:=own_below6 HS3.out ((Below.refl _ _).alloc (aqH _) (.cells #[.int .i64 a,.int .i64 (a+b)] 128))
      have HS5:Hid (C.SOwn w5 w.heap.size v5 (l++[(a,a+b)])):=by
       unfold Hid C.SOwn
       rw[List.length_append,List.flatMap_append,hll]
       exact hown5
      have HG5:Hid (w.grownBy w5 (some rb)):=grown_app HG3.out HS3.out hgrow5
      have HR5:Hid (RdS w5 rb g t2):=HR3.out.app HS3.out hgrow5 hrl hgl
      clear hown5 hgrow5 hst5 HOA HS3 HG3 HR3 HN2 HS2 HG2
      go_wp2
      go_roundw
      case rel=>exact⟨k+1,l++[(a,a+b)],t2,by omega,by go_num,HSP2.out,HS5.out,HR5.out,HG5.out⟩
      case measure=>simp[intOf];omega
   ·have hkn:N.toNat=k:=by omega
    have HF:Hid (Q=some (l,t)):=by unfold Hid;rw[←HQ.out,hkn];exact HSP.out
    have hkN':¬(k:Int) < N:=hkN
    go_wp2
    go_ret
    show SpsPost Q w rb g _ _
    rw[HF.out]
    exact⟨⟨_,rfl,HSO.out,HRD.out⟩,HGR.out⟩
def mkR (k:Int) (l:List Int):Rc:=⟨k,l.getD 0 0,l.getD 1 0,l.getD 2 0,l.getD 3 0,l.getD 4 0,l.getD 5 0,l.getD 6 0,l.getD 7 0,[],[]⟩
theorem numrec_any (k:Int) (n0 n1 n2 n3 n4 n5 n6 n7:Int) (w:World):
 Calls Tryz.prog 128 #[.agg #[.int .i64 n0,.int .i64 n1,.int .i64 n2,.int .i64 n3,.int .i64 n4,.int .i64 n5,.int .i64 n6,.int .i64 n7],.int .i64 k] w λe w'=>e=.returned (.agg (rcC ⟨k,n0,n1,n2,n3,n4,n5,n6,n7,[],[]⟩ (.slice none 0 0) (.slice none 0 0)))/\ Below w.heap.size w w':=by
 go_enter Tryz.func128,Tryz.ntmps128
 go_wp2
 refine bodyPost_ret (v:=.agg (rcC ⟨k,n0,n1,n2,n3,n4,n5,n6,n7,[],[]⟩ (.slice none 0 0) (.slice none 0 0))) (by simp[results,Tryz.results128,go_sem,rcC]) rfl ?_
 exact⟨rfl,((Below.refl _ _).alloc (aqH _) _).alloc (by simp) _⟩
theorem clone_any (g off k c:Nat) (zs:List Int) (w:World) (hl:zs.length=k) (hk:k<= 131072) (hc:∀i,i < k-> w.cell? ⟨g,off+i,none⟩=some (.int .u8 (zs.getD i 0))):
 Calls Tryz.prog 130 #[.slice (some ⟨g,off,none⟩) k c] w λe w'=>∃v,e=.returned v/\ w'.ownsRow w.heap.size 5 1 v k (zs.map (Value.int .u8))/\ Below w.heap.size w w':=by
 obtain⟨i0,hi,hz0,hz1,hz2⟩:=info_parts Tryz.info_u8
 have HL:Hid (∀W,Below w.heap.size w W-> Lies .u8 W (some ⟨g,off,none⟩) zs):=λW hW=>(show Lies .u8 w (some ⟨g,off,none⟩) zs from .inr ⟨g,off,rfl,by rw[hl];exact hc⟩).below hW
 clear hc
 have hsn:∀W:World,(binOp BinOp.eql 35 (Value.slice (some ⟨g,off,none⟩) k c) (Value.slice none 0 0)).run Tryz.prog W=.ok (.bool false) W:=λW=>rfl
 go_enter Tryz.func130,Tryz.ntmps130
 go_wp2_with (at_builtin;refine append_any _ rfl _ _ 35 rfl w.heap.size 5 i0 (.int .u8 0) 1 Tryz.underlying35 hi hz0 hz1 hz2 rfl _ 0 [] rfl (World.ownsRow_lit w #[] 0 (aqH _) (by unfold maxLen;omega) rfl) .u8 _ _ _ zs rfl (by intro h;cases h) hl (HL.out _ ((Below.refl _ _).alloc (aqH _) _)) (by unfold maxLen;omega) (by omega) (by simp) ?_;intro v1 w1 ho1 hg1)
 go_ret
 refine⟨_,rfl,?_,own_grown ((Below.refl _ _).alloc (aqH _) _) hg1 (World.ownsRow_lit (e:=5) (size:=1) w #[] 0 (aqH _) (by unfold maxLen;omega) rfl) (by simp)⟩
 have:=ho1
 rw[Nat.zero_add,List.nil_append] at this
 exact this
def nmP (f:Int):Nat-> List Int-> Option (List Int×List Int)
 |0,zs=>some ([],zs)
 |k+1,zs=>match nmP f k zs with
  |none=>none
  |some (l,t)=>if hasB f k then (match numP t with
   |none=>none
   |some (n,t1)=>some (l++[n],t1)) else some (l++[0],t)
theorem nmP_by {f:Int}:∀{k:Nat} {zs t:List Int} {l:List Int},Bytey zs-> nmP f k zs=some (l,t)-> l.length=k/\ Bytey t/\ t.length<= zs.length
 |0,zs,t,l,hb,h=>by
  simp only[nmP,aqG,Prod.mk.injEq] at h
  obtain⟨rfl,rfl⟩:=h
  exact⟨rfl,hb,aqH _⟩
 |k+1,zs,t,l,hb,h=>by
  simp only[nmP] at h
  split at h
  ·cases h
  ·rename_i l' t' h1
   obtain⟨q1,q2,q3⟩:=nmP_by hb h1
   split at h
   ·split at h
    ·cases h
    ·rename_i n t1 h2
     simp only[aqG,Prod.mk.injEq] at h
     obtain⟨rfl,rfl⟩:=h
     obtain⟨q4,q5⟩:=numP_by q2 h2
     exact⟨by simp[q1],q4,by omega⟩
   ·simp only[aqG,Prod.mk.injEq] at h
    obtain⟨rfl,rfl⟩:=h
    exact⟨by simp[q1],q2,q3⟩
theorem nmP_no {f:Int} {k:Nat} {zs:List Int} (h:nmP f k zs=none):∀j,nmP f (k+j) zs=none
 |0=>h
 |j+1=>by
  have:=nmP_no h j
  show (match nmP f (k+j) zs with|none=>none|some (l,t)=>_)=none
  rw[this]
def recP:List Int-> Option (Rc×List Int)
 |[]=>none
 |k::t=>match nmP (kf k) 8 t with
  |none=>none
  |some (l,t1)=>
   if hasB (kf k) 8 then (match spsP t1 with
    |none=>none
    |some (s,t2)=>some ({mkR k l with spans:=s},t2))
   else if hasB (kf k) 9 then (match numP t1 with
    |none=>none
    |some (n,t2)=>if n<= t2.length then some ({mkR k l with data:=t2.take n.toNat},t2.drop n.toNat) else none)
   else some (mkR k l,t1)
theorem grow_new {w W:World} {rb g' i:Nat} (h:w.grownBy W (some rb)) (hg:w.heap.size<= g') (v:Value):w.grownBy (W.setCell ⟨g',i,none⟩ v) (some rb):=by
 have h1:=grown_set W g' i v
 refine⟨h1.os.trans h.os,h1.tape.trans h.tape,h1.output.trans h.output,Nat.le_trans h.size h1.size,λk hk hne=>?_⟩
 have:=h.size
 exact(h1.block k (by omega) (by simp;omega)).trans (h.block k hk hne)
theorem grow_below {w W W':World} {rb B:Nat} (h:w.grownBy W (some rb)) (hb:Below B W W') (hB:w.heap.size<= B):w.grownBy W' (some rb):=
 ⟨hb.os.trans h.os,hb.tape.trans h.tape,hb.output.trans h.output,Nat.le_trans h.size hb.size,λk hk hne=>(hb.block k (by omega)).trans (h.block k hk hne)⟩
theorem Tab6.grown {w w':World} {rb:Nat} (h:Tab6 w) (hg:w.grownBy w' (some rb)) (hr:4 < rb):Tab6 w':=λi hi=>by
 have h1:=h i hi
 exact hg.cell h1 (by simp;omega)
theorem RdS.below {w w':World} {rb g:Nat} {zs:List Int} (h:RdS w rb g zs) (hb:Below w.heap.size w w'):RdS w' rb g zs:=
 h.keep (row:=none) ⟨hb.os,hb.tape,hb.output,hb.size,λk hk _=>hb.block k hk⟩ (by simp) (by simp)
def RecPost (q:Option (Rc×List Int)) (w:World) (rb g:Nat) (e:Ending) (w':World):Prop:=
 (match q with
  |some (r,t)=>∃sv dv,e=.returned (.agg (rcC r sv dv))/\ C.SOwn w' w.heap.size sv r.spans/\ w'.ownsRow w.heap.size 5 1 dv r.data.length (r.data.map (Value.int .u8))/\ (∀j,sv.ownBlock=some j-> dv.ownBlock≠some j)/\ RdS w' rb g t
  |none=>e=.panicked pcV)/\ w.grownBy w' (some rb)
abbrev NbB (W:World) (nb:Nat) (l:List Int) (k:Nat):Prop:=Blk .i64 W nb 201 (l++List.replicate (8 - k) 0)
theorem NbB.put {W:World} {nb k:Nat} {l:List Int} {n:Int} (h:NbB W nb l k) (hl:l.length=k) (hk:k < 8):NbB (W.setCell ⟨nb,k,none⟩ (.int .i64 n)) nb (l++[n]) (k+1):=by
 have h1:=Blk.set h k n
 have e:(l++List.replicate (8 - k) (0:Int)).set k n=l++[n]++List.replicate (8 - (k+1)) 0:=by
  subst hl
  rw[List.set_append_right _ _ (aqH _),Nat.sub_self]
  obtain⟨m,hm⟩:∃m,8 - l.length=m+1:=⟨7 - l.length,by omega⟩
  rw[hm,show 8 - (l.length+1)=m by omega,List.replicate_succ,aqB]
  simp
 rw[e] at h1
 exact h1
theorem NbB.zero {W:World} {nb k:Nat} {l:List Int} (h:NbB W nb l k) (hk:k < 8):NbB W nb (l++[0]) (k+1):=by
 have e:l++List.replicate (8 - k) (0:Int)=l++[0]++List.replicate (8 - (k+1)) 0:=by
  obtain⟨m,hm⟩:∃m,8 - k=m+1:=⟨7 - k,by omega⟩
  rw[hm,show 8 - (k+1)=m by omega,List.replicate_succ]
  simp
 unfold NbB at*
 rw[←e]
 exact h
theorem NbB.at {W:World} {nb k:Nat} {l:List Int} (h:NbB W nb l k) (hl:l.length=k) (hk:k < 8):W.cell? ⟨nb,k,none⟩=some (.int .i64 0)/\ W.frozen? ⟨nb,k,none⟩=false:=by
 refine⟨(Blk.cell h k (by simp;omega)).trans ?_,Blk.frozen h k⟩
 rw[List.getD_eq_getElem?_getD,List.getElem?_append_right (by omega),hl,Nat.sub_self,List.getElem?_replicate,if_pos (by omega)]
 rfl
theorem grow_other {w W W':World} {rb g':Nat} (h:w.grownBy W (some rb)) (h1:W.grownBy W' (some g')) (hg:w.heap.size<= g'):w.grownBy W' (some rb):=by
 have:=h.size
 exact⟨h1.os.trans h.os,h1.tape.trans h.tape,h1.output.trans h.output,Nat.le_trans h.size h1.size,λk hk hne=>(h1.block k (by omega) (by simp;omega)).trans (h.block k hk hne)⟩
theorem eight {l:List Int} (h:l.length=8):∃n0 n1 n2 n3 n4 n5 n6 n7,l=[n0,n1,n2,n3,n4,n5,n6,n7]:=by
 match l,h with
 |[n0,n1,n2,n3,n4,n5,n6,n7],_=>exact⟨_,_,_,_,_,_,_,_,rfl⟩
theorem own_sl {w:World} {base size n:Nat} {e:TypeId} {v:Value} {xs:List Value} (h:w.ownsRow base e size v n xs):∃a cap,v=.slice a n cap:=by
 obtain⟨_,⟨rfl,rfl⟩|⟨g,cap,cur,rfl,_⟩⟩:=h
 ·exact⟨_,_,rfl⟩
 ·exact⟨_,_,rfl⟩
theorem not_both {k:Int} (h:hasB (kf k) 8=true):hasB (kf k) 9=false:=by
 by_cases h0:kf k=0
 ·rw[h0] at h;exact absurd h (by decide)
 ·have:=has8 h0 h;subst this;decide
theorem record_any (rb g:Nat) (zs:List Int) (w:World) (hT:Tab6 w) (h:RdS w rb g zs) (hb:Bytey zs) (hz:zs.length<= 131072) (hgl:g < w.heap.size) (hr0:4 < rb):
 Calls Tryz.prog 116 #[.pointer (some ⟨rb,0,none⟩)] w (RecPost (recP zs) w rb g):=by
 have hb0:Below w.heap.size w (w.alloc (rcO rz0 (.slice none 0 0) (.slice none 0 0))):=(Below.refl _ _).alloc (aqH _) _
 have HZ0:Hid ((w.alloc (rcO rz0 (.slice none 0 0) (.slice none 0 0))).heap[w.heap.size]?=some (rcO rz0 (.slice none 0 0) (.slice none 0 0))):=heap_new6 w _
 have hrl:=h.rblt
 have hne:=h.ne
 have HR0:Hid (RdS (w.alloc (rcO rz0 (.slice none 0 0) (.slice none 0 0))) rb g zs):=h.below hb0
 have HG0:Hid (w.grownBy (w.alloc (rcO rz0 (.slice none 0 0) (.slice none 0 0))) (some rb)):=grow_below (World.grownBy.refl _ _) hb0 (aqH _)
 have HT:Hid (Tab6 w):=hT
 have hs0:(w.alloc (rcO rz0 (.slice none 0 0) (.slice none 0 0))).heap.size=w.heap.size+1:=by simp
 clear h hT hb0
 cases zs with
 |nil=>
  have HT1:=take_no rb g [] 1 _ HR0.out (by simp)
  go_enter Tryz.func116,Tryz.ntmps116
  go_wp2_with (go_at_call 126;refine HT1.mono ?_;rintro e w1 ⟨rfl,rfl⟩)
  exact⟨rfl,rfl,HG0.out⟩
 |cons kd t0=>
  have hkd:=hb kd (by simp)
  have HBT:Hid (Bytey t0):=λz hz=>hb z (List.mem_cons_of_mem _ hz)
  have hl0:t0.length<= 131072:=by simp at hz;omega
  have HT1:=take_ok rb g (kd::t0) 1 _ HR0.out (by simp)
  have hkw:IntKind.i64.wrap kd=kd:=by rw[IntKind.wrap_i64];omega
  have HE:Hid (recP (kd::t0)=match nmP (kf kd) 8 t0 with
   |none=>none
   |some (l,t1)=>if hasB (kf kd) 8 then (match spsP t1 with|none=>none|some (s,t2)=>some ({mkR kd l with spans:=s},t2)) else if hasB (kf kd) 9 then (match numP t1 with|none=>none|some (n,t2)=>if n<= t2.length then some ({mkR kd l with data:=t2.take n.toNat},t2.drop n.toNat) else none) else some (mkR kd l,t1)):=rfl
  have HNB:Hid (hasB (kf kd) 8=true-> hasB (kf kd) 9=false):=not_both
  generalize recP (kd::t0)=Q at*
  clear hb hz
  go_enter Tryz.func116,Tryz.ntmps116
  go_upto_region 2 with (go_at_call 126;refine HT1.mono ?_;rintro e w1 ⟨⟨off,c,rfl,hkc,hcl⟩,hr1,hg1⟩;have q0:=hcl 0 (by omega);rw[Nat.add_zero] at q0;simp only[List.getD_cons_zero] at q0;have HR1:Hid (RdS w1 rb g t0):=hr1;have HG1:Hid (w.grownBy w1 (some rb)):=grown_trans HG0.out hg1;have HZ1:Hid (w1.heap[w.heap.size]?=some (rcO rz0 (.slice none 0 0) (.slice none 0 0))):=(hg1.block _ (by omega) (by simp;omega)).trans HZ0.out;have hs1:w.heap.size+1<= w1.heap.size:=(by have:=hg1.size;omega);clear hcl hr1 hg1)
  clear q0
  go_wp2_with (go_at_call 118;refine(fieldsOf_any kd _ (HT.out.grown HG1.out hr0)).mono ?_;rintro e w2 ⟨rfl,rfl⟩)
  have hb2:Below w1.heap.size w1 (w1.alloc (Obj.cells #[.int .i64 0,.int .i64 0,.int .i64 0,.int .i64 0,.int .i64 0,.int .i64 0,.int .i64 0,.int .i64 0] 201)):=(Below.refl _ _).alloc (aqH _) _
  have HN2:Hid (NbB (w1.alloc (Obj.cells #[.int .i64 0,.int .i64 0,.int .i64 0,.int .i64 0,.int .i64 0,.int .i64 0,.int .i64 0,.int .i64 0] 201)) w1.heap.size [] 0):=heap_new6 w1 _
  have hs2:(w1.alloc (Obj.cells #[.int .i64 0,.int .i64 0,.int .i64 0,.int .i64 0,.int .i64 0,.int .i64 0,.int .i64 0,.int .i64 0] 201)).heap.size=w1.heap.size+1:=by simp
  generalize w1.alloc (Obj.cells #[.int .i64 0,.int .i64 0,.int .i64 0,.int .i64 0,.int .i64 0,.int .i64 0,.int .i64 0,.int .i64 0] 201)=w2 at*
  have HR2:Hid (RdS w2 rb g t0):=HR1.out.below hb2
  have HG2:Hid (w.grownBy w2 (some rb)):=grow_below HG1.out hb2 (by omega)
  have HZ2:Hid (w2.heap[w.heap.size]?=some (rcO rz0 (.slice none 0 0) (.slice none 0 0))):=(hb2.block _ (by omega)).trans HZ1.out
  clear hb2 HR1 HG1 HZ1 HR0 HG0 HZ0 HT1
  generalize hnb:w1.heap.size=nb at*
  have hnb1:w.heap.size < nb:=by omega
  generalize kf kd=f at*
  go_loopw [15] (λi wr=>∃(k:Nat) (l t:List Int),k<= 8/\ i=.int .i64 k/\ nmP f k t0=some (l,t)/\ NbB wr nb l k/\ RdS wr rb g t/\ w.grownBy wr (some rb)/\ wr.heap[w.heap.size]?=some (rcO rz0 (.slice none 0 0) (.slice none 0 0))/\ nb < wr.heap.size) (λi _=>8 - (intOf i).toNat)
  case atStart=>exact⟨0,[],t0,by omega,rfl,rfl,HN2.out,HR2.out,HG2.out,HZ2.out,by omega⟩
  case round=>
   obtain⟨k,l,t,hk,rfl,hnp,hnb2,hrd,hgr,hzz,hnl⟩:=hrel
   have HNP:Hid (nmP f k t0=some (l,t)):=hnp
   have HNb:Hid (NbB wr nb l k):=hnb2
   have HRD:Hid (RdS wr rb g t):=hrd
   have HGR:Hid (w.grownBy wr (some rb)):=hgr
   have HZZ:Hid (wr.heap[w.heap.size]?=some (rcO rz0 (.slice none 0 0) (.slice none 0 0))):=hzz
   obtain⟨hll,hbt,hlt⟩:=nmP_by HBT.out hnp
   have HBt:Hid (Bytey t):=hbt
   have hsw:=hgr.size
   clear hnp hnb2 hrd hgr hzz hbt HN2 HR2 HG2 HZ2
   by_cases hk8:k < 8
   ·have hk8':(k:Int) < 8:=by omega
    obtain⟨b,hbv⟩:∃b,hasB f k=b:=⟨_,rfl⟩
    have HH:Hid (∀W,Calls Tryz.prog 122 #[.int .u16 f,.int .i64 k] W λe w'=>e=.returned (.bool b)/\ W=w'):=λW=>hbv ▸ rhas_any f k W (by omega)
    obtain⟨n0,n1⟩:=HNb.out.at hll hk8
    cases b with
    |false=>
     have HP1:Hid (nmP f (k+1) t0=some (l++[0],t)):=by unfold Hid;simp only[nmP,HNP.out,hbv];simp
     clear hbv
     go_wp2_with (go_at_call 122;refine(HH.out _).mono ?_;rintro e w3 ⟨rfl,rfl⟩)
     go_roundw
     case rel=>exact⟨k+1,l++[0],t,by omega,by go_num,HP1.out,HNb.out.zero hk8,HRD.out,HGR.out,HZZ.out,hnl⟩
     case measure=>simp[intOf];omega
    |true=>
     cases hn1:numP t with
     |none=>
      have HQN:Hid (Q=none):=by
       have h1:nmP f (k+1) t0=none:=by simp only[nmP,HNP.out,hbv,hn1];simp
       have h2:=nmP_no h1 (8 - (k+1))
       rw[show k+1+(8 - (k+1))=8 by omega] at h2
       unfold Hid;rw[HE.out,h2]
      have HN1:=num_no rb g t wr HRD.out HBt.out hn1
      clear hn1 hbv
      go_wp2_with (first|(go_at_call 122;refine(HH.out _).mono ?_;rintro e w3 ⟨rfl,rfl⟩)|(go_at_call 127;refine HN1.mono ?_;rintro e w3 ⟨rfl,rfl⟩))
      refine⟨rfl,?_⟩
      show RecPost Q w rb g _ _
      rw[HQN.out]
      exact⟨rfl,HGR.out⟩
     |some p1=>
      obtain⟨n,t1⟩:=p1
      have HP1:Hid (nmP f (k+1) t0=some (l++[n],t1)):=by unfold Hid;simp only[nmP,HNP.out,hbv,hn1];simp
      have HN1:=num_ok rb g t t1 n wr HRD.out HBt.out hn1
      clear hn1 hbv
      go_wp2_with (first|(go_at_call 122;refine(HH.out _).mono ?_;rintro e w3 ⟨rfl,rfl⟩)|(go_at_call 127;refine HN1.mono ?_;rintro e w3 ⟨rfl,hr3,hg3⟩;have HB3:Hid (NbB w3 nb l k):=(hg3.block nb hnl (by simp;omega)).trans HNb.out;obtain⟨m0,m1⟩:=HB3.out.at hll hk8;have HR3:Hid (RdS w3 rb g t1):=hr3;have HG3:Hid (w.grownBy w3 (some rb)):=grown_trans HGR.out hg3;have HZ3:Hid (w3.heap[w.heap.size]?=some (rcO rz0 (.slice none 0 0) (.slice none 0 0))):=(hg3.block _ (by omega) (by simp;omega)).trans HZZ.out;have hs3:=hg3.size;clear hr3 hg3))
      have HB4:Hid (NbB (w3.setCell ⟨nb,k,none⟩ (.int .i64 n)) nb (l++[n]) (k+1)):=HB3.out.put hll hk8
      have HR4:Hid (RdS (w3.setCell ⟨nb,k,none⟩ (.int .i64 n)) rb g t1):=HR3.out.keep (grown_set _ _ _ _) (by simp;omega) (by simp;omega)
      have HG4:Hid (w.grownBy (w3.setCell ⟨nb,k,none⟩ (.int .i64 n)) (some rb)):=grow_new HG3.out (by omega) _
      have HZ4:Hid ((w3.setCell ⟨nb,k,none⟩ (.int .i64 n)).heap[w.heap.size]?=some (rcO rz0 (.slice none 0 0) (.slice none 0 0))):=((grown_set w3 nb k (.int .i64 n)).block _ (by omega) (by simp;omega)).trans HZ3.out
      have hs4:(w3.setCell ⟨nb,k,none⟩ (.int .i64 n)).heap.size=w3.heap.size:=by simp[World.setCell]
      go_roundw
      case rel=>exact⟨k+1,l++[n],t1,by omega,by go_num,HP1.out,HB4.out,HR4.out,HG4.out,HZ4.out,by omega⟩
      case measure=>simp[intOf];omega
   ·obtain rfl:k=8:=by omega
    obtain⟨n0,n1,n2,n3,n4,n5,n6,n7,rfl⟩:=eight hll
    have e0:wr.cell? ⟨nb,0,none⟩=some (.int .i64 n0):=Blk.cell HNb.out 0 (by simp)
    have e1:wr.cell? ⟨nb,1,none⟩=some (.int .i64 n1):=Blk.cell HNb.out 1 (by simp)
    have e2:wr.cell? ⟨nb,2,none⟩=some (.int .i64 n2):=Blk.cell HNb.out 2 (by simp)
    have e3:wr.cell? ⟨nb,3,none⟩=some (.int .i64 n3):=Blk.cell HNb.out 3 (by simp)
    have e4:wr.cell? ⟨nb,4,none⟩=some (.int .i64 n4):=Blk.cell HNb.out 4 (by simp)
    have e5:wr.cell? ⟨nb,5,none⟩=some (.int .i64 n5):=Blk.cell HNb.out 5 (by simp)
    have e6:wr.cell? ⟨nb,6,none⟩=some (.int .i64 n6):=Blk.cell HNb.out 6 (by simp)
    have e7:wr.cell? ⟨nb,7,none⟩=some (.int .i64 n7):=Blk.cell HNb.out 7 (by simp)
    have HQ0:Hid (Q=if hasB f 8 then (match spsP t with|none=>none|some (s,t2)=>some ({(⟨kd,n0,n1,n2,n3,n4,n5,n6,n7,[],[]⟩:Rc) with spans:=s},t2)) else if hasB f 9 then (match numP t with|none=>none|some (n,t2)=>if n<= t2.length then some ({(⟨kd,n0,n1,n2,n3,n4,n5,n6,n7,[],[]⟩:Rc) with data:=t2.take n.toNat},t2.drop n.toNat) else none) else some ((⟨kd,n0,n1,n2,n3,n4,n5,n6,n7,[],[]⟩:Rc),t)):=by
     unfold Hid;rw[HE.out,HNP.out];rfl
    have ht0:t.length<= 131072:=by omega
    clear HE HNP
    go_upto_region 11 with (go_at_call 128;refine(numrec_any kd n0 n1 n2 n3 n4 n5 n6 n7 _).mono ?_;rintro e w4 ⟨rfl,hb4⟩)
    have hs4:=hb4.size
    have hb5:Below w4.heap.size w4 (w4.alloc (rcO (⟨kd,n0,n1,n2,n3,n4,n5,n6,n7,[],[]⟩:Rc) (.slice none 0 0) (.slice none 0 0))):=(Below.refl _ _).alloc (aqH _) _
    have HX5:Hid ((w4.alloc (rcO (⟨kd,n0,n1,n2,n3,n4,n5,n6,n7,[],[]⟩:Rc) (.slice none 0 0) (.slice none 0 0))).heap[w4.heap.size]?=some (rcO (⟨kd,n0,n1,n2,n3,n4,n5,n6,n7,[],[]⟩:Rc) (.slice none 0 0) (.slice none 0 0))):=heap_new6 w4 _
    have hs5:(w4.alloc (rcO (⟨kd,n0,n1,n2,n3,n4,n5,n6,n7,[],[]⟩:Rc) (.slice none 0 0) (.slice none 0 0))).heap.size=w4.heap.size+1:=by simp
    generalize w4.alloc (rcO (⟨kd,n0,n1,n2,n3,n4,n5,n6,n7,[],[]⟩:Rc) (.slice none 0 0) (.slice none 0 0))=w5 at*
    have HR5:Hid (RdS w5 rb g t):=(HRD.out.below hb4).below hb5
    have HG5:Hid (w.grownBy w5 (some rb)):=grow_below (grow_below HGR.out hb4 (by omega)) hb5 (by omega)
    have HZ5:Hid (w5.heap[w.heap.size]?=some (rcO rz0 (.slice none 0 0) (.slice none 0 0))):=(hb5.block _ (by omega)).trans ((hb4.block _ (by omega)).trans HZZ.out)
    clear hb4 hb5 e0 e1 e2 e3 e4 e5 e6 e7 HRD HGR HZZ HNb
    generalize hbx:w4.heap.size=bx at*
    cases hb8:hasB f 8 with
    |false=>
     have H8h:Hid (∀W,Calls Tryz.prog 122 #[.int .u16 f,.int .i64 8] W λe w'=>e=.returned (.bool false)/\ W=w'):=λW=>hb8 ▸ rhas_any f 8 W (by omega)
     cases hb9:hasB f 9 with
     |false=>
      have H9h:Hid (∀W,Calls Tryz.prog 122 #[.int .u16 f,.int .i64 9] W λe w'=>e=.returned (.bool false)/\ W=w'):=λW=>hb9 ▸ rhas_any f 9 W (by omega)
      have HQ:Hid (Q=some ((⟨kd,n0,n1,n2,n3,n4,n5,n6,n7,[],[]⟩:Rc),t)):=by unfold Hid;rw[HQ0.out,hb8,hb9];rfl
      have HSO:Hid (C.SOwn w5 w5.heap.size (.slice none 0 0) []):=C.SOwn.nil _ _
      have HDO:Hid (w5.ownsRow w5.heap.size 5 1 (.slice none 0 0) 0 []):=World.ownsRow_nil _ _ _ _
      clear HQ0 hb8 hb9
      obtain⟨x0,x1,x2,x3,x4,x5,x6,x7,x8,x9,x10⟩:=rc_cells HX5.out
      obtain⟨y0,y1,y2,y3,y4,y5,y6,y7,y8,y9,y10⟩:=rc_cells HZ5.out
      have fz:=rc_frozen HZ5.out
      go_wp2_with (first|(go_at_call_of 122 (Value.int .i64 8);refine(H8h.out _).mono ?_;rintro e w' ⟨rfl,rfl⟩)|(go_at_call_of 122 (Value.int .i64 9);refine(H9h.out _).mono ?_;rintro e w' ⟨rfl,rfl⟩))
      change bodyPost _ _ _ _ _ (rS w5 w.heap.size (⟨kd,n0,n1,n2,n3,n4,n5,n6,n7,[],[]⟩:Rc) (.slice none 0 0) (.slice none 0 0))
      have hlv:=λj=>cell_of_row _ w.heap.size j _ _ _ (rS_heap w5 w.heap.size (⟨kd,n0,n1,n2,n3,n4,n5,n6,n7,[],[]⟩:Rc) rz0 (.slice none 0 0) (.slice none 0 0) _ _ HZ5.out)
      have hrg:=rS_grown w5 w.heap.size (⟨kd,n0,n1,n2,n3,n4,n5,n6,n7,[],[]⟩:Rc) (.slice none 0 0) (.slice none 0 0)
      generalize rS w5 w.heap.size (⟨kd,n0,n1,n2,n3,n4,n5,n6,n7,[],[]⟩:Rc) (.slice none 0 0) (.slice none 0 0)=WF at*
      clear x0 x1 x2 x3 x4 x5 x6 x7 x8 x9 x10 y0 y1 y2 y3 y4 y5 y6 y7 y8 y9 y10 fz
      refine bodyPost_ret (v:=.agg (rcC (⟨kd,n0,n1,n2,n3,n4,n5,n6,n7,[],[]⟩:Rc) (.slice none 0 0) (.slice none 0 0))) (by simp[results,Tryz.results116,go_sem,rcC,hlv]) rfl ?_
      show RecPost Q w rb g _ _
      rw[HQ.out]
      exact⟨⟨(.slice none 0 0),(.slice none 0 0),rfl,own_base6 (own_keep6 HSO.out hrg (by intro j hj;have:=(HSO.out.lt j hj).1;simp;omega)) (by omega),own_base6 (own_keep6 HDO.out hrg (by intro j hj;have:=(HDO.out.lt j hj).1;simp;omega)) (by omega),(λj hj=>by simp[Value.ownBlock] at hj),HR5.out.keep hrg (by simp;omega) (by simp;omega)⟩,grow_other HG5.out hrg (aqH _)⟩
     |true=>
      have H9h:Hid (∀W,Calls Tryz.prog 122 #[.int .u16 f,.int .i64 9] W λe w'=>e=.returned (.bool true)/\ W=w'):=λW=>hb9 ▸ rhas_any f 9 W (by omega)
      have HSO:Hid (C.SOwn w5 w5.heap.size (.slice none 0 0) []):=C.SOwn.nil _ _
      cases hn1:numP t with
      |none=>
       have HQN:Hid (Q=none):=by unfold Hid;rw[HQ0.out,hb8,hb9,hn1];rfl
       have HN1:=num_no rb g t w5 HR5.out HBt.out hn1
       clear HQ0 hb8 hb9 hn1
       go_wp2_with (first|(go_at_call_of 122 (Value.int .i64 8);refine(H8h.out _).mono ?_;rintro e w' ⟨rfl,rfl⟩)|(go_at_call_of 122 (Value.int .i64 9);refine(H9h.out _).mono ?_;rintro e w' ⟨rfl,rfl⟩)|(go_at_call 127;refine HN1.mono ?_;rintro e w3 ⟨rfl,rfl⟩))
       refine⟨rfl,?_⟩
       show RecPost Q w rb g _ _
       rw[HQN.out]
       exact⟨rfl,HG5.out⟩
      |some p1=>
       obtain⟨n,t1⟩:=p1
       have HN1:=num_ok rb g t t1 n w5 HR5.out HBt.out hn1
       obtain⟨hn0',hn1'⟩:=numP_bd HBt.out hn1
       obtain⟨hbt1,hlt1⟩:=numP_by HBt.out hn1
       obtain⟨m,rfl⟩:∃m:Nat,n=(m:Int):=⟨n.toNat,by omega⟩
       by_cases hmt:m<= t1.length
       ·have HQ:Hid (Q=some (⟨kd,n0,n1,n2,n3,n4,n5,n6,n7,[],t1.take m⟩,t1.drop m)):=by unfold Hid;rw[HQ0.out,hb8,hb9,hn1];simp only[Bool.false_eq_true,if_false,if_true];rw[if_pos (by omega)];rfl
        clear HQ0 hb8 hb9 hn1
        have htl:(t1.take m).length=m:=by rw[List.length_take];omega
        go_upto_region 15 with (first|(go_at_call_of 122 (Value.int .i64 8);refine(H8h.out _).mono ?_;rintro e w' ⟨rfl,rfl⟩)|(go_at_call_of 122 (Value.int .i64 9);refine(H9h.out _).mono ?_;rintro e w' ⟨rfl,rfl⟩)|(go_at_call 127;refine HN1.mono ?_;rintro e w6 ⟨rfl,hr6,hg6⟩;have HR6:Hid (RdS w6 rb g t1):=hr6;have HG6:Hid (w.grownBy w6 (some rb)):=grown_trans HG5.out hg6;have HZ6:Hid (w6.heap[w.heap.size]?=some (rcO rz0 (.slice none 0 0) (.slice none 0 0))):=(hg6.block _ (by omega) (by simp;omega)).trans HZ5.out;have HX6:Hid (w6.heap[bx]?=some (rcO (⟨kd,n0,n1,n2,n3,n4,n5,n6,n7,[],[]⟩:Rc) (.slice none 0 0) (.slice none 0 0))):=(hg6.block _ (by omega) (by simp;omega)).trans HX5.out;have hs6:=hg6.size;clear hr6 hg6)|(go_at_call 126;refine(take_ok rb g t1 m _ HR6.out hmt).mono ?_;rintro e w7 ⟨⟨off7,c7,rfl,hkc7,hcl7⟩,hr7,hg7⟩;have HC7:Hid (∀i,i < m-> w7.cell? ⟨g,off7+i,none⟩=some (.int .u8 ((t1.take m).getD i 0))):=(λi hi=>(hcl7 i hi).trans (by rw[List.getD_eq_getElem?_getD,List.getD_eq_getElem?_getD,List.getElem?_take,if_pos hi]));have HR7:Hid (RdS w7 rb g (t1.drop m)):=hr7;have HG7:Hid (w.grownBy w7 (some rb)):=grown_trans HG6.out hg7;have HZ7:Hid (w7.heap[w.heap.size]?=some (rcO rz0 (.slice none 0 0) (.slice none 0 0))):=(hg7.block _ (by omega) (by simp;omega)).trans HZ6.out;have HX7:Hid (w7.heap[bx]?=some (rcO (⟨kd,n0,n1,n2,n3,n4,n5,n6,n7,[],[]⟩:Rc) (.slice none 0 0) (.slice none 0 0))):=(hg7.block _ (by omega) (by simp;omega)).trans HX6.out;have hs7:=hg7.size;clear hr7 hg7 hcl7)|(go_at_call 130;refine(clone_any g off7 m c7 (t1.take m) _ htl (by omega) HC7.out).mono ?_;rintro e w8 ⟨dv,rfl,ho8,hb8'⟩;obtain⟨da8,dc8,rfl⟩:=own_sl ho8;have HD8:Hid (w8.ownsRow w7.heap.size 5 1 (.slice da8 m dc8) m ((t1.take m).map (Value.int .u8))):=ho8;have HR8:Hid (RdS w8 rb g (t1.drop m)):=HR7.out.below hb8';have HG8:Hid (w.grownBy w8 (some rb)):=grow_below HG7.out hb8' (by omega);have HZ8:Hid (w8.heap[w.heap.size]?=some (rcO rz0 (.slice none 0 0) (.slice none 0 0))):=(hb8'.block _ (by omega)).trans HZ7.out;have HX8:Hid (w8.heap[bx]?=some (rcO (⟨kd,n0,n1,n2,n3,n4,n5,n6,n7,[],[]⟩:Rc) (.slice none 0 0) (.slice none 0 0))):=(hb8'.block _ (by omega)).trans HX7.out;have hs8:=hb8'.size;obtain⟨z0,z1,z2,z3,z4,z5,z6,z7,z8,z9,z10⟩:=rc_cells HX8.out;have fx:=rc_frozen HX8.out;clear ho8 hb8'))
        have hgx:=grown_set w8 bx 10 (.slice da8 m dc8)
        have HX9:Hid ((w8.setCell ⟨bx,10,none⟩ (.slice da8 m dc8)).heap[bx]?=some (rcO (⟨kd,n0,n1,n2,n3,n4,n5,n6,n7,[],[]⟩:Rc) (.slice none 0 0) (.slice da8 m dc8))):=by unfold Hid;simp[World.setCell,Array.getElem?_modify,HX8.out]
        have HZ9:Hid ((w8.setCell ⟨bx,10,none⟩ (.slice da8 m dc8)).heap[w.heap.size]?=some (rcO rz0 (.slice none 0 0) (.slice none 0 0))):=(hgx.block _ (by omega) (by simp;omega)).trans HZ8.out
        have HR9:Hid (RdS (w8.setCell ⟨bx,10,none⟩ (.slice da8 m dc8)) rb g (t1.drop m)):=HR8.out.keep hgx (by simp;omega) (by simp;omega)
        have HG9:Hid (w.grownBy (w8.setCell ⟨bx,10,none⟩ (.slice da8 m dc8)) (some rb)):=grow_new HG8.out (by omega) _
        have HD9:Hid ((w8.setCell ⟨bx,10,none⟩ (.slice da8 m dc8)).ownsRow w7.heap.size 5 1 (.slice da8 m dc8) m ((t1.take m).map (Value.int .u8))):=own_keep6 HD8.out hgx (by intro j hj;have:=(HD8.out.lt j hj).1;simp;omega)
        have HS9:Hid (C.SOwn (w8.setCell ⟨bx,10,none⟩ (.slice da8 m dc8)) w7.heap.size (.slice none 0 0) []):=C.SOwn.nil _ _
        clear z0 z1 z2 z3 z4 z5 z6 z7 z8 z9 z10 fx hgx
        generalize w8.setCell ⟨bx,10,none⟩ (.slice da8 m dc8)=w9 at*
        obtain⟨x0,x1,x2,x3,x4,x5,x6,x7,x8,x9,x10⟩:=rc_cells HX9.out
        obtain⟨y0,y1,y2,y3,y4,y5,y6,y7,y8,y9,y10⟩:=rc_cells HZ9.out
        have fz:=rc_frozen HZ9.out
        go_wp2_with (first|(go_at_call_of 122 (Value.int .i64 8);refine(H8h.out _).mono ?_;rintro e w' ⟨rfl,rfl⟩)|(go_at_call_of 122 (Value.int .i64 9);refine(H9h.out _).mono ?_;rintro e w' ⟨rfl,rfl⟩))
        change bodyPost _ _ _ _ _ (rS w9 w.heap.size (⟨kd,n0,n1,n2,n3,n4,n5,n6,n7,[],[]⟩:Rc) (.slice none 0 0) (.slice da8 m dc8))
        have hlv:=λj=>cell_of_row _ w.heap.size j _ _ _ (rS_heap w9 w.heap.size (⟨kd,n0,n1,n2,n3,n4,n5,n6,n7,[],[]⟩:Rc) rz0 (.slice none 0 0) (.slice da8 m dc8) _ _ HZ9.out)
        have hrg:=rS_grown w9 w.heap.size (⟨kd,n0,n1,n2,n3,n4,n5,n6,n7,[],[]⟩:Rc) (.slice none 0 0) (.slice da8 m dc8)
        generalize rS w9 w.heap.size (⟨kd,n0,n1,n2,n3,n4,n5,n6,n7,[],[]⟩:Rc) (.slice none 0 0) (.slice da8 m dc8)=WF at*
        clear x0 x1 x2 x3 x4 x5 x6 x7 x8 x9 x10 y0 y1 y2 y3 y4 y5 y6 y7 y8 y9 y10 fz
        refine bodyPost_ret (v:=.agg (rcC (⟨kd,n0,n1,n2,n3,n4,n5,n6,n7,[],[]⟩:Rc) (.slice none 0 0) (.slice da8 m dc8))) (by simp[results,Tryz.results116,go_sem,rcC,hlv]) rfl ?_
        show RecPost Q w rb g _ _
        rw[HQ.out]
        exact⟨⟨(.slice none 0 0),(.slice da8 m dc8),rfl,own_base6 (own_keep6 HS9.out hrg (by intro j hj;have:=(HS9.out.lt j hj).1;simp;omega)) (by omega),own_base6 (own_keep6 (grow_to HD9.out htl.symm) hrg (by intro j hj;have:=((grow_to HD9.out htl.symm).lt j hj).1;simp;omega)) (by omega),(λj hj=>by simp[Value.ownBlock] at hj),HR9.out.keep hrg (by simp;omega) (by simp;omega)⟩,grow_other HG9.out hrg (aqH _)⟩
       ·have HQN:Hid (Q=none):=by unfold Hid;rw[HQ0.out,hb8,hb9,hn1];simp only[Bool.false_eq_true,if_false,if_true];rw[if_neg (by omega)]
        clear HQ0 hb8 hb9 hn1
        go_wp2_with (first|(go_at_call_of 122 (Value.int .i64 8);refine(H8h.out _).mono ?_;rintro e w' ⟨rfl,rfl⟩)|(go_at_call_of 122 (Value.int .i64 9);refine(H9h.out _).mono ?_;rintro e w' ⟨rfl,rfl⟩)|(go_at_call 127;refine HN1.mono ?_;rintro e w6 ⟨rfl,hr6,hg6⟩)|(go_at_call 126;refine(take_no rb g t1 m _ hr6 (by omega)).mono ?_;rintro e w7 ⟨rfl,rfl⟩))
        refine⟨rfl,?_⟩
        show RecPost Q w rb g _ _
        rw[HQN.out]
        exact⟨rfl,grown_trans HG5.out hg6⟩
    |true=>
     have H8h:Hid (∀W,Calls Tryz.prog 122 #[.int .u16 f,.int .i64 8] W λe w'=>e=.returned (.bool true)/\ W=w'):=λW=>hb8 ▸ rhas_any f 8 W (by omega)
     have hb9:=HNB.out hb8
     have H9h:Hid (∀W,Calls Tryz.prog 122 #[.int .u16 f,.int .i64 9] W λe w'=>e=.returned (.bool false)/\ W=w'):=λW=>hb9 ▸ rhas_any f 9 W (by omega)
     have HSP:=spans_any rb g t w5 HR5.out HBt.out ht0 (by omega)
     cases hs1:spsP t with
     |none=>
      have HQN:Hid (Q=none):=by unfold Hid;rw[HQ0.out,hb8,hs1];rfl
      rw[hs1] at HSP
      clear HQ0 hb8 hb9 hs1
      go_wp2_with (first|(go_at_call_of 122 (Value.int .i64 8);refine(H8h.out _).mono ?_;rintro e w' ⟨rfl,rfl⟩)|(go_at_call_of 122 (Value.int .i64 9);refine(H9h.out _).mono ?_;rintro e w' ⟨rfl,rfl⟩)|(go_at_call 129;refine HSP.mono ?_;rintro e w6 ⟨hee,hg6⟩;simp only at hee;subst hee))
      refine⟨rfl,?_⟩
      show RecPost Q w rb g _ _
      rw[HQN.out]
      exact⟨rfl,grown_trans HG5.out hg6⟩
     |some p1=>
      obtain⟨sl,t1⟩:=p1
      have HQ:Hid (Q=some (⟨kd,n0,n1,n2,n3,n4,n5,n6,n7,sl,[]⟩,t1)):=by unfold Hid;rw[HQ0.out,hb8,hs1];rfl
      rw[hs1] at HSP
      clear HQ0 hb8 hb9 hs1
      go_upto_region 13 with (first|(go_at_call_of 122 (Value.int .i64 8);refine(H8h.out _).mono ?_;rintro e w' ⟨rfl,rfl⟩)|(go_at_call_of 122 (Value.int .i64 9);refine(H9h.out _).mono ?_;rintro e w' ⟨rfl,rfl⟩)|(go_at_call 129;refine HSP.mono ?_;rintro e w6 ⟨⟨sv,rfl,hso6,hr6⟩,hg6⟩;obtain⟨sa8,sc8,rfl⟩:=own_sl hso6;have HS6:Hid (C.SOwn w6 w5.heap.size (.slice sa8 sl.length sc8) sl):=hso6;have HR6:Hid (RdS w6 rb g t1):=hr6;have HG6:Hid (w.grownBy w6 (some rb)):=grown_trans HG5.out hg6;have HZ6:Hid (w6.heap[w.heap.size]?=some (rcO rz0 (.slice none 0 0) (.slice none 0 0))):=(hg6.block _ (by omega) (by simp;omega)).trans HZ5.out;have HX6:Hid (w6.heap[bx]?=some (rcO (⟨kd,n0,n1,n2,n3,n4,n5,n6,n7,[],[]⟩:Rc) (.slice none 0 0) (.slice none 0 0))):=(hg6.block _ (by omega) (by simp;omega)).trans HX5.out;have hs6:=hg6.size;obtain⟨z0,z1,z2,z3,z4,z5,z6,z7,z8,z9,z10⟩:=rc_cells HX6.out;have fx:=rc_frozen HX6.out;clear hr6 hg6 hso6))
      have hgx:=grown_set w6 bx 9 (.slice sa8 sl.length sc8)
      have HX9:Hid ((w6.setCell ⟨bx,9,none⟩ (.slice sa8 sl.length sc8)).heap[bx]?=some (rcO (⟨kd,n0,n1,n2,n3,n4,n5,n6,n7,[],[]⟩:Rc) (.slice sa8 sl.length sc8) (.slice none 0 0))):=by unfold Hid;simp[World.setCell,Array.getElem?_modify,HX6.out]
      have HZ9:Hid ((w6.setCell ⟨bx,9,none⟩ (.slice sa8 sl.length sc8)).heap[w.heap.size]?=some (rcO rz0 (.slice none 0 0) (.slice none 0 0))):=(hgx.block _ (by omega) (by simp;omega)).trans HZ6.out
      have HR9:Hid (RdS (w6.setCell ⟨bx,9,none⟩ (.slice sa8 sl.length sc8)) rb g t1):=HR6.out.keep hgx (by simp;omega) (by simp;omega)
      have HG9:Hid (w.grownBy (w6.setCell ⟨bx,9,none⟩ (.slice sa8 sl.length sc8)) (some rb)):=grow_new HG6.out (by omega) _
      have HS9:Hid (C.SOwn (w6.setCell ⟨bx,9,none⟩ (.slice sa8 sl.length sc8)) w5.heap.size (.slice sa8 sl.length sc8) sl):=own_keep6 HS6.out hgx (by intro j hj;have:=(HS6.out.lt j hj).1;simp;omega)
      have HD9:Hid ((w6.setCell ⟨bx,9,none⟩ (.slice sa8 sl.length sc8)).ownsRow w5.heap.size 5 1 (.slice none 0 0) 0 []):=World.ownsRow_nil _ _ _ _
      clear z0 z1 z2 z3 z4 z5 z6 z7 z8 z9 z10 fx hgx
      generalize w6.setCell ⟨bx,9,none⟩ (.slice sa8 sl.length sc8)=w9 at*
      obtain⟨x0,x1,x2,x3,x4,x5,x6,x7,x8,x9,x10⟩:=rc_cells HX9.out
      obtain⟨y0,y1,y2,y3,y4,y5,y6,y7,y8,y9,y10⟩:=rc_cells HZ9.out
      have fz:=rc_frozen HZ9.out
      go_wp2_with (first|(go_at_call_of 122 (Value.int .i64 8);refine(H8h.out _).mono ?_;rintro e w' ⟨rfl,rfl⟩)|(go_at_call_of 122 (Value.int .i64 9);refine(H9h.out _).mono ?_;rintro e w' ⟨rfl,rfl⟩))
      change bodyPost _ _ _ _ _ (rS w9 w.heap.size (⟨kd,n0,n1,n2,n3,n4,n5,n6,n7,[],[]⟩:Rc) (.slice sa8 sl.length sc8) (.slice none 0 0))
      have hlv:=λj=>cell_of_row _ w.heap.size j _ _ _ (rS_heap w9 w.heap.size (⟨kd,n0,n1,n2,n3,n4,n5,n6,n7,[],[]⟩:Rc) rz0 (.slice sa8 sl.length sc8) (.slice none 0 0) _ _ HZ9.out)
      have hrg:=rS_grown w9 w.heap.size (⟨kd,n0,n1,n2,n3,n4,n5,n6,n7,[],[]⟩:Rc) (.slice sa8 sl.length sc8) (.slice none 0 0)
      generalize rS w9 w.heap.size (⟨kd,n0,n1,n2,n3,n4,n5,n6,n7,[],[]⟩:Rc) (.slice sa8 sl.length sc8) (.slice none 0 0)=WF at*
      clear x0 x1 x2 x3 x4 x5 x6 x7 x8 x9 x10 y0 y1 y2 y3 y4 y5 y6 y7 y8 y9 y10 fz
      refine bodyPost_ret (v:=.agg (rcC (⟨kd,n0,n1,n2,n3,n4,n5,n6,n7,[],[]⟩:Rc) (.slice sa8 sl.length sc8) (.slice none 0 0))) (by simp[results,Tryz.results116,go_sem,rcC,hlv]) rfl ?_
      show RecPost Q w rb g _ _
      rw[HQ.out]
      exact⟨⟨(.slice sa8 sl.length sc8),(.slice none 0 0),rfl,own_base6 (own_keep6 HS9.out hrg (by intro j hj;have:=(HS9.out.lt j hj).1;simp;omega)) (by omega),own_base6 (own_keep6 HD9.out hrg (by intro j hj;have:=(HD9.out.lt j hj).1;simp;omega)) (by omega),(λj hj hj2=>by simp[Value.ownBlock] at hj2),HR9.out.keep hrg (by simp;omega) (by simp;omega)⟩,grow_other HG9.out hrg (aqH _)⟩
end Go.Proofs.YtllhbhogfffedaaGreatDoor
