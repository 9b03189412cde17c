import Derived.Test.YtllhbhogfffedaaGreatDoorRead
import Derived.Maps.AppendAt
import Derived.Laws.AppendOwnNone
import Derived.Laws.OwnMore
import Derived.Deep.RegionHeld3
import Derived.OrdersHeld
import Derived.BigQuiet
set_option maxHeartbeats 4000000
set_option maxRecDepth 100000
namespace Go.Proofs.YtllhbhogfffedaaGreatDoor.K
open Go.RowKit
set_option linter.unusedVariables false
set_option linter.unusedSimpArgs false
def calmD (Q:Exit-> Act-> World-> Prop):Exit-> Act-> World-> Prop
 | .panic _,_,_=>False
 |e,a,w=>Q e a w
theorem calmD_le {Q:Exit-> Act-> World-> Prop} {e:Exit} {a:Act} {w:World} (h:calmD Q e a w):Q e a w:=by
 cases e<;>first|exact h|exact h.elim
structure Fl where
 nm:ByteArray
 bs:List Int
 sf:Int
structure Dk where
 fs:List Fl
 room:Int
 arm:Bool
 acts:Int
 dn:Bool
 dw:Bool
def isN (s:ByteArray) (f:Fl):Bool:=f.nm.toList == s.toList
def fnd (fs:List Fl) (s:ByteArray):Option Nat:=fs.findIdx? (isN s)
def fI (fs:List Fl) (s:ByteArray):Int:=match fnd fs s with|some i=>(i:Int)|none=>-1
def usd:List Fl-> Nat
 |[]=>0
 |f::r=>f.bs.length+usd r
theorem usd_append (a b:List Fl):usd (a++b)=usd a+usd b:=by
 induction a with
 |nil=>simp[usd]
 |cons f r ih=>simp only[List.cons_append,usd,ih];omega
structure Fl.Ok (f:Fl):Prop where
 byt:Bytey f.bs
 lo:0<= f.sf
 hi:f.sf<= f.bs.length
structure Dk.Ok (D:Dk) (B:Nat):Prop where
 fs:∀f∈D.fs,f.Ok
 len:D.fs.length<= B
 used:usd D.fs<= B
 room:0<= D.room/\ D.room<= 9223372036854775807
 acts:0<= D.acts/\ D.acts<= 9223372036854775807
theorem usd_get:∀{fs:List Fl} {i:Nat} {f:Fl},fs[i]?=some f-> f.bs.length<= usd fs
 |g::r,0,f,h=>by simp at h;subst h;simp only[usd];omega
 |g::r,i+1,f,h=>by
  have:=usd_get (fs:=r) (i:=i) (f:=f) (by simpa using h)
  simp only[usd];omega
theorem usd_take_succ:∀{fs:List Fl} {i:Nat} {f:Fl},fs[i]?=some f-> usd (fs.take (i+1))=usd (fs.take i)+f.bs.length
 |g::r,0,f,h=>by simp at h;subst h;simp[usd]
 |g::r,i+1,f,h=>by
  have:=usd_take_succ (fs:=r) (i:=i) (f:=f) (by simpa using h)
  simp only[List.take_succ_cons,usd,this];omega
theorem usd_take_le:∀(fs:List Fl) (i:Nat),usd (fs.take i)<= usd fs
 |[],i=>by simp[usd]
 |f::r,0=>by simp[usd]
 |f::r,i+1=>by
  have:=usd_take_le r i
  simp only[List.take_succ_cons,usd];omega
theorem fnd_some {fs:List Fl} {s:ByteArray} {i:Nat} {f:Fl} (h1:∀j g,j < i-> fs[j]?=some g-> isN s g=false) (h2:fs[i]?=some f) (h3:isN s f=true):fnd fs s=some i:=by
 unfold fnd
 rw[List.findIdx?_eq_some_iff_getElem]
 have hl:=(List.getElem?_eq_some_iff.mp h2)
 refine⟨hl.1,by rw[hl.2];exact h3,λj hj=>?_⟩
 have:=h1 j _ hj (List.getElem?_eq_getElem (Nat.lt_trans hj hl.1))
 simp[this]
theorem fnd_none {fs:List Fl} {s:ByteArray} (h1:∀j g,j < fs.length-> fs[j]?=some g-> isN s g=false):fnd fs s=none:=by
 unfold fnd
 rw[List.findIdx?_eq_none_iff]
 intro x hx
 obtain⟨i,hi⟩:=List.getElem?_of_mem hx
 exact h1 i x (List.getElem?_eq_some_iff.mp hi).1 hi
theorem fnd_lt {fs:List Fl} {s:ByteArray} {i:Nat} (h:fnd fs s=some i):i < fs.length:=by
 unfold fnd at h
 rw[List.findIdx?_eq_some_iff_getElem] at h
 exact h.1
theorem fI_some {fs:List Fl} {s:ByteArray} {i:Nat} (h:fnd fs s=some i):fI fs s=(i:Int):=by unfold fI;rw[h]
theorem fI_none {fs:List Fl} {s:ByteArray} (h:fnd fs s=none):fI fs s=-1:=by unfold fI;rw[h]
abbrev Fv:=Fl×Value
def fcell (p:Fv):List Value:=[.string p.1.nm,p.2,.int .i64 p.1.sf]
theorem fcell_len:∀(L:List Fv),(L.flatMap fcell).length=L.length*3
 |[]=>rfl
 |p::r=>by simp only[List.flatMap_cons,List.length_append,fcell_len r,fcell,List.length_cons,List.length_nil];omega
theorem fcell_get:∀{L:List Fv} {i:Nat} {p:Fv},L[i]?=some p-> (L.flatMap fcell)[i*3]?=some (.string p.1.nm)/\ (L.flatMap fcell)[i*3+1]?=some p.2/\ (L.flatMap fcell)[i*3+2]?=some (.int .i64 p.1.sf)
 |q::r,0,p,h=>by simp at h;subst h;simp[fcell]
 |q::r,i+1,p,h=>by
  have ih:=fcell_get (L:=r) (i:=i) (p:=p) (by simpa using h)
  rw[List.flatMap_cons]
  have e0:(i+1)*3=(i*3)+3:=by omega
  have e1:(i+1)*3+1=(i*3+1)+3:=by omega
  have e2:(i+1)*3+2=(i*3+2)+3:=by omega
  rw[e2,e1,e0]
  refine⟨?_,?_,?_⟩
  ·rw[List.getElem?_append_right (by simp[fcell])];simpa[fcell] using ih.1
  ·rw[List.getElem?_append_right (by simp[fcell])];simpa[fcell] using ih.2.1
  ·rw[List.getElem?_append_right (by simp[fcell])];simpa[fcell] using ih.2.2
theorem d_shape {w:World} {base n sz:Nat} {e:TypeId} {v:Value} {xs:List Value} (h:w.ownsRow base e sz v n xs):∃a cap,v=.slice a n cap:=by
 obtain⟨_,⟨rfl,rfl⟩|⟨g,cap,cur,rfl,_⟩⟩:=h
 ·exact⟨none,0,rfl⟩
 ·exact⟨_,cap,rfl⟩
theorem d_some {w:World} {base n sz:Nat} {e:TypeId} {v:Value} {xs:List Value} (h:w.ownsRow base e sz v n xs) (hn:0 < n):∃g cap,v=.slice (some ⟨g,0,none⟩) n cap:=by
 obtain⟨_,⟨rfl,rfl⟩|⟨g,cap,cur,rfl,_⟩⟩:=h
 ·omega
 ·exact⟨g,cap,rfl⟩
theorem d_lt {w:World} {base n sz:Nat} {e:TypeId} {v:Value} {xs:List Value} (h:w.ownsRow base e sz v n xs):∀g,v.ownBlock=some g-> base<= g/\ g < w.heap.size:=World.ownsRow.lt h
theorem d_blk {w w':World} {base n sz:Nat} {e:TypeId} {v:Value} {xs:List Value} (h:w.ownsRow base e sz v n xs) (hb:∀g,v.ownBlock=some g-> w'.heap[g]?=w.heap[g]?):w'.ownsRow base e sz v n xs:=by
 obtain⟨h1,h2⟩:=h
 refine⟨h1,?_⟩
 rcases h2 with h2|⟨g,cap,cur,rfl,hg,hh,r⟩
 ·exact .inl h2
 ·exact .inr ⟨g,cap,cur,rfl,hg,(hb g rfl).trans hh,r⟩
theorem d_apart {w:World} {b1 b2 n m s1 s2:Nat} {e1 e2:TypeId} {v u:Value} {xs ys:List Value} (h:w.ownsRow b1 e1 s1 v n xs) (h':w.ownsRow b2 e2 s2 u m ys) (hne:e1≠e2) {g:Nat} (hg:v.ownBlock=some g):u.ownBlock≠some g:=by
 intro hg'
 obtain⟨_,⟨rfl,_⟩|⟨g1,c1,cur1,rfl,_,k1,_⟩⟩:=h
 ·cases hg
 ·obtain⟨_,⟨rfl,_⟩|⟨g2,c2,cur2,rfl,_,k2,_⟩⟩:=h'
  ·cases hg'
  ·cases hg
   cases hg'
   rw[k1] at k2
   simp only[aqG,Obj.cells.injEq] at k2
   exact hne k2.2.1
theorem d_box {w:World} {b1 n s1 x:Nat} {e1 t:TypeId} {v:Value} {xs:List Value} {cs:Array Value} {fr:Nat×Nat} (h:w.ownsRow b1 e1 s1 v n xs) (hx:w.heap[x]?=some (.cells cs t fr)) (hne:e1≠t):v.ownBlock≠some x:=by
 intro hg
 obtain⟨_,⟨rfl,_⟩|⟨g1,c1,cur1,rfl,_,k1,_⟩⟩:=h
 ·cases hg
 ·cases hg
  rw[hx] at k1
  simp only[aqG,Obj.cells.injEq] at k1
  exact hne k1.2.1.symm
def bxD (vf:Value) (D:Dk):Array Value:=#[vf,.int .i64 D.room,.bool D.arm,.int .i64 D.acts,.bool D.dn,.bool D.dw]
structure Dc (w:World) (x:Nat) (F:Nat-> Prop) (D:Dk) (vf:Value) (L:List Fv):Prop where
 map:L.map (·.1)=D.fs
 box:w.heap[x]?=some (.cells (bxD vf D) 85 (0,0))
 row:w.ownsRow 0 75 3 vf L.length (L.flatMap fcell)
 byt:∀(i:Nat) p,L[i]?=some p-> w.ownsRow 0 5 1 p.2 p.1.bs.length (p.1.bs.map (Value.int .u8))
 dis:∀(i j:Nat) p q g,L[i]?=some p-> L[j]?=some q-> p.2.ownBlock=some g-> q.2.ownBlock=some g-> i=j
 fx:F x
 fr:∀g,vf.ownBlock=some g-> F g
 fb:∀(i:Nat) p g,L[i]?=some p-> p.2.ownBlock=some g-> F g
def Dm (w:World) (x:Nat) (F:Nat-> Prop) (D:Dk):Prop:=∃vf L,Dc w x F D vf L
section
variable {w w':World} {x:Nat} {F G:Nat-> Prop} {D:Dk} {vf:Value} {L:List Fv}
theorem Dc.xlt (h:Dc w x F D vf L):x < w.heap.size:=(Array.getElem?_eq_some_iff.1 h.box).1
theorem Dc.len (h:Dc w x F D vf L):D.fs.length=L.length:=by rw[←h.map];simp
theorem Dc.file (h:Dc w x F D vf L) {i:Nat} {p:Fv} (hp:L[i]?=some p):D.fs[i]?=some p.1:=by rw[←h.map,List.getElem?_map,hp];rfl
theorem Dc.same (h:Dc w x F D vf L) (hs:∀k,F k-> k < w.heap.size-> w'.heap[k]?=w.heap[k]?):Dc w' x F D vf L:=
 ⟨h.map,(hs x h.fx h.xlt).trans h.box,d_blk h.row (λg hg=>hs g (h.fr g hg) (d_lt h.row g hg).2),λi p hp=>d_blk (h.byt i p hp) (λg hg=>hs g (h.fb i p g hp hg) (d_lt (h.byt i p hp) g hg).2),h.dis,h.fx,h.fr,h.fb⟩
theorem Dc.mono (h:Dc w x F D vf L) (hf:∀k,F k-> k < w.heap.size-> G k):Dc w x G D vf L:=
 ⟨h.map,h.box,h.row,h.byt,h.dis,hf x h.fx h.xlt,λg hg=>hf g (h.fr g hg) (d_lt h.row g hg).2,λi p g hp hg=>hf g (h.fb i p g hp hg) (d_lt (h.byt i p hp) g hg).2⟩
theorem Dm.same (h:Dm w x F D) (hs:∀k,F k-> k < w.heap.size-> w'.heap[k]?=w.heap[k]?):Dm w' x F D:=by
 obtain⟨vf,L,h⟩:=h;exact⟨vf,L,h.same hs⟩
theorem Dm.mono (h:Dm w x F D) (hf:∀k,F k-> k < w.heap.size-> G k):Dm w x G D:=by
 obtain⟨vf,L,h⟩:=h;exact⟨vf,L,h.mono hf⟩
theorem Dm.below (h:Dm w x F D) (hb:Below w.heap.size w w'):Dm w' x F D:=h.same (λk _ hk=>hb.block k hk)
theorem Dc.c (h:Dc w x F D vf L) (j:Nat):w.cell? ⟨x,j,none⟩=(bxD vf D)[j]?:=cell_of_row _ _ j _ _ _ h.box
theorem Dc.z (h:Dc w x F D vf L) (j:Nat):w.frozen? ⟨x,j,none⟩=false:=frozen_of_row _ _ j _ _ h.box
theorem Dc.at (h:Dc w x F D vf L) {i:Nat} {p:Fv} (hp:L[i]?=some p):∃g cap,vf=.slice (some ⟨g,0,none⟩) L.length cap/\ F g/\ g < w.heap.size/\ w.cell? ⟨g,i*3,none⟩=some (.string p.1.nm)/\ w.cell? ⟨g,i*3+1,none⟩=some p.2/\ w.cell? ⟨g,i*3+2,none⟩=some (.int .i64 p.1.sf)/\ ∀j,w.frozen? ⟨g,j,none⟩=false:=by
 have hi:=(List.getElem?_eq_some_iff.mp hp).1
 obtain⟨g,cap,hv⟩:=d_some h.row (by omega)
 obtain⟨k0,k1,k2⟩:=fcell_get hp
 subst hv
 exact⟨g,cap,rfl,h.fr g rfl,(d_lt h.row g rfl).2,(World.ownsRow.cellAt h.row _ (by omega)).trans k0,(World.ownsRow.cellAt h.row _ (by omega)).trans k1,(World.ownsRow.cellAt h.row _ (by omega)).trans k2,λj=>World.ownsRow.frozenAt h.row _⟩
end
structure Kd (F:Nat-> Prop) (w w':World):Prop where
 os:w'.os=w.os
 tape:w'.tape=w.tape
 output:w'.output=w.output
 size:w.heap.size<= w'.heap.size
 same:∀k,k < w.heap.size-> ¬F k-> w'.heap[k]?=w.heap[k]?
theorem Kd.refl (F:Nat-> Prop) (w:World):Kd F w w:=⟨rfl,rfl,rfl,aqH _,λ_ _ _=>rfl⟩
theorem Kd.trans {F:Nat-> Prop} {a b c:World} (h:Kd F a b) (h':Kd F b c):Kd F a c:=
 ⟨h'.os.trans h.os,h'.tape.trans h.tape,h'.output.trans h.output,Nat.le_trans h.size h'.size,λk hk hn=>(h'.same k (Nat.lt_of_lt_of_le hk h.size) hn).trans (h.same k hk hn)⟩
theorem Kd.below {F:Nat-> Prop} {a b:World} (h:Below a.heap.size a b):Kd F a b:=⟨h.os,h.tape,h.output,h.size,λk hk _=>h.block k hk⟩
theorem Kd.grown {F:Nat-> Prop} {a b:World} {row:Option Nat} (h:a.grownBy b row) (hr:∀g,row=some g-> F g):Kd F a b:=⟨h.os,h.tape,h.output,h.size,λk hk hn=>h.block k hk (λe=>hn (hr k e.symm))⟩
theorem Kd.set {F:Nat-> Prop} {a:World} {g i:Nat} {v:Value} (hg:F g):Kd F a (a.setCell ⟨g,i,none⟩ v):=⟨rfl,rfl,rfl,by simp[World.setCell],λk hk hn=>heap_setCell_other a ⟨g,i,none⟩ k v (λe=>hn (by rw[show k=g from e];exact hg))⟩
theorem Kd.drew {F:Nat-> Prop} {a b:World} (h:Kd F a b):Kd F a b.drew:=⟨h.os,h.tape,h.output,h.size,h.same⟩
theorem Kd.ofDrew {F:Nat-> Prop} {a b:World} (h:Kd F a.drew b):Kd F a b:=⟨h.os,h.tape,h.output,h.size,h.same⟩
theorem Kd.mono {F G:Nat-> Prop} {a b:World} (h:Kd F a b) (hf:∀k,k < a.heap.size-> F k-> G k):Kd G a b:=⟨h.os,h.tape,h.output,h.size,λk hk hn=>h.same k hk (λe=>hn (hf k hk e))⟩
theorem Kd.bel {F:Nat-> Prop} {a b:World} {B:Nat} (h:Kd F a b) (hB:B<= a.heap.size) (hf:∀k,k < B-> ¬F k):Below B a b:=⟨h.os,h.tape,h.output,h.size,λk hk=>h.same k (by omega) (hf k hk)⟩
theorem Kd.cell {F:Nat-> Prop} {a b:World} (h:Kd F a b) {g i:Nat} {v:Value} (hc:a.cell? ⟨g,i,none⟩=some v) (hg:¬F g):b.cell? ⟨g,i,none⟩=some v:=
 (World.cell?_of_block (a:=⟨g,i,none⟩) (h.same g (World.block_lt_of_cell? a ⟨g,i,none⟩ hc) hg)).trans hc
def LpF (Z:World) (n:Nat) (L:List Fv) (s:ByteArray) (v:Value) (wr:World):Prop:=∃i:Nat,v=.int .i64 i/\ i<= n/\ (∀j p,j < i-> L[j]?=some p-> isN s p.1=false)/\ wr=Z
theorem lpF {Z:World} {n i:Nat} {L:List Fv} {s:ByteArray} {v:Value} (hv:v=.int .i64 i) (hi:i<= n) (h:∀j p,j < i-> L[j]?=some p-> isN s p.1=false):LpF Z n L s v Z:=⟨i,hv,hi,h,rfl⟩
def LpU (Z:World) (n:Nat) (fs:List Fl) (v3 v:Value) (wr:World):Prop:=∃(i:Nat) (u:Int),v3=.int .i64 u/\ v=.int .i64 i/\ i<= n/\ u=(usd (fs.take i):Nat)/\ wr=Z
theorem lpU {Z:World} {n i:Nat} {u:Int} {fs:List Fl} {v3 v:Value} (h3:v3=.int .i64 u) (hv:v=.int .i64 i) (hi:i<= n) (h:u=(usd (fs.take i):Nat)):LpU Z n fs v3 v Z:=⟨i,u,h3,hv,hi,h,rfl⟩
theorem find_any (w:World) (x:Nat) (F:Nat-> Prop) (D:Dk) (s:ByteArray) (B:Nat) (h:Dm w x F D) (hk:D.Ok B) (hB:B<= 1099511627776):Calls Tryz.prog 59 #[.pointer (some ⟨x,0,none⟩),.string s] w λe w'=>e=.returned (.int .i64 (fI D.fs s))/\ w'=w:=by
 obtain⟨vf,L,h⟩:=h
 have HD:Hid (Dc w x F D vf L):=h
 obtain⟨af,cf,hv⟩:=d_shape h.row
 obtain⟨n,hn⟩:∃n,L.length=n:=⟨_,rfl⟩
 have hnb:n<= 1099511627776:=by have:=hk.len;have:=h.len;omega
 rw[hn] at hv
 subst hv
 have HN:Hid (L.length=n):=hn
 have c0:w.cell? ⟨x,0,none⟩=some (.slice af n cf):=h.c 0
 clear h hn hk
 go_enter Tryz.func59,Tryz.ntmps59
 obtain⟨Z,hZ⟩:∃Z,w=Z:=⟨_,rfl⟩
 rw[hZ] at HD c0 ⊢
 go_wp2
 go_loopw [11] (λv wr=>LpF Z n L s v wr) (λv _=>n - (intOf v).toNat)
 case atStart=>exact lpF (i:=0) rfl (by omega) (λj p hj=>by omega)
 case round=>
  obtain⟨i,rfl,hi,hJ,hwr⟩:=hrel
  have HJ:Hid (∀j p,j < i-> L[j]?=some p-> isN s p.1=false):=hJ
  clear hJ
  rw[hwr]
  clear hwr
  by_cases hin:i=n
  ·subst hin
   have hz:¬(i:Int) < (i:Int):=by omega
   have HR:Hid (fI D.fs s=-1):=fI_none (fnd_none (λj g hj hg=>by
    rw[←HD.out.map,List.getElem?_map] at hg
    obtain⟨p,hp⟩:∃p,L[j]?=some p:=⟨_,List.getElem?_eq_getElem (by rw[HD.out.len] at hj;exact hj)⟩
    rw[hp] at hg
    simp at hg
    subst hg
    exact HJ.out j p (by rw[HD.out.len,HN.out] at hj;exact hj) hp))
   go_wp2
   go_ret
   exact⟨by rw[HR.out];rfl,rfl⟩
  ·have hz:(i:Int) < (n:Int):=by omega
   have hwi:IntKind.i64.wrap ((i:Int)+1)=(i:Int)+1:=by rw[IntKind.wrap_i64];omega
   obtain⟨p,hp⟩:∃p,L[i]?=some p:=⟨_,List.getElem?_eq_getElem (by rw[HN.out];omega)⟩
   obtain⟨g,cap,hv,_,_,k0,_⟩:=HD.out.at hp
   obtain⟨rfl,hmm,rfl⟩:af=some ⟨g,0,none⟩/\ n=L.length/\ cf=cap:=by simpa using hv
   clear hv hmm
   by_cases he:(p.1.nm.toList == s.toList)=true
   ·have HR:Hid (fI D.fs s=(i:Int)):=fI_some (fnd_some (λj f hj hf=>by
     rw[←HD.out.map,List.getElem?_map] at hf
     cases hq:L[j]? with
     |none=>rw[hq] at hf;cases hf
     |some r=>rw[hq] at hf;simp at hf;subst hf;exact HJ.out j r hj hq) (HD.out.file hp) he)
    clear hp
    go_wp2
    go_ret
    exact⟨by rw[HR.out];rfl,rfl⟩
   ·have he':(p.1.nm.toList == s.toList)=false:=by simpa using he
    have HJ2:Hid (∀j q,j < i+1-> L[j]?=some q-> isN s q.1=false):=λj q hj hq=>by
     by_cases e:j=i
     ·subst e;rw[hp] at hq;cases hq;exact he'
     ·exact HJ.out j q (by omega) hq
    clear hp he
    go_wp2
    exact⟨lpF (i:=i+1) (by simp) (by omega) HJ2.out,by simp[intOf];omega⟩
theorem used_any (w:World) (x:Nat) (F:Nat-> Prop) (D:Dk) (B:Nat) (h:Dm w x F D) (hk:D.Ok B) (hB:B<= 1099511627776):Calls Tryz.prog 56 #[.pointer (some ⟨x,0,none⟩)] w λe w'=>e=.returned (.int .i64 (usd D.fs))/\ w'=w:=by
 obtain⟨vf,L,h⟩:=h
 have HD:Hid (Dc w x F D vf L):=h
 obtain⟨af,cf,hv⟩:=d_shape h.row
 obtain⟨n,hn⟩:∃n,L.length=n:=⟨_,rfl⟩
 have hnb:n<= 1099511627776:=by have:=hk.len;have:=h.len;omega
 have HU:Hid (usd D.fs<= 1099511627776):=by show _<= _;have:=hk.used;omega
 rw[hn] at hv
 subst hv
 have HN:Hid (L.length=n):=hn
 have c0:w.cell? ⟨x,0,none⟩=some (.slice af n cf):=h.c 0
 clear h hn hk
 go_enter Tryz.func56,Tryz.ntmps56
 obtain⟨Z,hZ⟩:∃Z,w=Z:=⟨_,rfl⟩
 rw[hZ] at HD c0 ⊢
 go_wp2
 go_loopw [3,10] (λv3 v wr=>LpU Z n D.fs v3 v wr) (λ_ v _=>n - (intOf v).toNat)
 case atStart=>exact lpU (i:=0) (u:=0) rfl rfl (by omega) (by simp[usd])
 case round=>
  obtain⟨i,u,rfl,rfl,hi,hJ,hwr⟩:=hrel
  have HJ:Hid (u=(usd (D.fs.take i):Nat)):=hJ
  clear hJ
  rw[hwr]
  clear hwr
  by_cases hin:i=n
  ·subst hin
   have hz:¬(i:Int) < (i:Int):=by omega
   have HR:Hid (u=(usd D.fs:Nat)):=by show _=_;rw[HJ.out,←HN.out,←HD.out.len,List.take_length]
   go_wp2
   go_ret
   exact⟨by rw[HR.out];rfl,rfl⟩
  ·have hz:(i:Int) < (n:Int):=by omega
   have hwi:IntKind.i64.wrap ((i:Int)+1)=(i:Int)+1:=by rw[IntKind.wrap_i64];omega
   obtain⟨p,hp⟩:∃p,L[i]?=some p:=⟨_,List.getElem?_eq_getElem (by rw[HN.out];omega)⟩
   obtain⟨g,cap,hv,_,_,_,k1,_⟩:=HD.out.at hp
   obtain⟨rfl,hmm,rfl⟩:af=some ⟨g,0,none⟩/\ n=L.length/\ cf=cap:=by simpa using hv
   obtain⟨ab,cb,hb⟩:=d_shape (HD.out.byt i p hp)
   rw[hb] at k1
   have h2:=usd_take_succ (HD.out.file hp)
   have h3:=usd_take_le D.fs (i+1)
   obtain⟨m,hm⟩:∃m,p.1.bs.length=m:=⟨_,rfl⟩
   rw[hm] at k1 h2
   have HJ2:Hid (u+(m:Int)=(usd (D.fs.take (i+1)):Nat)):=by show _=_;rw[h2,HJ.out];simp
   have hwu:IntKind.i64.wrap (u+(m:Int))=u+(m:Int):=by have:=HU.out;have:=HJ.out;rw[IntKind.wrap_i64];omega
   clear hp hv hmm hb h2 h3 hm
   go_wp2
   exact⟨lpU (i:=i+1) (u:=u+(m:Int)) rfl (by simp) (by omega) HJ2.out,by simp[intOf];omega⟩
attribute [local go_sem] Oper.semAt_some
def tkA (a:Act):List (Nat×Option Nat×Value)-> Act
 |[]=>a
 |(_,d,v)::r=>tkA (a.put d v) r
def tkL (listed:Array Bool):List (Nat×Option Nat×Value)-> Array Bool
 |[]=>listed
 |(i,_,_)::r=>tkL (listed.setIfInBounds i true) r
def tkB (md:Region.Mode) (ops:Array Oper) (listed:Array Bool):List (Nat×Option Nat×Value)-> Bool
 |[]=>true
 |(i,d,_)::r=>(match ops[i]? with|some o=>decide (o.dst=d) && decide (o.guard=none)|none=>false) && Region.free md ops listed i && (Region.ready md ops listed).contains i && tkB md ops (listed.setIfInBounds i true) r
def tkY (P:Program) (ops:Array Oper) (S:World-> Prop) (a:Act):List (Nat×Option Nat×Value)-> Prop
 |[]=>True
 |(i,d,v)::r=>(∀V,S V-> ∀o,ops[i]?=some o-> (execOp a.eval o).run P V=.ok (.value v) V)/\ tkY P ops S (a.put d v) r
theorem tkY_cons {P:Program} {ops:Array Oper} {S:World-> Prop} {a:Act} {i:Nat} {d:Option Nat} {v:Value} {o:Oper} {r:List (Nat×Option Nat×Value)} (ho:ops[i]?=some o) (h:∀V,S V-> (execOp a.eval o).run P V=.ok (.value v) V) (hr:tkY P ops S (a.put d v) r):tkY P ops S a ((i,d,v)::r):=⟨λV hV _ ho2=>by cases ho.symm.trans ho2;exact h V hV,hr⟩
theorem wpAnyH_takes {P:Program} {ops:Array Oper} {Q:Exit-> Act-> World-> Prop} {md:Region.Mode} {S:World-> Prop} (hs:Region.noSelect ops=true) (hp:∀c a a' w,Q (.panic c) a w-> Q (.panic c) a' w) {w:World} (hS:S w):∀(l:List (Nat×Option Nat×Value)) {fuel:Nat} {listed:Array Bool} {a:Act},tkB md ops listed l=true-> tkY P ops S a l-> wpAnyH P md ops Q S fuel (tkL listed l) (tkA a l) w-> wpAnyH P md ops Q S (fuel+l.length) listed a w
 |[],fuel,listed,a,_,_,h=>h
 |(i,d,v)::r,fuel,listed,a,hb,hy,h=>by
  simp only[tkB,Bool.and_eq_true] at hb
  obtain⟨⟨⟨h0,h1⟩,h2⟩,h3⟩:=hb
  cases ho:ops[i]? with
  |none=>rw[ho] at h0;cases h0
  |some o=>
   rw[ho] at h0
   simp only[Bool.and_eq_true,decide_eq_true_eq] at h0
   have hd:=h0.1
   have h4:=wpAnyH_takes hs hp hS r h3 hy.2 h
   rw[←hd] at h4
   exact wpAnyH_take ho hs h1 h2 (λ_ _ _ q=>hp _ _ _ _ q) (.inl ⟨by unfold Region.wanted;rw[h0.2],λV hV=>hy.1 V hV o ho⟩) hS h4
theorem info_partsD {P:Program} {t:TypeId} {z:Value} {n b:Nat} (h:(P.info? t).map (λi=>(i.zero,i.size,i.bytes))=some (some z,n,b)):∃i,P.info? t=some i/\ i.zero=some z/\ i.size=n/\ i.bytes=b:=by
 cases hi:P.info? t with
 |none=>rw[hi] at h;cases h
 |some i=>rw[hi] at h;simp at h;exact⟨i,rfl,h.1,h.2.1,h.2.2⟩
theorem infoFile:(Tryz.prog.info? 75).map (λi=>(i.zero,i.size,i.bytes))=some (some (.agg #[.string ⟨#[]⟩,.slice none 0 0,.int .i64 0]),3,48):=by kernel_rfl
theorem infoU8:(Tryz.prog.info? 5).map (λi=>(i.zero,i.size,i.bytes))=some (some (.int .u8 0),1,1):=by kernel_rfl
theorem three_newD (w:World) (a b c:Value) (t:TypeId):∀j u,[a,b,c][j]?=some u-> (w.alloc (.cells #[a,b,c] t)).cell? ((⟨w.heap.size,0,none⟩:Addr).add j)=some u:=by
 intro j u hj
 match j,hj with
 |0,hj=>simp at hj;subst hj;simp[Addr.add]
 |1,hj=>simp at hj;subst hj;simp[Addr.add]
 |2,hj=>simp at hj;subst hj;simp[Addr.add]
theorem app_opD {P:Program} {ops:Array Oper} {Q:Exit-> Act-> World-> Prop} {j:Nat} {K:Act-> World-> Prop} {a:Act} {w:World} {o:Oper} (hj:ops[j]?=some o) (hgd:o.guard=none) (s x:Operand) (t:TypeId)
 (hop:o.op=Op.call {callee:=Callee.builtin Builtin.append,args:=#[s,x],argTypes:=#[t,t]}) (base:Nat) (e:TypeId) (i:TypeInfo) (z:Value) (size bytes:Nat) (ht:P.underlying t=some (.slice e)) (hi:P.info? e=some i) (hz:i.zero=some z)
 (hsize:i.size=size) (hby:i.bytes=bytes) (hzs:z.cells.size=size) (hsz:0 < size)
 (v:Value) (n:Nat) (xs:List Value) (hs:a.eval s=v) (hown:w.ownsRow base e size v n xs)
 (ad:Addr) (m c:Nat) (news:List Value) (hx:a.eval x=.slice (some ad) m c) (hl:news.length=m*size) (hnews:∀j u,news[j]?=some u-> w.cell? (ad.add j)=some u) (h1:∀u∈news,u.oneCell'=true)
 (h63:n+m<= maxLen) (hbytes:(n+m)*bytes<= 140737488355328) (hbase:base<= w.heap.size)
 (hK:∀v' w',w'.ownsRow base e size v' (n+m) (xs++news)-> w.grownBy w' v.ownBlock-> (v'.ownBlock=v.ownBlock∨v'.ownBlock=some w.heap.size)-> K (a.put o.dst v') w'):wpOp P ops Q j K a w:=by
 unfold wpOp
 simp only[hj]
 have hw:Region.wanted o (yielded ops a.tmps)=true:=by simp[Region.wanted,hgd]
 rw[if_pos hw]
 left
 obtain⟨v',w',hrun,r2,r3,_,r5⟩:=run_append_own_at (P:=P) w base t o.type e i z size bytes ht hi hz hsize hby hzs hsz v n xs hown ad m c news hl hnews h1 h63 hbytes hbase
 unfold Oper.wp
 simp[execOp,hop,resolve,invoke,builtin,hs,hx,hrun,Result.andThen]
 exact hK v' w' r2 r3 r5
theorem app_nilD {P:Program} {ops:Array Oper} {Q:Exit-> Act-> World-> Prop} {j:Nat} {K:Act-> World-> Prop} {a:Act} {w:World} {o:Oper} (hj:ops[j]?=some o) (hgd:o.guard=none) (s x:Operand) (t:TypeId)
 (hop:o.op=Op.call {callee:=Callee.builtin Builtin.append,args:=#[s,x],argTypes:=#[t,t]}) (base:Nat) (e:TypeId) (i:TypeInfo) (size:Nat) (ht:P.underlying t=some (.slice e)) (hi:P.info? e=some i)
 (v:Value) (n:Nat) (xs:List Value) (hs:a.eval s=v) (hown:w.ownsRow base e size v n xs) (hx:a.eval x=.slice none 0 0) (hK:K (a.put o.dst v) w):wpOp P ops Q j K a w:=by
 unfold wpOp
 simp only[hj]
 have hw:Region.wanted o (yielded ops a.tmps)=true:=by simp[Region.wanted,hgd]
 rw[if_pos hw]
 left
 have hrun:=run_append_owned_none (P:=P) (w:=w) base t o.type e i size ht hi v n xs hown
 unfold Oper.wp
 simp[execOp,hop,resolve,invoke,builtin,hs,hx,hrun,Result.andThen]
 exact hK
theorem lies_news {w:World} {ad:Addr} {zs:List Int} (h:Lies .u8 w (some ad) zs):∀j u,(zs.map (Value.int .u8))[j]?=some u-> w.cell? (ad.add j)=some u:=by
 intro j u hj
 rw[List.getElem?_map] at hj
 rcases h with rfl|⟨b,off,e,hc⟩
 ·simp at hj
 ·cases e
  have hl:j < zs.length:=by
   rcases Nat.lt_or_ge j zs.length with q|q
   ·exact q
   ·rw[List.getElem?_eq_none q] at hj;cases hj
  rw[List.getElem?_eq_getElem hl] at hj
  simp at hj
  subst hj
  have:=hc j hl
  rw[List.getD_eq_getElem?_getD,List.getElem?_eq_getElem hl] at this
  have e2:(⟨b,off,none⟩:Addr).add j=⟨b,off+j,none⟩:=by unfold Addr.add;split<;>simp_all
  rw[e2]
  exact this
theorem appB_opD {ops:Array Oper} {Q:Exit-> Act-> World-> Prop} {j:Nat} {K:Act-> World-> Prop} {a:Act} {w:World} {o:Oper} (hj:ops[j]?=some o) (hgd:o.guard=none) (s x:Operand)
 (hop:o.op=Op.call {callee:=Callee.builtin Builtin.append,args:=#[s,x],argTypes:=#[35,35]})
 (v:Value) (n:Nat) (xs:List Value) (hs:a.eval s=v) (hown:w.ownsRow 0 5 1 v n xs)
 (ab:Option Addr) (nb cb:Nat) (zs:List Int) (hx:a.eval x=.slice ab nb cb) (hl:zs.length=nb) (hz:Lies .u8 w ab zs) (hnn:ab=none-> nb=0/\ cb=0) (hb:n+nb<= 140737488355328)
 (hK:∀v' w',w'.ownsRow 0 5 1 v' (n+nb) (xs++zs.map (Value.int .u8))-> w.grownBy w' v.ownBlock-> (v'.ownBlock=v.ownBlock∨v'.ownBlock=some w.heap.size)-> K (a.put o.dst v') w'):wpOp Tryz.prog ops Q j K a w:=by
 obtain⟨i0,hi,hz0,hz1,hz2⟩:=info_partsD infoU8
 cases ab with
 |none=>
  obtain⟨rfl,rfl⟩:=hnn rfl
  have hz':zs=[]:=List.eq_nil_of_length_eq_zero hl
  subst hz'
  exact app_nilD hj hgd s x 35 hop 0 5 i0 1 Tryz.underlying35 hi v n xs hs hown hx (hK v w (by simpa using hown) ⟨rfl,rfl,rfl,aqH _,λ_ _ _=>rfl⟩ (.inl rfl))
 |some ad=>
  refine app_opD hj hgd s x 35 hop 0 5 i0 (.int .u8 0) 1 1 Tryz.underlying35 hi hz0 hz1 hz2 rfl (by decide) v n xs hs hown ad nb cb (zs.map (Value.int .u8)) hx (by simp[hl]) (lies_news hz) (λu hu=>?_) (by unfold maxLen;omega) (by omega) (Nat.zero_le _) hK
  obtain⟨z,_,rfl⟩:=List.mem_map.mp hu
  rfl
def regNewOps:Array Oper:=#[⟨some 20,.load 46 (.tmp 0),46, "disk.go:133",#[],none⟩,
 ⟨some 21,.nilCheck (.tmp 20),0, "disk.go:133",#[⟨0,.data⟩],none⟩,
 ⟨some 22,.fieldAddr 102 (.tmp 21) 0,0, "disk.go:133",#[⟨1,.data⟩],none⟩,
 ⟨some 23,.load 83 (.tmp 22),83, "disk.go:133",#[⟨2,.data⟩],none⟩,
 ⟨some 24,.load 46 (.tmp 0),46, "disk.go:133",#[],none⟩,
 ⟨some 25,.nilCheck (.tmp 24),0, "disk.go:133",#[⟨4,.data⟩],none⟩,
 ⟨some 26,.fieldAddr 102 (.tmp 25) 0,0, "disk.go:133",#[⟨5,.data⟩],none⟩,
 ⟨some 27,.load 83 (.tmp 26),83, "disk.go:133",#[⟨6,.data⟩],none⟩,
 ⟨some 28,.nilCheck (.tmp 27),0, "disk.go:133",#[⟨7,.data⟩],none⟩,
 ⟨some 29,.fieldAddr 85 (.tmp 28) 0,0, "disk.go:133",#[⟨8,.data⟩],none⟩,
 ⟨some 30,.load 72 (.tmp 29),72, "disk.go:133",#[⟨9,.data⟩],none⟩,
 ⟨some 31,.load 9 (.tmp 1),9, "disk.go:133",#[],none⟩,
 ⟨some 32,.build 75 #[(0,.tmp 31)],75, "disk.go:133",#[⟨11,.data⟩],none⟩,
 ⟨some 33,.buildSlice 72 1 #[(0,.tmp 32)],72, "disk.go:133",#[⟨12,.data⟩],none⟩,
 ⟨some 34,.call {callee:=Callee.builtin Builtin.append,args:=#[.tmp 30,.tmp 33],argTypes:=#[72,72]},72, "disk.go:133",#[⟨10,.data⟩,⟨13,.data⟩],none⟩,
 ⟨some 35,.nilCheck (.tmp 23),0, "disk.go:133",#[⟨3,.data⟩,⟨0,.phase⟩,⟨1,.phase⟩,⟨2,.phase⟩,⟨3,.phase⟩,⟨4,.phase⟩,⟨5,.phase⟩,⟨6,.phase⟩,⟨7,.phase⟩,⟨8,.phase⟩,⟨9,.phase⟩,⟨10,.phase⟩,⟨11,.phase⟩,⟨12,.phase⟩,⟨13,.phase⟩,⟨14,.phase⟩],none⟩,
 ⟨some 36,.fieldAddr 85 (.tmp 35) 0,0, "disk.go:133",#[⟨15,.data⟩,⟨0,.phase⟩,⟨1,.phase⟩,⟨2,.phase⟩,⟨3,.phase⟩,⟨4,.phase⟩,⟨5,.phase⟩,⟨6,.phase⟩,⟨7,.phase⟩,⟨8,.phase⟩,⟨9,.phase⟩,⟨10,.phase⟩,⟨11,.phase⟩,⟨12,.phase⟩,⟨13,.phase⟩,⟨14,.phase⟩],none⟩,
 ⟨none,.store 72 (.tmp 36) (.tmp 34),0, "disk.go:133",#[⟨16,.data⟩,⟨14,.data⟩,⟨14,.chain⟩,⟨0,.phase⟩,⟨1,.phase⟩,⟨2,.phase⟩,⟨3,.phase⟩,⟨4,.phase⟩,⟨5,.phase⟩,⟨6,.phase⟩,⟨7,.phase⟩,⟨8,.phase⟩,⟨9,.phase⟩,⟨10,.phase⟩,⟨11,.phase⟩,⟨12,.phase⟩,⟨13,.phase⟩,⟨14,.phase⟩],none⟩]
theorem regNew (Q:Exit-> Act-> World-> Prop) (Db Nb d x:Nat) (s:ByteArray) (af:Option Addr) (nf cf n:Nat) (bx:Array Value) (xs:List Value) {t2 t3 t4 t5 t6 t7 t8 t9 t10 t11 t12 t13 t14 t15 t16 t17 t18 t19 t20 t21 t22 t23 t24 t25 t26 t27 t28 t29 t30 t31 t32 t33 t34 t35 t36 t37 t38 t39 t40 t41 t42 t43 t44 t45 t46 t47 t48 t49 t50 t51 t52 t53 t54 t55 t56 t57 t58 t59:Value} (W:World)
 (hown:W.ownsRow 0 75 3 (.slice af nf cf) n xs) (hn:n<= 1099511627777) (hB:W.heap[x]?=some (.cells bx 85 (0,0))) (hb0':bx[0]?=some (.slice af nf cf)) (hne:(Value.slice af nf cf).ownBlock≠some x)
 (hcv:∀V,W.drew.grownBy V (Value.slice af nf cf).ownBlock-> V.cell? ⟨Db,0,none⟩=some (.pointer (some ⟨d,0,none⟩))/\ V.cell? ⟨d,0,none⟩=some (.pointer (some ⟨x,0,none⟩))/\ V.cell? ⟨Nb,0,none⟩=some (.string s)) (hcw:∀V,W.drew.grownBy V (Value.slice af nf cf).ownBlock-> ∀y,(V.setCell ⟨x,0,none⟩ y).cell? ⟨Db,0,none⟩=some (.pointer (some ⟨d,0,none⟩))/\ (V.setCell ⟨x,0,none⟩ y).cell? ⟨d,0,none⟩=some (.pointer (some ⟨x,0,none⟩))/\ (V.setCell ⟨x,0,none⟩ y).cell? ⟨Nb,0,none⟩=some (.string s))
 (h:∀v' w',w'.ownsRow 0 75 3 v' (n+1) (xs++[.string s,.slice none 0 0,.int .i64 0])-> W.drew.grownBy w' (Value.slice af nf cf).ownBlock-> (v'.ownBlock=(Value.slice af nf cf).ownBlock∨∃g,v'.ownBlock=some g/\ W.heap.size<= g)-> w'.heap[x]?=some (.cells bx 85 (0,0))-> Q .normal {tmps:=(.pointer (some ⟨Db,0,none⟩)::.pointer (some ⟨Nb,0,none⟩)::t2::t3::t4::t5::t6::t7::t8::t9::t10::t11::t12::t13::t14::t15::t16::t17::t18::t19::.pointer (some ⟨d,0,none⟩)::.pointer (some ⟨d,0,none⟩)::.pointer (some ⟨d,0,none⟩)::.pointer (some ⟨x,0,none⟩)::.pointer (some ⟨d,0,none⟩)::.pointer (some ⟨d,0,none⟩)::.pointer (some ⟨d,0,none⟩)::.pointer (some ⟨x,0,none⟩)::.pointer (some ⟨x,0,none⟩)::.pointer (some ⟨x,0,none⟩)::.slice af nf cf::.string s::.agg #[.string s,.slice none 0 0,.int .i64 0]::.slice (some ⟨W.heap.size,0,none⟩) 1 1::v'::.pointer (some ⟨x,0,none⟩)::.pointer (some ⟨x,0,none⟩)::t37::t38::t39::t40::t41::t42::t43::t44::t45::t46::t47::t48::t49::t50::t51::t52::t53::t54::t55::t56::t57::t58::t59::[]).toArray,defers:=[]} (w'.setCell ⟨x,0,none⟩ v')):
 (Code.region 3 regNewOps true).wp Tryz.prog Q {tmps:=(.pointer (some ⟨Db,0,none⟩)::.pointer (some ⟨Nb,0,none⟩)::t2::t3::t4::t5::t6::t7::t8::t9::t10::t11::t12::t13::t14::t15::t16::t17::t18::t19::t20::t21::t22::t23::t24::t25::t26::t27::t28::t29::t30::t31::t32::t33::t34::t35::t36::t37::t38::t39::t40::t41::t42::t43::t44::t45::t46::t47::t48::t49::t50::t51::t52::t53::t54::t55::t56::t57::t58::t59::[]).toArray,defers:=[]} W:=by
 refine Code.wp_mono (λ_ _ _ h=>calmD_le h) ?_
 unfold regNewOps
 have hp:∀c a a' w,calmD Q (.panic c) a w-> calmD Q (.panic c) a' w:=λ_ _ _ _ h=>h
 refine wp_region_held (S:=λV=>V.cell? ⟨Db,0,none⟩=some (.pointer (some ⟨d,0,none⟩))/\ V.cell? ⟨d,0,none⟩=some (.pointer (some ⟨x,0,none⟩))/\ V.cell? ⟨Nb,0,none⟩=some (.string s)) (by kernel_rfl) ?_
 change wpAnyH _ _ _ _ _ _ _ _ W.drew
 have hS:=hcv W.drew ⟨rfl,rfl,rfl,aqH _,λ_ _ _=>rfl⟩
 have hb0:W.drew.cell? ⟨x,0,none⟩=some (.slice af nf cf):=(cell_of_row _ _ 0 _ _ _ (show W.drew.heap[x]?=_ from hB)).trans hb0'
 obtain⟨i0,hi,hz0,hz1,hz2⟩:=info_partsD infoFile
 refine wpAnyH_takes (by kernel_rfl) hp hS [(0,some 20,.pointer (some ⟨d,0,none⟩)),(1,some 21,.pointer (some ⟨d,0,none⟩)),(2,some 22,.pointer (some ⟨d,0,none⟩)),(3,some 23,.pointer (some ⟨x,0,none⟩)),(4,some 24,.pointer (some ⟨d,0,none⟩)),(5,some 25,.pointer (some ⟨d,0,none⟩)),(6,some 26,.pointer (some ⟨d,0,none⟩)),(7,some 27,.pointer (some ⟨x,0,none⟩)),(8,some 28,.pointer (some ⟨x,0,none⟩)),(9,some 29,.pointer (some ⟨x,0,none⟩)),(11,some 31,.string s),(12,some 32,.agg #[.string s,.slice none 0 0,.int .i64 0])] (by kernel_rfl) ?_ ?_
 ·repeat (refine tkY_cons rfl (λV hV=>?_) ?_;(·have s0:=hV;(try obtain⟨s1,s2⟩:=s0);go_split_ands;go_simp;all_goals (first|assumption|omega));simp only[Act.put,aqA,aqB,aqC])
  exact True.intro
 simp only[tkA,Act.put,aqA,aqB,aqC]
 refine wpAnyH_ready (rs:=[10,13]) (by kernel_rfl) (by simp) ?_
 refine(AllReadyH.cons rfl (λK hK=>?_) (AllReadyH.cons rfl (λK hK=>?_) AllReadyH.nil))
 ·go_simp
  refine hK.out _ _ hS (λ_=>?_)
  clear hK K
  try simp only[Act.put,aqA,aqB,aqC]
  refine wpAnyH_ready (rs:=[13]) (by kernel_rfl) (by simp) ?_
  refine(AllReadyH.cons rfl (λK hK=>?_) AllReadyH.nil)
  go_simp
  refine hK.out _ _ (hcv (W.drew.alloc (.cells #[.string s,.slice none 0 0,.int .i64 0] 75)) (World.grownBy_alloc W.drew _ _)) (λ_=>?_)
  clear hK K
  try simp only[Act.put,aqA,aqB,aqC]
  have hS1:=hcv (W.drew.alloc (.cells #[.string s,.slice none 0 0,.int .i64 0] 75)) (World.grownBy_alloc W.drew _ _)
  have hb1:(W.alloc (.cells #[.string s,.slice none 0 0,.int .i64 0] 75)).cell? ⟨x,0,none⟩=some (.slice af nf cf):=(World.cell?_of_block (a:=⟨x,0,none⟩) (Below.heap_alloc W _ x (Array.getElem?_eq_some_iff.1 hB).1)).trans hb0
  refine wpAnyH_all (rs:=[14]) (by kernel_rfl) (by simp) ?_
  intro i hiX
  obtain rfl:i=14:=by simpa using hiX
  refine app_opD (j:=14) rfl rfl (.tmp 30) (.tmp 33) 72 rfl 0 75 i0 (.agg #[.string ⟨#[]⟩,.slice none 0 0,.int .i64 0]) 3 48 Tryz.underlying72 hi hz0 hz1 hz2 rfl (by decide) (.slice af nf cf) n xs (by simp[Act.eval]) (World.ownsRow.alloc (w:=W.drew) hown _) ⟨W.heap.size,0,none⟩ 1 1 [.string s,.slice none 0 0,.int .i64 0] (by simp[Act.eval]) rfl (three_newD W.drew _ _ _ _) (by simp[Value.oneCell']) (by unfold maxLen;omega) (by omega) (Nat.zero_le _) ?_
  intro v' w' r1 r2 r3
  have hgr:W.drew.grownBy w' (Value.slice af nf cf).ownBlock:=(World.grownBy_alloc W.drew _ _).trans r2
  have hS2:=hcv w' hgr
  refine⟨hS2,?_⟩
  have hQ':w'.heap[x]?=some (.cells bx 85 (0,0)):=(hgr.block x (Array.getElem?_eq_some_iff.1 hB).1 (λe=>hne e.symm)).trans hB
  have hfz:w'.frozen? ⟨x,0,none⟩=false:=frozen_of_row _ _ 0 _ _ hQ'
  have hbv:w'.cell? ⟨x,0,none⟩=some (.slice af nf cf):=(cell_of_row _ _ 0 _ _ _ hQ').trans hb0'
  have hfin:=h v' w' r1 hgr (r3.imp id (λe=>⟨_,e,by simp⟩)) hQ'
  obtain⟨a1,n1,rfl⟩:=d_shape r1
  try simp only[Act.put,aqA,aqB,aqC]
  refine wpAnyH_takes (by kernel_rfl) hp hS2 [(15,some 35,.pointer (some ⟨x,0,none⟩)),(16,some 36,.pointer (some ⟨x,0,none⟩))] (by kernel_rfl) ?_ ?_
  ·repeat (refine tkY_cons rfl (λV hV=>?_) ?_;(·have s0:=hV;(try obtain⟨s1,s2⟩:=s0);go_split_ands;go_simp;all_goals (first|assumption|omega));simp only[Act.put,aqA,aqB,aqC])
   exact True.intro
  simp only[tkA,Act.put,aqA,aqB,aqC]
  refine wpAnyH_ready (rs:=[17]) (by kernel_rfl) (by simp) ?_
  refine(AllReadyH.cons rfl (λK hK=>?_) AllReadyH.nil)
  go_simp
  refine hK.out _ _ (hcw w' hgr _) (λ_=>?_)
  clear hK K
  try simp only[Act.put,aqA,aqB,aqC]
  exact wpAnyH_done (Q:=calmD Q) (by kernel_rfl) hfin _
 ·go_simp
  refine hK.out _ _ (hcv (W.drew.alloc (.cells #[.string s,.slice none 0 0,.int .i64 0] 75)) (World.grownBy_alloc W.drew _ _)) (λ_=>?_)
  clear hK K
  try simp only[Act.put,aqA,aqB,aqC]
  have hS1:=hcv (W.drew.alloc (.cells #[.string s,.slice none 0 0,.int .i64 0] 75)) (World.grownBy_alloc W.drew _ _)
  have hb1:(W.alloc (.cells #[.string s,.slice none 0 0,.int .i64 0] 75)).cell? ⟨x,0,none⟩=some (.slice af nf cf):=(World.cell?_of_block (a:=⟨x,0,none⟩) (Below.heap_alloc W _ x (Array.getElem?_eq_some_iff.1 hB).1)).trans hb0
  refine wpAnyH_ready (rs:=[10]) (by kernel_rfl) (by simp) ?_
  refine(AllReadyH.cons rfl (λK hK=>?_) AllReadyH.nil)
  go_simp
  refine hK.out _ _ hS1 (λ_=>?_)
  clear hK K
  try simp only[Act.put,aqA,aqB,aqC]
  refine wpAnyH_all (rs:=[14]) (by kernel_rfl) (by simp) ?_
  intro i hiX
  obtain rfl:i=14:=by simpa using hiX
  refine app_opD (j:=14) rfl rfl (.tmp 30) (.tmp 33) 72 rfl 0 75 i0 (.agg #[.string ⟨#[]⟩,.slice none 0 0,.int .i64 0]) 3 48 Tryz.underlying72 hi hz0 hz1 hz2 rfl (by decide) (.slice af nf cf) n xs (by simp[Act.eval]) (World.ownsRow.alloc (w:=W.drew) hown _) ⟨W.heap.size,0,none⟩ 1 1 [.string s,.slice none 0 0,.int .i64 0] (by simp[Act.eval]) rfl (three_newD W.drew _ _ _ _) (by simp[Value.oneCell']) (by unfold maxLen;omega) (by omega) (Nat.zero_le _) ?_
  intro v' w' r1 r2 r3
  have hgr:W.drew.grownBy w' (Value.slice af nf cf).ownBlock:=(World.grownBy_alloc W.drew _ _).trans r2
  have hS2:=hcv w' hgr
  refine⟨hS2,?_⟩
  have hQ':w'.heap[x]?=some (.cells bx 85 (0,0)):=(hgr.block x (Array.getElem?_eq_some_iff.1 hB).1 (λe=>hne e.symm)).trans hB
  have hfz:w'.frozen? ⟨x,0,none⟩=false:=frozen_of_row _ _ 0 _ _ hQ'
  have hbv:w'.cell? ⟨x,0,none⟩=some (.slice af nf cf):=(cell_of_row _ _ 0 _ _ _ hQ').trans hb0'
  have hfin:=h v' w' r1 hgr (r3.imp id (λe=>⟨_,e,by simp⟩)) hQ'
  obtain⟨a1,n1,rfl⟩:=d_shape r1
  try simp only[Act.put,aqA,aqB,aqC]
  refine wpAnyH_takes (by kernel_rfl) hp hS2 [(15,some 35,.pointer (some ⟨x,0,none⟩)),(16,some 36,.pointer (some ⟨x,0,none⟩))] (by kernel_rfl) ?_ ?_
  ·repeat (refine tkY_cons rfl (λV hV=>?_) ?_;(·have s0:=hV;(try obtain⟨s1,s2⟩:=s0);go_split_ands;go_simp;all_goals (first|assumption|omega));simp only[Act.put,aqA,aqB,aqC])
   exact True.intro
  simp only[tkA,Act.put,aqA,aqB,aqC]
  refine wpAnyH_ready (rs:=[17]) (by kernel_rfl) (by simp) ?_
  refine(AllReadyH.cons rfl (λK hK=>?_) AllReadyH.nil)
  go_simp
  refine hK.out _ _ (hcw w' hgr _) (λ_=>?_)
  clear hK K
  try simp only[Act.put,aqA,aqB,aqC]
  exact wpAnyH_done (Q:=calmD Q) (by kernel_rfl) hfin _
def regAppOps:Array Oper:=#[⟨some 37,.load 46 (.tmp 0),46, "disk.go:135",#[],none⟩,
 ⟨some 38,.nilCheck (.tmp 37),0, "disk.go:135",#[⟨0,.data⟩],none⟩,
 ⟨some 39,.fieldAddr 102 (.tmp 38) 0,0, "disk.go:135",#[⟨1,.data⟩],none⟩,
 ⟨some 40,.load 83 (.tmp 39),83, "disk.go:135",#[⟨2,.data⟩],none⟩,
 ⟨some 41,.nilCheck (.tmp 40),0, "disk.go:135",#[⟨3,.data⟩],none⟩,
 ⟨some 42,.fieldAddr 85 (.tmp 41) 0,0, "disk.go:135",#[⟨4,.data⟩],none⟩,
 ⟨some 43,.load 72 (.tmp 42),72, "disk.go:135",#[⟨5,.data⟩],none⟩,
 ⟨some 44,.move (.tmp 3),3, "disk.go:135",#[],none⟩,
 ⟨some 45,.load 46 (.tmp 0),46, "disk.go:135",#[],none⟩,
 ⟨some 46,.nilCheck (.tmp 45),0, "disk.go:135",#[⟨8,.data⟩],none⟩,
 ⟨some 47,.fieldAddr 102 (.tmp 46) 0,0, "disk.go:135",#[⟨9,.data⟩],none⟩,
 ⟨some 48,.load 83 (.tmp 47),83, "disk.go:135",#[⟨10,.data⟩],none⟩,
 ⟨some 49,.nilCheck (.tmp 48),0, "disk.go:135",#[⟨11,.data⟩],none⟩,
 ⟨some 50,.fieldAddr 85 (.tmp 49) 0,0, "disk.go:135",#[⟨12,.data⟩],none⟩,
 ⟨some 51,.load 72 (.tmp 50),72, "disk.go:135",#[⟨13,.data⟩],none⟩,
 ⟨some 52,.move (.tmp 3),3, "disk.go:135",#[],none⟩,
 ⟨some 53,.indexAddr 72 (.tmp 51) (.tmp 52),0, "disk.go:135",#[⟨14,.data⟩,⟨15,.data⟩],none⟩,
 ⟨some 54,.fieldAddr 75 (.tmp 53) 1,0, "disk.go:135",#[⟨16,.data⟩],none⟩,
 ⟨some 55,.load 35 (.tmp 54),35, "disk.go:135",#[⟨17,.data⟩],none⟩,
 ⟨some 56,.load 35 (.tmp 2),35, "disk.go:135",#[],none⟩,
 ⟨some 57,.call {callee:=Callee.builtin Builtin.append,args:=#[.tmp 55,.tmp 56],argTypes:=#[35,35]},35, "disk.go:135",#[⟨18,.data⟩,⟨19,.data⟩],none⟩,
 ⟨some 58,.indexAddr 72 (.tmp 43) (.tmp 44),0, "disk.go:135",#[⟨6,.data⟩,⟨7,.data⟩,⟨0,.phase⟩,⟨1,.phase⟩,⟨2,.phase⟩,⟨3,.phase⟩,⟨4,.phase⟩,⟨5,.phase⟩,⟨6,.phase⟩,⟨7,.phase⟩,⟨8,.phase⟩,⟨9,.phase⟩,⟨10,.phase⟩,⟨11,.phase⟩,⟨12,.phase⟩,⟨13,.phase⟩,⟨14,.phase⟩,⟨15,.phase⟩,⟨16,.phase⟩,⟨17,.phase⟩,⟨18,.phase⟩,⟨19,.phase⟩,⟨20,.phase⟩],none⟩,
 ⟨some 59,.fieldAddr 75 (.tmp 58) 1,0, "disk.go:135",#[⟨21,.data⟩,⟨0,.phase⟩,⟨1,.phase⟩,⟨2,.phase⟩,⟨3,.phase⟩,⟨4,.phase⟩,⟨5,.phase⟩,⟨6,.phase⟩,⟨7,.phase⟩,⟨8,.phase⟩,⟨9,.phase⟩,⟨10,.phase⟩,⟨11,.phase⟩,⟨12,.phase⟩,⟨13,.phase⟩,⟨14,.phase⟩,⟨15,.phase⟩,⟨16,.phase⟩,⟨17,.phase⟩,⟨18,.phase⟩,⟨19,.phase⟩,⟨20,.phase⟩],none⟩,
 ⟨none,.store 35 (.tmp 59) (.tmp 57),0, "disk.go:135",#[⟨22,.data⟩,⟨20,.data⟩,⟨20,.chain⟩,⟨0,.phase⟩,⟨1,.phase⟩,⟨2,.phase⟩,⟨3,.phase⟩,⟨4,.phase⟩,⟨5,.phase⟩,⟨6,.phase⟩,⟨7,.phase⟩,⟨8,.phase⟩,⟨9,.phase⟩,⟨10,.phase⟩,⟨11,.phase⟩,⟨12,.phase⟩,⟨13,.phase⟩,⟨14,.phase⟩,⟨15,.phase⟩,⟨16,.phase⟩,⟨17,.phase⟩,⟨18,.phase⟩,⟨19,.phase⟩,⟨20,.phase⟩],none⟩]
theorem regApp (Q:Exit-> Act-> World-> Prop) (Db Bb d x gF nf cf i:Nat) (av:Option Addr) (nv cv n:Nat) (ab:Option Addr) (nb cb:Nat) (zs:List Int) (cur:Array Value) (xs:List Value) {t1 t4 t5 t6 t7 t8 t9 t10 t11 t12 t13 t14 t15 t16 t17 t18 t19 t20 t21 t22 t23 t24 t25 t26 t27 t28 t29 t30 t31 t32 t33 t34 t35 t36 t37 t38 t39 t40 t41 t42 t43 t44 t45 t46 t47 t48 t49 t50 t51 t52 t53 t54 t55 t56 t57 t58 t59:Value} (W:World)
 (hown:W.ownsRow 0 5 1 (.slice av nv cv) n xs) (hin:(i:Int) < (nf:Int)) (hl:zs.length=nb) (hz:Lies .u8 W.drew ab zs) (hnn:ab=none-> nb=0/\ cb=0) (hb:n+nb<= 140737488355328) (hB:W.heap[gF]?=some (.cells cur 75 (0,0))) (hb0':cur[i*3+1]?=some (.slice av nv cv)) (hne:(Value.slice av nv cv).ownBlock≠some gF)
 (hcv:∀V,W.drew.grownBy V (Value.slice av nv cv).ownBlock-> V.cell? ⟨Db,0,none⟩=some (.pointer (some ⟨d,0,none⟩))/\ V.cell? ⟨d,0,none⟩=some (.pointer (some ⟨x,0,none⟩))/\ V.cell? ⟨x,0,none⟩=some (.slice (some ⟨gF,0,none⟩) nf cf)/\ V.cell? ⟨Bb,0,none⟩=some (.slice ab nb cb)) (hcw:∀V,W.drew.grownBy V (Value.slice av nv cv).ownBlock-> ∀y,(V.setCell ⟨gF,i*3+1,none⟩ y).cell? ⟨Db,0,none⟩=some (.pointer (some ⟨d,0,none⟩))/\ (V.setCell ⟨gF,i*3+1,none⟩ y).cell? ⟨d,0,none⟩=some (.pointer (some ⟨x,0,none⟩))/\ (V.setCell ⟨gF,i*3+1,none⟩ y).cell? ⟨x,0,none⟩=some (.slice (some ⟨gF,0,none⟩) nf cf)/\ (V.setCell ⟨gF,i*3+1,none⟩ y).cell? ⟨Bb,0,none⟩=some (.slice ab nb cb))
 (h:∀v' w',w'.ownsRow 0 5 1 v' (n+nb) (xs++zs.map (Value.int .u8))-> W.drew.grownBy w' (Value.slice av nv cv).ownBlock-> (v'.ownBlock=(Value.slice av nv cv).ownBlock∨∃g,v'.ownBlock=some g/\ W.heap.size<= g)-> w'.heap[gF]?=some (.cells cur 75 (0,0))-> Q .normal {tmps:=(.pointer (some ⟨Db,0,none⟩)::t1::.pointer (some ⟨Bb,0,none⟩)::.int .i64 (i:Int)::t4::t5::t6::t7::t8::t9::t10::t11::t12::t13::t14::t15::t16::t17::t18::t19::t20::t21::t22::t23::t24::t25::t26::t27::t28::t29::t30::t31::t32::t33::t34::t35::t36::.pointer (some ⟨d,0,none⟩)::.pointer (some ⟨d,0,none⟩)::.pointer (some ⟨d,0,none⟩)::.pointer (some ⟨x,0,none⟩)::.pointer (some ⟨x,0,none⟩)::.pointer (some ⟨x,0,none⟩)::.slice (some ⟨gF,0,none⟩) nf cf::.int .i64 (i:Int)::.pointer (some ⟨d,0,none⟩)::.pointer (some ⟨d,0,none⟩)::.pointer (some ⟨d,0,none⟩)::.pointer (some ⟨x,0,none⟩)::.pointer (some ⟨x,0,none⟩)::.pointer (some ⟨x,0,none⟩)::.slice (some ⟨gF,0,none⟩) nf cf::.int .i64 (i:Int)::.pointer (some ⟨gF,i*3,none⟩)::.pointer (some ⟨gF,i*3+1,none⟩)::.slice av nv cv::.slice ab nb cb::v'::.pointer (some ⟨gF,i*3,none⟩)::.pointer (some ⟨gF,i*3+1,none⟩)::[]).toArray,defers:=[]} (w'.setCell ⟨gF,i*3+1,none⟩ v')):
 (Code.region 4 regAppOps true).wp Tryz.prog Q {tmps:=(.pointer (some ⟨Db,0,none⟩)::t1::.pointer (some ⟨Bb,0,none⟩)::.int .i64 (i:Int)::t4::t5::t6::t7::t8::t9::t10::t11::t12::t13::t14::t15::t16::t17::t18::t19::t20::t21::t22::t23::t24::t25::t26::t27::t28::t29::t30::t31::t32::t33::t34::t35::t36::t37::t38::t39::t40::t41::t42::t43::t44::t45::t46::t47::t48::t49::t50::t51::t52::t53::t54::t55::t56::t57::t58::t59::[]).toArray,defers:=[]} W:=by
 refine Code.wp_mono (λ_ _ _ h=>calmD_le h) ?_
 unfold regAppOps
 have hp:∀c a a' w,calmD Q (.panic c) a w-> calmD Q (.panic c) a' w:=λ_ _ _ _ h=>h
 refine wp_region_held (S:=λV=>V.cell? ⟨Db,0,none⟩=some (.pointer (some ⟨d,0,none⟩))/\ V.cell? ⟨d,0,none⟩=some (.pointer (some ⟨x,0,none⟩))/\ V.cell? ⟨x,0,none⟩=some (.slice (some ⟨gF,0,none⟩) nf cf)/\ V.cell? ⟨Bb,0,none⟩=some (.slice ab nb cb)) (by kernel_rfl) ?_
 change wpAnyH _ _ _ _ _ _ _ _ W.drew
 have hS:=hcv W.drew ⟨rfl,rfl,rfl,aqH _,λ_ _ _=>rfl⟩
 have hi0:(0:Int)<= (i:Int):=by omega
 have hb0:W.drew.cell? ⟨gF,i*3+1,none⟩=some (.slice av nv cv):=(cell_of_row _ _ (i*3+1) _ _ _ (show W.drew.heap[gF]?=_ from hB)).trans hb0'
 refine wpAnyH_takes (by kernel_rfl) hp hS [(0,some 37,.pointer (some ⟨d,0,none⟩)),(1,some 38,.pointer (some ⟨d,0,none⟩)),(2,some 39,.pointer (some ⟨d,0,none⟩)),(3,some 40,.pointer (some ⟨x,0,none⟩)),(4,some 41,.pointer (some ⟨x,0,none⟩)),(5,some 42,.pointer (some ⟨x,0,none⟩)),(6,some 43,.slice (some ⟨gF,0,none⟩) nf cf),(7,some 44,.int .i64 (i:Int)),(8,some 45,.pointer (some ⟨d,0,none⟩)),(9,some 46,.pointer (some ⟨d,0,none⟩)),(10,some 47,.pointer (some ⟨d,0,none⟩)),(11,some 48,.pointer (some ⟨x,0,none⟩)),(12,some 49,.pointer (some ⟨x,0,none⟩)),(13,some 50,.pointer (some ⟨x,0,none⟩)),(14,some 51,.slice (some ⟨gF,0,none⟩) nf cf),(15,some 52,.int .i64 (i:Int)),(16,some 53,.pointer (some ⟨gF,i*3,none⟩)),(17,some 54,.pointer (some ⟨gF,i*3+1,none⟩)),(19,some 56,.slice ab nb cb)] (by kernel_rfl) ?_ ?_
 ·repeat (refine tkY_cons rfl (λV hV=>?_) ?_;(·have s0:=hV;(try obtain⟨s1,s2⟩:=s0);go_split_ands;go_simp;all_goals (first|assumption|omega));simp only[Act.put,aqA,aqB,aqC])
  exact True.intro
 simp only[tkA,Act.put,aqA,aqB,aqC]
 refine wpAnyH_ready (rs:=[18]) (by kernel_rfl) (by simp) ?_
 refine(AllReadyH.cons rfl (λK hK=>?_) AllReadyH.nil)
 go_simp
 refine hK.out _ _ hS (λ_=>?_)
 clear hK K
 try simp only[Act.put,aqA,aqB,aqC]
 refine wpAnyH_all (rs:=[20]) (by kernel_rfl) (by simp) ?_
 intro i hiX
 obtain rfl:i=20:=by simpa using hiX
 refine appB_opD (j:=20) rfl rfl (.tmp 55) (.tmp 56) rfl (.slice av nv cv) n xs (by simp[Act.eval]) (w:=W.drew) hown ab nb cb zs (by simp[Act.eval]) hl hz hnn (by omega) ?_
 intro v' w' r1 r2 r3
 have hS2:=hcv w' r2
 refine⟨hS2,?_⟩
 have hQ':w'.heap[gF]?=some (.cells cur 75 (0,0)):=(r2.block gF (Array.getElem?_eq_some_iff.1 hB).1 (λe=>hne e.symm)).trans hB
 have hfz:w'.frozen? ⟨gF,i*3+1,none⟩=false:=frozen_of_row _ _ (i*3+1) _ _ hQ'
 have hbv:w'.cell? ⟨gF,i*3+1,none⟩=some (.slice av nv cv):=(cell_of_row _ _ (i*3+1) _ _ _ hQ').trans hb0'
 have hfin:=h v' w' r1 r2 (r3.imp id (λe=>⟨_,e,by simp⟩)) hQ'
 obtain⟨a1,n1,rfl⟩:=d_shape r1
 try simp only[Act.put,aqA,aqB,aqC]
 refine wpAnyH_takes (by kernel_rfl) hp hS2 [(21,some 58,.pointer (some ⟨gF,i*3,none⟩)),(22,some 59,.pointer (some ⟨gF,i*3+1,none⟩))] (by kernel_rfl) ?_ ?_
 ·repeat (refine tkY_cons rfl (λV hV=>?_) ?_;(·have s0:=hV;(try obtain⟨s1,s2⟩:=s0);go_split_ands;go_simp;all_goals (first|assumption|omega));simp only[Act.put,aqA,aqB,aqC])
  exact True.intro
 simp only[tkA,Act.put,aqA,aqB,aqC]
 refine wpAnyH_ready (rs:=[23]) (by kernel_rfl) (by simp) ?_
 refine(AllReadyH.cons rfl (λK hK=>?_) AllReadyH.nil)
 go_simp
 refine hK.out _ _ (hcw w' r2 _) (λ_=>?_)
 clear hK K
 try simp only[Act.put,aqA,aqB,aqC]
 exact wpAnyH_done (Q:=calmD Q) (by kernel_rfl) hfin _
end Go.Proofs.YtllhbhogfffedaaGreatDoor.K
namespace Go.Proofs.YtllhbhogfffedaaGreatDoor.K
open Go.RowKit
set_option linter.unusedVariables false
set_option linter.unusedSimpArgs false
theorem fcell_set0:∀{L:List Fv} {i:Nat} {p:Fv} (s:ByteArray),L[i]?=some p-> (L.flatMap fcell).set (i*3) (.string s)=(L.set i (⟨s,p.1.bs,p.1.sf⟩,p.2)).flatMap fcell
 |q::r,0,p,s,h=>by simp at h;subst h;simp[fcell]
 |q::r,i+1,p,s,h=>by
  have ih:=fcell_set0 (L:=r) (i:=i) (p:=p) s (by simpa using h)
  rw[aqC,List.flatMap_cons,List.flatMap_cons,←ih,show (i+1)*3=(fcell q).length+i*3 by simp[fcell];omega,List.set_append_right _ _ (by omega)]
  congr 2;omega
theorem fcell_set1:∀{L:List Fv} {i:Nat} {p:Fv} (bs:List Int) (v:Value),L[i]?=some p-> (L.flatMap fcell).set (i*3+1) v=(L.set i (⟨p.1.nm,bs,p.1.sf⟩,v)).flatMap fcell
 |q::r,0,p,s,v,h=>by simp at h;subst h;simp[fcell]
 |q::r,i+1,p,s,v,h=>by
  have ih:=fcell_set1 (L:=r) (i:=i) (p:=p) s v (by simpa using h)
  rw[aqC,List.flatMap_cons,List.flatMap_cons,←ih,show (i+1)*3+1=(fcell q).length+(i*3+1) by simp[fcell];omega,List.set_append_right _ _ (by omega)]
  congr 2;omega
theorem fcell_set2:∀{L:List Fv} {i:Nat} {p:Fv} (z:Int),L[i]?=some p-> (L.flatMap fcell).set (i*3+2) (.int .i64 z)=(L.set i (⟨p.1.nm,p.1.bs,z⟩,p.2)).flatMap fcell
 |q::r,0,p,s,h=>by simp at h;subst h;simp[fcell]
 |q::r,i+1,p,s,h=>by
  have ih:=fcell_set2 (L:=r) (i:=i) (p:=p) s (by simpa using h)
  rw[aqC,List.flatMap_cons,List.flatMap_cons,←ih,show (i+1)*3+2=(fcell q).length+(i*3+2) by simp[fcell];omega,List.set_append_right _ _ (by omega)]
  congr 2;omega
theorem set_get {α:Type} {l:List α} {i j:Nat} {x y:α} (h:(l.set i x)[j]?=some y):(j=i/\ y=x)∨(j≠i/\ l[j]?=some y):=by
 rw[List.getElem?_set] at h
 by_cases e:i=j
 ·rw[if_pos e] at h
  split at h
  ·cases h;exact .inl ⟨e.symm,rfl⟩
  ·cases h
 ·rw[if_neg e] at h;exact .inr ⟨λq=>e q.symm,h⟩
def up (F:Nat-> Prop) (w:World):Nat-> Prop:=λg=>F g∨w.heap.size<= g
def Dk.fs' (D:Dk) (fs:List Fl):Dk:={D with fs:=fs}
section
variable {W w':World} {x gF nf cf i:Nat} {F:Nat-> Prop} {D:Dk} {vf:Value} {L:List Fv} {p:Fv}
theorem Dc.bx (h:Dc W x F D vf L) (hp:L[i]?=some p):p.2.ownBlock≠some x:=d_box (h.byt i p hp) h.box (by decide)
theorem Dc.rx (h:Dc W x F D vf L):vf.ownBlock≠some x:=d_box h.row h.box (by decide)
theorem Dc.rb (h:Dc W x F D vf L) (hp:L[i]?=some p) {g:Nat} (hg:vf.ownBlock=some g):p.2.ownBlock≠some g:=d_apart h.row (h.byt i p hp) (by decide) hg
theorem Dc.app (h:Dc W x F D (.slice (some ⟨gF,0,none⟩) nf cf) L) (hp:L[i]?=some p) {v':Value} {bs:List Int} (r1:w'.ownsRow 0 5 1 v' bs.length (bs.map (Value.int .u8))) (r2:W.grownBy w' p.2.ownBlock) (r3:v'.ownBlock=p.2.ownBlock∨∃g,v'.ownBlock=some g/\ W.heap.size<= g):
 Dc (w'.setCell ⟨gF,i*3+1,none⟩ v') x (up F W) (D.fs' (D.fs.set i ⟨p.1.nm,bs,p.1.sf⟩)) (.slice (some ⟨gF,0,none⟩) nf cf) (L.set i (⟨p.1.nm,bs,p.1.sf⟩,v')):=by
 obtain rfl:L.length=nf:=by obtain⟨a,c,e⟩:=d_shape h.row;simp only[Value.slice.injEq] at e;exact e.2.1.symm
 have hgx:gF≠x:=λe=>h.rx (by rw[e];rfl)
 have hgl:gF < W.heap.size:=(d_lt h.row gF rfl).2
 have hrow:w'.ownsRow 0 75 3 (.slice (some ⟨gF,0,none⟩) L.length cf) L.length (L.flatMap fcell):=d_blk h.row (λg hg=>r2.block g (d_lt h.row g hg).2 (λe=>h.rb hp hg e.symm))
 have hset:∀g,g≠gF-> (w'.setCell ⟨gF,i*3+1,none⟩ v').heap[g]?=w'.heap[g]?:=λg hg=>heap_setCell_other _ _ _ _ hg
 have hbj:∀(j:Nat) q,L[j]?=some q-> ∀g,q.2.ownBlock=some g-> g≠gF:=λj q hq g hg e=>h.rb hq rfl (by rw[←e];exact hg)
 have hv'g:∀g,v'.ownBlock=some g-> g≠gF:=λg hg e=>d_apart hrow r1 (by decide) (g:=gF) rfl (by rw[←e];exact hg)
 refine⟨by rw[List.map_set];simp only[Dk.fs',h.map],?_,?_,λj q hq=>?_,λj k q u g hj hk hg1 hg2=>?_,.inl h.fx,λg hg=>.inl (h.fr g hg),λj q g hj hg=>?_⟩
 ·exact(hset x (λe=>hgx e.symm)).trans ((r2.block x h.xlt (λe=>h.bx hp e.symm)).trans h.box)
 ·have h1:=World.ownsRow.stored hrow (i*3+1) v'
  rw[List.length_set,←fcell_set1 bs v' hp]
  exact h1.1
 ·rcases set_get hq with ⟨rfl,rfl⟩|⟨hne,hq'⟩
  ·exact d_blk r1 (λg hg=>hset g (hv'g g hg))
  ·refine d_blk (h.byt j q hq') (λg hg=>(hset g (hbj j q hq' g hg)).trans (r2.block g (d_lt (h.byt j q hq') g hg).2 (λe=>hne (h.dis j i q p g hq' hp hg e.symm))))
 ·have new:∀(j:Nat) q,j≠i-> L[j]?=some q-> q.2.ownBlock=some g-> v'.ownBlock=some g-> False:=λj q hji hq hg hg'=>by
   rcases r3 with e|⟨g',e,hl⟩
   ·exact hji (h.dis j i q p g hq hp hg (e ▸ hg'))
   ·have e2:g'=g:=Option.some.inj (e.symm.trans hg')
    have:=(d_lt (h.byt j q hq) g hg).2
    omega
  rcases set_get hj with ⟨rfl,rfl⟩|⟨hne,hj'⟩
  ·rcases set_get hk with ⟨rfl,rfl⟩|⟨hne2,hk'⟩
   ·rfl
   ·exact(new k u hne2 hk' hg2 hg1).elim
  ·rcases set_get hk with ⟨rfl,rfl⟩|⟨hne2,hk'⟩
   ·exact(new j q hne hj' hg1 hg2).elim
   ·exact h.dis j k q u g hj' hk' hg1 hg2
 ·rcases set_get hj with ⟨rfl,rfl⟩|⟨hne,hj'⟩
  ·rcases r3 with e|⟨g',e,hl⟩
   ·exact .inl (h.fb j p g hp (e ▸ hg))
   ·have e2:g'=g:=Option.some.inj (e.symm.trans hg)
    exact .inr (by omega)
  ·exact .inl (h.fb j q g hj' hg)
theorem Dc.new (h:Dc W x F D vf L) {v':Value} {s:ByteArray} (r1:w'.ownsRow 0 75 3 v' (L.length+1) (L.flatMap fcell++[.string s,.slice none 0 0,.int .i64 0])) (r2:W.grownBy w' vf.ownBlock) (r3:v'.ownBlock=vf.ownBlock∨∃g,v'.ownBlock=some g/\ W.heap.size<= g):
 Dc (w'.setCell ⟨x,0,none⟩ v') x (up F W) (D.fs' (D.fs++[⟨s,[],0⟩])) v' (L++[(⟨s,[],0⟩,.slice none 0 0)]):=by
 have hB:w'.heap[x]?=_:=(r2.block x h.xlt (λe=>h.rx e.symm)).trans h.box
 have hv:v'.ownBlock≠some x:=d_box r1 hB (by decide)
 have hset:∀g,g≠x-> (w'.setCell ⟨x,0,none⟩ v').heap[g]?=w'.heap[g]?:=λg hg=>heap_setCell_other _ _ _ _ hg
 have last:∀(j:Nat) q,(L++[((⟨s,[],0⟩:Fl),Value.slice none 0 0)])[j]?=some q-> L[j]?=some q∨q=(⟨s,[],0⟩,.slice none 0 0):=λj q hq=>by
  rcases Nat.lt_or_ge j L.length with e|e
  ·rw[List.getElem?_append_left e] at hq;exact .inl hq
  ·rw[List.getElem?_append_right e] at hq
   rcases Nat.eq_zero_or_pos (j - L.length) with e2|e2
   ·rw[e2] at hq;simp at hq;exact .inr hq.symm
   ·rw[List.getElem?_eq_none (by simp;omega)] at hq;cases hq
 refine⟨by rw[List.map_append,h.map];rfl,?_,?_,λj q hq=>?_,λj k q u g hj hk hg1 hg2=>?_,.inl h.fx,λg hg=>?_,λj q g hj hg=>?_⟩
 ·exact heap_setCell_same w' x 0 _ _ _ hB
 ·rw[List.length_append,List.flatMap_append]
  exact d_blk r1 (λg hg=>hset g (λe=>hv (by rw[←e];exact hg)))
 ·rcases last j q hq with hq'|rfl
  ·exact d_blk (h.byt j q hq') (λg hg=>(hset g (λe=>h.bx hq' (by rw[←e];exact hg))).trans (r2.block g (d_lt (h.byt j q hq') g hg).2 (λe=>h.rb hq' e.symm hg)))
  ·exact World.ownsRow_nil _ _ _ _
 ·rcases last j q hj with hj'|rfl
  ·rcases last k u hk with hk'|rfl
   ·exact h.dis j k q u g hj' hk' hg1 hg2
   ·cases hg2
  ·cases hg1
 ·rcases r3 with e|⟨g',e,hl⟩
  ·exact .inl (h.fr g (e ▸ hg))
  ·have e2:g'=g:=Option.some.inj (e.symm.trans hg)
   exact .inr (by omega)
 ·rcases last j q hj with hj'|rfl
  ·exact .inl (h.fb j q g hj' hg)
  ·cases hg
theorem Dc.boxed (h:Dc W x F D vf L) {D':Dk} (hf:D'.fs=D.fs) (hB:w'.heap[x]?=some (.cells (bxD vf D') 85 (0,0))) (hs:∀k,k≠x-> w'.heap[k]?=W.heap[k]?):Dc w' x F D' vf L:=
 ⟨by rw[h.map,hf],hB,d_blk h.row (λg hg=>hs g (λe=>h.rx (by rw[←e];exact hg))),λi p hp=>d_blk (h.byt i p hp) (λg hg=>hs g (λe=>h.bx hp (by rw[←e];exact hg))),h.dis,h.fx,h.fr,h.fb⟩
theorem Dc.cellF (h:Dc W x F D (.slice (some ⟨gF,0,none⟩) nf cf) L) (hp:L[i]?=some p) {k:Nat} {v:Value} {q:Fl} (hq:q.bs=p.1.bs) (hs:(L.flatMap fcell).set k v=(L.set i (q,p.2)).flatMap fcell):
 Dc (W.setCell ⟨gF,k,none⟩ v) x F (D.fs' (D.fs.set i q)) (.slice (some ⟨gF,0,none⟩) nf cf) (L.set i (q,p.2)):=by
 obtain rfl:L.length=nf:=by obtain⟨a,c,e⟩:=d_shape h.row;simp only[Value.slice.injEq] at e;exact e.2.1.symm
 have hgx:gF≠x:=λe=>h.rx (by rw[e];rfl)
 have hset:∀g,g≠gF-> (W.setCell ⟨gF,k,none⟩ v).heap[g]?=W.heap[g]?:=λg hg=>heap_setCell_other _ _ _ _ hg
 have hbj:∀(j:Nat) q,L[j]?=some q-> ∀g,q.2.ownBlock=some g-> g≠gF:=λj q hq g hg e=>h.rb hq rfl (by rw[←e];exact hg)
 refine⟨by rw[List.map_set];simp only[Dk.fs',h.map],(hset x (λe=>hgx e.symm)).trans h.box,?_,λj u hu=>?_,λj k' u u' g hj hk hg1 hg2=>?_,h.fx,h.fr,λj u g hj hg=>?_⟩
 ·rw[List.length_set,←hs];exact(World.ownsRow.stored h.row k v).1
 ·rcases set_get hu with ⟨rfl,rfl⟩|⟨hne,hu'⟩
  ·simp only[hq];exact d_blk (h.byt j p hp) (λg hg=>hset g (hbj j p hp g hg))
  ·exact d_blk (h.byt j u hu') (λg hg=>hset g (hbj j u hu' g hg))
 ·rcases set_get hj with ⟨rfl,rfl⟩|⟨hne,hj'⟩
  ·rcases set_get hk with ⟨rfl,rfl⟩|⟨hne2,hk'⟩
   ·rfl
   ·exact h.dis j k' p u' g hp hk' hg1 hg2
  ·rcases set_get hk with ⟨rfl,rfl⟩|⟨hne2,hk'⟩
   ·exact h.dis j k' u p g hj' hp hg1 hg2
   ·exact h.dis j k' u u' g hj' hk' hg1 hg2
 ·rcases set_get hj with ⟨rfl,rfl⟩|⟨hne,hj'⟩
  ·exact h.fb j p g hp hg
  ·exact h.fb j u g hj' hg
end
theorem Dc.cur {W:World} {x gF nf cf:Nat} {F:Nat-> Prop} {D:Dk} {L:List Fv} (h:Dc W x F D (.slice (some ⟨gF,0,none⟩) nf cf) L):∃cur,W.heap[gF]?=some (.cells cur 75 (0,0)):=by
 obtain⟨_,⟨e,_⟩|⟨g,cap,cur,e,_,hh,_⟩⟩:=h.row
 ·cases e
 ·cases e;exact⟨cur,hh⟩
theorem Dc.nf {W:World} {x nf cf:Nat} {a:Option Addr} {F:Nat-> Prop} {D:Dk} {L:List Fv} (h:Dc W x F D (.slice a nf cf) L):nf=L.length:=by
 obtain⟨a,c,e⟩:=d_shape h.row
 simp only[Value.slice.injEq] at e
 exact e.2.1
theorem set_cell {V:World} {g j k i:Nat} {v u:Value} (h:V.cell? ⟨k,i,none⟩=some v) (hne:k≠g):(V.setCell ⟨g,j,none⟩ u).cell? ⟨k,i,none⟩=some v:=
 (World.cell?_of_block (a:=⟨k,i,none⟩) (heap_setCell_other _ _ _ _ hne)).trans h
theorem grown_cell {V w':World} {row:Option Nat} {k i:Nat} {v:Value} (h:V.cell? ⟨k,i,none⟩=some v) (hg:V.grownBy w' row) (hne:row≠some k):w'.cell? ⟨k,i,none⟩=some v:=
 (World.cell?_of_block (a:=⟨k,i,none⟩) (hg.block k (World.block_lt_of_cell? V ⟨k,i,none⟩ h) (λe=>hne e.symm))).trans h
theorem regAppD (Q:Exit-> Act-> World-> Prop) (Db Bb d x gF nf cf i:Nat) (F:Nat-> Prop) (D:Dk) (L:List Fv) (p:Fv) (ab:Option Addr) (nb cb:Nat) (zs:List Int) {t1 t4 t5 t6 t7 t8 t9 t10 t11 t12 t13 t14 t15 t16 t17 t18 t19 t20 t21 t22 t23 t24 t25 t26 t27 t28 t29 t30 t31 t32 t33 t34 t35 t36 t37 t38 t39 t40 t41 t42 t43 t44 t45 t46 t47 t48 t49 t50 t51 t52 t53 t54 t55 t56 t57 t58 t59:Value} (W:World)
 (hc:Dc W x F D (.slice (some ⟨gF,0,none⟩) nf cf) L) (hp:L[i]?=some p) (hD:W.cell? ⟨Db,0,none⟩=some (.pointer (some ⟨d,0,none⟩))) (hd:W.cell? ⟨d,0,none⟩=some (.pointer (some ⟨x,0,none⟩))) (hBb:W.cell? ⟨Bb,0,none⟩=some (.slice ab nb cb)) (nD:¬F Db) (nd:¬F d) (nB:¬F Bb)
 (hl:zs.length=nb) (hz:Lies .u8 W ab zs) (hnn:ab=none-> nb=0/\ cb=0) (hb:p.1.bs.length+nb<= 140737488355328)
 (h:∀v' w',Dc w' x (up F W) (D.fs' (D.fs.set i ⟨p.1.nm,p.1.bs++zs,p.1.sf⟩)) (.slice (some ⟨gF,0,none⟩) nf cf) (L.set i (⟨p.1.nm,p.1.bs++zs,p.1.sf⟩,v'))-> Kd F W w'-> Q .normal {tmps:=(.pointer (some ⟨Db,0,none⟩)::t1::.pointer (some ⟨Bb,0,none⟩)::.int .i64 (i:Int)::t4::t5::t6::t7::t8::t9::t10::t11::t12::t13::t14::t15::t16::t17::t18::t19::t20::t21::t22::t23::t24::t25::t26::t27::t28::t29::t30::t31::t32::t33::t34::t35::t36::.pointer (some ⟨d,0,none⟩)::.pointer (some ⟨d,0,none⟩)::.pointer (some ⟨d,0,none⟩)::.pointer (some ⟨x,0,none⟩)::.pointer (some ⟨x,0,none⟩)::.pointer (some ⟨x,0,none⟩)::.slice (some ⟨gF,0,none⟩) nf cf::.int .i64 (i:Int)::.pointer (some ⟨d,0,none⟩)::.pointer (some ⟨d,0,none⟩)::.pointer (some ⟨d,0,none⟩)::.pointer (some ⟨x,0,none⟩)::.pointer (some ⟨x,0,none⟩)::.pointer (some ⟨x,0,none⟩)::.slice (some ⟨gF,0,none⟩) nf cf::.int .i64 (i:Int)::.pointer (some ⟨gF,i*3,none⟩)::.pointer (some ⟨gF,i*3+1,none⟩)::p.2::.slice ab nb cb::v'::.pointer (some ⟨gF,i*3,none⟩)::.pointer (some ⟨gF,i*3+1,none⟩)::[]).toArray,defers:=[]} w'):
 (Code.region 4 regAppOps true).wp Tryz.prog Q {tmps:=(.pointer (some ⟨Db,0,none⟩)::t1::.pointer (some ⟨Bb,0,none⟩)::.int .i64 (i:Int)::t4::t5::t6::t7::t8::t9::t10::t11::t12::t13::t14::t15::t16::t17::t18::t19::t20::t21::t22::t23::t24::t25::t26::t27::t28::t29::t30::t31::t32::t33::t34::t35::t36::t37::t38::t39::t40::t41::t42::t43::t44::t45::t46::t47::t48::t49::t50::t51::t52::t53::t54::t55::t56::t57::t58::t59::[]).toArray,defers:=[]} W:=by
 obtain⟨cur,hcur⟩:=hc.cur
 obtain⟨g',cap',hv',hFg,hgl,k0,k1,k2,kz⟩:=hc.at hp
 obtain⟨rfl,_,rfl⟩:gF=g'/\ nf=L.length/\ cf=cap':=by simpa using hv'
 have hby:=hc.byt i p hp
 obtain⟨av,cv,hav⟩:=d_shape hby
 obtain⟨⟨nm,bs,sf⟩,pv⟩:=p
 simp only at hav
 subst hav
 have hnf:=hc.nf
 have hbF:∀g,(Value.slice av bs.length cv).ownBlock=some g-> F g:=λg hg=>hc.fb i _ g hp hg
 have hx1:W.cell? ⟨x,0,none⟩=some (.slice (some ⟨gF,0,none⟩) nf cf):=hc.c 0
 have hbx:=hc.bx hp
 have hgx:gF≠x:=λe=>hc.rx (by rw[e];rfl)
 have hr2:∀{V:World},W.drew.grownBy V (Value.slice av bs.length cv).ownBlock-> W.grownBy V (Value.slice av bs.length cv).ownBlock:=λh=>⟨h.os,h.tape,h.output,h.size,h.block⟩
 have hcv:∀V,W.drew.grownBy V (Value.slice av bs.length cv).ownBlock-> V.cell? ⟨Db,0,none⟩=some (.pointer (some ⟨d,0,none⟩))/\ V.cell? ⟨d,0,none⟩=some (.pointer (some ⟨x,0,none⟩))/\ V.cell? ⟨x,0,none⟩=some (.slice (some ⟨gF,0,none⟩) nf cf)/\ V.cell? ⟨Bb,0,none⟩=some (.slice ab nb cb):=λV hV=>
  ⟨grown_cell hD (hr2 hV) (λe=>nD (hbF _ e)),grown_cell hd (hr2 hV) (λe=>nd (hbF _ e)),grown_cell hx1 (hr2 hV) hbx,grown_cell hBb (hr2 hV) (λe=>nB (hbF _ e))⟩
 refine regApp Q Db Bb d x gF nf cf i av bs.length cv bs.length ab nb cb zs cur (bs.map (Value.int .u8)) W hby (by have:=(List.getElem?_eq_some_iff.mp hp).1;omega) hl hz hnn hb hcur ((cell_of_row _ _ (i*3+1) _ _ _ hcur).symm.trans k1) (hc.rb hp rfl) hcv (λV hV y=>?_) ?_
 ·obtain⟨q1,q2,q3,q4⟩:=hcv V hV
  exact⟨set_cell q1 (λe=>nD (e ▸ hFg)),set_cell q2 (λe=>nd (e ▸ hFg)),set_cell q3 (λe=>hgx e.symm),set_cell q4 (λe=>nB (e ▸ hFg))⟩
 ·intro v' w' r1 r2 r3 r4
  refine h v' _ (hc.app hp (bs:=bs++zs) (by rw[List.length_append,List.map_append,hl];exact r1) (hr2 r2) r3) ((Kd.grown (hr2 r2) (λg hg=>hbF g hg)).trans (Kd.set hFg))
theorem regNewD (Q:Exit-> Act-> World-> Prop) (Db Nb d x:Nat) (s:ByteArray) (F:Nat-> Prop) (D:Dk) (L:List Fv) (af:Option Addr) (nf cf:Nat) {t2 t3 t4 t5 t6 t7 t8 t9 t10 t11 t12 t13 t14 t15 t16 t17 t18 t19 t20 t21 t22 t23 t24 t25 t26 t27 t28 t29 t30 t31 t32 t33 t34 t35 t36 t37 t38 t39 t40 t41 t42 t43 t44 t45 t46 t47 t48 t49 t50 t51 t52 t53 t54 t55 t56 t57 t58 t59:Value} (W:World)
 (hc:Dc W x F D (.slice af nf cf) L) (hD:W.cell? ⟨Db,0,none⟩=some (.pointer (some ⟨d,0,none⟩))) (hd:W.cell? ⟨d,0,none⟩=some (.pointer (some ⟨x,0,none⟩))) (hN:W.cell? ⟨Nb,0,none⟩=some (.string s)) (nD:¬F Db) (nd:¬F d) (nN:¬F Nb) (hn:nf<= 1099511627776)
 (h:∀v' w',Dc w' x (up F W) (D.fs' (D.fs++[⟨s,[],0⟩])) v' (L++[(⟨s,[],0⟩,.slice none 0 0)])-> Kd F W w'-> Q .normal {tmps:=(.pointer (some ⟨Db,0,none⟩)::.pointer (some ⟨Nb,0,none⟩)::t2::t3::t4::t5::t6::t7::t8::t9::t10::t11::t12::t13::t14::t15::t16::t17::t18::t19::.pointer (some ⟨d,0,none⟩)::.pointer (some ⟨d,0,none⟩)::.pointer (some ⟨d,0,none⟩)::.pointer (some ⟨x,0,none⟩)::.pointer (some ⟨d,0,none⟩)::.pointer (some ⟨d,0,none⟩)::.pointer (some ⟨d,0,none⟩)::.pointer (some ⟨x,0,none⟩)::.pointer (some ⟨x,0,none⟩)::.pointer (some ⟨x,0,none⟩)::.slice af nf cf::.string s::.agg #[.string s,.slice none 0 0,.int .i64 0]::.slice (some ⟨W.heap.size,0,none⟩) 1 1::v'::.pointer (some ⟨x,0,none⟩)::.pointer (some ⟨x,0,none⟩)::t37::t38::t39::t40::t41::t42::t43::t44::t45::t46::t47::t48::t49::t50::t51::t52::t53::t54::t55::t56::t57::t58::t59::[]).toArray,defers:=[]} w'):
 (Code.region 3 regNewOps true).wp Tryz.prog Q {tmps:=(.pointer (some ⟨Db,0,none⟩)::.pointer (some ⟨Nb,0,none⟩)::t2::t3::t4::t5::t6::t7::t8::t9::t10::t11::t12::t13::t14::t15::t16::t17::t18::t19::t20::t21::t22::t23::t24::t25::t26::t27::t28::t29::t30::t31::t32::t33::t34::t35::t36::t37::t38::t39::t40::t41::t42::t43::t44::t45::t46::t47::t48::t49::t50::t51::t52::t53::t54::t55::t56::t57::t58::t59::[]).toArray,defers:=[]} W:=by
 have hnf:=hc.nf
 subst hnf
 have hrF:∀g,(Value.slice af L.length cf).ownBlock=some g-> F g:=λg hg=>hc.fr g hg
 have hr2:∀{V:World},W.drew.grownBy V (Value.slice af L.length cf).ownBlock-> W.grownBy V (Value.slice af L.length cf).ownBlock:=λh=>⟨h.os,h.tape,h.output,h.size,h.block⟩
 have hcv:∀V,W.drew.grownBy V (Value.slice af L.length cf).ownBlock-> V.cell? ⟨Db,0,none⟩=some (.pointer (some ⟨d,0,none⟩))/\ V.cell? ⟨d,0,none⟩=some (.pointer (some ⟨x,0,none⟩))/\ V.cell? ⟨Nb,0,none⟩=some (.string s):=λV hV=>
  ⟨grown_cell hD (hr2 hV) (λe=>nD (hrF _ e)),grown_cell hd (hr2 hV) (λe=>nd (hrF _ e)),grown_cell hN (hr2 hV) (λe=>nN (hrF _ e))⟩
 refine regNew Q Db Nb d x s af L.length cf L.length (bxD (.slice af L.length cf) D) (L.flatMap fcell) W hc.row (by omega) hc.box rfl hc.rx hcv (λV hV y=>?_) ?_
 ·obtain⟨q1,q2,q3⟩:=hcv V hV
  exact⟨set_cell q1 (λe=>nD (e ▸ hc.fx)),set_cell q2 (λe=>nd (e ▸ hc.fx)),set_cell q3 (λe=>nN (e ▸ hc.fx))⟩
 ·intro v' w' r1 r2 r3 r4
  exact h v' _ (hc.new r1 (hr2 r2) r3) ((Kd.grown (hr2 r2) hrF).trans (Kd.set hc.fx))
def addF (fs:List Fl) (s:ByteArray) (zs:List Int):List Fl:=
 match fnd fs s with
 |some i=>match fs[i]? with
  |some f=>fs.set i ⟨f.nm,f.bs++zs,f.sf⟩
  |none=>fs
 |none=>fs++[⟨s,zs,0⟩]
theorem addF_old {fs:List Fl} {s:ByteArray} {zs:List Int} {i:Nat} {f:Fl} (h:fnd fs s=some i) (hf:fs[i]?=some f):addF fs s zs=fs.set i ⟨f.nm,f.bs++zs,f.sf⟩:=by unfold addF;rw[h];simp only[hf]
theorem addF_new {fs:List Fl} {s:ByteArray} {zs:List Int} (h:fnd fs s=none):addF fs s zs=fs++[⟨s,zs,0⟩]:=by unfold addF;rw[h]
def ClP (x:Nat) (F:Nat-> Prop) (D:Dk) (fs:List Fl) (w:World) (e:Ending) (w':World):Prop:=(∃v,e=.returned v)/\ Dm w' x (up F w) (D.fs' fs)/\ Kd F w w'
theorem Kd.upTrans {F:Nat-> Prop} {a b c:World} (h:Kd F a b) (h':Kd (up F a) b c):Kd F a c:=
 ⟨h'.os.trans h.os,h'.tape.trans h.tape,h'.output.trans h.output,Nat.le_trans h.size h'.size,λk hk hn=>(h'.same k (Nat.lt_of_lt_of_le hk h.size) (λe=>e.elim hn (λq=>by omega))).trans (h.same k hk hn)⟩
theorem clApp_any (w:World) (Db Nb Bb d x:Nat) (F:Nat-> Prop) (D:Dk) (s:ByteArray) (ab:Option Addr) (nb cb:Nat) (zs:List Int) (B:Nat) (h:Dm w x F D) (hk:D.Ok B) (hB:B<= 1099511627776)
 (hD:w.cell? ⟨Db,0,none⟩=some (.pointer (some ⟨d,0,none⟩))) (hd:w.cell? ⟨d,0,none⟩=some (.pointer (some ⟨x,0,none⟩))) (hN:w.cell? ⟨Nb,0,none⟩=some (.string s)) (hBb:w.cell? ⟨Bb,0,none⟩=some (.slice ab nb cb))
 (nD:¬F Db) (nd:¬F d) (nN:¬F Nb) (nB:¬F Bb) (hl:zs.length=nb) (hz:Lies .u8 w ab zs) (hzF:∀b off,zs≠[]-> ab=some ⟨b,off,none⟩-> ¬F b) (hnn:ab=none-> nb=0/\ cb=0) (hnb:nb<= 1099511627776):
 Calls Tryz.prog 58 #[.pointer (some ⟨Db,0,none⟩),.pointer (some ⟨Nb,0,none⟩),.pointer (some ⟨Bb,0,none⟩)] w λe w'=>ClP x F D (addF D.fs s zs) w e w':=by
 have hfn:=λV (hV:Dm V x F D)=>find_any V x F D s B hV hk hB
 obtain⟨vf,L,hc⟩:=h
 obtain⟨af,cf,hv⟩:=d_shape hc.row
 obtain⟨n,hn⟩:∃n,L.length=n:=⟨_,rfl⟩
 have hnb2:n<= 1099511627776:=by have:=hk.len;have:=hc.len;omega
 rw[hn] at hv
 subst hv
 have HC:Hid (Dc w x F D (.slice af n cf) L):=hc
 have HN:Hid (L.length=n):=hn
 have HK:Hid (D.Ok B):=hk
 have HF:Hid ((¬F Db)/\ (¬F d)/\ (¬F Nb)/\ (¬F Bb)):=⟨nD,nd,nN,nB⟩
 have HFn:=hfn w.drew ⟨_,_,hc.same (λ_ _ _=>rfl)⟩
 have c0:w.cell? ⟨x,0,none⟩=some (.slice af n cf):=hc.c 0
 have HX:Hid ((w.cell? ⟨Db,0,none⟩=some (.pointer (some ⟨d,0,none⟩)))/\ w.cell? ⟨d,0,none⟩=some (.pointer (some ⟨x,0,none⟩))/\ w.cell? ⟨Nb,0,none⟩=some (.string s)/\ w.cell? ⟨Bb,0,none⟩=some (.slice ab nb cb)):=⟨hD,hd,hN,hBb⟩
 have HZ:Hid (zs.length=nb/\ Lies .u8 w ab zs/\ (∀b off,zs≠[]-> ab=some ⟨b,off,none⟩-> ¬F b)/\ (ab=none-> nb=0/\ cb=0)):=⟨hl,hz,hzF,hnn⟩
 clear hc hn hk nD nd nN nB hl hz hzF hnn hfn
 go_enter Tryz.func58,Tryz.ntmps58
 go_wp2_with fail
 go_region_held3 (λV=>V.cell? ⟨Db,0,none⟩=some (.pointer (some ⟨d,0,none⟩))/\ V.cell? ⟨d,0,none⟩=some (.pointer (some ⟨x,0,none⟩))/\ V.cell? ⟨Nb,0,none⟩=some (.string s))
  (first|exact⟨hD,hd,hN⟩)
  (first
   |(go_at_call 59
     refine HFn.mono ?_
     rintro e w1 ⟨rfl,hw1⟩
     rw[hw1]
     clear hw1))
 clear HFn
 obtain⟨V,hV⟩:∃V,w.drew=V:=⟨_,rfl⟩
 rw[hV]
 have HC1:Hid (Dc V x F D (.slice af n cf) L):=by rw[←hV];exact HC.out.same (λ_ _ _=>rfl)
 have HKd:Hid (Kd F w V/\ V.heap.size=w.heap.size):=by rw[←hV];exact⟨(Kd.refl _ _).drew,rfl⟩
 have HX1:Hid ((V.cell? ⟨Db,0,none⟩=some (.pointer (some ⟨d,0,none⟩)))/\ V.cell? ⟨d,0,none⟩=some (.pointer (some ⟨x,0,none⟩))/\ V.cell? ⟨Nb,0,none⟩=some (.string s)/\ V.cell? ⟨Bb,0,none⟩=some (.slice ab nb cb)):=by rw[←hV];exact HX.out
 have HZ1:Hid (Lies .u8 V ab zs):=by rw[←hV];exact HZ.out.2.1
 clear hV HC HX hD hd hN hBb c0
 cases hf:fnd D.fs s with
 |some i=>
  have HI:Hid (fnd D.fs s=some i):=hf
  rw[fI_some hf]
  have hz0:¬(i:Int) < 0:=by omega
  obtain⟨p,hp⟩:∃p,L[i]?=some p:=⟨_,List.getElem?_eq_getElem (by have:=fnd_lt hf;rw[HC1.out.len] at this;exact this)⟩
  have HP:Hid (L[i]?=some p):=hp
  obtain⟨gF,cap,hv,_⟩:=HC1.out.at hp
  obtain⟨rfl,hnl,rfl⟩:af=some ⟨gF,0,none⟩/\ n=L.length/\ cf=cap:=by simpa using hv
  clear hf hp hv hnl
  go_wp2_with fail
  refine regAppD _ Db Bb d x gF n cf i F D L p ab nb cb zs V HC1.out HP.out HX1.out.1 HX1.out.2.1 HX1.out.2.2.2 HF.out.1 HF.out.2.1 HF.out.2.2.2 HZ.out.1 HZ1.out HZ.out.2.2.2 (by have h1:=usd_get (HC1.out.file HP.out);have:=HK.out.used;omega) ?_
  intro v' w' hc' hk'
  refine bodyPost_end (v:=.tuple #[]) (by simp[results,Tryz.results58,go_sem]) rfl ?_
  refine⟨⟨_,rfl⟩,?_,HKd.out.1.trans hk'⟩
  rw[addF_old HI.out (HC1.out.file HP.out)]
  exact⟨_,_,hc'.mono (λk h _=>h.imp id (λe=>by have:=HKd.out.2;omega))⟩
 |none=>
  rw[fI_none hf]
  have HI:Hid (fnd D.fs s=none):=hf
  clear hf
  have c0:V.cell? ⟨x,0,none⟩=some (.slice af n cf):=HC1.out.c 0
  obtain⟨hD,hd,_,_⟩:=HX1.out
  go_wp2_with fail
  refine regNewD _ Db Nb d x s F D L af n cf V HC1.out HX1.out.1 HX1.out.2.1 HX1.out.2.2.1 HF.out.1 HF.out.2.1 HF.out.2.2.1 hnb2 ?_
  intro v1 w1 hc1 hk1
  have HC2:Hid (Dc w1 x (up F V) (D.fs' (D.fs++[⟨s,[],0⟩])) v1 (L++[(⟨s,[],0⟩,.slice none 0 0)])):=hc1
  have HK1:Hid (Kd F V w1):=hk1
  have HX2:Hid ((w1.cell? ⟨Db,0,none⟩=some (.pointer (some ⟨d,0,none⟩)))/\ w1.cell? ⟨d,0,none⟩=some (.pointer (some ⟨x,0,none⟩))/\ w1.cell? ⟨Bb,0,none⟩=some (.slice ab nb cb)):=⟨hk1.cell HX1.out.1 HF.out.1,hk1.cell HX1.out.2.1 HF.out.2.1,hk1.cell HX1.out.2.2.2 HF.out.2.2.2⟩
  have HP:Hid ((L++[((⟨s,[],0⟩:Fl),Value.slice none 0 0)])[n]?=some (⟨s,[],0⟩,.slice none 0 0)):=by show _=_;rw[List.getElem?_append_right (by have:=HN.out;omega),HN.out];simp
  have HZ2:Hid (Lies .u8 w1 ab zs):=by
   rcases HZ1.out with h0|⟨b,off,e,hc⟩
   ·exact .inl h0
   ·by_cases h0:zs=[]
    ·exact .inl h0
    ·exact .inr ⟨b,off,e,λj hj=>hk1.cell (hc j hj) (HZ.out.2.2.1 b off h0 e)⟩
  obtain⟨gF,cap,hv,_⟩:=hc1.at HP.out
  have hv2:v1=.slice (some ⟨gF,0,none⟩) (n+1) cap:=by rw[hv,List.length_append,HN.out];rfl
  have nU:∀k,k < V.heap.size-> ¬F k-> ¬up F V k:=λk hk hn e=>e.elim hn (λq=>by omega)
  have HU:Hid ((¬up F V Db)/\ (¬up F V d)/\ (¬up F V Bb)):=⟨nU _ (World.block_lt_of_cell? V ⟨Db,0,none⟩ HX1.out.1) HF.out.1,nU _ (World.block_lt_of_cell? V ⟨d,0,none⟩ HX1.out.2.1) HF.out.2.1,nU _ (World.block_lt_of_cell? V ⟨Bb,0,none⟩ HX1.out.2.2.2) HF.out.2.2.2⟩
  subst hv2
  clear hv hc1 hk1 hD hd c0 nU
  go_wp2_with fail
  refine regAppD _ Db Bb d x gF (n+1) cap n (up F V) (D.fs' (D.fs++[⟨s,[],0⟩])) _ (⟨s,[],0⟩,.slice none 0 0) ab nb cb zs w1 HC2.out HP.out HX2.out.1 HX2.out.2.1 HX2.out.2.2 HU.out.1 HU.out.2.1 HU.out.2.2 HZ.out.1 HZ2.out HZ.out.2.2.2 (by simp;omega) ?_
  intro v' w' hc' hk'
  refine bodyPost_end (v:=.tuple #[]) (by simp[results,Tryz.results58,go_sem]) rfl ?_
  have hfs:(D.fs++[(⟨s,[],0⟩:Fl)]).set n ⟨s,zs,0⟩=D.fs++[⟨s,zs,0⟩]:=by
   have hln:n=D.fs.length:=by rw[HC1.out.len];exact HN.out.symm
   rw[hln,List.set_append_right _ _ (aqH _)];simp
  refine⟨⟨_,rfl⟩,?_,HKd.out.1.trans (HK1.out.upTrans hk')⟩
  rw[addF_new HI.out,←hfs]
  have hs:=HK1.out.size
  refine⟨_,_,hc'.mono (λk h _=>?_)⟩
  rcases h with (h|h)|h
  ·exact .inl h
  ·exact .inr (by have:=HKd.out.2;omega)
  ·exact .inr (by have:=HKd.out.2;omega)
end Go.Proofs.YtllhbhogfffedaaGreatDoor.K
