import Derived.Test.YtllhbhogfffedaaGreatDoorChecked
import Derived.Test.YtllhbhogfffedaaGreatDoorLen
import Derived.WalkKit
import Derived.WalkSpells
import Derived.WalkLawsBesides
import Derived.Laws.BitsAllLaws
import Derived.Test.YtllhbhogfffedaaGreatDoorRead
import Derived.Test.YtllhbhogfffedaaGreatDoorMath
import Derived.Laws.Bits64
import Derived.Lib.Small
import Derived.WalkMore
import Derived.Deep.LoopGhost
import Derived.Laws.Rows
import Derived.Deep.QuietTactic
import Derived.BigQuiet
import Derived.WalkSmall
import Derived.Maps.AppendAt
import Derived.OwnWalk
import Derived.Laws.OwnMore
set_option maxHeartbeats 4000000
set_option maxRecDepth 100000
namespace Go.Proofs.YtllhbhogfffedaaGreatDoor
open Go.RowKit
theorem or_one (n:Int) (h0:0<= n) (h1:n<= 18446744073709551615):bits .or .u64 n 1=((Nat.lor n.toNat 1:Nat):Int):=by
 rw[u64_or n 1 h0 (by omega) (by omega) (by omega)];rfl
theorem or_one_lt (n:Int) (h0:0<= n) (h1:n<= 18446744073709551615):((Nat.lor n.toNat 1:Nat):Int)<= 18446744073709551615:=by
 rw[lor_one];omega
theorem size_any (n:Int) (w:World) (h0:0<= n) (h1:n<= 18446744073709551615):
 Calls Tryz.prog 140 #[.int .u64 n] w λe w'=>e=.returned (.int .i64 (sz n))/\ w=w':=by
 have ho:=or_one n h0 h1
 have hl:=or_one_lt n h0 h1
 have hb:Lib.bitLen (Nat.lor n.toNat 1)<= 64:=Lib.bitLen_le _ 64 (aqH _) (by omega)
 have hn:(0:Int)<= ((Nat.lor n.toNat 1:Nat):Int):=by omega
 have hs:Hid ((sz n:Int)=((Lib.bitLen (Nat.lor n.toNat 1):Int)+6) / 7):=by unfold Hid sz;omega
 generalize Nat.lor n.toNat 1=y at ho hl hb hn hs
 go_enter Tryz.func140,Tryz.ntmps140
 go_wp2_with (go_at_call 142;refine(len64_any _ _ hn hl).mono ?_;rintro e w' ⟨rfl,rfl⟩)
 go_ret
 refine⟨congrArg Ending.returned (congrArg (Value.int IntKind.i64) ?_),rfl⟩
 rw[hs.out];omega
theorem pow7 (k:Nat):(2:Int) ^ (7*k)=128 ^ k:=by rw[Int.pow_mul];rfl
theorem hi_digit (n:Int) (k:Nat) (h0:0<= n):bits .or .u8 (n / 2 ^ (7*k) % 256) 128=n / 128 ^ k % 128+128:=by
 rw[pow7]
 have hq:0<= n / 128 ^ k:=Int.ediv_nonneg h0 (Int.pow_nonneg (by omega))
 generalize n / 128 ^ k=q at hq ⊢
 rw[u8_or _ _ (by omega) (by omega) (by omega) (by omega)]
 obtain⟨x,hx⟩:∃x:Nat,q=x:=⟨q.toNat,by omega⟩
 subst hx
 have e:(((x:Int) % 256).toNat |||(128:Int).toNat)=x % 128+128:=by
  rw[show ((x:Int) % 256).toNat=x % 256 from by omega,show (128:Int).toNat=2 ^ 7 from rfl]
  by_cases hb:x % 256 < 128
  ·rw[Nat.or_comm,nat_join 7 (2 ^ 7) (x % 256) (by omega) (by omega)];omega
  ·rw[show x % 256=2 ^ 7 |||(x % 128) from by rw[nat_join 7 (2 ^ 7) (x % 128) (by omega) (by omega)];omega]
   rw[Nat.or_comm,←Nat.or_assoc,Nat.or_self,nat_join 7 (2 ^ 7) (x % 128) (by omega) (by omega)];omega
 rw[e];omega
theorem lo_digit (n:Int) (h0:0<= n):bits .andNot .u8 (n % 256) 128=n % 128:=by
 rw[u8_andNot _ _ (by omega) (by omega) (by omega) (by omega)]
 obtain⟨x,hx⟩:∃x:Nat,n=x:=⟨n.toNat,by omega⟩
 subst hx
 rw[show ((x:Int) % 256).toNat=x % 256 from by omega,show 255 - (128:Int).toNat=127 from rfl,nat_mask7]
 omega
theorem Tryz.info_u8:(Tryz.prog.info? 5).map (λi=>(i.zero,i.size,i.bytes))=some (some (.int .u8 0),1,1):=by kernel_rfl
theorem put_any (v:Value) (m:Nat) (xs:List Value) (base:Nat) (n:Int) (w:World) (h0:0<= n) (h1:n<= 18446744073709551615)
 (hown:w.ownsRow base 5 1 v m xs) (hbase:base<= w.heap.size) (hm:m+10<= 140737488355328):
 Calls Tryz.prog 138 #[v,.int .u64 n] w λe w'=>∃g cap,e=.returned (.slice (some ⟨g,0,none⟩) (m+sz n) cap)/\
  w'.ownsRow base 5 1 (.slice (some ⟨g,0,none⟩) (m+sz n) cap) (m+sz n) (xs++(enc n).map (Value.int .u8))/\ Below base w w':=by
 have hs:=sz_bounds n h0 h1
 obtain⟨hs1,hs2,hs3,hs4⟩:=hs
 clear hs3 hs4
 obtain⟨i0,hi,hz0,hz1,hz2⟩:=info_parts Tryz.info_u8
 go_enter Tryz.func138,Tryz.ntmps138
 go_wp2_with (go_at_call 140;refine(size_any _ _ (by omega) (by omega)).mono ?_;rintro e w' ⟨rfl,rfl⟩)
 go_loopw [0,5] (λv' i wr=>∃k:Nat,∃pre:List Int,i=.int .i64 k/\ k<= 9/\ k+pre.length+1=sz n/\ pre++tl n k=enc n/\ wr.ownsRow base 5 1 v' (m+pre.length) (xs++pre.map (Value.int .u8))/\ Below base w wr) (λ_ i _=>(intOf i).toNat)
 case atStart=>exact⟨sz n - 1,[],by go_num,by omega,by simp;omega,rfl,by simpa using hown,Below.refl _ _⟩
 case round=>
  obtain⟨k,pre,rfl,hk,hlen,hpre,hown',hbel⟩:=hrel
  have hpre':Hid (pre++tl n k=enc n):=hpre
  have hlen':Hid (k+pre.length+1=sz n):=hlen
  have hpl:pre.length<= 9:=by omega
  clear hpre hlen hown
  have hsz:=hbel.size
  by_cases hz:0 < k
  ·have hz':(0:Int) < (k:Int):=by omega
   have h7:(7*(k:Int))<= 63:=by omega
   go_wp2_with (at_builtin;refine wpList_append_own _ rfl _ _ 35 rfl base 5 i0 (.int .u8 0) 1 1 Tryz.underlying35 hi hz0 hz1 hz2 rfl (by decide) _ _ _ rfl (hown'.alloc _) ⟨wr.heap.size,0,none⟩ 1 1 [.int .u8 (bits BinOp.or IntKind.u8 (n / 2 ^ (7*k) % 256) 128)] rfl rfl ?c1 ?c2 ?c3 ?c4 ?c5 ?_)
   case c1=>exact cell_one_new _ _ _
   case c2=>intro u hu;simp at hu;subst hu;rfl
   case c3=>unfold maxLen;omega
   case c4=>omega
   case c5=>simp;omega
   intro v' w1 hown1 hgrow _
   have hb1:Below base w w1:=(hbel.alloc (by omega) _).grown hgrow (by simp;omega) (by intro j hj;obtain⟨_,_|⟨g,cap,cur,hv,hg,_⟩⟩:=hown'<;>simp_all [Value.ownBlock])
   rw[hi_digit n k h0] at hown1
   clear hown' hbel hgrow hsz
   go_wp2
   go_roundw
   case rel=>
    obtain⟨k,rfl⟩:∃k',k=k'+1:=⟨k - 1,by omega⟩
    refine⟨k,pre++[n / 128 ^ (k+1) % 128+128],by go_num,by omega,by have:=hlen'.out;simp;omega,by have:=hpre'.out;simpa[tl] using this,?_,hb1⟩
    simpa[Nat.add_assoc] using hown1
   case measure=>simp[intOf];omega
  ·have hk0:k=0:=by omega
   subst hk0
   go_wp2_with (at_builtin;refine wpList_append_own _ rfl _ _ 35 rfl base 5 i0 (.int .u8 0) 1 1 Tryz.underlying35 hi hz0 hz1 hz2 rfl (by decide) _ _ _ rfl (hown'.alloc _) ⟨wr.heap.size,0,none⟩ 1 1 [.int .u8 (bits BinOp.andNot IntKind.u8 (n % 256) 128)] rfl rfl ?e1 ?e2 ?e3 ?e4 ?e5 ?_)
   case e1=>exact cell_one_new _ _ _
   case e2=>intro u hu;simp at hu;subst hu;rfl
   case e3=>unfold maxLen;omega
   case e4=>omega
   case e5=>simp;omega
   intro v' w1 hown1 hgrow _
   have hb1:Below base w w1:=(hbel.alloc (by omega) _).grown hgrow (by simp;omega) (by intro j hj;obtain⟨_,_|⟨g,cap,cur,hv,hg,_⟩⟩:=hown'<;>simp_all [Value.ownBlock])
   rw[lo_digit n h0] at hown1
   clear hown' hbel hgrow hsz
   have hend:∃g cap,v'=.slice (some ⟨g,0,none⟩) (m+sz n) cap/\ w1.ownsRow base 5 1 (.slice (some ⟨g,0,none⟩) (m+sz n) cap) (m+sz n) (xs++(enc n).map (Value.int .u8)):=by
    have e1:m+pre.length+1=m+sz n:=by have:=hlen'.out;omega
    have e2:enc n=pre++[n % 128]:=hpre'.out.symm
    rw[e1] at hown1
    rw[e2,List.map_append]
    obtain⟨hl,⟨_,h⟩|⟨g,cap,cur,hv,r⟩⟩:=hown1
    ·omega
    ·subst hv
     exact⟨g,cap,rfl,hl,.inr ⟨g,cap,cur,rfl,r⟩⟩
   obtain⟨g,cap,hv,hown2⟩:=hend
   subst hv
   go_wp2
   go_ret
   exact⟨g,cap,rfl,hown2,hb1⟩
theorem bytes_any (n:Int) (w:World) (h0:0<= n) (h1:n<= 18446744073709551615):
 Calls Tryz.prog 135 #[.int .u64 n] w λe w'=>∃g cap,e=.returned (.slice (some ⟨g,0,none⟩) (sz n) cap)/\
  w'.ownsRow w.heap.size 5 1 (.slice (some ⟨g,0,none⟩) (sz n) cap) (sz n) ((enc n).map (Value.int .u8))/\ Below w.heap.size w w':=by
 go_enter Tryz.func135,Tryz.ntmps135
 go_wp2_with (go_at_call 138;refine(put_any (.slice none 0 0) 0 [] w.heap.size n w h0 h1 (World.ownsRow_nil _ _ _ _) (aqH _) (by omega)).mono ?_;rintro e w' ⟨g,cap,rfl,hown,hb⟩)
 go_ret
 simp only[Nat.zero_add,List.nil_append] at hown
 exact⟨g,cap,by simp,hown,hb⟩
theorem own_shape {w:World} {base n sz:Nat} {e:TypeId} {v:Value} {xs:List Value} (h:w.ownsRow base e sz v n xs):∃a cap,v=.slice a n cap:=by
 obtain⟨_,⟨rfl,rfl⟩|⟨g,cap,cur,rfl,_⟩⟩:=h
 ·exact⟨none,0,rfl⟩
 ·exact⟨_,cap,rfl⟩
theorem own_lies {w:World} {base n cap:Nat} {e:TypeId} {a:Option Addr} {k:IntKind} {xs:List Int} (h:w.ownsRow base e 1 (.slice a n cap) n (xs.map (Value.int k))):Lies k w a xs/\ xs.length=n:=by
 have hl:xs.length=n:=by have:=h.1;simpa using this
 refine⟨?_,hl⟩
 obtain⟨_,⟨_,h0⟩|⟨g,cap',cur,hv,hb,hg,hn,hm,hs,ht⟩⟩:=id h
 ·exact .inl (List.eq_nil_of_length_eq_zero (by omega))
 ·simp only[Value.slice.injEq] at hv
  obtain⟨rfl,_,rfl⟩:=hv
  refine .inr ⟨g,0,rfl,λi hi=>?_⟩
  rw[Nat.zero_add,h.cellAt i (by omega),List.getElem?_map,List.getD_eq_getElem?_getD,List.getElem?_eq_getElem hi]
  rfl
theorem own_grown {w0 w w':World} {base n sz:Nat} {e:TypeId} {v:Value} {xs:List Value} (hb:Below base w0 w) (hg:w.grownBy w' v.ownBlock) (h:w.ownsRow base e sz v n xs) (hs:base<= w.heap.size):Below base w0 w':=
 hb.grown hg hs (λj hj=>(h.lt j hj).1)
def cst (c:Nat):Nat:=if c % 2=1 then (c / 2) ^^^ 3988292384 else c / 2
def cit:Nat-> Nat-> Nat
 |0,c=>c
 |n+1,c=>cit n (cst c)
def crc:Nat-> List Int-> Nat
 |c,[]=>c
 |c,z::l=>crc (cit 8 (c ^^^ z.toNat)) l
theorem cst_lt {c:Nat} (h:c < 4294967296):cst c < 4294967296:=by
 unfold cst
 split
 ·have:(c / 2) ^^^ 3988292384 < 2 ^ 32:=Nat.xor_lt_two_pow (by omega) (by omega)
  omega
 ·omega
theorem cit_lt:∀(n:Nat) {c:Nat},c < 4294967296-> cit n c < 4294967296
 |0,_,h=>h
 |n+1,_,h=>cit_lt n (cst_lt h)
theorem cit_succ:∀(n:Nat) (c:Nat),cit (n+1) c=cst (cit n c)
 |0,_=>rfl
 |n+1,c=>by
  show cit (n+1) (cst c)=cst (cit n (cst c))
  exact cit_succ n (cst c)
theorem xb_lt {c:Nat} {z:Int} (hc:c < 4294967296) (hz:z.toNat < 256):c ^^^ z.toNat < 4294967296:=by
 have:c ^^^ z.toNat < 2 ^ 32:=Nat.xor_lt_two_pow (by omega) (by omega)
 omega
theorem crc_lt:∀(l:List Int) {c:Nat},(∀z∈l,z.toNat < 256)-> c < 4294967296-> crc c l < 4294967296
 |[],_,_,h=>h
 |z::l,_,hl,h=>crc_lt l (λy hy=>hl y (List.mem_cons_of_mem _ hy)) (cit_lt 8 (xb_lt h (hl z (List.mem_cons_self ..))))
theorem crc_snoc:∀(l:List Int) (c:Nat) (z:Int),crc c (l++[z])=cit 8 (crc c l ^^^ z.toNat)
 |[],_,_=>rfl
 |y::l,c,z=>crc_snoc l (cit 8 (c ^^^ y.toNat)) z
def crs (l:List Int):Nat:=crc 4294967295 l ^^^ 4294967295
theorem crs_lt {l:List Int} (hl:∀z∈l,0<= z/\ z<= 255):crs l < 4294967296:=by
 have h1:=crc_lt (c:=4294967295) l (λz hz=>by have:=hl z hz;omega) (by omega)
 have:crs l < 2 ^ 32:=Nat.xor_lt_two_pow (by omega) (by omega)
 omega
theorem wrap_u32 (n:Int):IntKind.u32.wrap n=n % 4294967296:=by simp[IntKind.wrap,IntKind.bits,IntKind.signed]
theorem ofInt32 {a:Nat} (h:a < 4294967296):(BitVec.ofInt 32 (a:Int)).toNat=a:=by
 rw[BitVec.ofInt_natCast,BitVec.toNat_ofNat];exact Nat.mod_eq_of_lt (by omega)
theorem xor_u32 {a b:Nat} (ha:a < 4294967296) (hb:b < 4294967296):bits .xor .u32 (a:Int) (b:Int)=((a ^^^ b:Nat):Int):=by
 have hx:a ^^^ b < 2 ^ 32:=Nat.xor_lt_two_pow (by omega) (by omega)
 show IntKind.u32.wrap ((BitVec.ofInt 32 (a:Int) ^^^ BitVec.ofInt 32 (b:Int)).toNat:Int)=_
 rw[BitVec.toNat_xor,ofInt32 ha,ofInt32 hb,wrap_u32]
 omega
theorem and1_u32 {a:Nat} (ha:a < 4294967296):bits .and .u32 (a:Int) 1=((a % 2:Nat):Int):=by
 show IntKind.u32.wrap ((BitVec.ofInt 32 (a:Int) &&& BitVec.ofInt 32 ((1:Nat):Int)).toNat:Int)=_
 rw[BitVec.toNat_and,ofInt32 ha,ofInt32 (by omega),wrap_u32,Nat.and_one_is_mod]
 omega
theorem shift_u32 {a:Nat} (ha:a < 4294967296):bits .xor .u32 ((a:Int) / 2) (3988292384*((a:Int) % 2))=((cst a:Nat):Int):=by
 have h1:3988292384*((a:Int) % 2)=((3988292384*(a % 2):Nat):Int):=by omega
 have h2:((a:Int) / 2)=((a / 2:Nat):Int):=by omega
 rw[h1,h2,xor_u32 (by omega) (by omega)]
 unfold cst
 rcases Nat.mod_two_eq_zero_or_one a with h|h
 ·rw[h,if_neg (by decide),Nat.mul_zero,Nat.xor_zero]
 ·rw[h,if_pos rfl,Nat.mul_one]
theorem shift_odd {a:Nat} (ha:a < 4294967296) (h:a % 2=1):bits .xor .u32 ((a:Int) / 2) 3988292384=((cst a:Nat):Int):=by
 have h2:((a:Int) / 2)=((a / 2:Nat):Int):=by omega
 have h3:=xor_u32 (a:=a / 2) (b:=3988292384) (by omega) (by omega)
 rw[h2,show (3988292384:Int)=((3988292384:Nat):Int) from rfl,h3]
 unfold cst
 rw[if_pos h]
theorem shift_even {a:Nat} (h:¬a % 2=1):(a:Int) / 2=((cst a:Nat):Int):=by
 unfold cst
 rw[if_neg h]
 omega
theorem byte_at {zs:List Int} {k:Nat} (hb:Bytey zs) (h:k < zs.length):0<= zs.getD k 0/\ zs.getD k 0<= 255:=by
 rw[List.getD_eq_getElem?_getD,List.getElem?_eq_getElem h];exact hb _ (List.getElem_mem h)
theorem take_snoc' (l:List Int) (k:Nat) (h:k < l.length):l.take (k+1)=l.take k++[l.getD k 0]:=by
 rw[List.take_add_one,List.getD_eq_getElem?_getD,List.getElem?_eq_getElem h];rfl
theorem crc_byte {zs:List Int} {k:Nat} (hb:Bytey zs):crc 4294967295 (zs.take k) < 4294967296:=
 crc_lt _ (λz hz=>by have:=hb z (List.mem_of_mem_take hz);omega) (by omega)
theorem xor_byte {x:Nat} {z:Int} (hx:x < 4294967296) (h0:0<= z) (h1:z<= 255):bits .xor .u32 (x:Int) z=((x ^^^ z.toNat:Nat):Int):=by
 have:=xor_u32 (a:=x) (b:=z.toNat) hx (by omega)
 rwa [Int.toNat_of_nonneg h0] at this
theorem sum_some (b off:Nat) (zs:List Int) (cap:Nat) (w:World) (hb:Bytey zs) (hl:zs.length<= 140737488355328)
 (hc:∀i,i < zs.length-> w.cell? ⟨b,off+i,none⟩=some (.int .u8 (zs.getD i 0))):
 Calls Tryz.prog 103 #[.slice (some ⟨b,off,none⟩) zs.length cap] w λe w'=>e=.returned (.int .u32 (crs zs:Nat))/\ w=w':=by
 have HB:Hid (Bytey zs):=hb
 clear hb
 go_enter Tryz.func103,Tryz.ntmps103
 go_wp2_with fail
 go_loop [3,8] (λc i=>∃k:Nat,k<= zs.length/\ i=.int .i64 k/\ c=.int .u32 (crc 4294967295 (zs.take k):Nat)) (λ_ i=>zs.length - (intOf i).toNat)
 case atStart=>exact⟨0,Nat.zero_le _,rfl,rfl⟩
 case round=>
  obtain⟨k,hk,rfl,rfl⟩:=hrel
  by_cases hlt:k < zs.length
  ·have hcx:=hc k hlt
   obtain⟨hz0,hz1⟩:=byte_at HB.out hlt
   have HT:Hid (crc 4294967295 (zs.take (k+1))=cit 8 (crc 4294967295 (zs.take k) ^^^ (zs.getD k 0).toNat)):=by
    unfold Hid;rw[take_snoc' zs k hlt,crc_snoc]
   have hx:=crc_byte (k:=k) HB.out
   generalize crc 4294967295 (zs.take k)=x at*
   generalize zs.getD k 0=z at*
   have hxz:=xor_byte hx hz0 hz1
   have hy:x ^^^ z.toNat < 4294967296:=xb_lt hx (by omega)
   generalize x ^^^ z.toNat=y at*
   clear hc
   go_wp2_with fail
   go_loop [3,16] (λc i=>∃j:Nat,j<= 8/\ i=.int .i64 j/\ c=.int .u32 (cit j y:Nat)) (λ_ i=>8 - (intOf i).toNat)
   case atStart=>exact⟨0,Nat.zero_le _,rfl,rfl⟩
   case round=>
    obtain⟨j,hj,rfl,rfl⟩:=hrel
    by_cases hj8:j < 8
    ·have hcy:=cit_lt j hy
     have HC:Hid (cit (j+1) y=cst (cit j y)):=cit_succ j y
     generalize cit j y=u at*
     have h1:=and1_u32 hcy
     have h2:=shift_u32 hcy
     go_wp2
     go_round
     case rel=>exact⟨j+1,by omega,congrArg (Value.int IntKind.i64) (by omega),by rw[HC.out,←h2]⟩
     case measure=>simp[intOf];omega
    ·have he:j=8:=by omega
     subst he
     go_wp2
     go_round
     case rel=>exact⟨k+1,by omega,congrArg (Value.int IntKind.i64) (by omega),by rw[HT.out]⟩
     case measure=>simp[intOf];omega
  ·have he:k=zs.length:=by omega
   subst he
   have hx:=crc_byte (k:=zs.length) HB.out
   rw[List.take_length] at hx ⊢
   have HE:Hid (crs zs=crc 4294967295 zs ^^^ 4294967295):=rfl
   generalize crc 4294967295 zs=x at*
   have hxx:=xor_u32 (a:=4294967295) (b:=x) (by omega) hx
   rw[Nat.xor_comm] at hxx
   go_wp2
   go_ret
   exact⟨congrArg (λn=>Ending.returned (Value.int IntKind.u32 n)) (hxx.trans (by rw[HE.out])),rfl⟩
theorem sum_none (a:Option Addr) (cap:Nat) (w:World):
 Calls Tryz.prog 103 #[.slice a 0 cap] w λe w'=>e=.returned (.int .u32 (crs []:Nat))/\ w=w':=by
 go_enter Tryz.func103,Tryz.ntmps103
 go_wp2_with fail
 refine wp_loop_rounds 1 ?_
 rw[rounds_succ]
 go_wp2
 go_ret
 exact⟨rfl,rfl⟩
theorem sum_any (a:Option Addr) (zs:List Int) (len cap:Nat) (w:World) (hb:Bytey zs) (hl:zs.length=len) (hm:len<= 140737488355328) (hc:Lies .u8 w a zs):
 Calls Tryz.prog 103 #[.slice a len cap] w λe w'=>e=.returned (.int .u32 (crs zs:Nat))/\ w=w':=by
 subst hl
 rcases hc with rfl|⟨b,off,rfl,hc⟩
 ·exact sum_none a cap w
 ·exact sum_some b off zs cap w hb hm hc
theorem rsum_some (b off:Nat) (zs:List Int) (cap:Nat) (w:World) (hb:Bytey zs) (hl:zs.length<= 140737488355328)
 (hc:∀i,i < zs.length-> w.cell? ⟨b,off+i,none⟩=some (.int .u8 (zs.getD i 0))):
 Calls Tryz.prog 53 #[.slice (some ⟨b,off,none⟩) zs.length cap] w λe w'=>e=.returned (.int .u32 (crs zs:Nat))/\ w=w':=by
 have HB:Hid (Bytey zs):=hb
 clear hb
 go_enter Tryz.func53,Tryz.ntmps53
 go_wp2_with fail
 go_loop [3,4] (λc i=>∃k:Nat,k<= zs.length/\ i=.int .i64 k/\ c=.int .u32 (crc 4294967295 (zs.take k):Nat)) (λ_ i=>zs.length - (intOf i).toNat)
 case atStart=>exact⟨0,Nat.zero_le _,rfl,rfl⟩
 case round=>
  obtain⟨k,hk,rfl,rfl⟩:=hrel
  by_cases hlt:k < zs.length
  ·have hcx:=hc k hlt
   obtain⟨hz0,hz1⟩:=byte_at HB.out hlt
   have HT:Hid (crc 4294967295 (zs.take (k+1))=cit 8 (crc 4294967295 (zs.take k) ^^^ (zs.getD k 0).toNat)):=by
    unfold Hid;rw[take_snoc' zs k hlt,crc_snoc]
   have hx:=crc_byte (k:=k) HB.out
   generalize crc 4294967295 (zs.take k)=x at*
   generalize zs.getD k 0=z at*
   have hxz:=xor_byte hx hz0 hz1
   have hy:x ^^^ z.toNat < 4294967296:=xb_lt hx (by omega)
   generalize x ^^^ z.toNat=y at*
   clear hc
   go_wp2_with fail
   go_loop [3,5] (λc i=>∃j:Nat,j<= 8/\ i=.int .i64 j/\ c=.int .u32 (cit j y:Nat)) (λ_ i=>8 - (intOf i).toNat)
   case atStart=>exact⟨0,Nat.zero_le _,rfl,rfl⟩
   case round=>
    obtain⟨j,hj,rfl,rfl⟩:=hrel
    by_cases hj8:j < 8
    ·have hcy:=cit_lt j hy
     have HC:Hid (cit (j+1) y=cst (cit j y)):=cit_succ j y
     generalize cit j y=u at*
     by_cases ho:u % 2=1
     ·have ho':(u:Int) % 2=1:=by omega
      have h2:=shift_odd hcy ho
      go_wp2
      go_round
      case rel=>exact⟨j+1,by omega,congrArg (Value.int IntKind.i64) (by omega),by rw[HC.out,←h2]⟩
      case measure=>simp[intOf];omega
     ·have ho':¬(u:Int) % 2=1:=by omega
      have h2:=shift_even ho
      go_wp2
      go_round
      case rel=>exact⟨j+1,by omega,congrArg (Value.int IntKind.i64) (by omega),by rw[HC.out,←h2]⟩
      case measure=>simp[intOf];omega
    ·have he:j=8:=by omega
     subst he
     go_wp2
     go_round
     case rel=>exact⟨k+1,by omega,congrArg (Value.int IntKind.i64) (by omega),by rw[HT.out]⟩
     case measure=>simp[intOf];omega
  ·have he:k=zs.length:=by omega
   subst he
   have hx:=crc_byte (k:=zs.length) HB.out
   rw[List.take_length] at hx ⊢
   have HE:Hid (crs zs=crc 4294967295 zs ^^^ 4294967295):=rfl
   generalize crc 4294967295 zs=x at*
   have hxx:=xor_u32 (a:=x) (b:=4294967295) hx (by omega)
   go_wp2
   go_ret
   exact⟨congrArg (λn=>Ending.returned (Value.int IntKind.u32 n)) (hxx.trans (by rw[HE.out])),rfl⟩
theorem rsum_none (a:Option Addr) (cap:Nat) (w:World):
 Calls Tryz.prog 53 #[.slice a 0 cap] w λe w'=>e=.returned (.int .u32 (crs []:Nat))/\ w=w':=by
 go_enter Tryz.func53,Tryz.ntmps53
 go_wp2_with fail
 refine wp_loop_rounds 1 ?_
 rw[rounds_succ]
 go_wp2
 go_ret
 exact⟨rfl,rfl⟩
theorem rsum_any (a:Option Addr) (zs:List Int) (len cap:Nat) (w:World) (hb:Bytey zs) (hl:zs.length=len) (hm:len<= 140737488355328) (hc:Lies .u8 w a zs):
 Calls Tryz.prog 53 #[.slice a len cap] w λe w'=>e=.returned (.int .u32 (crs zs:Nat))/\ w=w':=by
 subst hl
 rcases hc with rfl|⟨b,off,rfl,hc⟩
 ·exact rsum_none a cap w
 ·exact rsum_some b off zs cap w hb hm hc
def hasB (f:Int) (i:Nat):Bool:=bits .and .u16 f (2 ^ i) != 0
theorem rhas_any (f:Int) (i:Nat) (w:World) (hi:i < 10):
 Calls Tryz.prog 122 #[.int .u16 f,.int .i64 i] w λe w'=>e=.returned (.bool (hasB f i))/\ w=w':=by
 have h63:(i:Int) < 64:=by omega
 have h2:(2:Int) ^ i<= 512:=by
  have:i=0∨i=1∨i=2∨i=3∨i=4∨i=5∨i=6∨i=7∨i=8∨i=9:=by omega
  rcases this with rfl|rfl|rfl|rfl|rfl|rfl|rfl|rfl|rfl|rfl<;>decide
 have h20:(0:Int) < (2:Int) ^ i:=Int.pow_pos (by omega)
 have hw:IntKind.u16.wrap ((2:Int) ^ i)=2 ^ i:=by simp only[IntKind.wrap,IntKind.bits,IntKind.signed];simp;omega
 go_enter Tryz.func122,Tryz.ntmps122
 go_wp2
 go_ret
 exact⟨rfl,rfl⟩
theorem rbetween_any (n lo hi:Int) (w:World):
 Calls Tryz.prog 132 #[.int .i64 n,.int .i64 lo,.int .i64 hi] w λe w'=>e=.returned (.bool (decide (lo<= n) && decide (n<= hi)))/\ w=w':=by
 by_cases h1:lo<= n
 ·have h1':decide (lo<= n)=true:=decide_eq_true h1
  go_enter Tryz.func132,Tryz.ntmps132
  go_wp2
  go_ret
  exact⟨by rw[h1'];rfl,rfl⟩
 ·have h1':decide (lo<= n)=false:=decide_eq_false h1
  go_enter Tryz.func132,Tryz.ntmps132
  go_wp2
  go_ret
  exact⟨rfl,rfl⟩
def numB (i:Nat) (n:Int):Bool:=if i=0 then (decide (1<= n) && decide (n<= 4611686018427387903)) else if i=1 then (decide (1<= n) && decide (n<= 4611686018427387902)) else (decide (0<= n) && decide (n<= 4611686018427387903))
theorem numberMayBe_any (i:Nat) (n:Int) (w:World):
 Calls Tryz.prog 131 #[.int .i64 i,.int .i64 n] w λe w'=>e=.returned (.bool (numB i n))/\ w=w':=by
 by_cases h0:i=0
 ·subst h0
  go_enter Tryz.func131,Tryz.ntmps131
  go_wp2_with (go_at_call 132;refine(rbetween_any _ _ _ _).mono ?_;rintro e w' ⟨rfl,rfl⟩)
  go_ret
  exact⟨rfl,rfl⟩
 ·by_cases h1:i=1
  ·subst h1
   go_enter Tryz.func131,Tryz.ntmps131
   go_wp2_with (go_at_call 132;refine(rbetween_any _ _ _ _).mono ?_;rintro e w' ⟨rfl,rfl⟩)
   go_ret
   exact⟨rfl,rfl⟩
  ·have h0':¬(i:Int)=0:=by omega
   have h1':¬(i:Int)=1:=by omega
   have hn:numB i n=(decide (0<= n) && decide (n<= 4611686018427387903)):=by unfold numB;rw[if_neg h0,if_neg h1]
   rw[hn]
   clear hn
   go_enter Tryz.func131,Tryz.ntmps131
   go_wp2_with (go_at_call 132;refine(rbetween_any _ _ _ _).mono ?_;rintro e w' ⟨rfl,rfl⟩)
   go_ret
   exact⟨rfl,rfl⟩
def kiT:List Int:=[0,65,64,623,131,3,635,3,131,3,3,320,107]
def Tab6 (w:World):Prop:=∀i:Nat,i < 13-> w.cell? ⟨4,i,none⟩=some (.int .u16 (kiT.getD i 0))
theorem Tab6.below {w w':World} {B:Nat} (h:Tab6 w) (hb:Below B w w') (hB:4 < B):Tab6 w':=λi hi=>(hb.cell (p:=⟨4,i,none⟩) hB).trans (h i hi)
theorem tab6_pos {w:World} (h:Tab6 w):4 < w.heap.size:=World.block_lt_of_cell? w ⟨4,0,none⟩ (h 0 (by omega))
abbrev nextV:Value:=.agg #[.int .i64 2,.int .i64 0,.int .i64 0,.int .i64 0,.int .i64 0,.int .i64 0,.int .i64 0,.int .i64 300,.int .i64 0,.slice none 0 0,.slice none 0 0]
abbrev nextO:Obj:=.cells #[.int .i64 2,.int .i64 0,.int .i64 0,.int .i64 0,.int .i64 0,.int .i64 0,.int .i64 0,.int .i64 300,.int .i64 0,.slice none 0 0,.slice none 0 0] 81
abbrev nextN:Value:=.agg #[.int .i64 0,.int .i64 0,.int .i64 0,.int .i64 0,.int .i64 0,.int .i64 0,.int .i64 300,.int .i64 0]
theorem heap_new6 (w:World) (o:Obj):(w.alloc o).heap[w.heap.size]?=some o:=by
 have:(w.alloc o).heap=w.heap.push o:=rfl
 rw[this];simp
theorem next_cells {W:World} {g:Nat} (h:W.heap[g]?=some nextO):W.cell? ⟨g,0,none⟩=some (.int .i64 2)/\ W.cell? ⟨g,1,none⟩=some (.int .i64 0)/\ W.cell? ⟨g,2,none⟩=some (.int .i64 0)/\ W.cell? ⟨g,3,none⟩=some (.int .i64 0)/\ W.cell? ⟨g,4,none⟩=some (.int .i64 0)/\ W.cell? ⟨g,5,none⟩=some (.int .i64 0)/\ W.cell? ⟨g,6,none⟩=some (.int .i64 0)/\ W.cell? ⟨g,7,none⟩=some (.int .i64 300)/\ W.cell? ⟨g,8,none⟩=some (.int .i64 0)/\ W.cell? ⟨g,9,none⟩=some (.slice none 0 0)/\ W.cell? ⟨g,10,none⟩=some (.slice none 0 0):=
 ⟨cell_of_row _ _ 0 _ _ _ h,cell_of_row _ _ 1 _ _ _ h,cell_of_row _ _ 2 _ _ _ h,cell_of_row _ _ 3 _ _ _ h,cell_of_row _ _ 4 _ _ _ h,cell_of_row _ _ 5 _ _ _ h,cell_of_row _ _ 6 _ _ _ h,cell_of_row _ _ 7 _ _ _ h,cell_of_row _ _ 8 _ _ _ h,cell_of_row _ _ 9 _ _ _ h,cell_of_row _ _ 10 _ _ _ h⟩
theorem own_below6 {w w':World} {base size n:Nat} {e:TypeId} {v:Value} {xs:List Value} (h:w.ownsRow base e size v n xs) (hg:Below w.heap.size w w'):w'.ownsRow base e size v n xs:=by
 have hlt:=h.lt
 obtain⟨hl,h|⟨g,cap,cur,rfl,hb,hh,r⟩⟩:=h
 ·exact⟨hl,.inl h⟩
 ·refine⟨hl,.inr ⟨g,cap,cur,rfl,hb,?_,r⟩⟩
  rw[hg.block g (hlt g rfl).2];exact hh
def Keeps8 (w w':World):Prop:=∀(g:Nat) (cs:Array Value) (t:TypeId) (fr:Nat×Nat),w.heap[g]?=some (.cells cs t fr)-> t≠5-> w'.heap[g]?=some (.cells cs t fr)
theorem Keeps8.trans {w w' w'':World} (h:Keeps8 w w') (h':Keeps8 w' w''):Keeps8 w w'':=λg cs t fr hg ht=>h' g cs t fr (h g cs t fr hg ht) ht
theorem Keeps8.below {w w':World} (h:Below w.heap.size w w'):Keeps8 w w':=λg _ _ _ hg _=>(h.block g (Array.getElem?_eq_some_iff.mp hg).1).trans hg
theorem Keeps8.grown {w w':World} {base n:Nat} {v:Value} {xs:List Value} (ho:w.ownsRow base 5 1 v n xs) (hg:w.grownBy w' v.ownBlock):Keeps8 w w':=λg cs t fr hc ht=>by
 refine(hg.block g (Array.getElem?_eq_some_iff.mp hc).1 ?_).trans hc
 intro e
 obtain⟨_,⟨rfl,_⟩|⟨g',cap,cur,rfl,_,hh,_⟩⟩:=ho
 ·cases e
 ·have e':g=g':=by simpa[Value.ownBlock] using e
  subst e'
  rw[hh] at hc
  simp only[aqG,Obj.cells.injEq] at hc
  exact ht hc.2.1.symm
theorem putNumber_any (v:Value) (m:Nat) (xs:List Value) (base:Nat) (n:Int) (w:World) (h0:0<= n) (h1:n<= 4611686018427387903)
 (hown:w.ownsRow base 5 1 v m xs) (hbase:base<= w.heap.size) (hm:m+10<= 140737488355328):
 Calls Tryz.prog 123 #[v,.int .i64 n] w λe w'=>∃v',e=.returned v'/\
  w'.ownsRow base 5 1 v' (m+sz n) (xs++(enc n).map (Value.int .u8))/\ Below base w w'/\ Keeps8 w w':=by
 obtain⟨i0,hi,hz0,hz1,hz2⟩:=info_parts Tryz.info_u8
 have hs:=sz_bounds n h0 (by omega)
 have hwr:IntKind.u64.wrap n=n:=by rw[IntKind.wrap_u64];omega
 go_enter Tryz.func123,Tryz.ntmps123
 go_wp2_with (first
  |(go_at_call 135;refine(bytes_any n w h0 (by omega)).mono ?_;rintro e w1 ⟨g,cap,rfl,ho1,hb1⟩;have HO1:=own_below6 hown hb1;have HL:=own_lies ho1;have hs1:=hb1.size)
  |(at_builtin;refine append_any _ rfl _ _ 35 rfl base 5 i0 (.int .u8 0) 1 Tryz.underlying35 hi hz0 hz1 hz2 rfl _ _ _ rfl HO1 .u8 _ _ _ (enc n) rfl (by intro h;cases h) HL.2 HL.1 (by unfold maxLen;omega) (by omega) (by omega) ?_;intro v2 w2 hown2 hg2))
 go_ret
 exact⟨v2,rfl,hown2,own_grown (hb1.mono hbase) hg2 HO1 (by omega),(Keeps8.below hb1).trans (Keeps8.grown HO1 hg2)⟩
theorem own_base6 {w:World} {base base' size n:Nat} {e:TypeId} {v:Value} {xs:List Value} (h:w.ownsRow base e size v n xs) (hb:base'<= base):w.ownsRow base' e size v n xs:=
 ⟨h.1,h.2.imp id λ⟨g,cap,cur,h1,h2,h3⟩=>⟨g,cap,cur,h1,Nat.le_trans hb h2,h3⟩⟩
def FrmO (w:World) (base:Nat) (v:Value) (k:Nat):Prop:=
 (k<= 6/\ w.ownsRow base 5 1 v 1 [.int .u8 2])∨(6 < k/\ w.ownsRow base 5 1 v 3 [.int .u8 2,.int .u8 130,.int .u8 44])
structure Rc where
 kind:Int
 org:Int
 num:Int
 peer:Int
 srv:Int
 off:Int
 red:Int
 size:Int
 how:Int
 spans:List (Int×Int)
 data:List Int
abbrev rcC (r:Rc) (sv dv:Value):Array Value:=#[.int .i64 r.kind,.int .i64 r.org,.int .i64 r.num,.int .i64 r.peer,.int .i64 r.srv,.int .i64 r.off,.int .i64 r.red,.int .i64 r.size,.int .i64 r.how,sv,dv]
abbrev rcO (r:Rc) (sv dv:Value):Obj:=.cells (rcC r sv dv) 81
abbrev nmV (r:Rc):Value:=.agg #[.int .i64 r.org,.int .i64 r.num,.int .i64 r.peer,.int .i64 r.srv,.int .i64 r.off,.int .i64 r.red,.int .i64 r.size,.int .i64 r.how]
def nmL (r:Rc):List Int:=[r.org,r.num,r.peer,r.srv,r.off,r.red,r.size,r.how]
def nmA (r:Rc) (i:Nat):Int:=(nmL r).getD i 0
theorem rc_cells {W:World} {g:Nat} {r:Rc} {sv dv:Value} (h:W.heap[g]?=some (rcO r sv dv)):
 W.cell? ⟨g,0,none⟩=some (.int .i64 r.kind)/\ W.cell? ⟨g,1,none⟩=some (.int .i64 r.org)/\ W.cell? ⟨g,2,none⟩=some (.int .i64 r.num)/\ W.cell? ⟨g,3,none⟩=some (.int .i64 r.peer)/\ W.cell? ⟨g,4,none⟩=some (.int .i64 r.srv)/\ W.cell? ⟨g,5,none⟩=some (.int .i64 r.off)/\ W.cell? ⟨g,6,none⟩=some (.int .i64 r.red)/\ W.cell? ⟨g,7,none⟩=some (.int .i64 r.size)/\ W.cell? ⟨g,8,none⟩=some (.int .i64 r.how)/\ W.cell? ⟨g,9,none⟩=some sv/\ W.cell? ⟨g,10,none⟩=some dv:=
 ⟨cell_of_row _ _ 0 _ _ _ h,cell_of_row _ _ 1 _ _ _ h,cell_of_row _ _ 2 _ _ _ h,cell_of_row _ _ 3 _ _ _ h,cell_of_row _ _ 4 _ _ _ h,cell_of_row _ _ 5 _ _ _ h,cell_of_row _ _ 6 _ _ _ h,cell_of_row _ _ 7 _ _ _ h,cell_of_row _ _ 8 _ _ _ h,cell_of_row _ _ 9 _ _ _ h,cell_of_row _ _ 10 _ _ _ h⟩
theorem index_nm (r:Rc) (i:Nat) (hi:i < 8) (w:World):(Instr.index 201 (nmV r) (.int .i64 i)).run Tryz.prog w=.ok (.int .i64 (nmA r i)) w:=by
 have:i=0∨i=1∨i=2∨i=3∨i=4∨i=5∨i=6∨i=7:=by omega
 have i0:(Instr.index 201 (nmV r) (.int .i64 0)).run Tryz.prog w=.ok (.int .i64 r.org) w:=by kernel_rfl
 have i1:(Instr.index 201 (nmV r) (.int .i64 1)).run Tryz.prog w=.ok (.int .i64 r.num) w:=by kernel_rfl
 have i2:(Instr.index 201 (nmV r) (.int .i64 2)).run Tryz.prog w=.ok (.int .i64 r.peer) w:=by kernel_rfl
 have i3:(Instr.index 201 (nmV r) (.int .i64 3)).run Tryz.prog w=.ok (.int .i64 r.srv) w:=by kernel_rfl
 have i4:(Instr.index 201 (nmV r) (.int .i64 4)).run Tryz.prog w=.ok (.int .i64 r.off) w:=by kernel_rfl
 have i5:(Instr.index 201 (nmV r) (.int .i64 5)).run Tryz.prog w=.ok (.int .i64 r.red) w:=by kernel_rfl
 have i6:(Instr.index 201 (nmV r) (.int .i64 6)).run Tryz.prog w=.ok (.int .i64 r.size) w:=by kernel_rfl
 have i7:(Instr.index 201 (nmV r) (.int .i64 7)).run Tryz.prog w=.ok (.int .i64 r.how) w:=by kernel_rfl
 rcases this with rfl|rfl|rfl|rfl|rfl|rfl|rfl|rfl
 ·exact i0
 ·exact i1
 ·exact i2
 ·exact i3
 ·exact i4
 ·exact i5
 ·exact i6
 ·exact i7
def kf (kind:Int):Int:=if 0<= kind/\ kind < 13 then kiT.getD kind.toNat 0 else 0
theorem fieldsOf_any (kind:Int) (w:World) (hT:Tab6 w):
 Calls Tryz.prog 118 #[.int .i64 kind] w λe w'=>e=.returned (.int .u16 (kf kind))/\ w=w':=by
 by_cases h0:0<= kind
 ·by_cases h1:kind < 13
  ·obtain⟨n,rfl⟩:∃n:Nat,kind=n:=⟨kind.toNat,by omega⟩
   have h2:=hT n (by omega)
   have hk:kf n=kiT.getD n 0:=by unfold kf;rw[if_pos (by omega)];rfl
   rw[hk]
   generalize kiT.getD n 0=y at*
   clear hT hk
   go_enter Tryz.func118,Tryz.ntmps118
   go_wp2
   go_ret
   exact⟨rfl,rfl⟩
  ·have hk:kf kind=0:=by unfold kf;rw[if_neg (by omega)]
   rw[hk]
   clear hT hk
   go_enter Tryz.func118,Tryz.ntmps118
   go_wp2
   go_ret
   exact⟨rfl,rfl⟩
 ·have hk:kf kind=0:=by unfold kf;rw[if_neg (by omega)]
  rw[hk]
  clear hT hk
  go_enter Tryz.func118,Tryz.ntmps118
  go_wp2
  go_ret
  exact⟨rfl,rfl⟩
theorem numbersOf_any (r:Rc) (sv dv:Value) (w:World):
 Calls Tryz.prog 121 #[.agg (rcC r sv dv)] w λe w'=>e=.returned (nmV r)/\ Below w.heap.size w w':=by
 go_enter Tryz.func121,Tryz.ntmps121
 go_wp2
 refine bodyPost_ret (v:=nmV r) (by simp[results,Tryz.results121,go_sem]) rfl ?_
 exact⟨rfl,((Below.refl _ _).alloc (aqH _) _).alloc (by simp) _⟩
def okN (f:Int) (i:Nat) (n:Int):Bool:=if hasB f i then numB i n else n == 0
def okNs (f:Int) (r:Rc) (k:Nat):Bool:=(List.range k).all λi=>okN f i (nmA r i)
def allowB (f:Int) (r:Rc):Bool:=okNs f r 8 && ((hasB f 8 || r.spans.length == 0) && (hasB f 9 || r.data.length == 0))
theorem okNs_succ (f:Int) (r:Rc) (k:Nat):okNs f r (k+1)=(okNs f r k && okN f k (nmA r k)):=by
 unfold okNs;rw[List.range_succ,List.all_append];simp
theorem okNs_no {f:Int} {r:Rc}:∀{k j:Nat},k<= j-> okNs f r k=false-> okNs f r j=false
 |k,0,h,h0=>by obtain rfl:k=0:=by omega
               exact h0
 |k,j+1,h,h0=>by
  rcases Nat.lt_or_ge j k with q|q
  ·obtain rfl:k=j+1:=by omega
   exact h0
  ·rw[okNs_succ,okNs_no q h0];rfl
theorem allow_any (f:Int) (r:Rc) (sa da:Option Addr) (sc dc:Nat) (w:World):
 Calls Tryz.prog 119 #[.int .u16 f,.agg (rcC r (.slice sa r.spans.length sc) (.slice da r.data.length dc))] w λe w'=>e=.returned (.bool (allowB f r))/\ Below w.heap.size w w':=by
 have HAL:Hid (allowB f r=(okNs f r 8 && ((hasB f 8 || r.spans.length == 0) && (hasB f 9 || r.data.length == 0)))):=rfl
 obtain⟨ns,hns⟩:∃ns,ns=r.spans.length:=⟨_,rfl⟩
 obtain⟨nd,hnd⟩:∃nd,nd=r.data.length:=⟨_,rfl⟩
 rw[←hns,←hnd] at HAL ⊢
 clear hns hnd
 have HB:Hid (Below w.heap.size w (w.alloc (rcO r (.slice sa ns sc) (.slice da nd dc)))):=(Below.refl _ _).alloc (aqH _) _
 have HX:Hid ((w.alloc (rcO r (.slice sa ns sc) (.slice da nd dc))).heap[w.heap.size]?=some (rcO r (.slice sa ns sc) (.slice da nd dc))):=heap_new6 w _
 go_enter Tryz.func119,Tryz.ntmps119
 go_wp2_with fail
 refine(numbersOf_any r _ _ _).mono ?_
 rintro e w1 ⟨rfl,hb1⟩
 have HB1:Hid (Below w.heap.size w w1):=HB.out.trans (hb1.mono HB.out.size)
 have HX1:Hid (w1.heap[w.heap.size]?=some (rcO r (.slice sa ns sc) (.slice da nd dc))):=(hb1.block _ (by simp)).trans HX.out
 clear hb1 HX HB
 obtain⟨_,_,_,_,_,_,_,_,_,c9,c10⟩:=rc_cells HX1.out
 go_wp2_with fail
 go_loop [9] (λi=>∃k:Nat,k<= 8/\ i=.int .i64 k/\ okNs f r k=true) (λi=>8 - (intOf i).toNat)
 case atStart=>exact⟨0,by omega,rfl,rfl⟩
 case round=>
  obtain⟨k,hk,rfl,hok⟩:=hrel
  have HOK:Hid (okNs f r k=true):=hok
  clear hok
  by_cases hlt:k < 8
  ·have hlt':(k:Int) < 8:=by omega
   have ik:=index_nm r k hlt
   have HS:Hid (okNs f r (k+1)=okN f k (nmA r k)):=by unfold Hid;rw[okNs_succ,HOK.out];rfl
   have HN:Hid (okN f k (nmA r k)=if hasB f k then numB k (nmA r k) else nmA r k == 0):=rfl
   generalize nmA r k=n at*
   obtain⟨b,hb⟩:∃b,hasB f k=b:=⟨_,rfl⟩
   obtain⟨d,hd⟩:∃d,numB k n=d:=⟨_,rfl⟩
   rw[hb,hd] at HN
   have hh:∀W,Calls Tryz.prog 122 #[.int .u16 f,.int .i64 k] W λe w'=>e=.returned (.bool b)/\ W=w':=λW=>hb ▸ rhas_any f k W (by omega)
   have hm:∀W,Calls Tryz.prog 131 #[.int .i64 k,.int .i64 n] W λe w'=>e=.returned (.bool d)/\ W=w':=λW=>hd ▸ numberMayBe_any k n W
   clear hb hd
   have HH:Hid (∀W,Calls Tryz.prog 122 #[.int .u16 f,.int .i64 k] W λe w'=>e=.returned (.bool b)/\ W=w'):=hh
   have HM:Hid (∀W,Calls Tryz.prog 131 #[.int .i64 k,.int .i64 n] W λe w'=>e=.returned (.bool d)/\ W=w'):=hm
   clear hh hm
   cases b with
   |true=>
    cases d with
    |true=>
     go_wp2_with (first|(go_at_call 122;refine(HH.out _).mono ?_;rintro e w' ⟨rfl,rfl⟩)|(go_at_call 131;refine(HM.out _).mono ?_;rintro e w' ⟨rfl,rfl⟩))
     go_round
     case rel=>exact⟨k+1,by omega,by go_num,by rw[HS.out,HN.out];rfl⟩
     case measure=>simp[intOf];omega
    |false=>
     go_wp2_with (first|(go_at_call 122;refine(HH.out _).mono ?_;rintro e w' ⟨rfl,rfl⟩)|(go_at_call 131;refine(HM.out _).mono ?_;rintro e w' ⟨rfl,rfl⟩))
     go_ret
     exact⟨by rw[HAL.out,okNs_no (k:=k+1) (j:=8) (by omega) (by rw[HS.out,HN.out];rfl)];rfl,HB1.out⟩
   |false=>
    by_cases hz:n=0
    ·subst hz
     go_wp2_with (first|(go_at_call 122;refine(HH.out _).mono ?_;rintro e w' ⟨rfl,rfl⟩)|(go_at_call 131;refine(HM.out _).mono ?_;rintro e w' ⟨rfl,rfl⟩))
     go_round
     case rel=>exact⟨k+1,by omega,by go_num,by rw[HS.out,HN.out];rfl⟩
     case measure=>simp[intOf];omega
    ·go_wp2_with (first|(go_at_call 122;refine(HH.out _).mono ?_;rintro e w' ⟨rfl,rfl⟩)|(go_at_call 131;refine(HM.out _).mono ?_;rintro e w' ⟨rfl,rfl⟩))
     go_ret
     exact⟨by rw[HAL.out,okNs_no (k:=k+1) (j:=8) (by omega) (by rw[HS.out,HN.out];simpa using hz)];rfl,HB1.out⟩
  ·obtain rfl:k=8:=by omega
   rw[HOK.out,Bool.true_and] at HAL
   have h8:∀W,Calls Tryz.prog 122 #[.int .u16 f,.int .i64 8] W λe w'=>e=.returned (.bool (hasB f 8))/\ W=w':=λW=>rhas_any f 8 W (by omega)
   have h9:∀W,Calls Tryz.prog 122 #[.int .u16 f,.int .i64 9] W λe w'=>e=.returned (.bool (hasB f 9))/\ W=w':=λW=>rhas_any f 9 W (by omega)
   generalize hasB f 8=b8 at*
   generalize hasB f 9=b9 at*
   have H8:Hid (∀W,Calls Tryz.prog 122 #[.int .u16 f,.int .i64 8] W λe w'=>e=.returned (.bool b8)/\ W=w'):=h8
   have H9:Hid (∀W,Calls Tryz.prog 122 #[.int .u16 f,.int .i64 9] W λe w'=>e=.returned (.bool b9)/\ W=w'):=h9
   clear h8 h9
   have hsn:(((ns:Nat):Int) == 0)=(ns == 0):=by cases ns<;>rfl
   have hdn:(((nd:Nat):Int) == 0)=(nd == 0):=by cases nd<;>rfl
   cases b8<;>cases b9<;>cases hsz:(ns == 0)
   all_goals
    rw[hsz] at HAL hsn
    go_wp2_with (first|(go_at_call_of 122 (Value.int .i64 8);refine(H8.out _).mono ?_;rintro e w' ⟨rfl,rfl⟩)|(go_at_call_of 122 (Value.int .i64 9);refine(H9.out _).mono ?_;rintro e w' ⟨rfl,rfl⟩))
    go_ret
    exact⟨by rw[HAL.out];simp,HB1.out⟩
end Go.Proofs.YtllhbhogfffedaaGreatDoor
namespace Go.Proofs.YtllhbhogfffedaaGreatDoor.C
abbrev Sp:=Int×Int
def Rt:Int-> List Sp-> Prop
 |_,[]=>True
 |lo,s::r=>lo<= s.1/\ s.1 < s.2/\ s.2<= 4611686018427387903/\ Rt (s.2+1) r
def inn (s:Sp) (x:Int):Bool:=decide (s.1<= x) && decide (x < s.2)
def has:List Sp-> Int-> Bool
 |[],_=>false
 |s::r,x=>inn s x || has r x
theorem Rt.mem:∀{l:List Sp} {lo:Int},Rt lo l-> ∀s∈l,lo<= s.1/\ s.1 < s.2/\ s.2<= 4611686018427387903
 |[],_,_,s,hs=>by cases hs
 |t::r,lo,h,s,hs=>by
  obtain⟨h1,h2,h3,h4⟩:=h
  rcases List.mem_cons.mp hs with rfl|hs
  ·exact⟨h1,h2,h3⟩
  ·have:=Rt.mem h4 s hs;omega
def IsSet (l:List Sp):Prop:=l.length<= 2000/\ Rt 0 l
def siz:List Sp-> Int
 |[]=>0
 |s::r=>(s.2 - s.1)+siz r
def cnt (p:Int-> Bool):Nat-> Nat
 |0=>0
 |n+1=>cnt p n+(if p n then 1 else 0)
def jo (l:List Sp) (s:Sp):List Sp:=
 match l.getLast? with
 |none=>l++[s]
 |some t=>if t.2 < s.1 then l++[s] else l.dropLast++[(t.1,max t.2 s.2)]
structure Mg (a b out ra rb:List Sp):Prop where
 rt:Rt 0 out
 all:∀x,(has out x || has ra x || has rb x)=(has a x || has b x)
 okA:Rt 0 ra
 okB:Rt 0 rb
 order:∀t∈out,(∀s∈ra,t.1<= s.1)/\ ∀s∈rb,t.1<= s.1
 len:out.length+(ra.length+rb.length)<= a.length+b.length
structure Uni (a b u:List Sp):Prop where
 rt:Rt 0 u
 all:∀x,has u x=(has a x || has b x)
 len:u.length<= a.length+b.length
end Go.Proofs.YtllhbhogfffedaaGreatDoor.C
namespace Go.Proofs.YtllhbhogfffedaaGreatDoor.C
def pc (hi:Int):Int-> List Sp-> List (Sp×Bool)
 |p,[]=>if p < hi then [((p,hi),false)] else []
 |p,x::r=>if min x.2 hi<= max x.1 p then pc hi p r else (if p < max x.1 p then [((p,max x.1 p),false)] else [])++((max x.1 p,min x.2 hi),true)::pc hi (min x.2 hi) r
def pick (b:Bool):List (Sp×Bool)-> List Sp
 |[]=>[]
 |s::r=>if s.2=b then s.1::pick b r else pick b r
def wth (l:List Sp) (s:Sp):List Sp:=pick true (pc s.2 s.1 l)
def gps (l:List Sp) (s:Sp):List Sp:=pick false (pc s.2 s.1 l)
def Asked (s:Sp):Prop:=0<= s.1/\ s.1<= s.2/\ s.2<= 4611686018427387903
def one (s:Sp):List Sp:=if s.1 < s.2 then [s] else []
open Go.RowKit
structure CIn (w:World) (v:Value) (cl:List Sp):Prop where
 shape:∃a c,v=.slice a cl.length c/\ (cl=[]∨∃g off,a=some ⟨g,off,none⟩/\ ∀(i:Nat) (p:Sp),cl[i]?=some p-> w.cell? ⟨g,off+i*2,none⟩=some (.int .i64 p.1)/\ w.cell? ⟨g,off+i*2+1,none⟩=some (.int .i64 p.2))
 small:cl.length<= 1048576
def Spa (w:World) (a:Option Addr) (cl:List Sp):Prop:=cl=[]∨∃g off,a=some ⟨g,off,none⟩/\ ∀(i:Nat) (p:Sp),cl[i]?=some p-> w.cell? ⟨g,off+i*2,none⟩=some (.int .i64 p.1)/\ w.cell? ⟨g,off+i*2+1,none⟩=some (.int .i64 p.2)
theorem cell_below {w w':World} {g o:Nat} {u:Value} (h:w.cell? ⟨g,o,none⟩=some u) (hb:Below w.heap.size w w'):w'.cell? ⟨g,o,none⟩=some u:=
 (hb.cell (p:=⟨g,o,none⟩) (World.block_lt_of_cell? w ⟨g,o,none⟩ h)).trans h
theorem Spa.below {w w':World} {a:Option Addr} {cl:List Sp} (h:Spa w a cl) (hb:Below w.heap.size w w'):Spa w' a cl:=by
 rcases h with h|⟨g,off,ha,h⟩
 ·exact .inl h
 ·exact .inr ⟨g,off,ha,λi p hp=>⟨cell_below (h i p hp).1 hb,cell_below (h i p hp).2 hb⟩⟩
theorem Spa.at {w:World} {a:Option Addr} {cl:List Sp} (h:Spa w a cl) {k:Nat} {p:Sp} (hk:cl[k]?=some p):∃g off,a=some ⟨g,off,none⟩/\ w.cell? ⟨g,off+k*2,none⟩=some (.int .i64 p.1)/\ w.cell? ⟨g,off+k*2+1,none⟩=some (.int .i64 p.2):=by
 rcases h with rfl|⟨g,off,ha,h⟩
 ·simp at hk
 ·exact⟨g,off,ha,h k p hk⟩
theorem drop_get {α:Type} (l:List α) (k:Nat) (x:α) (h:l[k]?=some x):l.drop k=x::l.drop (k+1):=by
 obtain⟨hk,hx⟩:=List.getElem?_eq_some_iff.mp h
 rw[List.drop_eq_getElem_cons hk,hx]
theorem get_some {α:Type} (l:List α) (k:Nat) (h:k < l.length):∃x,l[k]?=some x:=⟨l[k],List.getElem?_eq_getElem h⟩
theorem grown_trans {a b c:World} {row:Option Nat} (h:a.grownBy b row) (h':b.grownBy c row):a.grownBy c row:=
 ⟨h'.os.trans h.os,h'.tape.trans h.tape,h'.output.trans h.output,Nat.le_trans h.size h'.size,λk hk hne=>(h'.block k (Nat.lt_of_lt_of_le hk h.size) hne).trans (h.block k hk hne)⟩
theorem box0 (w:World) (x y:Value) (t:TypeId):(w.alloc (.cells #[x,y] t)).cell? ⟨w.heap.size,0,none⟩=some x:=by simp
theorem box1 (w:World) (x y:Value) (t:TypeId):(w.alloc (.cells #[x,y] t)).cell? ⟨w.heap.size,1,none⟩=some y:=by simp
def askB (s:Sp):Bool:=decide (0<= s.1) && (decide (s.1<= s.2) && decide (s.2<= 4611686018427387903))
def mayB (s:Sp):Bool:=askB s && decide (s.1 < s.2)
def rtB:Int-> List Sp-> Bool
 |_,[]=>true
 |lo,s::r=>mayB s && (decide (lo<= s.1) && rtB (s.2+1) r)
theorem rtB_iff:∀{l:List Sp} {lo:Int},0<= lo-> (rtB lo l=true↔Rt lo l)
 |[],_,_=>by simp[rtB,Rt]
 |s::r,lo,h=>by
  simp only[rtB,Rt,mayB,askB,Bool.and_eq_true,decide_eq_true_eq]
  constructor
  ·rintro⟨⟨⟨a,b,c⟩,d⟩,e,f⟩
   exact⟨e,d,c,(rtB_iff (by omega)).mp f⟩
  ·rintro⟨a,b,c,d⟩
   exact⟨⟨⟨by omega,by omega,c⟩,b⟩,a,(rtB_iff (by omega)).mpr d⟩
def setB (l:List Sp):Bool:=decide (l.length<= 2000) && rtB 0 l
theorem setB_iff {l:List Sp}:setB l=true↔IsSet l:=by
 simp only[setB,IsSet,Bool.and_eq_true,decide_eq_true_eq,rtB_iff (Int.le_refl 0)]
theorem asked_any (f t:Int) (w:World):Calls Tryz.prog 141 #[.agg #[.int .i64 f,.int .i64 t]] w λe w'=>e=.returned (.bool (askB (f,t)))/\ Below w.heap.size w w':=by
 have hb:Below w.heap.size w (w.alloc (.cells #[.int .i64 f,.int .i64 t] 128)):=(Below.refl _ _).alloc (Nat.le_refl _) _
 have HB:Hid (Below w.heap.size w (w.alloc (.cells #[.int .i64 f,.int .i64 t] 128))):=hb
 clear hb
 go_enter Tryz.func141,Tryz.ntmps141
 by_cases h1:0<= f
 ·by_cases h2:f<= t
  ·by_cases h3:t<= 4611686018427387903
   ·go_wp2
    go_ret
    exact⟨by simp[askB,h1,h2,h3],HB.out⟩
   ·go_wp2
    go_ret
    exact⟨by simp[askB,h3],HB.out⟩
  ·go_wp2
   go_ret
   exact⟨by simp[askB];omega,HB.out⟩
 ·go_wp2
  go_ret
  exact⟨by simp[askB];omega,HB.out⟩
theorem may_any (f t:Int) (w:World):Calls Tryz.prog 139 #[.agg #[.int .i64 f,.int .i64 t]] w λe w'=>e=.returned (.bool (mayB (f,t)))/\ Below w.heap.size w w':=by
 have hb:Below w.heap.size w (w.alloc (.cells #[.int .i64 f,.int .i64 t] 128)):=(Below.refl _ _).alloc (Nat.le_refl _) _
 have HB:Hid (Below w.heap.size w (w.alloc (.cells #[.int .i64 f,.int .i64 t] 128))):=hb
 clear hb
 have HA:=asked_any f t (w.alloc (.cells #[.int .i64 f,.int .i64 t] 128))
 unfold mayB
 generalize askB (f,t)=q at HA ⊢
 go_enter Tryz.func139,Tryz.ntmps139
 go_wp2_with fail
 refine HA.mono ?_
 rintro e w2 ⟨rfl,hb2⟩
 clear HA
 have c0:w2.cell? ⟨w.heap.size,0,none⟩=some (.int .i64 f):=(hb2.cell (p:=⟨w.heap.size,0,none⟩) (by simp)).trans (box0 _ _ _ _)
 have c1:w2.cell? ⟨w.heap.size,1,none⟩=some (.int .i64 t):=(hb2.cell (p:=⟨w.heap.size,1,none⟩) (by simp)).trans (box1 _ _ _ _)
 have HB2:Hid (Below w.heap.size w w2):=HB.out.trans (hb2.mono (by simp))
 clear hb2 HB
 cases q with
 |false=>
  go_wp2
  go_ret
  exact⟨by simp,HB2.out⟩
 |true=>
  by_cases h:f < t
  ·go_wp2
   go_ret
   exact⟨by simp[h],HB2.out⟩
  ·go_wp2
   go_ret
   exact⟨by simp,HB2.out⟩
end Go.Proofs.YtllhbhogfffedaaGreatDoor.C
namespace Go.Proofs.YtllhbhogfffedaaGreatDoor.C
open Go.RowKit
theorem right_any (a:Option Addr) (c:Nat) (l:List Sp) (w:World) (h:Spa w a l) (hm:l.length<= 9223372036854775807):Calls Tryz.prog 137 #[.slice a l.length c] w λe w'=>e=.returned (.bool (setB l))/\ Below w.heap.size w w':=by
 have HS:Hid (Spa w a l):=h
 clear h
 go_enter Tryz.func137,Tryz.ntmps137
 by_cases h2:2000 < l.length
 ·have h2':(2000:Int) < (l.length:Int):=by omega
  have HV:Hid (setB l=false):=by unfold Hid setB;rw[decide_eq_false (by omega)];rfl
  generalize setB l=V at*
  go_wp2
  go_ret
  exact⟨by rw[HV.out];rfl,Below.refl _ _⟩
 ·have h2':¬(2000:Int) < (l.length:Int):=by omega
  have HE:Hid (rtB 0 l=setB l):=by unfold Hid setB;rw[decide_eq_true (by omega)];rfl
  generalize setB l=V at*
  go_wp2_with fail
  go_loopw [3,11] (λq i wr=>∃(k:Nat) (least:Int),k<= l.length/\ i=.int .i64 k/\ q=.int .i64 least/\ 0<= least/\ Below w.heap.size w wr/\ rtB least (l.drop k)=V) (λ_ i _=>l.length - (intOf i).toNat)
  case atStart=>exact⟨0,0,by omega,rfl,rfl,by omega,Below.refl _ _,HE.out⟩
  case round=>
   obtain⟨k,least,hk,rfl,rfl,hl0,hbe,hrt⟩:=hrel
   have HBe:Hid (Below w.heap.size w wr):=hbe
   have HR:Hid (rtB least (l.drop k)=V):=hrt
   clear hbe hrt HE
   by_cases hlt:k < l.length
   ·have hlt':(k:Int) < (l.length:Int):=by omega
    obtain⟨p,hp⟩:=get_some l k hlt
    obtain⟨g,off,rfl,q1,q2⟩:=(HS.out.below HBe.out).at hp
    rw[drop_get l k p hp] at HR
    obtain⟨p1,p2⟩:=p
    simp only at q1 q2
    have HR2:Hid ((mayB (p1,p2) && (decide (least<= p1) && rtB (p2+1) (l.drop (k+1))))=V):=HR.out
    have hA:=may_any p1 p2 (wr.alloc (.cells #[.int .i64 p1,.int .i64 p2] 128))
    have HM:Hid (mayB (p1,p2)=true-> 0<= p1/\ p1 < p2/\ p2<= 4611686018427387903):=by
     intro h;simp[mayB,askB] at h;omega
    clear hp HR
    generalize mayB (p1,p2)=m at*
    go_wp2_with fail
    refine hA.mono ?_
    rintro e w2 ⟨rfl,hb2⟩
    clear hA
    have c0:w2.cell? ⟨wr.heap.size,0,none⟩=some (.int .i64 p1):=(hb2.cell (p:=⟨wr.heap.size,0,none⟩) (by simp)).trans (box0 _ _ _ _)
    have c1:w2.cell? ⟨wr.heap.size,1,none⟩=some (.int .i64 p2):=(hb2.cell (p:=⟨wr.heap.size,1,none⟩) (by simp)).trans (box1 _ _ _ _)
    have HB2:Hid (Below w.heap.size w w2):=(HBe.out.alloc HBe.out.size _).trans (hb2.mono (by have:=HBe.out.size;simp;omega))
    clear hb2 HBe q1 q2
    cases m with
    |false=>
     have HV:Hid (V=false):=HR2.out.symm
     go_wp2
     go_ret
     exact⟨by rw[HV.out];rfl,HB2.out⟩
    |true=>
     obtain⟨m1,m2,m3⟩:=HM.out rfl
     by_cases e1:p1 < least
     ·have HV:Hid (V=false):=by have:=HR2.out;rw[decide_eq_false (by omega)] at this;exact this.symm
      go_wp2
      go_ret
      exact⟨by rw[HV.out];rfl,HB2.out⟩
     ·have HR3:Hid (rtB (p2+1) (l.drop (k+1))=V):=by have:=HR2.out;rw[decide_eq_true (by omega)] at this;exact this
      clear HR2 HM
      go_wp2
      go_roundw
      case rel=>exact⟨k+1,p2+1,by omega,by go_num,by go_num,by omega,HB2.out,HR3.out⟩
      case measure=>simp[intOf];omega
   ·have hkn:k=l.length:=by omega
    have HV:Hid (V=true):=by have:=HR.out;rw[hkn,List.drop_length] at this;exact this.symm
    clear HR
    subst hkn
    go_wp2
    go_ret
    exact⟨by rw[HV.out];rfl,HBe.out⟩
end Go.Proofs.YtllhbhogfffedaaGreatDoor.C
namespace Go.Proofs.YtllhbhogfffedaaGreatDoor.C
open Go.RowKit
def szB (l:List Sp):Int:=if setB l then siz l else 0
def spc (p:Sp):List Value:=[.int .i64 p.1,.int .i64 p.2]
theorem Tryz.info_span:(Tryz.prog.info? 128).map (λi=>(i.zero,i.size,i.bytes))=some (some (.agg #[.int .i64 0,.int .i64 0]),2,16):=by kernel_rfl
def SOwn (w:World) (base:Nat) (v:Value) (l:List Sp):Prop:=w.ownsRow base 128 2 v l.length (l.flatMap spc)
theorem own_shape {w:World} {base n sz:Nat} {e:TypeId} {v:Value} {xs:List Value} (h:w.ownsRow base e sz v n xs):∃a cap,v=.slice a n cap:=by
 obtain⟨_,⟨rfl,rfl⟩|⟨g,cap,cur,rfl,_⟩⟩:=h
 ·exact⟨none,0,rfl⟩
 ·exact⟨_,cap,rfl⟩
theorem own_some {w:World} {base n sz:Nat} {e:TypeId} {v:Value} {xs:List Value} (h:w.ownsRow base e sz v n xs) (hn:0 < n):∃g cap,v=.slice (some ⟨g,0,none⟩) n cap:=by
 obtain⟨_,⟨rfl,rfl⟩|⟨g,cap,cur,rfl,_⟩⟩:=h
 ·omega
 ·exact⟨g,cap,rfl⟩
theorem spc_get (l:List Sp) (i:Nat) (p:Sp) (h:l[i]?=some p):(l.flatMap spc)[i*2]?=some (.int .i64 p.1)/\ (l.flatMap spc)[i*2+1]?=some (.int .i64 p.2):=by
 induction l generalizing i with
 |nil=>simp at h
 |cons s r ih=>
  cases i with
  |zero=>simp at h;subst h;simp[spc]
  |succ i=>
   simp at h
   have:=ih i h
   rw[List.flatMap_cons,List.getElem?_append_right (by simp[spc];omega),List.getElem?_append_right (by simp[spc];omega)]
   simp only[spc,List.length_cons,List.length_nil]
   rw[show (i+1)*2 - (0+1+1)=i*2 from by omega,show (i+1)*2+1 - (0+1+1)=i*2+1 from by omega]
   exact this
theorem spc_len (l:List Sp):(l.flatMap spc).length=l.length*2:=by
 induction l with
 |nil=>rfl
 |cons s r ih=>simp[spc,ih];omega
theorem SOwn.spa {w:World} {base:Nat} {a:Option Addr} {n c:Nat} {l:List Sp} (h:SOwn w base (.slice a n c) l):Spa w a l:=by
 by_cases hl:l=[]
 ·exact .inl hl
 ·have hp:=List.length_pos_iff.mpr hl
  obtain⟨g,cap,hv⟩:=own_some h hp
  simp only[Value.slice.injEq] at hv
  obtain⟨rfl,rfl,rfl⟩:=hv
  refine .inr ⟨g,0,rfl,λi p hi=>?_⟩
  have hil:i < l.length:=(List.getElem?_eq_some_iff.mp hi).1
  obtain⟨q1,q2⟩:=spc_get l i p hi
  rw[Nat.zero_add]
  exact⟨(World.ownsRow.cellAt h _ (by omega)).trans q1,(World.ownsRow.cellAt h _ (by omega)).trans q2⟩
theorem cell_two_new (w:World) (x y:Value) (t:TypeId):∀j u,[x,y][j]?=some u-> (w.alloc (.cells #[x,y] t)).cell? ((⟨w.heap.size,0,none⟩:Addr).add j)=some u:=by
 intro j u hj
 match j,hj with
 |0,hj=>simp at hj;subst hj;simp[Addr.add]
 |1,hj=>simp at hj;subst hj;simp[Addr.add]
theorem grown_drewN (w:World) (n:Nat) (row:Option Nat):w.grownBy (w.drewN n) row:=⟨rfl,rfl,rfl,Nat.le_refl _,λ_ _ _=>rfl⟩
theorem cell_two_at (w:World) (x y:Value) (t:TypeId) (n:Nat) (hn:n=w.heap.size):∀j u,[x,y][j]?=some u-> (w.alloc (.cells #[x,y] t)).cell? ((⟨n,0,none⟩:Addr).add j)=some u:=by
 subst hn;exact cell_two_new _ _ _ _
theorem grown_set (w:World) (g i:Nat) (u:Value):w.grownBy (w.setCell ⟨g,i,none⟩ u) (some g):=
 ⟨rfl,rfl,rfl,by simp[World.setCell],λk _ hne=>Below.heap_setCell _ _ _ _ (λe=>hne (by rw[e]))⟩
def JoinPost (w:World) (base:Nat) (v:Value) (l:List Sp) (e:Ending) (w':World):Prop:=∃v',e=.returned v'/\ SOwn w' base v' l/\ w.grownBy w' v.ownBlock
end Go.Proofs.YtllhbhogfffedaaGreatDoor.C
namespace Go.Proofs.YtllhbhogfffedaaGreatDoor.C
open Go.RowKit
def lenV:Value-> Nat
 | .slice _ n _=>n
 |_=>0
theorem SOwn.lt {w:World} {base:Nat} {v:Value} {l:List Sp} (h:SOwn w base v l):∀k,v.ownBlock=some k-> base<= k/\ k < w.heap.size:=World.ownsRow.lt h
theorem SOwn.shape {w:World} {base:Nat} {v:Value} {l:List Sp} (h:SOwn w base v l):∃a c,v=.slice a l.length c:=own_shape h
def MergePost (w:World) (l m:List Sp) (e:Ending) (w':World):Prop:=∃v u,e=.returned v/\ SOwn w' w.heap.size v u/\ Uni l m u/\ Below w.heap.size w w'
def eqB (l m:List Sp):Bool:=decide (l=m)
end Go.Proofs.YtllhbhogfffedaaGreatDoor.C
namespace Go.Proofs.YtllhbhogfffedaaGreatDoor.C
open Go.RowKit
structure Ls (w:World) (v:Value) (l:List Sp):Prop where
 shape:∃a c,v=.slice a l.length c/\ Spa w a l/\ l.length<= c/\ c<= 9223372036854775807
 small:l.length<= 9223372036854775807
theorem Ls.below {w w':World} {v:Value} {l:List Sp} (h:Ls w v l) (hb:Below w.heap.size w w'):Ls w' v l:=by
 obtain⟨a,c,hv,hs,h1,h2⟩:=h.shape
 exact⟨⟨a,c,hv,hs.below hb,h1,h2⟩,h.small⟩
theorem SOwn.ls {w:World} {base:Nat} {v:Value} {l:List Sp} (h:SOwn w base v l) (hm:l.length<= 9223372036854775807):Ls w v l:=by
 obtain⟨a,c,rfl⟩:=h.shape
 refine⟨⟨a,c,rfl,h.spa,?_⟩,hm⟩
 rcases h.2 with ⟨hv,hn⟩|⟨g,cap,cur,hv,_,_,h1,h2,_⟩
 ·simp only[Value.slice.injEq] at hv;obtain⟨_,_,rfl⟩:=hv;omega
 ·simp only[Value.slice.injEq] at hv;obtain⟨_,_,rfl⟩:=hv;unfold maxLen at h2;omega
theorem Ls.nil (w:World):Ls w (.slice none 0 0) []:=⟨⟨none,0,rfl,.inl rfl,by simp,by omega⟩,by simp⟩
theorem SOwn.nil (w:World) (base:Nat):SOwn w base (.slice none 0 0) []:=World.ownsRow_nil _ _ _ _
theorem right_ls {v:Value} {l:List Sp} {w:World} (h:Ls w v l):Calls Tryz.prog 137 #[v] w λe w'=>e=.returned (.bool (setB l))/\ Below w.heap.size w w':=by
 obtain⟨a,c,rfl,hs,_,_⟩:=h.shape;exact right_any a c l w hs h.small
def UR (l m u:List Sp) (er:Int):Prop:=(¬(IsSet l/\ IsSet m)/\ er=30/\ u=[])∨(IsSet l/\ IsSet m/\ ∃U,Uni l m U/\ ((U.length<= 2000/\ er=0/\ u=U)∨(2000 < U.length/\ er=3/\ u=[])))
def UnionPost (l m:List Sp) (w:World) (e:Ending) (w':World):Prop:=∃v u er,e=.returned (.tuple #[v,.int .i64 er])/\ SOwn w' w.heap.size v u/\ UR l m u er/\ Below w.heap.size w w'
def AR (l:List Sp) (s:Sp) (u:List Sp) (n er:Int):Prop:=UR l [s] u er/\ ((er=0/\ n=siz u - siz l)∨(er≠0/\ n=0))
def AddPost (l:List Sp) (s:Sp) (w:World) (e:Ending) (w':World):Prop:=∃v u n er,e=.returned (.tuple #[v,.int .i64 n,.int .i64 er])/\ SOwn w' w.heap.size v u/\ AR l s u n er/\ Below w.heap.size w w'
end Go.Proofs.YtllhbhogfffedaaGreatDoor.C
namespace Go.Proofs.YtllhbhogfffedaaGreatDoor.C
open Go.RowKit
def lsx (l:List Sp) (k:Nat):Int:=match k with
 |0=>0
 |k+1=>(l.getD k (0,0)).2+1
end Go.Proofs.YtllhbhogfffedaaGreatDoor.C
namespace Go.Proofs.YtllhbhogfffedaaGreatDoor
open Go.RowKit
def lenB (n low:Int):Bool:=n == 0 || (decide (low<= n) && decide (n<= 65536))
theorem isLength_any (n low:Int) (w:World):
 Calls Tryz.prog 133 #[.int .i64 n,.int .i64 low] w λe w'=>e=.returned (.bool (lenB n low))/\ w=w':=by
 have HL:Hid (lenB n low=(n == 0 || (decide (low<= n) && decide (n<= 65536)))):=rfl
 by_cases h:n=0
 ·subst h
  go_enter Tryz.func133,Tryz.ntmps133
  go_wp2_with (go_at_call 132;refine(rbetween_any _ _ _ _).mono ?_;rintro e w' ⟨rfl,rfl⟩)
  go_ret
  exact⟨rfl,rfl⟩
 ·have h':(n == 0)=false:=by simpa using h
  rw[h',Bool.false_or] at HL
  rw[HL.out]
  generalize hq:(decide (low<= n) && decide (n<= 65536))=q at*
  have HC:Hid (∀W,Calls Tryz.prog 132 #[.int .i64 n,.int .i64 low,.int .i64 65536] W λe w'=>e=.returned (.bool q)/\ W=w'):=λW=>hq ▸ rbetween_any n low 65536 W
  clear hq HL
  go_enter Tryz.func133,Tryz.ntmps133
  go_wp2_with (go_at_call 132;refine(HC.out _).mono ?_;rintro e w' ⟨rfl,rfl⟩)
  go_ret
  exact⟨rfl,rfl⟩
def tombB (l:List (Int×Int)):Bool:=(decide (1<= (l.length:Int)) && decide ((l.length:Int)<= 500)) && (C.setB l && decide (1<= (l.head?.getD (0,0)).1))
theorem areTombs_any (l:List (Int×Int)) (a:Option Addr) (n c:Nat) (w:World) (hn:l.length=n) (h:C.Ls w (.slice a n c) l):
 Calls Tryz.prog 134 #[.slice a n c] w λe w'=>e=.returned (.bool (tombB l))/\ Below w.heap.size w w':=by
 have HT:Hid (tombB l=((decide (1<= (n:Int)) && decide ((n:Int)<= 500)) && (C.setB l && decide (1<= (l.head?.getD (0,0)).1)))):=by unfold Hid tombB;rw[hn]
 have HR:Hid (∀W,Below w.heap.size w W-> Calls Tryz.prog 137 #[.slice a n c] W λe w'=>e=.returned (.bool (C.setB l))/\ Below W.heap.size W w'):=λW hW=>C.right_ls (h.below hW)
 obtain⟨q,hq⟩:∃q,(decide (1<= (n:Int)) && decide ((n:Int)<= 500))=q:=⟨_,rfl⟩
 have HC:Hid (∀W,Calls Tryz.prog 132 #[.int .i64 n,.int .i64 1,.int .i64 500] W λe w'=>e=.returned (.bool q)/\ W=w'):=λW=>hq ▸ rbetween_any n 1 500 W
 rw[hq] at HT
 cases q with
 |false=>
  rw[HT.out]
  clear hq h HT HR
  go_enter Tryz.func134,Tryz.ntmps134
  go_wp2_with (go_at_call 132;refine(HC.out _).mono ?_;rintro e w' ⟨rfl,rfl⟩)
  go_ret
  exact⟨rfl,Below.refl _ _⟩
 |true=>
  have hn1:1<= (n:Int):=by simp at hq;omega
  obtain⟨p,ps,rfl⟩:∃p ps,l=p::ps:=by
   cases l with
   |nil=>simp at hn;omega
   |cons p ps=>exact⟨p,ps,rfl⟩
  obtain⟨a',c',hv,hs,hx1,hx2⟩:=h.shape
  clear hx1 hx2
  simp only[Value.slice.injEq] at hv
  obtain⟨rfl,hv2,rfl⟩:=hv
  clear hv2
  rcases hs with h0|⟨g,off,rfl,hcell⟩
  ·cases h0
  have hc0:=(hcell 0 p rfl).1
  simp only[Nat.zero_mul,Nat.add_zero] at hc0
  have HC0:Hid (∀W,Below w.heap.size w W-> W.cell? ⟨g,off,none⟩=some (.int .i64 p.1)):=λW hW=>C.cell_below hc0 hW
  rw[show ((p::ps).head?.getD (0,0)).1=p.1 from rfl] at HT
  generalize C.setB (p::ps)=s at*
  clear hq h hcell hc0 hn
  cases s with
  |false=>
   rw[HT.out]
   clear HT
   go_enter Tryz.func134,Tryz.ntmps134
   go_wp2_with (first|(go_at_call 132;refine(HC.out _).mono ?_;rintro e w' ⟨rfl,rfl⟩)|(go_at_call 137;refine(HR.out _ (Below.refl _ _)).mono ?_;rintro e w2 ⟨rfl,hb2⟩))
   go_ret
   exact⟨rfl,hb2⟩
  |true=>
   rw[HT.out]
   clear HT
   go_enter Tryz.func134,Tryz.ntmps134
   go_wp2_with (first|(go_at_call 132;refine(HC.out _).mono ?_;rintro e w' ⟨rfl,rfl⟩)|(go_at_call 137;refine(HR.out _ (Below.refl _ _)).mono ?_;rintro e w2 ⟨rfl,hb2⟩;have hc2:=HC0.out _ hb2;clear HR))
   go_ret
   exact⟨rfl,hb2⟩
end Go.Proofs.YtllhbhogfffedaaGreatDoor
namespace Go.Proofs.YtllhbhogfffedaaGreatDoor
open Go.RowKit
set_option linter.unusedVariables false
def suitB (r:Rc):Bool:=
 if r.kind=1 then decide (1<= r.size) && decide (r.size<= 1073741824)
 else if r.kind=2 then decide (1<= r.size)
 else if r.kind=3 then decide (1<= r.peer) && ((decide (1<= r.red) && decide (r.red<= r.size)) && (decide (r.size<= 65536) && ((r.data.length:Int) == r.red)))
 else if r.kind=4 then decide (r.how<= 6)
 else if r.kind=6 then decide (1<= (r.data.length:Int)) && (decide (r.off+(r.data.length:Int)<= 65536) && (lenB r.red (r.off+(r.data.length:Int)) && lenB r.size (max (r.off+(r.data.length:Int)) r.red)))
 else if r.kind=8 then decide (r.how<= 5)
 else if r.kind=11 then decide (1<= r.size) && tombB r.spans
 else if r.kind=12 then (decide (1<= r.red) && decide (r.red<= 65536)) && lenB r.size r.red
 else true
theorem suits_k1 (r:Rc) (sa da:Option Addr) (ns nd sc dc:Nat) (w:World) (hns:r.spans.length=ns) (hnd:r.data.length=nd) (hm:nd<= 140737488355328) (hs:C.Ls w (.slice sa ns sc) r.spans) (ho:0<= r.off/\ r.off<= 4611686018427387903) (hk:r.kind=1):
 Calls Tryz.prog 120 #[.agg (rcC r (.slice sa ns sc) (.slice da nd dc))] w λe w'=>e=.returned (.bool (suitB r))/\ Below w.heap.size w w':=by
 have HB:Hid (Below w.heap.size w (w.alloc (rcO r (.slice sa ns sc) (.slice da nd dc)))):=(Below.refl _ _).alloc (aqH _) _
 have HS:Hid (suitB r=(decide (1<= r.size) && decide (r.size<= 1073741824))):=by unfold Hid suitB;rw[hk,if_pos rfl]
 generalize suitB r=S at*
 obtain⟨kind,org,num,peer,srv,off,red,size,how,spans,data⟩:=r
 simp only at HS ho hk
 subst hk
 clear hns hnd hs
 obtain⟨ho0,ho1⟩:=ho
 rw[HS.out]
 go_enter Tryz.func120,Tryz.ntmps120
 go_wp2_with (go_at_call 132;refine(rbetween_any _ _ _ _).mono ?_;rintro e w' ⟨rfl,rfl⟩)
 go_ret
 exact⟨rfl,HB.out⟩
theorem suits_k2 (r:Rc) (sa da:Option Addr) (ns nd sc dc:Nat) (w:World) (hns:r.spans.length=ns) (hnd:r.data.length=nd) (hm:nd<= 140737488355328) (hs:C.Ls w (.slice sa ns sc) r.spans) (ho:0<= r.off/\ r.off<= 4611686018427387903) (hk:r.kind=2):
 Calls Tryz.prog 120 #[.agg (rcC r (.slice sa ns sc) (.slice da nd dc))] w λe w'=>e=.returned (.bool (suitB r))/\ Below w.heap.size w w':=by
 have HB:Hid (Below w.heap.size w (w.alloc (rcO r (.slice sa ns sc) (.slice da nd dc)))):=(Below.refl _ _).alloc (aqH _) _
 have HS:Hid (suitB r=(decide (1<= r.size))):=by unfold Hid suitB;rw[hk,if_neg (by decide),if_pos rfl]
 generalize suitB r=S at*
 obtain⟨kind,org,num,peer,srv,off,red,size,how,spans,data⟩:=r
 simp only at HS ho hk
 subst hk
 clear hns hnd hs
 obtain⟨ho0,ho1⟩:=ho
 rw[HS.out]
 go_enter Tryz.func120,Tryz.ntmps120
 go_wp2
 go_ret
 exact⟨rfl,HB.out⟩
theorem suits_k3 (r:Rc) (sa da:Option Addr) (ns nd sc dc:Nat) (w:World) (hns:r.spans.length=ns) (hnd:r.data.length=nd) (hm:nd<= 140737488355328) (hs:C.Ls w (.slice sa ns sc) r.spans) (ho:0<= r.off/\ r.off<= 4611686018427387903) (hk:r.kind=3):
 Calls Tryz.prog 120 #[.agg (rcC r (.slice sa ns sc) (.slice da nd dc))] w λe w'=>e=.returned (.bool (suitB r))/\ Below w.heap.size w w':=by
 have HB:Hid (Below w.heap.size w (w.alloc (rcO r (.slice sa ns sc) (.slice da nd dc)))):=(Below.refl _ _).alloc (aqH _) _
 have HS:Hid (suitB r=(decide (1<= r.peer) && ((decide (1<= r.red) && decide (r.red<= r.size)) && (decide (r.size<= 65536) && ((nd:Int) == r.red))))):=by unfold Hid suitB;rw[hk,if_neg (by decide),if_neg (by decide),if_pos rfl];rw[hnd]
 generalize suitB r=S at*
 obtain⟨kind,org,num,peer,srv,off,red,size,how,spans,data⟩:=r
 simp only at HS ho hk
 subst hk
 clear hns hnd hs
 obtain⟨ho0,ho1⟩:=ho
 rw[HS.out]
 have HC:Hid (∀W,Calls Tryz.prog 132 #[.int .i64 red,.int .i64 1,.int .i64 size] W λe w'=>e=.returned (.bool (decide (1<= red) && decide (red<= size)))/\ W=w'):=λW=>rbetween_any red 1 size W
 generalize (decide (1<= red) && decide (red<= size))=b2 at*
 by_cases p1:1<= peer
 ·have p1':decide (1<= peer)=true:=decide_eq_true p1
  rw[p1',Bool.true_and]
  cases b2 with
  |false=>
   go_enter Tryz.func120,Tryz.ntmps120
   go_wp2_with (go_at_call 132;refine(HC.out _).mono ?_;rintro e w' ⟨rfl,rfl⟩)
   go_ret
   exact⟨rfl,HB.out⟩
  |true=>
   by_cases p3:size<= 65536
   ·have p3':decide (size<= 65536)=true:=decide_eq_true p3
    rw[p3']
    go_enter Tryz.func120,Tryz.ntmps120
    go_wp2_with (go_at_call 132;refine(HC.out _).mono ?_;rintro e w' ⟨rfl,rfl⟩)
    go_ret
    exact⟨rfl,HB.out⟩
   ·have p3':decide (size<= 65536)=false:=decide_eq_false p3
    rw[p3']
    go_enter Tryz.func120,Tryz.ntmps120
    go_wp2_with (go_at_call 132;refine(HC.out _).mono ?_;rintro e w' ⟨rfl,rfl⟩)
    go_ret
    exact⟨rfl,HB.out⟩
 ·have p1':decide (1<= peer)=false:=decide_eq_false p1
  rw[p1']
  go_enter Tryz.func120,Tryz.ntmps120
  go_wp2_with (go_at_call 132;refine(HC.out _).mono ?_;rintro e w' ⟨rfl,rfl⟩)
  go_ret
  exact⟨rfl,HB.out⟩
theorem suits_k4 (r:Rc) (sa da:Option Addr) (ns nd sc dc:Nat) (w:World) (hns:r.spans.length=ns) (hnd:r.data.length=nd) (hm:nd<= 140737488355328) (hs:C.Ls w (.slice sa ns sc) r.spans) (ho:0<= r.off/\ r.off<= 4611686018427387903) (hk:r.kind=4):
 Calls Tryz.prog 120 #[.agg (rcC r (.slice sa ns sc) (.slice da nd dc))] w λe w'=>e=.returned (.bool (suitB r))/\ Below w.heap.size w w':=by
 have HB:Hid (Below w.heap.size w (w.alloc (rcO r (.slice sa ns sc) (.slice da nd dc)))):=(Below.refl _ _).alloc (aqH _) _
 have HS:Hid (suitB r=(decide (r.how<= 6))):=by unfold Hid suitB;rw[hk,if_neg (by decide),if_neg (by decide),if_neg (by decide),if_pos rfl]
 generalize suitB r=S at*
 obtain⟨kind,org,num,peer,srv,off,red,size,how,spans,data⟩:=r
 simp only at HS ho hk
 subst hk
 clear hns hnd hs
 obtain⟨ho0,ho1⟩:=ho
 rw[HS.out]
 go_enter Tryz.func120,Tryz.ntmps120
 go_wp2
 go_ret
 exact⟨rfl,HB.out⟩
theorem suits_k6 (r:Rc) (sa da:Option Addr) (ns nd sc dc:Nat) (w:World) (hns:r.spans.length=ns) (hnd:r.data.length=nd) (hm:nd<= 140737488355328) (hs:C.Ls w (.slice sa ns sc) r.spans) (ho:0<= r.off/\ r.off<= 4611686018427387903) (hk:r.kind=6):
 Calls Tryz.prog 120 #[.agg (rcC r (.slice sa ns sc) (.slice da nd dc))] w λe w'=>e=.returned (.bool (suitB r))/\ Below w.heap.size w w':=by
 have HB:Hid (Below w.heap.size w (w.alloc (rcO r (.slice sa ns sc) (.slice da nd dc)))):=(Below.refl _ _).alloc (aqH _) _
 have HS:Hid (suitB r=(decide (1<= (nd:Int)) && (decide (r.off+(nd:Int)<= 65536) && (lenB r.red (r.off+(nd:Int)) && lenB r.size (max (r.off+(nd:Int)) r.red))))):=by unfold Hid suitB;rw[hk,if_neg (by decide),if_neg (by decide),if_neg (by decide),if_neg (by decide),if_pos rfl];rw[hnd]
 generalize suitB r=S at*
 obtain⟨kind,org,num,peer,srv,off,red,size,how,spans,data⟩:=r
 simp only at HS ho hk
 subst hk
 clear hns hnd hs
 obtain⟨ho0,ho1⟩:=ho
 rw[HS.out]
 have hwe:IntKind.i64.wrap (off+(nd:Int))=off+(nd:Int):=by rw[IntKind.wrap_i64];omega
 have HL1:Hid (∀W,Calls Tryz.prog 133 #[.int .i64 red,.int .i64 (off+(nd:Int))] W λe w'=>e=.returned (.bool (lenB red (off+(nd:Int))))/\ W=w'):=λW=>isLength_any _ _ W
 have HL2:Hid (∀W,Calls Tryz.prog 133 #[.int .i64 size,.int .i64 (max (off+(nd:Int)) red)] W λe w'=>e=.returned (.bool (lenB size (max (off+(nd:Int)) red)))/\ W=w'):=λW=>isLength_any _ _ W
 generalize lenB red (off+(nd:Int))=b3 at*
 generalize lenB size (max (off+(nd:Int)) red)=b4 at*
 by_cases p1:1<= (nd:Int)
 ·have p1':decide (1<= (nd:Int))=true:=decide_eq_true p1
  rw[p1',Bool.true_and]
  by_cases p2:off+(nd:Int)<= 65536
  ·have p2':decide (off+(nd:Int)<= 65536)=true:=decide_eq_true p2
   rw[p2',Bool.true_and]
   cases b3 with
   |false=>
    go_enter Tryz.func120,Tryz.ntmps120
    go_wp2_with (go_at_call 133;refine(HL1.out _).mono ?_;rintro e w' ⟨rfl,rfl⟩)
    go_ret
    exact⟨rfl,HB.out⟩
   |true=>
    go_enter Tryz.func120,Tryz.ntmps120
    go_wp2_with fail
    refine(HL1.out _).mono ?_
    rintro e w' ⟨rfl,rfl⟩
    go_wp2_with fail
    refine(HL2.out _).mono ?_
    rintro e w' ⟨rfl,rfl⟩
    go_wp2
    go_ret
    exact⟨rfl,HB.out⟩
  ·have p2':decide (off+(nd:Int)<= 65536)=false:=decide_eq_false p2
   rw[p2']
   go_enter Tryz.func120,Tryz.ntmps120
   go_wp2
   go_ret
   exact⟨rfl,HB.out⟩
 ·have p1':decide (1<= (nd:Int))=false:=decide_eq_false p1
  rw[p1']
  go_enter Tryz.func120,Tryz.ntmps120
  go_wp2
  go_ret
  exact⟨rfl,HB.out⟩
theorem suits_k8 (r:Rc) (sa da:Option Addr) (ns nd sc dc:Nat) (w:World) (hns:r.spans.length=ns) (hnd:r.data.length=nd) (hm:nd<= 140737488355328) (hs:C.Ls w (.slice sa ns sc) r.spans) (ho:0<= r.off/\ r.off<= 4611686018427387903) (hk:r.kind=8):
 Calls Tryz.prog 120 #[.agg (rcC r (.slice sa ns sc) (.slice da nd dc))] w λe w'=>e=.returned (.bool (suitB r))/\ Below w.heap.size w w':=by
 have HB:Hid (Below w.heap.size w (w.alloc (rcO r (.slice sa ns sc) (.slice da nd dc)))):=(Below.refl _ _).alloc (aqH _) _
 have HS:Hid (suitB r=(decide (r.how<= 5))):=by unfold Hid suitB;rw[hk,if_neg (by decide),if_neg (by decide),if_neg (by decide),if_neg (by decide),if_neg (by decide),if_pos rfl]
 generalize suitB r=S at*
 obtain⟨kind,org,num,peer,srv,off,red,size,how,spans,data⟩:=r
 simp only at HS ho hk
 subst hk
 clear hns hnd hs
 obtain⟨ho0,ho1⟩:=ho
 rw[HS.out]
 go_enter Tryz.func120,Tryz.ntmps120
 go_wp2
 go_ret
 exact⟨rfl,HB.out⟩
theorem suits_k11 (r:Rc) (sa da:Option Addr) (ns nd sc dc:Nat) (w:World) (hns:r.spans.length=ns) (hnd:r.data.length=nd) (hm:nd<= 140737488355328) (hs:C.Ls w (.slice sa ns sc) r.spans) (ho:0<= r.off/\ r.off<= 4611686018427387903) (hk:r.kind=11):
 Calls Tryz.prog 120 #[.agg (rcC r (.slice sa ns sc) (.slice da nd dc))] w λe w'=>e=.returned (.bool (suitB r))/\ Below w.heap.size w w':=by
 have HB:Hid (Below w.heap.size w (w.alloc (rcO r (.slice sa ns sc) (.slice da nd dc)))):=(Below.refl _ _).alloc (aqH _) _
 have HT:Hid (Calls Tryz.prog 134 #[.slice sa ns sc] (w.alloc (rcO r (.slice sa ns sc) (.slice da nd dc))) λe w'=>e=.returned (.bool (tombB r.spans))/\ Below (w.alloc (rcO r (.slice sa ns sc) (.slice da nd dc))).heap.size (w.alloc (rcO r (.slice sa ns sc) (.slice da nd dc))) w'):=areTombs_any r.spans sa ns sc _ hns (hs.below HB.out)
 have HS:Hid (suitB r=(decide (1<= r.size) && tombB r.spans)):=by unfold Hid suitB;rw[hk,if_neg (by decide),if_neg (by decide),if_neg (by decide),if_neg (by decide),if_neg (by decide),if_neg (by decide),if_pos rfl]
 generalize suitB r=S at*
 generalize tombB r.spans=tb at*
 obtain⟨kind,org,num,peer,srv,off,red,size,how,spans,data⟩:=r
 simp only at HS ho hk
 subst hk
 clear hns hnd hs
 obtain⟨ho0,ho1⟩:=ho
 rw[HS.out]
 by_cases p1:1<= size
 ·have p1':decide (1<= size)=true:=decide_eq_true p1
  rw[p1',Bool.true_and]
  go_enter Tryz.func120,Tryz.ntmps120
  go_wp2_with (go_at_call 134;refine HT.out.mono ?_;rintro e w2 ⟨rfl,hb2⟩)
  go_ret
  exact⟨rfl,HB.out.trans (hb2.mono HB.out.size)⟩
 ·have p1':decide (1<= size)=false:=decide_eq_false p1
  rw[p1']
  go_enter Tryz.func120,Tryz.ntmps120
  go_wp2
  go_ret
  exact⟨rfl,HB.out⟩
theorem suits_k12 (r:Rc) (sa da:Option Addr) (ns nd sc dc:Nat) (w:World) (hns:r.spans.length=ns) (hnd:r.data.length=nd) (hm:nd<= 140737488355328) (hs:C.Ls w (.slice sa ns sc) r.spans) (ho:0<= r.off/\ r.off<= 4611686018427387903) (hk:r.kind=12):
 Calls Tryz.prog 120 #[.agg (rcC r (.slice sa ns sc) (.slice da nd dc))] w λe w'=>e=.returned (.bool (suitB r))/\ Below w.heap.size w w':=by
 have HB:Hid (Below w.heap.size w (w.alloc (rcO r (.slice sa ns sc) (.slice da nd dc)))):=(Below.refl _ _).alloc (aqH _) _
 have HS:Hid (suitB r=((decide (1<= r.red) && decide (r.red<= 65536)) && lenB r.size r.red)):=by unfold Hid suitB;rw[hk,if_neg (by decide),if_neg (by decide),if_neg (by decide),if_neg (by decide),if_neg (by decide),if_neg (by decide),if_neg (by decide),if_pos rfl]
 generalize suitB r=S at*
 obtain⟨kind,org,num,peer,srv,off,red,size,how,spans,data⟩:=r
 simp only at HS ho hk
 subst hk
 clear hns hnd hs
 obtain⟨ho0,ho1⟩:=ho
 rw[HS.out]
 have HC:Hid (∀W,Calls Tryz.prog 132 #[.int .i64 red,.int .i64 1,.int .i64 65536] W λe w'=>e=.returned (.bool (decide (1<= red) && decide (red<= 65536)))/\ W=w'):=λW=>rbetween_any red 1 65536 W
 generalize (decide (1<= red) && decide (red<= 65536))=b2 at*
 cases b2 with
 |false=>
  go_enter Tryz.func120,Tryz.ntmps120
  go_wp2_with (go_at_call 132;refine(HC.out _).mono ?_;rintro e w' ⟨rfl,rfl⟩)
  go_ret
  exact⟨rfl,HB.out⟩
 |true=>
  go_enter Tryz.func120,Tryz.ntmps120
  go_wp2_with (first|(go_at_call 132;refine(HC.out _).mono ?_;rintro e w' ⟨rfl,rfl⟩)|(go_at_call 133;refine(isLength_any _ _ _).mono ?_;rintro e w' ⟨rfl,rfl⟩))
  go_ret
  exact⟨rfl,HB.out⟩
theorem suits_no (r:Rc) (sa da:Option Addr) (ns nd sc dc:Nat) (w:World) (hns:r.spans.length=ns) (hnd:r.data.length=nd) (hm:nd<= 140737488355328) (hs:C.Ls w (.slice sa ns sc) r.spans) (ho:0<= r.off/\ r.off<= 4611686018427387903) (hk:r.kind≠1/\ r.kind≠2/\ r.kind≠3/\ r.kind≠4/\ r.kind≠6/\ r.kind≠8/\ r.kind≠11/\ r.kind≠12):
 Calls Tryz.prog 120 #[.agg (rcC r (.slice sa ns sc) (.slice da nd dc))] w λe w'=>e=.returned (.bool (suitB r))/\ Below w.heap.size w w':=by
 have HB:Hid (Below w.heap.size w (w.alloc (rcO r (.slice sa ns sc) (.slice da nd dc)))):=(Below.refl _ _).alloc (aqH _) _
 obtain⟨k1,k2,k3,k4,k6,k8,k11,k12⟩:=hk
 have HS:Hid (suitB r=true):=by unfold Hid suitB;rw[if_neg k1,if_neg k2,if_neg k3,if_neg k4,if_neg k6,if_neg k8,if_neg k11,if_neg k12]
 rw[HS.out]
 clear HS hs
 go_enter Tryz.func120,Tryz.ntmps120
 go_wp2
 go_ret
 exact⟨rfl,HB.out⟩
theorem suits_any (r:Rc) (sa da:Option Addr) (ns nd sc dc:Nat) (w:World) (hns:r.spans.length=ns) (hnd:r.data.length=nd) (hm:nd<= 140737488355328) (hs:C.Ls w (.slice sa ns sc) r.spans) (ho:0<= r.off/\ r.off<= 4611686018427387903):
 Calls Tryz.prog 120 #[.agg (rcC r (.slice sa ns sc) (.slice da nd dc))] w λe w'=>e=.returned (.bool (suitB r))/\ Below w.heap.size w w':=by
 by_cases k1:r.kind=1
 ·exact suits_k1 r sa da ns nd sc dc w hns hnd hm hs ho k1
 by_cases k2:r.kind=2
 ·exact suits_k2 r sa da ns nd sc dc w hns hnd hm hs ho k2
 by_cases k3:r.kind=3
 ·exact suits_k3 r sa da ns nd sc dc w hns hnd hm hs ho k3
 by_cases k4:r.kind=4
 ·exact suits_k4 r sa da ns nd sc dc w hns hnd hm hs ho k4
 by_cases k6:r.kind=6
 ·exact suits_k6 r sa da ns nd sc dc w hns hnd hm hs ho k6
 by_cases k8:r.kind=8
 ·exact suits_k8 r sa da ns nd sc dc w hns hnd hm hs ho k8
 by_cases k11:r.kind=11
 ·exact suits_k11 r sa da ns nd sc dc w hns hnd hm hs ho k11
 by_cases k12:r.kind=12
 ·exact suits_k12 r sa da ns nd sc dc w hns hnd hm hs ho k12
 exact suits_no r sa da ns nd sc dc w hns hnd hm hs ho ⟨k1,k2,k3,k4,k6,k8,k11,k12⟩
end Go.Proofs.YtllhbhogfffedaaGreatDoor
