import Derived.Lib.BitFns
namespace Go.Proofs.YtllhbhogfffedaaGreatDoor
def sz (n:Int):Nat:=(Lib.bitLen (Nat.lor n.toNat 1)+6) / 7
def tl (n:Int):Nat-> List Int
 |0=>[n % 128]
 |k+1=>(n / 128 ^ (k+1) % 128+128)::tl n k
def enc (n:Int):List Int:=tl n (sz n - 1)
theorem tl_length (n:Int) (k:Nat):(tl n k).length=k+1:=by
 induction k with
 |zero=>rfl
 |succ k ih=>simp[tl,ih]
def rdGo (v i:Int):List Int-> Int×Int×Int
 |[]=>(0,0,10)
 |c::r=>
  if i=0/\ c=128 then (0,0,11)
  else if 144115188075855871 < v then (0,0,12)
  else if c < 128 then (v*128+c,i+1,0)
  else rdGo (v*128+(c - 128)) (i+1) r
def rd (b:List Int):Int×Int×Int:=rdGo 0 0 b
theorem bitLen_bounds:∀(f x:Nat),x < 2 ^ f-> x≠0-> 1<= Lib.bitLenAux f x/\ 2 ^ (Lib.bitLenAux f x - 1)<= x/\ x < 2 ^ Lib.bitLenAux f x
 |0,x,h,h0=>by simp at h;omega
 |f+1,x,h,h0=>by
  rw[Lib.bitLenAux,if_neg h0]
  by_cases h2:x / 2=0
  ·have:Lib.bitLenAux f (x / 2)=0:=by rw[h2];cases f<;>simp[Lib.bitLenAux]
   rw[this];simp;omega
  ·obtain⟨a,b,c⟩:=bitLen_bounds f (x / 2) (by rw[Nat.pow_succ] at h;omega) h2
   generalize Lib.bitLenAux f (x / 2)=K at a b c ⊢
   refine⟨by omega,?_,?_⟩
   ·rw[show 1+K - 1=(K - 1)+1 from by omega,Nat.pow_succ];omega
   ·rw[show 1+K=K+1 from by omega,Nat.pow_succ];omega
theorem lor_one (x:Nat):Nat.lor x 1=x / 2*2+1:=by
 have h:x |||1=x / 2*2+1:=by
  apply Nat.eq_of_testBit_eq
  intro i
  cases i with
  |zero=>simp[Nat.testBit_zero]
  |succ i=>
   rw[Nat.testBit_succ,Nat.testBit_succ,Nat.or_div_two]
   congr 1
   simp;omega
 exact h
theorem sz_bounds (n:Int) (h0:0<= n) (h1:n<= 18446744073709551615):
 1<= sz n/\ sz n<= 10/\ n < 128 ^ sz n/\ (1 < sz n-> (128:Int) ^ (sz n - 1)<= n):=by
 obtain⟨x,rfl⟩:∃x:Nat,n=x:=⟨n.toNat,by omega⟩
 have hx:x < 2 ^ 64:=by omega
 have e:sz (x:Int)=(Lib.bitLenAux 64 (x / 2*2+1)+6) / 7:=by
  unfold sz Lib.bitLen;rw[Int.toNat_natCast,lor_one]
 obtain⟨a,b,c⟩:=bitLen_bounds 64 (x / 2*2+1) (by omega) (by omega)
 have hl:Lib.bitLenAux 64 (x / 2*2+1)<= 64:=Lib.bitLen_le _ 64 (Nat.le_refl _) (by omega)
 generalize Lib.bitLenAux 64 (x / 2*2+1)=K at a b c hl e
 rw[e]
 have hp:∀s:Nat,((128:Int) ^ s)=((2 ^ (7*s):Nat):Int):=by
  intro s;rw[Nat.pow_mul];simp
 have up:x < 2 ^ (7*((K+6) / 7)):=by
  have:2 ^ K<= 2 ^ (7*((K+6) / 7)):=Nat.pow_le_pow_right (by omega) (by omega)
  have hev:2∣2 ^ K:=by
   obtain⟨K',rfl⟩:∃K',K=K'+1:=⟨K - 1,by omega⟩
   exact⟨2 ^ K',by rw[Nat.pow_succ];omega⟩
  omega
 refine⟨by omega,by omega,?_,?_⟩
 ·rw[hp];exact_mod_cast up
 ·intro h
  rw[hp]
  have:2 ^ (7*((K+6) / 7 - 1))<= 2 ^ (K - 1):=Nat.pow_le_pow_right (by omega) (by omega)
  have hev:2∣2 ^ (7*((K+6) / 7 - 1)):=by
   obtain⟨m,hm⟩:∃m,7*((K+6) / 7 - 1)=m+1:=⟨7*((K+6) / 7 - 1) - 1,by omega⟩
   rw[hm];exact⟨2 ^ m,by rw[Nat.pow_succ];omega⟩
  have:2 ^ (7*((K+6) / 7 - 1))<= x:=by omega
  exact_mod_cast this
theorem enc_length (n:Int) (h0:0<= n) (h1:n<= 18446744073709551615):(enc n).length=sz n:=by
 have:=sz_bounds n h0 h1
 unfold enc;rw[tl_length];omega
theorem rdGo_tl (n:Int) (h0:0<= n) (h1:n<= 18446744073709551615):∀(k:Nat) (i:Int) (rest:List Int),0<= i-> (i=0-> k≠0-> n / 128 ^ k % 128≠0)->
 rdGo (n / 128 ^ (k+1)) i (tl n k++rest)=(n,i+(k+1),0)
 |0,i,rest,hi,h=>by
  simp only[tl,List.cons_append,List.nil_append,rdGo]
  rw[if_neg (by omega),if_neg (by simp;omega),if_pos (by omega)]
  simp;omega
 |k+1,i,rest,hi,h=>by
  simp only[tl,List.cons_append,rdGo]
  have hv:n / 128 ^ (k+1+1)<= n / 128:=by
   rw[show (128:Int) ^ (k+1+1)=128*128 ^ (k+1) from by rw[Int.pow_succ];omega,←Int.ediv_ediv_of_nonneg (by omega)]
   exact Int.ediv_le_self _ (by omega)
  have hs:n / 128 ^ (k+1+1)*128+(n / 128 ^ (k+1) % 128+128 - 128)=n / 128 ^ (k+1):=by
   rw[Int.pow_succ 128 (k+1),←Int.ediv_ediv_of_nonneg (Int.pow_nonneg (by omega))];omega
  rw[if_neg (by intro ⟨a,b⟩;exact h a (by omega) (by omega)),if_neg (by omega),if_neg (by omega),hs,rdGo_tl n h0 h1 k (i+1) rest (by omega) (by omega)]
  simp;omega
end Go.Proofs.YtllhbhogfffedaaGreatDoor
namespace Go.Proofs.YtllhbhogfffedaaGreatDoor
theorem top_digit (n:Int) (h0:0<= n) (h1:n<= 18446744073709551615) (h:sz n - 1≠0):n / 128 ^ (sz n - 1) % 128≠0:=by
 obtain⟨a1,a2,a3,a4⟩:=sz_bounds n h0 h1
 have h4:=a4 (by omega)
 obtain⟨k,hk⟩:∃k,sz n=k+1:=⟨sz n - 1,by omega⟩
 rw[hk] at a3 h4 ⊢
 simp only[Nat.add_sub_cancel] at h4 ⊢
 have hp:(0:Int) < 128 ^ k:=Int.pow_pos (by omega)
 have l:1<= n / 128 ^ k:=by rw[Int.le_ediv_iff_mul_le hp];omega
 have u:n / 128 ^ k < 128:=by rw[Int.ediv_lt_iff_lt_mul hp];rw[Int.pow_succ] at a3;rw[Int.mul_comm];exact a3
 omega
theorem div_top (n:Int) (h0:0<= n) (h1:n<= 18446744073709551615):n / 128 ^ (sz n - 1+1)=0:=by
 obtain⟨a1,a2,a3,a4⟩:=sz_bounds n h0 h1
 rw[show sz n - 1+1=sz n from by omega]
 exact Int.ediv_eq_zero_of_lt h0 a3
theorem rd_enc (n:Int) (h0:0<= n) (h1:n<= 18446744073709551615) (rest:List Int):rd (enc n++rest)=(n,(sz n:Int),0):=by
 have hs:=sz_bounds n h0 h1
 have:=rdGo_tl n h0 h1 (sz n - 1) 0 rest (by omega) (λ_ hk=>top_digit n h0 h1 hk)
 rw[div_top n h0 h1] at this
 unfold rd enc
 rw[this]
 congr 2
 omega
theorem tl_bytes (n:Int):∀k,∀z∈tl n k,0<= z/\ z<= 255
 |0,z,hz=>by simp[tl] at hz;omega
 |k+1,z,hz=>by
  rw[tl,List.mem_cons] at hz
  rcases hz with rfl|hz
  ·omega
  ·exact tl_bytes n k z hz
end Go.Proofs.YtllhbhogfffedaaGreatDoor
namespace Go.Proofs.YtllhbhogfffedaaGreatDoor
def Nums (l:List Int):Prop:=∀n∈l,0<= n/\ n<= 18446744073709551615
def alGo:Nat-> List Int-> List Int-> List Int×Int
 |0,acc,_=>(acc,0)
 |f+1,acc,zs=>if zs=[] then (acc,0) else if (rd zs).2.2≠0 then ([],(rd zs).2.2) else alGo f (acc++[(rd zs).1]) (zs.drop (rd zs).2.1.toNat)
def al (zs:List Int):List Int×Int:=alGo zs.length [] zs
theorem sz_eq (n:Int) (m:Nat) (h0:0<= n) (h1:n<= 18446744073709551615) (hu:n < 128 ^ (m+1)) (hl:m=0∨(128:Int) ^ m<= n):sz n=m+1:=by
 obtain⟨a1,a2,a3,a4⟩:=sz_bounds n h0 h1
 have mono:∀i j:Nat,i<= j-> (128:Int) ^ i<= 128 ^ j:=λi j hij=>by
  have:=Nat.pow_le_pow_right (n:=128) (by omega) hij
  exact_mod_cast this
 rcases Nat.lt_trichotomy (sz n) (m+1) with h|h|h
 ·have:=mono (sz n) m (by omega)
  rcases hl with rfl|hl<;>omega
 ·exact h
 ·have:=mono (m+1) (sz n - 1) (by omega)
  have:=a4 (by omega)
  omega
theorem rdGo_inv:∀(zs:List Int) (v i n k e:Int),(∀z∈zs,0<= z/\ z<= 255)-> 0<= v-> 0<= i-> rdGo v i zs=(n,k,e)->
 (e=0/\ ∃m:Nat,k=i+m+1/\ m+1<= zs.length/\ zs.take (m+1)=tl n m/\ n / 128 ^ (m+1)=v/\ 0<= n/\ n<= 18446744073709551615/\ (i=0-> zs.head?≠some 128))∨(e≠0/\ n=0/\ k=0/\ 10<= e/\ e<= 12)
 |[],v,i,n,k,e,hb,hv,hi,h=>by
  simp only[rdGo,Prod.mk.injEq] at h
  right;omega
 |c::r,v,i,n,k,e,hb,hv,hi,h=>by
  have hc:=hb c (by simp)
  rw[rdGo] at h
  split at h
  ·simp only[Prod.mk.injEq] at h;right;omega
  ·rename_i hf
   split at h
   ·simp only[Prod.mk.injEq] at h;right;omega
   ·rename_i hr
    have hhead:i=0-> (c::r).head?≠some 128:=by
     intro h0 hh
     simp at hh
     exact hf ⟨h0,hh⟩
    split at h
    ·rename_i hl
     simp only[Prod.mk.injEq] at h
     obtain⟨rfl,rfl,rfl⟩:=h
     left
     refine⟨rfl,0,by omega,by simp,?_,?_,by omega,by omega,hhead⟩
     ·simp only[Nat.zero_add,List.take_succ_cons,List.take_zero,tl]
      congr 1;omega
     ·simp;omega
    ·rename_i hl
     rcases rdGo_inv r (v*128+(c - 128)) (i+1) n k e (λz hz=>hb z (by simp[hz])) (by omega) (by omega) h with ⟨he,m,hk,hm,ht,hd,hn0,hn1,_⟩|hx
     ·left
      refine⟨he,m+1,by omega,by simp;omega,?_,?_,hn0,hn1,hhead⟩
      ·rw[List.take_succ_cons,ht,tl,hd]
       congr 1;omega
      ·rw[Int.pow_succ 128 (m+1),←Int.ediv_ediv_of_nonneg (Int.pow_nonneg (by omega)),hd];omega
     ·right;exact hx
theorem rd_inv (zs:List Int) (hb:∀z∈zs,0<= z/\ z<= 255):
 ((rd zs).2.2=0/\ (rd zs).2.1=(sz (rd zs).1:Int)/\ sz (rd zs).1<= zs.length/\ zs.take (sz (rd zs).1)=enc (rd zs).1/\ 0<= (rd zs).1/\ (rd zs).1<= 18446744073709551615)∨((rd zs).2.2≠0/\ (rd zs).1=0/\ (rd zs).2.1=0/\ 10<= (rd zs).2.2/\ (rd zs).2.2<= 12):=by
 rcases rdGo_inv zs 0 0 (rd zs).1 (rd zs).2.1 (rd zs).2.2 hb (by omega) (by omega) rfl with ⟨he,m,hk,hm,ht,hd,hn0,hn1,hh⟩|hx
 ·left
  generalize (rd zs).1=n at*
  have hp:(0:Int) < 128 ^ (m+1):=Int.pow_pos (by omega)
  have hu:n < 128 ^ (m+1):=by
   have:=Int.lt_ediv_add_one_mul_self n hp
   rw[hd] at this;omega
  have hl:m=0∨(128:Int) ^ m<= n:=by
   cases m with
   |zero=>left;rfl
   |succ m=>
    right
    have hp':(0:Int) < 128 ^ (m+1):=Int.pow_pos (by omega)
    have h1:zs.head?=some (n / 128 ^ (m+1) % 128+128):=by
     cases zs with
     |nil=>simp at hm
     |cons c r=>
      rw[List.take_succ_cons,tl] at ht
      simp only[List.cons.injEq] at ht
      simp[ht.1]
    have h2:=hh rfl
    rw[h1] at h2
    simp at h2
    have hnn:0<= n / 128 ^ (m+1):=Int.ediv_nonneg hn0 (by omega)
    have h3:1<= n / 128 ^ (m+1):=by omega
    rw[Int.le_ediv_iff_mul_le hp'] at h3
    omega
  have hs:=sz_eq n m hn0 hn1 hu hl
  refine⟨he,by omega,by omega,?_,hn0,hn1⟩
  rw[hs,ht];unfold enc;rw[hs];rfl
 ·right;exact hx
theorem enc_bytes (n:Int):∀z∈enc n,0<= z/\ z<= 255:=tl_bytes n _
def jn (l:List Int):List Int:=l.flatMap enc
theorem aqA{α:Type _}(l:List α)(i:Nat)(a:α):l.toArray.setIfInBounds i a=(l.set i a).toArray:=List.setIfInBounds_toArray ..
theorem aqB{α:Type _}{a b:α}{l:List α}:(a::l).set 0 b=b::l:=rfl
theorem aqC{α:Type _}{a b:α}{l:List α}{i:Nat}:(a::l).set (i+1) b=a::l.set i b:=rfl
theorem aqD{α:Type _}{l:List α}{i:Nat}:l.toArray[i]?=l[i]?:=List.getElem?_toArray ..
theorem aqE{α:Type _}{a:α}{l:List α}:(a::l)[0]?=some a:=rfl
theorem aqF{α:Type _}{a:α}{l:List α}{i:Nat}:(a::l)[i+1]?=l[i]?:=List.getElem?_cons_succ
theorem aqG{α:Type _}(a b:α):(some a=some b)=(a=b):=Option.some.injEq a b
theorem aqH(n:Nat):n≤n:=Nat.le_refl n
end Go.Proofs.YtllhbhogfffedaaGreatDoor
