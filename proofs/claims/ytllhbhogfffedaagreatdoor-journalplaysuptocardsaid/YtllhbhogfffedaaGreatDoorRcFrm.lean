import Derived.Test.YtllhbhogfffedaaGreatDoorNums
import Derived.Test.YtllhbhogfffedaaGreatDoorGiven
import Derived.Deep.SlicePairs
set_option maxHeartbeats 4000000
set_option maxRecDepth 100000
namespace Go.Proofs.YtllhbhogfffedaaGreatDoor
open Go.RowKit
def mayB6 (r:Rc):Bool:=(kf r.kind != 0) && (allowB (kf r.kind) r && suitB r)
theorem okN_bd {f:Int} {i:Nat} {n:Int} (h:okN f i n=true):0<= n/\ n<= 4611686018427387903:=by
 unfold okN at h
 split at h
 ·unfold numB at h
  split at h
  ·simp at h;omega
  ·split at h
   ·simp at h;omega
   ·simp at h;omega
 ·simp at h;omega
theorem okNs_at {f:Int} {r:Rc} {k i:Nat} (h:okNs f r k=true) (hi:i < k):okN f i (nmA r i)=true:=by
 unfold okNs at h
 rw[List.all_eq_true] at h
 exact h i (List.mem_range.mpr hi)
theorem allow_nums {f:Int} {r:Rc} (h:allowB f r=true):okNs f r 8=true:=by
 unfold allowB at h
 rw[Bool.and_eq_true] at h
 exact h.1
theorem mayBe_any (r:Rc) (sa da:Option Addr) (ns nd sc dc:Nat) (w:World) (hT:Tab6 w) (hns:r.spans.length=ns) (hnd:r.data.length=nd) (hm:nd<= 140737488355328) (hs:C.Ls w (.slice sa ns sc) r.spans):
 Calls Tryz.prog 113 #[.agg (rcC r (.slice sa ns sc) (.slice da nd dc))] w λe w'=>e=.returned (.bool (mayB6 r))/\ Below w.heap.size w w':=by
 have HB:Hid (Below w.heap.size w (w.alloc (rcO r (.slice sa ns sc) (.slice da nd dc)))):=(Below.refl _ _).alloc (aqH _) _
 have HX:Hid ((w.alloc (rcO r (.slice sa ns sc) (.slice da nd dc))).heap[w.heap.size]?=some (rcO r (.slice sa ns sc) (.slice da nd dc))):=heap_new6 w _
 have HF:Hid (Calls Tryz.prog 118 #[.int .i64 r.kind] (w.alloc (rcO r (.slice sa ns sc) (.slice da nd dc))) λe w'=>e=.returned (.int .u16 (kf r.kind))/\ (w.alloc (rcO r (.slice sa ns sc) (.slice da nd dc)))=w'):=fieldsOf_any r.kind _ (hT.below HB.out (tab6_pos hT))
 have HA:Hid (∀W,Calls Tryz.prog 119 #[.int .u16 (kf r.kind),.agg (rcC r (.slice sa ns sc) (.slice da nd dc))] W λe w'=>e=.returned (.bool (allowB (kf r.kind) r))/\ Below W.heap.size W w'):=λW=>by
  have:=allow_any (kf r.kind) r sa da sc dc W
  rw[hns,hnd] at this;exact this
 have HS:Hid (allowB (kf r.kind) r=true-> ∀W,Below w.heap.size w W-> Calls Tryz.prog 120 #[.agg (rcC r (.slice sa ns sc) (.slice da nd dc))] W λe w'=>e=.returned (.bool (suitB r))/\ Below W.heap.size W w'):=λh W hW=>suits_any r sa da ns nd sc dc W hns hnd hm (hs.below hW) (okN_bd (i:=4) (okNs_at (allow_nums h) (by omega)))
 have HM:Hid (mayB6 r=((kf r.kind != 0) && (allowB (kf r.kind) r && suitB r))):=rfl
 clear hT hs hns hnd
 generalize kf r.kind=f at*
 generalize mayB6 r=M at*
 generalize suitB r=S at*
 generalize allowB f r=A at*
 by_cases hf:f=0
 ·subst hf
  rw[HM.out]
  clear HM HS HA
  go_enter Tryz.func113,Tryz.ntmps113
  go_wp2_with (go_at_call 118;refine HF.out.mono ?_;rintro e w1 ⟨rfl,rfl⟩)
  go_ret
  exact⟨rfl,HB.out⟩
 ·have hf':(f != 0)=true:=by simpa using hf
  rw[hf',Bool.true_and] at HM
  rw[HM.out]
  clear HM
  cases A with
  |false=>
   clear HS
   go_enter Tryz.func113,Tryz.ntmps113
   go_wp2_with (first|(go_at_call 118;refine HF.out.mono ?_;rintro e w1 ⟨rfl,rfl⟩)|(go_at_call 119;refine(HA.out _).mono ?_;rintro e w2 ⟨rfl,hb2⟩))
   go_ret
   exact⟨rfl,HB.out.trans (hb2.mono HB.out.size)⟩
  |true=>
   have HS':Hid (∀W,Below w.heap.size w W-> Calls Tryz.prog 120 #[.agg (rcC r (.slice sa ns sc) (.slice da nd dc))] W λe w'=>e=.returned (.bool S)/\ Below W.heap.size W w'):=HS.out rfl
   clear HS
   go_enter Tryz.func113,Tryz.ntmps113
   go_wp2_with (first|(go_at_call 118;refine HF.out.mono ?_;rintro e w1 ⟨rfl,rfl⟩)|(go_at_call 119;refine(HA.out _).mono ?_;rintro e w2 ⟨rfl,hb2⟩;have HB2:Hid (Below w.heap.size w w2):=HB.out.trans (hb2.mono HB.out.size);have HX2:w2.heap[w.heap.size]?=some (rcO r (.slice sa ns sc) (.slice da nd dc)):=(hb2.block _ (by simp)).trans HX.out;obtain⟨c0,c1,c2,c3,c4,c5,c6,c7,c8,c9,c10⟩:=rc_cells HX2;clear hb2 HX2)|(go_at_call 120;refine(HS'.out _ HB2.out).mono ?_;rintro e w3 ⟨rfl,hb3⟩))
   go_ret
   exact⟨by simp,HB2.out.trans (hb3.mono HB2.out.size)⟩
def spB1 (p:Int×Int):List Int:=enc p.1++enc (p.2 - p.1)
def spB (l:List (Int×Int)):List Int:=enc l.length++l.flatMap spB1
def SpOk (l:List (Int×Int)):Prop:=∀p∈l,0<= p.1/\ p.1<= p.2/\ p.2<= 4611686018427387903
theorem enc_len' {n:Int} (h0:0<= n) (h1:n<= 18446744073709551615):(enc n).length=sz n/\ sz n<= 10:=by
 have:=sz_bounds n h0 h1
 exact⟨enc_length n h0 h1,by omega⟩
theorem flat_len {l:List (Int×Int)} (h:SpOk l):(l.flatMap spB1).length<= 20*l.length:=by
 induction l with
 |nil=>simp
 |cons p r ih=>
  have hp:=h p (List.mem_cons_self ..)
  have h1:=enc_len' (n:=p.1) hp.1 (by omega)
  have h2:=enc_len' (n:=p.2 - p.1) (by omega) (by omega)
  have h3:=ih (λq hq=>h q (List.mem_cons_of_mem _ hq))
  simp only[List.flatMap_cons,List.length_append,List.length_cons,spB1]
  omega
theorem grow_to {w:World} {base n m:Nat} {v:Value} {xs:List Value} {e:TypeId} (h:w.ownsRow base e 1 v n xs) (hn:n=m):w.ownsRow base e 1 v m xs:=hn ▸ h
def SpIn (w0:World) (a:Option Addr) (l:List (Int×Int)):Prop:=∀W,Below w0.heap.size w0 W-> C.Spa W a l
theorem putSpans_any (w0:World) (v:Value) (m:Nat) (xs:List Value) (a:Option Addr) (l:List (Int×Int)) (n c:Nat) (w:World) (hb:Below w0.heap.size w0 w) (hown:w.ownsRow w0.heap.size 5 1 v m xs) (hm:m<= 100000)
 (hn:l.length=n) (hl:n<= 500) (hok:SpOk l) (hs:SpIn w0 a l):
 Calls Tryz.prog 124 #[v,.slice a n c] w λe w'=>∃v',e=.returned v'/\ w'.ownsRow w0.heap.size 5 1 v' (m+(spB l).length) (xs++(spB l).map (Value.int .u8))/\ Below w0.heap.size w0 w'/\ Keeps8 w w':=by
 have hsz:=hb.size
 have he:=enc_len' (n:=(n:Int)) (by omega) (by omega)
 have HP:=putNumber_any v m xs w0.heap.size (n:Int) w (by omega) (by omega) hown hsz (by omega)
 have HB0:Hid (Below w0.heap.size w0 w):=hb
 have HS:Hid (SpIn w0 a l):=hs
 have HN:Hid (l.length=n):=hn
 have HOK:Hid (SpOk l):=hok
 have HE:Hid ((enc (n:Int)).length=sz n):=he.1
 have hsz10:=he.2
 clear hown hb hs hn hok he
 go_enter Tryz.func124,Tryz.ntmps124
 go_wp2_with fail
 refine HP.mono ?_
 rintro e w1 ⟨v1,rfl,ho1,hb1,hk1⟩
 have HO1:Hid (w1.ownsRow w0.heap.size 5 1 v1 (m+(enc (n:Int)++(l.take 0).flatMap spB1).length) (xs++(enc (n:Int)++(l.take 0).flatMap spB1).map (Value.int .u8))):=by
  simp only[List.take_zero,List.flatMap_nil,List.append_nil]
  exact grow_to ho1 (by rw[HE.out])
 have HB1:Hid (Below w0.heap.size w0 w1):=HB0.out.trans hb1
 have HK1:Hid (Keeps8 w w1):=hk1
 clear HP ho1 hb1 HB0 hk1
 go_wp2_with fail
 go_loopw [0,13] (λb i wr=>∃k:Nat,k<= n/\ i=.int .i64 k/\ wr.ownsRow w0.heap.size 5 1 b (m+(enc (n:Int)++(l.take k).flatMap spB1).length) (xs++(enc (n:Int)++(l.take k).flatMap spB1).map (Value.int .u8))/\ Below w0.heap.size w0 wr/\ Keeps8 w wr) (λ_ i _=>n - (intOf i).toNat)
 case atStart=>exact⟨0,Nat.zero_le _,rfl,HO1.out,HB1.out,HK1.out⟩
 case round=>
  obtain⟨k,hk,rfl,ho,hb,hkp⟩:=hrel
  have HKP:Hid (Keeps8 w wr):=hkp
  have HO:Hid (wr.ownsRow w0.heap.size 5 1 u0 (m+(enc (n:Int)++(l.take k).flatMap spB1).length) (xs++(enc (n:Int)++(l.take k).flatMap spB1).map (Value.int .u8))):=ho
  have HB:Hid (Below w0.heap.size w0 wr):=hb
  have hfl:(enc (n:Int)++(l.take k).flatMap spB1).length<= 10010:=by
   have h1:=flat_len (l:=l.take k) (λp hp=>HOK.out p (List.mem_of_mem_take hp))
   have h2:(l.take k).length<= 500:=by rw[List.length_take,HN.out];omega
   rw[List.length_append,HE.out];omega
  clear ho hb HO1 HB1 hkp HK1
  by_cases hlt:k < n
  ·have hlt':(k:Int) < (n:Int):=by omega
   have hkl:k < l.length:=by rw[HN.out];exact hlt
   obtain⟨p,hp⟩:∃p,l[k]?=some p:=⟨_,List.getElem?_eq_getElem hkl⟩
   have hpo:=HOK.out p (List.mem_of_getElem? hp)
   have HTK:Hid (enc (n:Int)++(l.take (k+1)).flatMap spB1=(enc (n:Int)++(l.take k).flatMap spB1)++(enc p.1++enc (p.2 - p.1))):=by
    unfold Hid;rw[List.take_add_one,hp];simp[spB1]
   rcases HS.out wr HB.out with h0|⟨g,off,rfl,hcell⟩
   ·rw[h0] at hkl;simp at hkl
   obtain⟨s1,s2⟩:=hcell k p hp
   obtain⟨f,t⟩:=p
   simp only at s1 s2 hpo HTK
   obtain⟨hp0,hp1,hp2⟩:=hpo
   have hef:=enc_len' (n:=f) hp0 (by omega)
   have het:=enc_len' (n:=t - f) (by omega) (by omega)
   have hwr:IntKind.i64.wrap (t - f)=t - f:=by rw[IntKind.wrap_i64];omega
   have HBa:Hid (Below w0.heap.size w0 (wr.alloc (.cells #[.int .i64 f,.int .i64 t] 128))):=HB.out.alloc HB.out.size _
   have HOa:=own_below6 HO.out ((Below.refl _ _).alloc (aqH _) (.cells #[.int .i64 f,.int .i64 t] 128))
   have HXa:Hid ((wr.alloc (.cells #[.int .i64 f,.int .i64 t] 128)).heap[wr.heap.size]?=some (.cells #[.int .i64 f,.int .i64 t] 128)):=heap_new6 wr _
   generalize enc (n:Int)++(l.take k).flatMap spB1=bs at*
   have HP1:=putNumber_any u0 _ _ w0.heap.size f (wr.alloc (.cells #[.int .i64 f,.int .i64 t] 128)) hp0 (by omega) HOa HBa.out.size (by omega)
   clear hcell hp HOa
   go_wp2_with fail
   refine HP1.mono ?_
   rintro e w2 ⟨v2,rfl,ho2,hb2,hk2⟩
   have HB2:Hid (Below w0.heap.size w0 w2):=HBa.out.trans hb2
   have HX2:w2.heap[wr.heap.size]?=some (.cells #[.int .i64 f,.int .i64 t] 128):=hk2 _ _ _ _ HXa.out (by decide)
   have d0:w2.cell? ⟨wr.heap.size,0,none⟩=some (.int .i64 f):=cell_of_row _ _ 0 _ _ _ HX2
   have d1:w2.cell? ⟨wr.heap.size,1,none⟩=some (.int .i64 t):=cell_of_row _ _ 1 _ _ _ HX2
   have HK2:Hid (Keeps8 w w2):=(HKP.out.trans (Keeps8.below ((Below.refl _ _).alloc (aqH _) _))).trans hk2
   have HP2:=putNumber_any v2 _ _ w0.heap.size (t - f) w2 (by omega) (by omega) ho2 HB2.out.size (by omega)
   clear HP1 ho2 hb2 hk2 HX2 HBa HXa HO s1 s2 HKP
   go_wp2_with fail
   refine HP2.mono ?_
   rintro e w3 ⟨v3,rfl,ho3,hb3,hk3⟩
   have HB3:Hid (Below w0.heap.size w0 w3):=HB2.out.trans hb3
   have HK3:Hid (Keeps8 w w3):=HK2.out.trans hk3
   have HO3:Hid (w3.ownsRow w0.heap.size 5 1 v3 (m+(enc (n:Int)++(l.take (k+1)).flatMap spB1).length) (xs++(enc (n:Int)++(l.take (k+1)).flatMap spB1).map (Value.int .u8))):=by
    unfold Hid
    rw[HTK.out]
    have h:=grow_to ho3 (m:=m+(bs++(enc f++enc (t - f))).length) (by simp only[List.length_append,hef.1,het.1];omega)
    simp only[List.map_append,List.append_assoc] at h ⊢
    exact h
   clear HP2 ho3 hb3 hk3 HB2 HK2 d0 d1
   go_wp2
   go_roundw
   case rel=>exact⟨k+1,by omega,by go_num,HO3.out,HB3.out,HK3.out⟩
   case measure=>simp[intOf];omega
  ·obtain rfl:k=n:=by omega
   rw[show l.take k=l from List.take_of_length_le (by rw[HN.out];omega)] at HO
   have HSB:Hid (spB l=enc (k:Int)++l.flatMap spB1):=by unfold Hid spB;rw[HN.out]
   rw[←HSB.out] at HO
   go_wp2
   go_ret
   exact⟨_,rfl,HO.out,HB.out,HKP.out⟩
def nmB (f:Int) (r:Rc) (k:Nat):List Int:=(List.range k).flatMap λi=>if hasB f i then enc (nmA r i) else []
theorem nmB_succ (f:Int) (r:Rc) (k:Nat):nmB f r (k+1)=nmB f r k++(if hasB f k then enc (nmA r k) else []):=by
 unfold nmB;rw[List.range_succ,List.flatMap_append];simp
theorem nmB_len {f:Int} {r:Rc} (h:okNs f r 8=true):∀{k:Nat},k<= 8-> (nmB f r k).length<= 10*k
 |0,_=>by simp[nmB]
 |k+1,hk=>by
  have h1:=nmB_len h (k:=k) (by omega)
  have h2:=okN_bd (okNs_at h (show k < 8 by omega))
  have h3:=enc_len' (n:=nmA r k) h2.1 (by omega)
  rw[nmB_succ,List.length_append]
  split<;>simp<;>omega
def tailB (f:Int) (r:Rc):List Int:=(if hasB f 8 then spB r.spans else [])++(if hasB f 9 then enc r.data.length++r.data else [])
def prB (r:Rc):List Int:=r.kind::(nmB (kf r.kind) r 8++tailB (kf r.kind) r)
theorem kf_bd {k:Int} (h:kf k≠0):0<= k/\ k < 13:=by
 unfold kf at h
 split at h
 ·assumption
 ·exact absurd rfl h
theorem form_any (r:Rc) (sa da:Option Addr) (ns nd sc dc:Nat) (w:World) (hT:Tab6 w) (hns:r.spans.length=ns) (hnd:r.data.length=nd) (hk0:kf r.kind≠0) (hok:okNs (kf r.kind) r 8=true)
 (h8:hasB (kf r.kind) 8=true-> ns<= 500/\ SpOk r.spans) (h9:hasB (kf r.kind) 9=true-> nd<= 65536) (hs:SpIn w sa r.spans) (hd:∀W,Below w.heap.size w W-> Lies .u8 W da r.data) (hn:da=none-> nd=0/\ dc=0):
 Calls Tryz.prog 114 #[.agg (rcC r (.slice sa ns sc) (.slice da nd dc))] w λe w'=>∃v',e=.returned v'/\ w'.ownsRow w.heap.size 5 1 v' (prB r).length ((prB r).map (Value.int .u8))/\ Below w.heap.size w w':=by
 obtain⟨i0,hi,hz0,hz1,hz2⟩:=info_parts Tryz.info_u8
 have hkb:=kf_bd hk0
 have HB:Hid (Below w.heap.size w (w.alloc (rcO r (.slice sa ns sc) (.slice da nd dc)))):=(Below.refl _ _).alloc (aqH _) _
 have HX:Hid ((w.alloc (rcO r (.slice sa ns sc) (.slice da nd dc))).heap[w.heap.size]?=some (rcO r (.slice sa ns sc) (.slice da nd dc))):=heap_new6 w _
 have HF:Hid (Calls Tryz.prog 118 #[.int .i64 r.kind] (w.alloc (rcO r (.slice sa ns sc) (.slice da nd dc))) λe w'=>e=.returned (.int .u16 (kf r.kind))/\ (w.alloc (rcO r (.slice sa ns sc) (.slice da nd dc)))=w'):=fieldsOf_any r.kind _ (hT.below HB.out (tab6_pos hT))
 have HPR:Hid (prB r=r.kind::(nmB (kf r.kind) r 8++tailB (kf r.kind) r)):=rfl
 have HTL:Hid (tailB (kf r.kind) r=(if hasB (kf r.kind) 8 then spB r.spans else [])++(if hasB (kf r.kind) 9 then enc nd++r.data else [])):=by unfold Hid tailB;rw[hnd]
 have HOK:Hid (okNs (kf r.kind) r 8=true):=hok
 have H8:Hid (hasB (kf r.kind) 8=true-> ns<= 500/\ SpOk r.spans):=h8
 have H9:Hid (hasB (kf r.kind) 9=true-> nd<= 65536):=h9
 have HS:Hid (SpIn w sa r.spans):=hs
 have HD:Hid (∀W,Below w.heap.size w W-> Lies .u8 W da r.data):=hd
 have HN:Hid (da=none-> nd=0/\ dc=0):=hn
 have HNS:Hid (r.spans.length=ns):=hns
 have HND:Hid (r.data.length=nd):=hnd
 have hkw:IntKind.u8.wrap r.kind=r.kind:=by simp only[IntKind.wrap,IntKind.bits,IntKind.signed];simp;omega
 clear hT hok h8 h9 hs hd hn hns hnd hk0
 generalize kf r.kind=f at*
 go_enter Tryz.func114,Tryz.ntmps114
 go_wp2_with (go_at_call 118;refine HF.out.mono ?_;rintro e w1 ⟨rfl,rfl⟩)
 go_at_call 121
 refine(numbersOf_any r _ _ _).mono ?_
 rintro e w1 ⟨rfl,hb1⟩
 have HB1:Hid (Below w.heap.size w w1):=(HB.out.alloc HB.out.size (Obj.cells #[Value.int IntKind.u8 r.kind] 5)).trans (hb1.mono (by simp;omega))
 have HX1:Hid (w1.heap[w.heap.size]?=some (rcO r (.slice sa ns sc) (.slice da nd dc))):=(hb1.block _ (by simp;omega)).trans ((((Below.refl _ _).alloc (aqH _) (Obj.cells #[Value.int IntKind.u8 r.kind] 5)).block _ (by simp)).trans HX.out)
 have HO1:Hid (w1.ownsRow w.heap.size 5 1 (.slice (some ⟨w.heap.size+1,0,none⟩) 1 1) (1+(nmB f r 0).length) (.int .u8 r.kind::(nmB f r 0).map (Value.int .u8))):=by
  have h1:((w.alloc (rcO r (.slice sa ns sc) (.slice da nd dc))).alloc (.cells #[.int .u8 r.kind] 5)).ownsRow w.heap.size 5 1 (.slice (some ⟨(w.alloc (rcO r (.slice sa ns sc) (.slice da nd dc))).heap.size,0,none⟩) 1 1) 1 [.int .u8 r.kind]:=World.ownsRow_lit (w.alloc (rcO r (.slice sa ns sc) (.slice da nd dc))) #[.int .u8 r.kind] 1 (by simp) (by unfold maxLen;omega) rfl
  have h2:=own_below6 h1 hb1
  unfold Hid
  simpa[nmB] using h2
 clear HF hb1 HX HB
 go_wp2_with fail
 go_loopw [4,16] (λb i wr=>∃k:Nat,k<= 8/\ i=.int .i64 k/\ wr.ownsRow w.heap.size 5 1 b (1+(nmB f r k).length) (.int .u8 r.kind::(nmB f r k).map (Value.int .u8))/\ Below w.heap.size w wr/\ wr.heap[w.heap.size]?=some (rcO r (.slice sa ns sc) (.slice da nd dc))) (λ_ i _=>8 - (intOf i).toNat)
 case atStart=>exact⟨0,by omega,rfl,HO1.out,HB1.out,HX1.out⟩
 case round=>
  obtain⟨k,hk,rfl,ho,hb,hx⟩:=hrel
  have HO:Hid (wr.ownsRow w.heap.size 5 1 u4 (1+(nmB f r k).length) (.int .u8 r.kind::(nmB f r k).map (Value.int .u8))):=ho
  have HBr:Hid (Below w.heap.size w wr):=hb
  have HXr:Hid (wr.heap[w.heap.size]?=some (rcO r (.slice sa ns sc) (.slice da nd dc))):=hx
  have hlen:=nmB_len HOK.out hk
  clear ho hb hx HO1 HB1 HX1
  by_cases hlt:k < 8
  ·have hlt':(k:Int) < 8:=by omega
   have ik:=index_nm r k hlt
   have hbd:=okN_bd (okNs_at HOK.out hlt)
   have HSU:Hid (nmB f r (k+1)=nmB f r k++(if hasB f k then enc (nmA r k) else [])):=nmB_succ f r k
   have he:=enc_len' (n:=nmA r k) hbd.1 (by omega)
   generalize nmA r k=n at*
   obtain⟨b,hb⟩:∃b,hasB f k=b:=⟨_,rfl⟩
   have hh:∀W,Calls Tryz.prog 122 #[.int .u16 f,.int .i64 k] W λe w'=>e=.returned (.bool b)/\ W=w':=λW=>hb ▸ rhas_any f k W (by omega)
   rw[hb] at HSU
   have HH:Hid (∀W,Calls Tryz.prog 122 #[.int .u16 f,.int .i64 k] W λe w'=>e=.returned (.bool b)/\ W=w'):=hh
   clear hh hb
   generalize nmB f r k=bs at*
   cases b with
   |false=>
    have HOn:Hid (wr.ownsRow w.heap.size 5 1 u4 (1+(nmB f r (k+1)).length) (.int .u8 r.kind::(nmB f r (k+1)).map (Value.int .u8))):=by
     unfold Hid;rw[HSU.out];simpa using HO.out
    go_wp2_with (go_at_call 122;refine(HH.out _).mono ?_;rintro e w' ⟨rfl,rfl⟩)
    go_roundw
    case rel=>exact⟨k+1,by omega,by go_num,HOn.out,HBr.out,HXr.out⟩
    case measure=>simp[intOf];omega
   |true=>
    have HP:=putNumber_any u4 _ _ w.heap.size n wr hbd.1 hbd.2 HO.out HBr.out.size (by omega)
    go_wp2_with (first|(go_at_call 122;refine(HH.out _).mono ?_;rintro e w' ⟨rfl,rfl⟩)|(go_at_call 123;refine HP.mono ?_;rintro e w2 ⟨v2,rfl,ho2,hb2,hk2⟩))
    have HOn:Hid (w2.ownsRow w.heap.size 5 1 v2 (1+(nmB f r (k+1)).length) (.int .u8 r.kind::(nmB f r (k+1)).map (Value.int .u8))):=by
     unfold Hid
     rw[HSU.out]
     have h:=grow_to ho2 (m:=1+(bs++enc n).length) (by rw[List.length_append,he.1];omega)
     simp only[if_true,List.map_append,List.cons_append] at h ⊢
     exact h
    have HX2:Hid (w2.heap[w.heap.size]?=some (rcO r (.slice sa ns sc) (.slice da nd dc))):=hk2 _ _ _ _ HXr.out (by decide)
    go_roundw
    case rel=>exact⟨k+1,by omega,by go_num,HOn.out,HBr.out.trans hb2,HX2.out⟩
    case measure=>simp[intOf];omega
  ·obtain rfl:k=8:=by omega
   have H8h:Hid (∀W,Calls Tryz.prog 122 #[.int .u16 f,.int .i64 8] W λe w'=>e=.returned (.bool (hasB f 8))/\ W=w'):=λW=>rhas_any f 8 W (by omega)
   have H9h:Hid (∀W,Calls Tryz.prog 122 #[.int .u16 f,.int .i64 9] W λe w'=>e=.returned (.bool (hasB f 9))/\ W=w'):=λW=>rhas_any f 9 W (by omega)
   generalize nmB f r 8=bs at*
   generalize tailB f r=tl at*
   generalize hasB f 8=b8 at*
   generalize hasB f 9=b9 at*
   obtain⟨_,_,_,_,_,_,_,_,_,c9,c10⟩:=rc_cells HXr.out
   cases b8 with
   |false=>
    cases b9 with
    |false=>
     have HE:Hid (prB r=r.kind::bs):=by unfold Hid;rw[HPR.out,HTL.out];simp
     go_wp2_with (first|(go_at_call_of 122 (Value.int .i64 8);refine(H8h.out _).mono ?_;rintro e w' ⟨rfl,rfl⟩)|(go_at_call_of 122 (Value.int .i64 9);refine(H9h.out _).mono ?_;rintro e w' ⟨rfl,rfl⟩))
     go_ret
     refine⟨_,rfl,?_,HBr.out⟩
     rw[HE.out]
     exact grow_to HO.out (by simp;omega)
    |true=>
     have hnd9:=H9.out rfl
     have HE:Hid (prB r=r.kind::(bs++(enc nd++r.data))):=by unfold Hid;rw[HPR.out,HTL.out];simp
     have hel:=enc_len' (n:=(nd:Int)) (by omega) (by omega)
     have HP:=putNumber_any u4 _ _ w.heap.size (nd:Int) wr (by omega) (by omega) HO.out HBr.out.size (by omega)
     go_wp2_with (first|(go_at_call_of 122 (Value.int .i64 8);refine(H8h.out _).mono ?_;rintro e w' ⟨rfl,rfl⟩)|(go_at_call_of 122 (Value.int .i64 9);refine(H9h.out _).mono ?_;rintro e w' ⟨rfl,rfl⟩)|(go_at_call 123;refine HP.mono ?_;rintro e w2 ⟨v2,rfl,ho2,hb2,hk2⟩;have HB2:Hid (Below w.heap.size w w2):=HBr.out.trans hb2;have hs2:=HB2.out.size;obtain⟨_,_,_,_,_,_,_,_,_,d9,d10⟩:=rc_cells (hk2 _ _ _ _ HXr.out (by decide));clear hk2 hb2)|(at_builtin;refine append_any _ rfl _ _ 35 rfl w.heap.size 5 i0 (.int .u8 0) 1 Tryz.underlying35 hi hz0 hz1 hz2 rfl _ _ _ rfl ho2 .u8 _ _ _ r.data rfl HN.out HND.out (HD.out _ HB2.out) (by unfold maxLen;omega) (by omega) hs2 ?_;intro v3 w3 ho3 hg3))
     go_ret
     refine⟨v3,rfl,?_,own_grown HB2.out hg3 ho2 hs2⟩
     rw[HE.out]
     have h:=grow_to ho3 (m:=(r.kind::(bs++(enc (nd:Int)++r.data))).length) (by simp only[List.length_cons,List.length_append,hel.1,HND.out];omega)
     simp only[List.map_append,List.map_cons,List.cons_append,List.append_assoc] at h ⊢
     exact h
   |true=>
    have h8':=H8.out rfl
    have HPS:=putSpans_any w u4 _ _ sa r.spans ns sc wr HBr.out HO.out (by omega) HNS.out h8'.1 h8'.2 HS.out
    have hsl:(spB r.spans).length<= 10010:=by
     have h1:=flat_len h8'.2
     have h2:=enc_len' (n:=(r.spans.length:Int)) (by omega) (by rw[HNS.out];omega)
     unfold spB
     rw[List.length_append,h2.1]
     rw[HNS.out] at h1 h2 ⊢
     omega
    generalize spB r.spans=ss at*
    cases b9 with
    |false=>
     have HE:Hid (prB r=r.kind::(bs++ss)):=by unfold Hid;rw[HPR.out,HTL.out];simp
     go_wp2_with (first|(go_at_call_of 122 (Value.int .i64 8);refine(H8h.out _).mono ?_;rintro e w' ⟨rfl,rfl⟩)|(go_at_call_of 122 (Value.int .i64 9);refine(H9h.out _).mono ?_;rintro e w' ⟨rfl,rfl⟩)|(go_at_call 124;refine HPS.mono ?_;rintro e w2 ⟨v2,rfl,ho2,hb2,hk2⟩))
     go_ret
     refine⟨v2,rfl,?_,hb2⟩
     rw[HE.out]
     have h:=grow_to ho2 (m:=(r.kind::(bs++ss)).length) (by simp only[List.length_cons,List.length_append];omega)
     simp only[List.map_append,List.map_cons,List.cons_append] at h ⊢
     exact h
    |true=>
     have hnd9:=H9.out rfl
     have HE:Hid (prB r=r.kind::(bs++(ss++(enc nd++r.data)))):=by unfold Hid;rw[HPR.out,HTL.out];simp
     have hel:=enc_len' (n:=(nd:Int)) (by omega) (by omega)
     go_wp2_with (first|(go_at_call_of 122 (Value.int .i64 8);refine(H8h.out _).mono ?_;rintro e w' ⟨rfl,rfl⟩)|(go_at_call_of 122 (Value.int .i64 9);refine(H9h.out _).mono ?_;rintro e w' ⟨rfl,rfl⟩)|(go_at_call 124;refine HPS.mono ?_;rintro e w4 ⟨v4,rfl,ho4,hb4,hk4⟩;have hs4:=hb4.size;have HX4:=hk4 _ _ _ _ HXr.out (by decide);obtain⟨_,_,_,_,_,_,_,_,_,e9,e10⟩:=rc_cells HX4;clear hk4)|(go_at_call 123;refine(putNumber_any v4 _ _ w.heap.size (nd:Int) w4 (by omega) (by omega) ho4 hs4 (by omega)).mono ?_;rintro e w2 ⟨v2,rfl,ho2,hb2,hk2⟩;have HB2:Hid (Below w.heap.size w w2):=hb4.trans hb2;have hs2:=HB2.out.size;obtain⟨_,_,_,_,_,_,_,_,_,d9,d10⟩:=rc_cells (hk2 _ _ _ _ HX4 (by decide));clear hk2 hb2)|(at_builtin;refine append_any _ rfl _ _ 35 rfl w.heap.size 5 i0 (.int .u8 0) 1 Tryz.underlying35 hi hz0 hz1 hz2 rfl _ _ _ rfl ho2 .u8 _ _ _ r.data rfl HN.out HND.out (HD.out _ HB2.out) (by unfold maxLen;omega) (by omega) hs2 ?_;intro v3 w3 ho3 hg3))
     go_ret
     refine⟨v3,rfl,?_,own_grown HB2.out hg3 ho2 hs2⟩
     rw[HE.out]
     have h:=grow_to ho3 (m:=(r.kind::(bs++(ss++(enc (nd:Int)++r.data)))).length) (by simp only[List.length_cons,List.length_append,hel.1,HND.out];omega)
     simp only[List.map_append,List.map_cons,List.cons_append,List.append_assoc] at h ⊢
     exact h
theorem kf_cases {k:Int} (h:kf k≠0):k=1∨k=2∨k=3∨k=4∨k=5∨k=6∨k=7∨k=8∨k=9∨k=10∨k=11∨k=12:=by
 have hb:=kf_bd h
 by_cases h0:k=0
 ·subst h0;exact absurd rfl h
 ·omega
theorem has8 {k:Int} (h:kf k≠0) (h8:hasB (kf k) 8=true):k=11:=by
 rcases kf_cases h with rfl|rfl|rfl|rfl|rfl|rfl|rfl|rfl|rfl|rfl|rfl|rfl<;>first|rfl|exact absurd h8 (by decide)
theorem has9 {k:Int} (h:kf k≠0) (h9:hasB (kf k) 9=true):k=3∨k=6:=by
 rcases kf_cases h with rfl|rfl|rfl|rfl|rfl|rfl|rfl|rfl|rfl|rfl|rfl|rfl<;>first|exact .inl rfl|exact .inr rfl|exact absurd h9 (by decide)
theorem tomb_ok {l:List (Int×Int)} (h:tombB l=true):l.length<= 500/\ SpOk l:=by
 unfold tombB at h
 simp only[Bool.and_eq_true,decide_eq_true_eq] at h
 refine⟨by omega,λp hp=>?_⟩
 have:=(C.setB_iff.mp h.2.1).2.mem p hp
 omega
theorem may_parts {r:Rc} (h:mayB6 r=true):kf r.kind≠0/\ okNs (kf r.kind) r 8=true/\ (hasB (kf r.kind) 8=true-> r.spans.length<= 500/\ SpOk r.spans)/\ (hasB (kf r.kind) 9=true-> r.data.length<= 65536):=by
 unfold mayB6 at h
 simp only[Bool.and_eq_true] at h
 have hk:kf r.kind≠0:=by simpa using h.1
 have hok:=allow_nums h.2.1
 refine⟨hk,hok,λh8=>?_,λh9=>?_⟩
 ·have h11:=has8 hk h8
  have hs:=h.2.2
  unfold suitB at hs
  rw[h11,if_neg (by decide),if_neg (by decide),if_neg (by decide),if_neg (by decide),if_neg (by decide),if_neg (by decide),if_pos rfl,Bool.and_eq_true] at hs
  exact tomb_ok hs.2
 ·have hs:=h.2.2
  have ho:=okN_bd (okNs_at hok (show 4 < 8 by omega))
  have ho':nmA r 4=r.off:=rfl
  unfold suitB at hs
  rcases has9 hk h9 with h3|h6
  ·rw[h3,if_neg (by decide),if_neg (by decide),if_pos rfl] at hs
   simp only[Bool.and_eq_true,decide_eq_true_eq,beq_iff_eq] at hs
   omega
  ·rw[h6,if_neg (by decide),if_neg (by decide),if_neg (by decide),if_neg (by decide),if_pos rfl] at hs
   simp only[Bool.and_eq_true,decide_eq_true_eq] at hs
   omega
def prR (r:Rc):List Int×Int:=if mayB6 r then (prB r,0) else ([],60)
def PrPost (p:List Int×Int) (w:World) (e:Ending) (w':World):Prop:=
 ∃v',e=.returned (.tuple #[v',.int .i64 p.2])/\ w'.ownsRow w.heap.size 5 1 v' p.1.length (p.1.map (Value.int .u8))/\ Below w.heap.size w w'
structure RIn (w:World) (r:Rc) (sa da:Option Addr) (ns nd sc dc:Nat):Prop where
 spn:r.spans.length=ns
 dat:r.data.length=nd
 big:nd<= 140737488355328
 spa:C.Ls w (.slice sa ns sc) r.spans
 lie:Lies .u8 w da r.data
 nil:da=none-> nd=0/\ dc=0
theorem RIn.below {w w':World} {r:Rc} {sa da:Option Addr} {ns nd sc dc:Nat} (h:RIn w r sa da ns nd sc dc) (hb:Below w.heap.size w w'):RIn w' r sa da ns nd sc dc:=
 ⟨h.spn,h.dat,h.big,h.spa.below hb,h.lie.below hb,h.nil⟩
theorem RIn.spin {w:World} {r:Rc} {sa da:Option Addr} {ns nd sc dc:Nat} (h:RIn w r sa da ns nd sc dc):SpIn w sa r.spans:=λW hW=>by
 obtain⟨a',c',hv,hs,_,_⟩:=(h.spa.below hW).shape
 simp only[Value.slice.injEq] at hv
 obtain⟨rfl,_,_⟩:=hv
 exact hs
theorem rprint_any (r:Rc) (sa da:Option Addr) (ns nd sc dc:Nat) (w:World) (hT:Tab6 w) (hr:RIn w r sa da ns nd sc dc):
 Calls Tryz.prog 107 #[.agg (rcC r (.slice sa ns sc) (.slice da nd dc))] w (PrPost (prR r) w):=by
 have HB:Hid (Below w.heap.size w (w.alloc (rcO r (.slice sa ns sc) (.slice da nd dc)))):=(Below.refl _ _).alloc (aqH _) _
 have HX:Hid ((w.alloc (rcO r (.slice sa ns sc) (.slice da nd dc))).heap[w.heap.size]?=some (rcO r (.slice sa ns sc) (.slice da nd dc))):=heap_new6 w _
 have hr1:=hr.below HB.out
 have HM:Hid (Calls Tryz.prog 113 #[.agg (rcC r (.slice sa ns sc) (.slice da nd dc))] (w.alloc (rcO r (.slice sa ns sc) (.slice da nd dc))) λe w'=>e=.returned (.bool (mayB6 r))/\ Below (w.alloc (rcO r (.slice sa ns sc) (.slice da nd dc))).heap.size (w.alloc (rcO r (.slice sa ns sc) (.slice da nd dc))) w'):=mayBe_any r sa da ns nd sc dc _ (hT.below HB.out (tab6_pos hT)) hr1.spn hr1.dat hr1.big hr1.spa
 cases hm:mayB6 r with
 |false=>
  have HP:Hid (prR r=([],60)):=by unfold Hid prR;rw[hm];rfl
  rw[hm] at HM
  rw[HP.out]
  clear HP hm hr hr1 hT
  go_enter Tryz.func107,Tryz.ntmps107
  go_wp2_with (go_at_call 113;refine HM.out.mono ?_;rintro e w1 ⟨rfl,hb1⟩)
  go_ret2
  exact⟨_,rfl,World.ownsRow_nil _ _ _ _,HB.out.trans (hb1.mono HB.out.size)⟩
 |true=>
  obtain⟨h1,h2,h3,h4⟩:=may_parts hm
  have HP:Hid (prR r=(prB r,0)):=by unfold Hid prR;rw[hm];rfl
  rw[hm] at HM
  rw[HP.out]
  have HF:Hid (∀W,Below w.heap.size w W-> Calls Tryz.prog 114 #[.agg (rcC r (.slice sa ns sc) (.slice da nd dc))] W λe w'=>∃v',e=.returned v'/\ w'.ownsRow W.heap.size 5 1 v' (prB r).length ((prB r).map (Value.int .u8))/\ Below W.heap.size W w'):=λW hW=>
   have hw:=hr.below hW
   form_any r sa da ns nd sc dc W (hT.below hW (tab6_pos hT)) hw.spn hw.dat h1 h2 (λh=>by have:=h3 h;rw[hw.spn] at this;exact this) (λh=>by have:=h4 h;rw[hw.dat] at this;exact this) hw.spin (λV hV=>hw.lie.below hV) hw.nil
  clear HP hm hr hr1 hT h1 h2 h3 h4
  go_enter Tryz.func107,Tryz.ntmps107
  go_wp2_with (first|(go_at_call 113;refine HM.out.mono ?_;rintro e w1 ⟨rfl,hb1⟩;have HB1:Hid (Below w.heap.size w w1):=HB.out.trans (hb1.mono HB.out.size);obtain⟨c0,c1,c2,c3,c4,c5,c6,c7,c8,c9,c10⟩:=rc_cells ((hb1.block _ (by simp)).trans HX.out);clear hb1)|(go_at_call 114;refine(HF.out _ HB1.out).mono ?_;rintro e w2 ⟨v2,rfl,ho2,hb2⟩))
  go_ret2
  exact⟨v2,rfl,own_base6 ho2 HB1.out.size,HB1.out.trans (hb2.mono HB1.out.size)⟩
open Go.ChangeShapes Go.WideShapes Go.ChangeAt Go.RowKit
set_option linter.unusedVariables false
theorem rlist_of {α:Type} {n:Nat} {p:Nat-> α-> Prop} (h:∀i,i < n-> ∃x,p i x):∃l:List α,l.length=n/\ ∀(i:Nat) x,l[i]?=some x-> p i x:=by
 induction n with
 |zero=>exact⟨[],rfl,λi x hx=>by simp at hx⟩
 |succ n ih=>
  obtain⟨l,hl,hp⟩:=ih (λi hi=>h i (by omega))
  obtain⟨x,hx⟩:=h n (by omega)
  refine⟨l++[x],by simp[hl],λi y hy=>?_⟩
  rcases Nat.lt_or_ge i n with q|q
  ·rw[List.getElem?_append_left (by omega)] at hy;exact hp i y hy
  ·rw[List.getElem?_append_right (by omega)] at hy
   have:i - l.length=0:=by
    rcases Nat.eq_zero_or_pos (i - l.length) with e|e
    ·exact e
    ·rw[List.getElem?_eq_none (by simp;omega)] at hy;cases hy
   rw[this] at hy
   simp at hy
   subst hy
   obtain rfl:i=n:=by omega
   exact hx
variable {H:Type} {enc:TypeId×Value-> H} {W:World}
theorem rspot_none {a:Addr} {j:Nat} {u:Value} (hj:j=0) (h:W.cell? (a.add j)=some u):∃g off,a=⟨g,off,none⟩:=by
 subst hj
 obtain⟨b,off,spot⟩:=a
 have hs:spot=none:=by simpa[Addr.add] using World.cell?_spot h
 subst hs
 exact⟨b,off,rfl⟩
theorem radd_none (g off j:Nat):(⟨g,off,none⟩:Addr).add j=⟨g,off+j,none⟩:=by unfold Addr.add;split<;>simp_all
theorem rbytes_span:Tryz.prog.bytesOf 128=16:=by kernel_rfl
theorem rcells_int:Tryz.prog.cellsOf 3=1:=by kernel_rfl
theorem rcells_ses:Tryz.prog.cellsOf 78=2:=by kernel_rfl
theorem rcells_spans:Tryz.prog.cellsOf 79=1:=by kernel_rfl
theorem rcells_bytes:Tryz.prog.cellsOf 35=1:=by kernel_rfl
theorem rcells_rec:Tryz.prog.cellsOf 81=11:=by kernel_rfl
theorem rbin_of {fuel:Nat} {v:Value} {d:DataW H} {p:List MemPlace} (h:DataW.trod enc Tryz.prog W 0 (λ_=>true) true fuel 35 [v]=some (d,p)) (hw:(d.weights Tryz.prog 35).all (·<= reachBytes)=true):
 ∃a zs n c,v=.slice a n c/\ zs.length=n/\ n<= c/\ c<= 140737488351232/\ Lies .u8 W a zs/\ Bytey zs/\ (a=none-> n=0/\ c=0):=by
 have hv:∃a len cap,v=.slice a len cap:=by
  rcases open_ints Tryz.underlying35 Tryz.underlying5 (by kernel_rfl) h with ⟨hcs,_⟩|⟨x,l,c,zs,hcs,_⟩
  ·simp at hcs;exact⟨_,_,_,hcs⟩
  ·simp at hcs;exact⟨_,_,_,hcs⟩
 obtain⟨a,len,cap,rfl⟩:=hv
 obtain⟨zs,l,c,b,e,n⟩:=given_ints Tryz.underlying35 Tryz.underlying5 (by kernel_rfl) (p:=p) ⟨fuel,h⟩
 have m:=reach_bytes (ts:=[35]) (ds:=[d]) (j:=0) (by simpa[DataW.weightsEach] using hw) rfl rfl l e
 exact⟨a,zs,len,cap,rfl,l,m.1,m.2,c,bytey_of b,n⟩
theorem rcin_of {fuel:Nat} {v:Value} {d:DataW H} {p:List MemPlace} (h:DataW.trod enc Tryz.prog W 0 (λ_=>true) true fuel 79 [v]=some (d,p)) (hw:(d.weights Tryz.prog 79).all (·<= reachBytes)=true):
 ∃a cl n c,v=.slice a n c/\ cl.length=n/\ n<= c/\ c*16<= 140737488351232/\ C.Spa W a cl:=by
 rcases Go.Deep.open_slice_pairs Tryz.underlying79 Tryz.underlying128 (by kernel_rfl) rfl rfl (by kernel_rfl) (by kernel_rfl) h with ⟨hcs,_⟩|⟨a,len,cap,m,n,V0,V1,D0,D1,P0,P1,hcs,_,hl,hm,hmm,hx,hcell⟩
 ·simp at hcs
  subst hcs
  exact⟨none,[],0,0,rfl,rfl,by omega,by omega,.inl rfl⟩
 ·simp at hcs
  subst hcs
  simp only[if_true] at hmm
  subst hmm
  simp only[Prod.mk.injEq] at hx
  have hsz:m*16<= 140737488351232:=by
   have h1:=sized_slice (ts:=[79]) (ds:=[d]) (j:=0) (by simpa[DataW.weightsEach] using hw) rfl (by rw[hx.1];rfl) Tryz.underlying79
   rw[rbytes_span] at h1
   simp only[List.length_map,List.length_range,reachBytes] at h1
   have:len+(m - len)=m:=by omega
   rw[this] at h1
   exact h1
  obtain⟨xs,hxl,hxs⟩:=rlist_of (n:=len) (p:=λi (x:Int×Int)=>W.cell? (a.add (i*2))=some (.int .i64 x.1)/\ W.cell? (a.add (i*2+1))=some (.int .i64 x.2)) (λi hi=>by
   obtain⟨c0,c1,t0,t1⟩:=hcell i (by omega)
   obtain⟨t,ht,_⟩:=DataW.trod_int Tryz.underlying3 t0
   obtain⟨u,hu,_⟩:=DataW.trod_int Tryz.underlying3 t1
   simp at ht hu
   exact⟨(t,u),by rw[c0,ht],by rw[c1,hu]⟩)
  subst hxl
  refine⟨some a,xs,xs.length,m,rfl,rfl,hl,hsz,?_⟩
  by_cases h0:xs=[]
  ·exact .inl h0
  ·right
   obtain⟨c0,_⟩:=hcell 0 (by have:=List.length_pos_iff.mpr h0;omega)
   obtain⟨g,off,rfl⟩:=rspot_none (by omega) c0
   refine⟨g,off,rfl,λi x hi=>?_⟩
   obtain⟨q1,q2⟩:=hxs i x hi
   rw[radd_none] at q1 q2
   exact⟨q1,q2⟩
theorem rec_fields {fuel:Nat} {c0 c1 c2 c3 c4 c5 c6 c7 c8 c9 c10:Value} {x:DataW H×List MemPlace} (hf:DataW.trod enc Tryz.prog W 0 (λ_=>true) true fuel 81 [c0,c1,c2,c3,c4,c5,c6,c7,c8,c9,c10]=some x):
 ∃(n:Nat) (xs:List (DataW H×List MemPlace)),x.1=.agg (xs.map (·.1))/\ xs.length=10/\ DataW.trod enc Tryz.prog W 0 (λ_=>true) true n 3 [c0]=xs[0]?/\ DataW.trod enc Tryz.prog W 0 (λ_=>true) true n 78 [c1,c2]=xs[1]?/\ DataW.trod enc Tryz.prog W 0 (λ_=>true) true n 3 [c3]=xs[2]?/\ DataW.trod enc Tryz.prog W 0 (λ_=>true) true n 3 [c4]=xs[3]?/\ DataW.trod enc Tryz.prog W 0 (λ_=>true) true n 3 [c5]=xs[4]?/\ DataW.trod enc Tryz.prog W 0 (λ_=>true) true n 3 [c6]=xs[5]?/\ DataW.trod enc Tryz.prog W 0 (λ_=>true) true n 3 [c7]=xs[6]?/\ DataW.trod enc Tryz.prog W 0 (λ_=>true) true n 3 [c8]=xs[7]?/\ DataW.trod enc Tryz.prog W 0 (λ_=>true) true n 79 [c9]=xs[8]?/\ DataW.trod enc Tryz.prog W 0 (λ_=>true) true n 35 [c10]=xs[9]?:=by
 obtain⟨xs,n,_,hx,_,hlen,hfd⟩:=DataW.trod_struct Tryz.underlying81 hf
 refine⟨n,xs,by rw[hx],by simpa using hlen,?_,?_,?_,?_,?_,?_,?_,?_,?_,?_⟩
 ·have q:DataW.trod enc Tryz.prog W 0 (λ_=>true) true n 3 (([c0,c1,c2,c3,c4,c5,c6,c7,c8,c9,c10].drop 0).take (Tryz.prog.cellsOf 3))=xs[0]?:=hfd 0 _ rfl
  rw[rcells_int] at q
  exact q
 ·have q:DataW.trod enc Tryz.prog W 0 (λ_=>true) true n 78 (([c0,c1,c2,c3,c4,c5,c6,c7,c8,c9,c10].drop 1).take (Tryz.prog.cellsOf 78))=xs[1]?:=hfd 1 _ rfl
  rw[rcells_ses] at q
  exact q
 ·have q:DataW.trod enc Tryz.prog W 0 (λ_=>true) true n 3 (([c0,c1,c2,c3,c4,c5,c6,c7,c8,c9,c10].drop 3).take (Tryz.prog.cellsOf 3))=xs[2]?:=hfd 2 _ rfl
  rw[rcells_int] at q
  exact q
 ·have q:DataW.trod enc Tryz.prog W 0 (λ_=>true) true n 3 (([c0,c1,c2,c3,c4,c5,c6,c7,c8,c9,c10].drop 4).take (Tryz.prog.cellsOf 3))=xs[3]?:=hfd 3 _ rfl
  rw[rcells_int] at q
  exact q
 ·have q:DataW.trod enc Tryz.prog W 0 (λ_=>true) true n 3 (([c0,c1,c2,c3,c4,c5,c6,c7,c8,c9,c10].drop 5).take (Tryz.prog.cellsOf 3))=xs[4]?:=hfd 4 _ rfl
  rw[rcells_int] at q
  exact q
 ·have q:DataW.trod enc Tryz.prog W 0 (λ_=>true) true n 3 (([c0,c1,c2,c3,c4,c5,c6,c7,c8,c9,c10].drop 6).take (Tryz.prog.cellsOf 3))=xs[5]?:=hfd 5 _ rfl
  rw[rcells_int] at q
  exact q
 ·have q:DataW.trod enc Tryz.prog W 0 (λ_=>true) true n 3 (([c0,c1,c2,c3,c4,c5,c6,c7,c8,c9,c10].drop 7).take (Tryz.prog.cellsOf 3))=xs[6]?:=hfd 6 _ rfl
  rw[rcells_int] at q
  exact q
 ·have q:DataW.trod enc Tryz.prog W 0 (λ_=>true) true n 3 (([c0,c1,c2,c3,c4,c5,c6,c7,c8,c9,c10].drop 8).take (Tryz.prog.cellsOf 3))=xs[7]?:=hfd 7 _ rfl
  rw[rcells_int] at q
  exact q
 ·have q:DataW.trod enc Tryz.prog W 0 (λ_=>true) true n 79 (([c0,c1,c2,c3,c4,c5,c6,c7,c8,c9,c10].drop 9).take (Tryz.prog.cellsOf 79))=xs[8]?:=hfd 8 _ rfl
  rw[rcells_spans] at q
  exact q
 ·have q:DataW.trod enc Tryz.prog W 0 (λ_=>true) true n 35 (([c0,c1,c2,c3,c4,c5,c6,c7,c8,c9,c10].drop 10).take (Tryz.prog.cellsOf 35))=xs[9]?:=hfd 9 _ rfl
  rw[rcells_bytes] at q
  exact q
theorem rget_some {α:Type} {f:Option α} {xs:List α} {i n:Nat} (hl:xs.length=n) (hi:i < n) (h:f=xs[i]?):∃y,f=some y/\ xs[i]?=some y:=by
 rw[List.getElem?_eq_getElem (by omega)] at h
 exact⟨_,h,List.getElem?_eq_getElem (by omega)⟩
theorem all_of_mem {ys:List Nat} {xs:List Nat} (h:xs.all (·<= reachBytes)=true) (hm:∀n∈ys,n∈xs):ys.all (·<= reachBytes)=true:=by
 rw[List.all_eq_true] at h ⊢
 exact λn hn=>h n (hm n hn)
theorem rec_of {fuel:Nat} {l:List Value} {d:DataW H} {p:List MemPlace} (hsz:l.length=11) (hf':DataW.trod enc Tryz.prog W 0 (λ_=>true) true fuel 81 l=some (d,p)) (hw:(d.weights Tryz.prog 81).all (·<= reachBytes)=true):
 ∃r sa da ns nd sc dc,l=(rcC r (.slice sa ns sc) (.slice da nd dc)).toList/\ RIn W r sa da ns nd sc dc/\ Bytey r.data/\ ns<= sc/\ sc*16<= 140737488351232/\ nd<= dc/\ dc<= 140737488351232:=by
 match l,hsz with
 |[c0,c1,c2,c3,c4,c5,c6,c7,c8,c9,c10],_=>
  obtain⟨n,xs,hd,hl,f0,f1,f2,f3,f4,f5,f6,f7,f8,f9⟩:=rec_fields hf'
  simp only at hd
  subst hd
  have hwe:(DataW.weightsEach Tryz.prog [3,78,3,3,3,3,3,3,79,35] (xs.map (·.1))).all (·<= reachBytes)=true:=by
   simp only[DataW.weights,Tryz.underlying81] at hw
   exact hw
  have hwm:∀(i:Nat) (t:TypeId) y,[3,78,3,3,3,3,3,3,79,35][i]?=some t-> xs[i]?=some y-> (y.1.weights Tryz.prog t).all (·<= reachBytes)=true:=λi t y ht hy=>
   all_of_mem hwe (DataW.weights_mem_each ht (by rw[List.getElem?_map,hy];rfl))
  obtain⟨y0,e0,m0⟩:=rget_some hl (by omega) f0
  obtain⟨n0,r0,_⟩:=DataW.trod_int Tryz.underlying3 e0
  simp only[List.cons.injEq,and_true] at r0
  obtain⟨y1,e1,m1⟩:=rget_some hl (by omega) f1
  obtain⟨y2,e2,m2⟩:=rget_some hl (by omega) f2
  obtain⟨n3,r3,_⟩:=DataW.trod_int Tryz.underlying3 e2
  simp only[List.cons.injEq,and_true] at r3
  obtain⟨y3,e3,m3⟩:=rget_some hl (by omega) f3
  obtain⟨n4,r4,_⟩:=DataW.trod_int Tryz.underlying3 e3
  simp only[List.cons.injEq,and_true] at r4
  obtain⟨y4,e4,m4⟩:=rget_some hl (by omega) f4
  obtain⟨n5,r5,_⟩:=DataW.trod_int Tryz.underlying3 e4
  simp only[List.cons.injEq,and_true] at r5
  obtain⟨y5,e5,m5⟩:=rget_some hl (by omega) f5
  obtain⟨n6,r6,_⟩:=DataW.trod_int Tryz.underlying3 e5
  simp only[List.cons.injEq,and_true] at r6
  obtain⟨y6,e6,m6⟩:=rget_some hl (by omega) f6
  obtain⟨n7,r7,_⟩:=DataW.trod_int Tryz.underlying3 e6
  simp only[List.cons.injEq,and_true] at r7
  obtain⟨y7,e7,m7⟩:=rget_some hl (by omega) f7
  obtain⟨n8,r8,_⟩:=DataW.trod_int Tryz.underlying3 e7
  simp only[List.cons.injEq,and_true] at r8
  obtain⟨y8,e8,m8⟩:=rget_some hl (by omega) f8
  obtain⟨y9,e9,m9⟩:=rget_some hl (by omega) f9
  obtain⟨z0,z1,k,_,_,s0,s1⟩:=trod_struct2 Tryz.underlying78 e1
  simp only[rcells_int] at s0 s1
  obtain⟨n1,r1,_⟩:=DataW.trod_int Tryz.underlying3 s0
  obtain⟨n2,r2,_⟩:=DataW.trod_int Tryz.underlying3 s1
  simp at r1 r2
  obtain⟨sa,cl,ns,sc,rfl,k1,k2,k3,k4⟩:=rcin_of (d:=y8.1) (p:=y8.2) e8 (hwm 8 _ y8 rfl m8)
  obtain⟨da,zs,nd,dc,rfl,q1,q2,q3,q4,q5,q6⟩:=rbin_of (d:=y9.1) (p:=y9.2) e9 (hwm 9 _ y9 rfl m9)
  subst r0 r1 r2 r3 r4 r5 r6 r7 r8
  subst k1 q1
  exact⟨⟨n0,n1,n2,n3,n4,n5,n6,n7,n8,cl,zs⟩,sa,da,cl.length,zs.length,sc,dc,rfl,⟨rfl,rfl,by show zs.length<= _;omega,⟨⟨sa,sc,rfl,k4,k2,by omega⟩,by show cl.length<= _;omega⟩,q4,q6⟩,q5,k2,k3,q2,q3⟩
end Go.Proofs.YtllhbhogfffedaaGreatDoor
