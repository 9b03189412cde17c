import Derived.Test.YtllhbhogfffedaaGreatDoorJpBk
import Derived.Deep.RegionHeld3
set_option maxHeartbeats 8000000
set_option maxRecDepth 100000
namespace Go.Proofs.YtllhbhogfffedaaGreatDoor.K
open Go.RowKit
set_option linter.unusedVariables false
set_option linter.unusedSimpArgs false
abbrev opA (kind N:Int) (yes:Bool) (aL:Option Addr) (nL cL:Nat) (aB:Option Addr) (nB cB:Nat):Array Value:=#[.int .i64 kind,.int .i64 N,.bool yes,.slice aL nL cL,.slice aB nB cB]
structure OpL (W:World) (aL:Option Addr) (n:Nat) (l:List Rc):Prop where
 len:l.length=n
 le:n<= 1048576
 lin:RLin W aL l
 byt:∀r∈l,Bytey r.data
 sz:∀r∈l,r.data.length<= 140737488351232/\ r.spans.length*16<= 140737488351232
 fr:l.all mayB6=true-> (l.flatMap frB).length<= 137438953472
theorem OpL.hlb {W:World} {aL:Option Addr} {n:Nat} {l:List Rc} (h:OpL W aL n l) (J:Jl):frE J l=0-> (l.flatMap frB).length<= 137438953472:=λe=>by
 rcases frE_case J l with ⟨_,q⟩|⟨_,q,_⟩|⟨_,_,_,q⟩
 ·omega
 ·omega
 ·exact h.fr q
theorem evJ_some {aD aF aN:Addr} {c:Nat} (h:c≠0):∃T v,evJ aD aF aN c=.iface T v:=by
 by_cases h3:c<= 3
 ·obtain⟨a,e⟩:=evD_some (aD:=aD) (aF:=aF) (aN:=aN) h;exact⟨_,_,(evJ_d h3).trans e⟩
 ·exact⟨_,_,evJ_e (by omega)⟩
theorem enJ_0 {c:Nat} (h:c≠0):enJ c≠0:=by
 unfold enJ
 split
 ·rename_i h3;exact enE_0 h3 h
 ·omega
theorem writes_wr (W w:World) (q m:Nat) (D:Dk) (J:Jl) (aD aF aN:Addr) (N:Int) (yes:Bool) (aL:Option Addr) (n cL:Nat) (aB:Option Addr) (nB cB:Nat) (l:List Rc) (p:Py W w q m D (some J)) (hS:S0 W aD aF aN) (hE:Et W) (hm:m<= 4194304) (hO:OpL W aL n l):
 Calls Tryz.prog 33 #[.pointer (some ⟨q,0,none⟩),.agg (opA 2 N yes aL n cL aB nB cB)] w λe w'=>StP W q m e w':=by
 obtain⟨hpk,h,x,y,F,G,pj0,pr0,p0,hjo,j,d,r,hpj,hpr,t0⟩:=p
 subst hpj hpr
 obtain⟨w1,hw1⟩:∃V,w.alloc (.cells (opA 2 N yes aL n cL aB nB cB) 37)=V:=⟨_,rfl⟩
 have hb1:Below w.heap.size w w1:=by rw[←hw1];exact(Below.refl _ _).alloc (aqH _) _
 have hs1:w1.heap.size=w.heap.size+1:=by rw[←hw1];simp
 have hx1:w1.heap[w.heap.size]?=some (.cells (opA 2 N yes aL n cL aB nB cB) 37 (0,0)):=by rw[←hw1];exact heap_new6 w _
 have hbW1:Below W.heap.size W w1:=p0.bel.trans (hb1.mono p0.bel.size)
 have HLd:=lend7_any l aL n cL w1 hO.len hO.le (hO.lin.below hbW1) hO.sz
 unfold LdP at HLd
 have c3:w1.cell? ⟨w.heap.size,3,none⟩=some (.slice aL n cL):=cell_of_row _ _ 3 _ _ _ hx1
 have H0:Hid (Pv W w q h x y F G D D (.pointer (some ⟨j,0,none⟩)) (.pointer (some ⟨r,0,none⟩))/\ Pjr W w q h x y F G J J j d r/\ Pk D m/\ Jok D J m/\ S0 W aD aF aN/\ Et W/\ OpL W aL n l/\ Below w.heap.size w w1/\ w1.heap[w.heap.size]?=some (.cells (opA 2 N yes aL n cL aB nB cB) 37 (0,0))/\ w1.heap.size=w.heap.size+1):=⟨p0,t0,hpk,hjo,hS,hE,hO,hb1,hx1,hs1⟩
 have hnb:n<= 1048576:=hO.le
 have hJn:J.n<= 549755813888:=by have:=hjo.n;omega
 have hJk:J.k<= 549755813888:=by have:=hjo.k;omega
 clear hpk hjo p0 t0 hb1 hs1 hx1 hbW1 hS hE hO
 go_enter Tryz.func33,Tryz.ntmps33
 go_upto_region 2 with (first
  |(go_at_call 69;refine HLd.mono ?_;rintro e w2 ⟨ga,vd,vs,cs,ps,bx,rfl,hps,hlz,hm1,hm2,hb2⟩
    obtain⟨av,cv,hvd⟩:=d_shape hlz.dr
    obtain⟨aS,cvs,hvs⟩:=d_shape hlz.sr
    rw[List.length_map,show ps.length=n from by rw[←H0.out.2.2.2.2.2.2.1.len,←hps,List.length_map]] at hvd hvs
    subst hvd hvs))
 clear HLd c3 hw1
 obtain⟨w3,hw3⟩:∃V,w2.alloc (.cells #[.slice (some ⟨ga,0,none⟩) (n+2) (n+2),.slice av n cv,.slice aS n cvs] 133)=V:=⟨_,rfl⟩
 rw[hw3]
 have hb3:Below w2.heap.size w2 w3:=by rw[←hw3];exact(Below.refl _ _).alloc (aqH _) _
 have hs3:w3.heap.size=w2.heap.size+1:=by rw[←hw3];simp
 have hx3:w3.heap[w2.heap.size]?=some (.cells #[.slice (some ⟨ga,0,none⟩) (n+2) (n+2),.slice av n cv,.slice aS n cvs] 133 (0,0)):=by rw[←hw3];exact heap_new6 w2 _
 clear hw3
 have hw2:=hb2.size
 have hbb:Below w.heap.size w w3:=H0.out.2.2.2.2.2.2.2.1.trans ((hb2.trans (hb3.mono hw2)).mono (by have:=H0.out.2.2.2.2.2.2.2.2.2;omega))
 have hpl:ps.length=n:=by rw[←H0.out.2.2.2.2.2.2.1.len,←hps,List.length_map]
 have hbp:∀o∈ps,o.r.data.length<= 140737488351232/\ o.r.spans.length*16<= 140737488351232:=λo ho=>H0.out.2.2.2.2.2.2.1.sz o.r (by rw[←hps];exact List.mem_map_of_mem ho)
 have p3:=H0.out.1.keep hbb
 have t3:=H0.out.2.1.law (P:=λ_=>False) (F':=F) (G':=G) (Kd.below hbb) ⟨id,id,id⟩ (λk e=>.inl e) (λk e=>.inl e)
 have hrl3:RLin w3 (some ⟨ga,0,none⟩) l:=by rw[←hps];exact(hlz.keep hb3).rlin hpl (aqH _) hbp
 have hx1:=(hb3.block _ (by have:=H0.out.2.2.2.2.2.2.2.2.2;omega)).trans ((hb2.block _ (by have:=H0.out.2.2.2.2.2.2.2.2.2;omega)).trans H0.out.2.2.2.2.2.2.2.2.1)
 have H3:Hid (Pv W w3 q h x y F G D D (.pointer (some ⟨j,0,none⟩)) (.pointer (some ⟨r,0,none⟩))/\ Pjr W w3 q h x y F G J J j d r/\ RLin w3 (some ⟨ga,0,none⟩) l/\ ps.map Le7.r=l/\ Lz (w1.heap.size+1) w2 bx n ga (.slice av n cv) (.slice aS n cvs) (ps.map Le7.dq) (ps.map Le7.sq) cs ps n/\ cs[n*11]?=some (.int .i64 (-201))/\ cs[(n+1)*11]?=some (.int .i64 (-202))/\ Below w2.heap.size w2 w3/\ w3.heap[w2.heap.size]?=some (.cells #[.slice (some ⟨ga,0,none⟩) (n+2) (n+2),.slice av n cv,.slice aS n cvs] 133 (0,0))/\ w3.heap.size=w2.heap.size+1/\ w3.heap[w.heap.size]?=some (.cells (opA 2 N yes aL n cL aB nB cB) 37 (0,0))/\ w1.heap.size<= w2.heap.size):=⟨p3,t3,hrl3,hps,hlz,hm1,hm2,hb3,hx3,hs3,hx1,hw2⟩
 have k0:w3.cell? ⟨w2.heap.size,0,none⟩=some (.slice (some ⟨ga,0,none⟩) (n+2) (n+2)):=cell_of_row _ _ 0 _ _ _ hx3
 have o0:w3.cell? ⟨w.heap.size,0,none⟩=some (.int .i64 2):=cell_of_row _ _ 0 _ _ _ hx1
 have o2:w3.cell? ⟨w.heap.size,2,none⟩=some (.bool yes):=cell_of_row _ _ 2 _ _ _ hx1
 have o3:w3.cell? ⟨w.heap.size,3,none⟩=some (.slice aL n cL):=cell_of_row _ _ 3 _ _ _ hx1
 have hn2:(n:Int)<= (n:Int)+2:=by omega
 have hn0:(0:Int)<= (n:Int):=by omega
 have q2:w3.cell? ⟨q,2,none⟩=some (.pointer (some ⟨j,0,none⟩)):=p3.c 2
 obtain⟨⟨R1,R2,c⟩,hR⟩:∃R:Dk×Jl×Nat,wrX D J l yes=R:=⟨_,rfl⟩
 have HRR:Hid (Pk R1 (m+1)/\ Jok R1 R2 (m+1)/\ c≠3):=by
  have h1:=pk_wr (J:=J) H0.out.2.2.1 l yes H0.out.2.2.2.2.2.2.1.byt
  have h2:=jok_wr H0.out.2.2.1 H0.out.2.2.2.1 l yes
  rw[hR] at h1 h2
  exact⟨h1,h2.1,h2.2⟩
 have HPW:=λ(V:World) (hV:Below w3.heap.size w3 V)=>jwrite_any V d x j F D J (100000+m) aD aF aN l (some ⟨ga,0,none⟩) n (n+2) yes (p3.keep hV).dm H0.out.2.2.1.ok (by omega) ((t3.law (P:=λ_=>False) (F':=F) (G':=G) (Kd.below hV) ⟨id,id,id⟩ (λk e=>.inl e) (λk e=>.inl e)).w0 (p3.keep hV) H0.out.2.2.2.2.1).1 ((hV.block _ t3.jb.lt).trans t3.jb) ((t3.law (P:=λ_=>False) (F':=F) (G':=G) (Kd.below hV) ⟨id,id,id⟩ (λk e=>.inl e) (λk e=>.inl e)).w0 (p3.keep hV) H0.out.2.2.2.2.1).2 H0.out.2.2.2.2.2.2.1.len hnb (hrl3.below hV) H0.out.2.2.2.2.2.2.1.byt hJn hJk (H0.out.2.2.2.2.2.2.1.hlb J)
 simp only[hR,WrP] at HPW
 obtain⟨ev,hev⟩:∃ev,evJ aD aF aN c=ev:=⟨_,rfl⟩
 have HEV:Hid (evJ aD aF aN c=ev/\ wrX D J l yes=(R1,R2,c)):=⟨hev,hR⟩
 rw[hev] at HPW
 clear hev hR p3 t3 hrl3 hps hlz hm1 hm2 hb3 hx3 hs3 hx1 hw2 hpl hbp hb2 hbb
 have HP2:=HPW w3.drew ⟨rfl,rfl,rfl,aqH _,λ_ _=>rfl⟩
 have HP3:Hid (Calls Tryz.prog 17 #[.pointer (some ⟨j,0,none⟩),.slice (some ⟨ga,0,none⟩) n (n+2),.bool yes] w3.drew λe w'=>e=.returned ev/\ Wj w3.drew w' d x j F R1 R2):=HP2
 clear HPW HP2
 have HC:Hid (w3.cell? ⟨q,2,none⟩=some (.pointer (some ⟨j,0,none⟩))/\ w3.cell? ⟨w.heap.size,2,none⟩=some (.bool yes)):=⟨q2,o2⟩
 have HNF:Hid (¬(F q∨q=j)/\ ¬(F w.heap.size∨w.heap.size=j)):=⟨λe=>e.elim H3.out.1.nq.2.1 (λe=>H3.out.2.1.nj.2.2.2.1 e.symm),λe=>e.elim (λe=>by have:=(H0.out.1.fl _ e).2;omega) (λe=>by have:=H0.out.2.1.jb.lt;omega)⟩
 go_upto_region 4 with fail
 clear k0 o0 o3
 go_region_held3 (λV=>V.cell? ⟨q,2,none⟩=some (.pointer (some ⟨j,0,none⟩))/\ V.cell? ⟨w.heap.size,2,none⟩=some (.bool yes))
  (first|exact HC.out|exact HU.out)
  (first
   |(go_at_call 17
     refine HP3.out.mono ?_
     rintro e U ⟨rfl,hWj⟩
     have HWJ:Hid (Wj w3.drew U d x j F R1 R2):=hWj
     have HU:Hid (U.cell? ⟨q,2,none⟩=some (.pointer (some ⟨j,0,none⟩))/\ U.cell? ⟨w.heap.size,2,none⟩=some (.bool yes)):=⟨hWj.kd.cell HC.out.1 HNF.out.1,hWj.kd.cell HC.out.2 HNF.out.2⟩
     clear hWj))
 clear HP3 q2 o2
 have H4:Hid (∃F',Pv W U q h x y F' G R1 D (.pointer (some ⟨j,0,none⟩)) (.pointer (some ⟨r,0,none⟩))/\ Pjr W U q h x y F' G R2 J j d r/\ (∀k,F' k-> F k∨w3.heap.size<= k)):=Pjr.wr (w:=w3.drew) (H3.out.1.keep (V:=w3.drew) ⟨rfl,rfl,rfl,aqH _,λ_ _=>rfl⟩) (H3.out.2.1.law (V:=w3.drew) (P:=λ_=>False) (F':=F) (G':=G) (Kd.below ⟨rfl,rfl,rfl,aqH _,λ_ _=>rfl⟩) ⟨id,id,id⟩ (λk e=>.inl e) (λk e=>.inl e)) HWJ.out
 have hU:w3.heap.size<= U.heap.size:=HWJ.out.kd.size
 have hUs:∀k,w.heap.size<= k-> k < w3.heap.size-> U.heap[k]?=w3.heap[k]?:=λk h1 h2=>HWJ.out.kd.same k h2 (λe=>e.elim (λe=>by have:=(H0.out.1.fl _ e).2;omega) (λe=>by have:=H0.out.2.1.jb.lt;omega))
 have HUS:Hid (w3.heap.size<= U.heap.size/\ ∀k,w.heap.size<= k-> k < w3.heap.size-> U.heap[k]?=w3.heap[k]?):=⟨hU,hUs⟩
 obtain⟨F',p4,t4,hF4⟩:=H4.out
 have hsz:w.heap.size < w3.heap.size:=by have:=H3.out.2.2.2.2.2.2.2.2.2.1;have:=H3.out.2.2.2.2.2.2.2.2.2.2.2;have:=H0.out.2.2.2.2.2.2.2.2.2;omega
 have hxU:=(hUs w.heap.size (aqH _) hsz).trans H3.out.2.2.2.2.2.2.2.2.2.2.1
 have o3:U.cell? ⟨w.heap.size,3,none⟩=some (.slice aL n cL):=cell_of_row _ _ 3 _ _ _ hxU
 have o2:U.cell? ⟨w.heap.size,2,none⟩=some (.bool yes):=cell_of_row _ _ 2 _ _ _ hxU
 have q3:U.cell? ⟨q,3,none⟩=some (.pointer (some ⟨r,0,none⟩)):=p4.c 3
 obtain⟨z,hz⟩:∃z,enJ c=z:=⟨_,rfl⟩
 have HZ:Hid (enJ c=z):=hz
 have hO:=H0.out.2.2.2.2.2.2.1
 have HRW:=ewrite_any U.drew y r G D J (100000+m) l aL n cL yes (p4.keep (V:=U.drew) ⟨rfl,rfl,rfl,aqH _,λ_ _=>rfl⟩).em H0.out.2.2.1.ok (by omega) t4.nr.2.2.1 (t4.rb.same (V:=U.drew) rfl) hO.len hnb (hO.lin.below (p4.keep (V:=U.drew) ⟨rfl,rfl,rfl,aqH _,λ_ _=>rfl⟩).bel) hO.byt hJn hJk (hO.hlb J)
 unfold WkP at HRW
 rw[HEV.out.2] at HRW
 simp only at HRW
 rw[hz] at HRW
 have HRQ:Hid (Calls Tryz.prog 70 #[.pointer (some ⟨r,0,none⟩),.slice aL n cL,.bool yes] U.drew λe w'=>e=.returned (.int .i64 z)/\ Wk U.drew w' y r G R1 R2):=HRW
 have HC5:Hid (U.cell? ⟨q,3,none⟩=some (.pointer (some ⟨r,0,none⟩))/\ U.cell? ⟨w.heap.size,3,none⟩=some (.slice aL n cL)/\ U.cell? ⟨w.heap.size,2,none⟩=some (.bool yes)):=⟨q3,o3,o2⟩
 have HNG:Hid (¬(G q∨q=r)/\ ¬(G w.heap.size∨w.heap.size=r)):=⟨λe=>e.elim H3.out.1.nq.2.2 (λe=>H3.out.2.1.nr.2.2.2.1 e.symm),λe=>e.elim (λe=>by have:=(H0.out.1.gl _ e).2;omega) (λe=>by have:=H0.out.2.1.rb.lt;omega)⟩
 have H5:Hid (Pv W U q h x y F' G R1 D (.pointer (some ⟨j,0,none⟩)) (.pointer (some ⟨r,0,none⟩))/\ Pjr W U q h x y F' G R2 J j d r/\ (∀k,F' k-> F k∨w3.heap.size<= k)):=⟨p4,t4,hF4⟩
 clear HRW hz p4 t4 hF4 hxU hO H4 HWJ hU hUs
 go_upto_region 5 with fail
 go_region_held3 (λV=>V.cell? ⟨q,3,none⟩=some (.pointer (some ⟨r,0,none⟩))/\ V.cell? ⟨w.heap.size,3,none⟩=some (.slice aL n cL)/\ V.cell? ⟨w.heap.size,2,none⟩=some (.bool yes))
  (first|exact HC5.out|exact HU2.out)
  (first
   |(go_at_call 70
     refine HRQ.out.mono ?_
     rintro e U2 ⟨rfl,hWk⟩
     have HWK:Hid (Wk U.drew U2 y r G R1 R2):=hWk
     have HU2:Hid (U2.cell? ⟨q,3,none⟩=some (.pointer (some ⟨r,0,none⟩))/\ U2.cell? ⟨w.heap.size,3,none⟩=some (.slice aL n cL)/\ U2.cell? ⟨w.heap.size,2,none⟩=some (.bool yes)):=⟨hWk.kd.cell HC5.out.1 HNG.out.1,hWk.kd.cell HC5.out.2.1 HNG.out.2,hWk.kd.cell HC5.out.2.2 HNG.out.2⟩
     clear hWk))
 clear q3 o3 o2 HRQ HC5
 obtain⟨G',p6,t6,hG6⟩:=Pjr.wk (w:=U.drew) (H5.out.1.keep (V:=U.drew) ⟨rfl,rfl,rfl,aqH _,λ_ _=>rfl⟩) (H5.out.2.1.law (V:=U.drew) (P:=λ_=>False) (F':=F') (G':=G) (Kd.below ⟨rfl,rfl,rfl,aqH _,λ_ _=>rfl⟩) ⟨id,id,id⟩ (λk e=>.inl e) (λk e=>.inl e)) HWK.out
 have hU2:U.heap.size<= U2.heap.size:=HWK.out.kd.size
 have hs6:∀k,w.heap.size<= k-> k < w3.heap.size-> U2.heap[k]?=w3.heap[k]?:=λk h1 h2=>(HWK.out.kd.same k (Nat.lt_of_lt_of_le h2 HUS.out.1) (λe=>e.elim (λe=>by have:=(H0.out.1.gl _ e).2;omega) (λe=>by have:=H0.out.2.1.rb.lt;omega))).trans (HUS.out.2 k h1 h2)
 have hs1:=H0.out.2.2.2.2.2.2.2.2.2
 have hs2:=H3.out.2.2.2.2.2.2.2.2.2.2.2
 have hs3:=H3.out.2.2.2.2.2.2.2.2.2.1
 have hlz3:=H3.out.2.2.2.2.1.rebox H3.out.2.2.2.2.2.2.2.1 H3.out.2.2.2.2.2.2.2.2.1
 have hlz6:=hlz3.same (w':=U2) (λk h1 h2=>hs6 k (by omega) h1)
 have hO:=H0.out.2.2.2.2.2.2.1
 have HBK:=back7_any l aL n cL _ _ ga _ _ cs ps W U2 hO.len hnb hlz6 H3.out.2.2.2.1 H3.out.2.2.2.2.2.1 H3.out.2.2.2.2.2.2.1 hO.lin p6.bel (by have:=H0.out.1.bel.size;omega) hO.sz
 have hx6:=(hs6 w2.heap.size (by omega) (by omega)).trans H3.out.2.2.2.2.2.2.2.2.1
 have k0:U2.cell? ⟨w2.heap.size,0,none⟩=some (.slice (some ⟨ga,0,none⟩) (n+2) (n+2)):=cell_of_row _ _ 0 _ _ _ hx6
 have k1:U2.cell? ⟨w2.heap.size,1,none⟩=some (.slice av n cv):=cell_of_row _ _ 1 _ _ _ hx6
 have k2:U2.cell? ⟨w2.heap.size,2,none⟩=some (.slice aS n cvs):=cell_of_row _ _ 2 _ _ _ hx6
 have o3:=HU2.out.2.1
 have HBS:Hid (∀k,BkS ga ps k-> w.heap.size < k/\ k < w3.heap.size):=λk e=>by
  rcases e with rfl|⟨o,ho,rfl|rfl⟩
  ·have:=d_lt hlz3.all k rfl;omega
  ·obtain⟨i,hi⟩:=List.mem_iff_getElem?.mp ho;have:=d_lt (hlz3.dat i o hi) o.gd rfl;omega
  ·obtain⟨i,hi⟩:=List.mem_iff_getElem?.mp ho;have:=d_lt (hlz3.spn i o hi) o.gs rfl;omega
 have H6:Hid (Pv W U2 q h x y F' G' R1 R1 (.pointer (some ⟨j,0,none⟩)) (.pointer (some ⟨r,0,none⟩))/\ Pjr W U2 q h x y F' G' R2 R2 j d r/\ (∀k,G' k-> G k∨w3.heap.size<= k)):=⟨p6,t6,λk e=>(hG6 k e).imp id (λe=>Nat.le_trans HUS.out.1 e)⟩
 clear p6 t6 hG6 hlz3 hlz6 hx6 hO hs6 HWK
 go_upto_region 7 with (first
  |(go_at_call 71;refine HBK.mono ?_;rintro e U3 ⟨rfl,hk3⟩))
 clear HBK k0 k1 k2 o3
 have hW:=H0.out.1.bel.size
 have hql:=H0.out.1.ql
 have hhl:=H0.out.1.hl
 have nF':∀k,w.heap.size < k-> k < w3.heap.size-> ¬F' k:=λk h1 h2 e=>(H5.out.2.2 k e).elim (λe=>by have:=(H0.out.1.fl _ e).2;omega) (λe=>by omega)
 have nG':∀k,w.heap.size < k-> k < w3.heap.size-> ¬G' k:=λk h1 h2 e=>(H6.out.2.2 k e).elim (λe=>by have:=(H0.out.1.gl _ e).2;omega) (λe=>by omega)
 have p7:=H6.out.1.law (V:=U3) hk3 (λk e _=>by
  have:=HBS.out k e
  exact⟨by omega,nF' k this.1 this.2,nG' k this.1 this.2,by omega,by omega⟩)
 obtain⟨l1,l2,l3⟩:=H0.out.2.1.lts
 have t7:=H6.out.2.1.law (V:=U3) (F':=F') (G':=G') hk3 ⟨λe=>by have:=HBS.out _ e;omega,λe=>by have:=HBS.out _ e;omega,λe=>by have:=HBS.out _ e;omega⟩ (λk e=>.inl e) (λk e=>.inl e)
 have H7:Hid (Pv W U3 q h x y F' G' R1 R1 (.pointer (some ⟨j,0,none⟩)) (.pointer (some ⟨r,0,none⟩))/\ Pjr W U3 q h x y F' G' R2 R2 j d r):=⟨p7,t7⟩
 obtain⟨hs7,-,-⟩:=H0.out.2.2.2.2.1.snt p7.bel (λk e=>(p7.fl k e).1)
 have HNu:=number_any U3 _ aD aF aN c hs7 (H0.out.2.2.2.2.2.1.below p7.bel) HRR.out.2.2
 rw[nm_en HRR.out.2.2,HZ.out,HEV.out.1] at HNu
 have HFin:Hid (∀V:World,Below U3.heap.size U3 V-> ∃D' J',Py W V q (m+1) D' J'):=λV hV=>⟨R1,some R2,Py.keep ⟨HRR.out.1,h,x,y,F',G',_,_,H7.out.1,HRR.out.2.1,j,d,r,rfl,rfl,H7.out.2⟩ hV⟩
 clear hk3 p7 t7 hs7 nF' nG' l1 l2 l3 hW hql hhl hs1 hs2 hs3 hsz hU2
 by_cases hc:c=0
 ·have hz0:z=0:=by rw[←HZ.out,hc];rfl
  have he0:ev=.nilIface:=by rw[←HEV.out.1,hc];rfl
  subst hz0 he0
  clear hc
  go_wp2_with (go_at_call 16;refine HNu.mono ?_;rintro e U4 ⟨rfl,hb4⟩)
  go_ret
  exact⟨rfl,HFin.out U4 hb4.out⟩
 ·have hz0:z≠0:=by rw[←HZ.out];exact enJ_0 hc
  have hzb:(z == 0)=false:=by simp[hz0]
  obtain⟨T,v,he0⟩:=evJ_some (aD:=aD) (aF:=aF) (aN:=aN) hc
  rw[HEV.out.1] at he0
  subst he0
  clear hc
  go_wp2_with (go_at_call 16;refine HNu.mono ?_;rintro e U4 ⟨rfl,hb4⟩)
  go_ret
  exact⟨rfl,HFin.out U4 hb4.out⟩
theorem writes_re (W w:World) (q m:Nat) (D:Dk) (J:Jl) (aD aF aN:Addr) (kind N:Int) (yes:Bool) (aL:Option Addr) (n cL:Nat) (aB:Option Addr) (nB cB:Nat) (l:List Rc) (p:Py W w q m D (some J)) (hS:S0 W aD aF aN) (hE:Et W) (hm:m<= 4194304) (hO:OpL W aL n l) (hk2:¬kind=2):
 Calls Tryz.prog 33 #[.pointer (some ⟨q,0,none⟩),.agg (opA kind N yes aL n cL aB nB cB)] w λe w'=>StP W q m e w':=by
 obtain⟨hpk,h,x,y,F,G,pj0,pr0,p0,hjo,j,d,r,hpj,hpr,t0⟩:=p
 subst hpj hpr
 have hkb:(kind == 2)=false:=by simp[hk2]
 obtain⟨w1,hw1⟩:∃V,w.alloc (.cells (opA kind N yes aL n cL aB nB cB) 37)=V:=⟨_,rfl⟩
 have hb1:Below w.heap.size w w1:=by rw[←hw1];exact(Below.refl _ _).alloc (aqH _) _
 have hs1:w1.heap.size=w.heap.size+1:=by rw[←hw1];simp
 have hx1:w1.heap[w.heap.size]?=some (.cells (opA kind N yes aL n cL aB nB cB) 37 (0,0)):=by rw[←hw1];exact heap_new6 w _
 have hbW1:Below W.heap.size W w1:=p0.bel.trans (hb1.mono p0.bel.size)
 have HLd:=lend7_any l aL n cL w1 hO.len hO.le (hO.lin.below hbW1) hO.sz
 unfold LdP at HLd
 have c3:w1.cell? ⟨w.heap.size,3,none⟩=some (.slice aL n cL):=cell_of_row _ _ 3 _ _ _ hx1
 have H0:Hid (Pv W w q h x y F G D D (.pointer (some ⟨j,0,none⟩)) (.pointer (some ⟨r,0,none⟩))/\ Pjr W w q h x y F G J J j d r/\ Pk D m/\ Jok D J m/\ S0 W aD aF aN/\ Et W/\ OpL W aL n l/\ Below w.heap.size w w1/\ w1.heap[w.heap.size]?=some (.cells (opA kind N yes aL n cL aB nB cB) 37 (0,0))/\ w1.heap.size=w.heap.size+1):=⟨p0,t0,hpk,hjo,hS,hE,hO,hb1,hx1,hs1⟩
 have hnb:n<= 1048576:=hO.le
 have hJn:J.n<= 549755813888:=by have:=hjo.n;omega
 have hJk:J.k<= 549755813888:=by have:=hjo.k;omega
 clear hpk hjo p0 t0 hb1 hs1 hx1 hbW1 hS hE hO
 go_enter Tryz.func33,Tryz.ntmps33
 go_upto_region 2 with (first
  |(go_at_call 69;refine HLd.mono ?_;rintro e w2 ⟨ga,vd,vs,cs,ps,bx,rfl,hps,hlz,hm1,hm2,hb2⟩
    obtain⟨av,cv,hvd⟩:=d_shape hlz.dr
    obtain⟨aS,cvs,hvs⟩:=d_shape hlz.sr
    rw[List.length_map,show ps.length=n from by rw[←H0.out.2.2.2.2.2.2.1.len,←hps,List.length_map]] at hvd hvs
    subst hvd hvs))
 clear HLd c3 hw1
 obtain⟨w3,hw3⟩:∃V,w2.alloc (.cells #[.slice (some ⟨ga,0,none⟩) (n+2) (n+2),.slice av n cv,.slice aS n cvs] 133)=V:=⟨_,rfl⟩
 rw[hw3]
 have hb3:Below w2.heap.size w2 w3:=by rw[←hw3];exact(Below.refl _ _).alloc (aqH _) _
 have hs3:w3.heap.size=w2.heap.size+1:=by rw[←hw3];simp
 have hx3:w3.heap[w2.heap.size]?=some (.cells #[.slice (some ⟨ga,0,none⟩) (n+2) (n+2),.slice av n cv,.slice aS n cvs] 133 (0,0)):=by rw[←hw3];exact heap_new6 w2 _
 clear hw3
 have hw2:=hb2.size
 have hbb:Below w.heap.size w w3:=H0.out.2.2.2.2.2.2.2.1.trans ((hb2.trans (hb3.mono hw2)).mono (by have:=H0.out.2.2.2.2.2.2.2.2.2;omega))
 have hpl:ps.length=n:=by rw[←H0.out.2.2.2.2.2.2.1.len,←hps,List.length_map]
 have hbp:∀o∈ps,o.r.data.length<= 140737488351232/\ o.r.spans.length*16<= 140737488351232:=λo ho=>H0.out.2.2.2.2.2.2.1.sz o.r (by rw[←hps];exact List.mem_map_of_mem ho)
 have p3:=H0.out.1.keep hbb
 have t3:=H0.out.2.1.law (P:=λ_=>False) (F':=F) (G':=G) (Kd.below hbb) ⟨id,id,id⟩ (λk e=>.inl e) (λk e=>.inl e)
 have hrl3:RLin w3 (some ⟨ga,0,none⟩) l:=by rw[←hps];exact(hlz.keep hb3).rlin hpl (aqH _) hbp
 have hx1:=(hb3.block _ (by have:=H0.out.2.2.2.2.2.2.2.2.2;omega)).trans ((hb2.block _ (by have:=H0.out.2.2.2.2.2.2.2.2.2;omega)).trans H0.out.2.2.2.2.2.2.2.2.1)
 have H3:Hid (Pv W w3 q h x y F G D D (.pointer (some ⟨j,0,none⟩)) (.pointer (some ⟨r,0,none⟩))/\ Pjr W w3 q h x y F G J J j d r/\ RLin w3 (some ⟨ga,0,none⟩) l/\ ps.map Le7.r=l/\ Lz (w1.heap.size+1) w2 bx n ga (.slice av n cv) (.slice aS n cvs) (ps.map Le7.dq) (ps.map Le7.sq) cs ps n/\ cs[n*11]?=some (.int .i64 (-201))/\ cs[(n+1)*11]?=some (.int .i64 (-202))/\ Below w2.heap.size w2 w3/\ w3.heap[w2.heap.size]?=some (.cells #[.slice (some ⟨ga,0,none⟩) (n+2) (n+2),.slice av n cv,.slice aS n cvs] 133 (0,0))/\ w3.heap.size=w2.heap.size+1/\ w3.heap[w.heap.size]?=some (.cells (opA kind N yes aL n cL aB nB cB) 37 (0,0))/\ w1.heap.size<= w2.heap.size):=⟨p3,t3,hrl3,hps,hlz,hm1,hm2,hb3,hx3,hs3,hx1,hw2⟩
 have k0:w3.cell? ⟨w2.heap.size,0,none⟩=some (.slice (some ⟨ga,0,none⟩) (n+2) (n+2)):=cell_of_row _ _ 0 _ _ _ hx3
 have o0:w3.cell? ⟨w.heap.size,0,none⟩=some (.int .i64 kind):=cell_of_row _ _ 0 _ _ _ hx1
 have o2:w3.cell? ⟨w.heap.size,2,none⟩=some (.bool yes):=cell_of_row _ _ 2 _ _ _ hx1
 have o3:w3.cell? ⟨w.heap.size,3,none⟩=some (.slice aL n cL):=cell_of_row _ _ 3 _ _ _ hx1
 have hn2:(n:Int)<= (n:Int)+2:=by omega
 have hn0:(0:Int)<= (n:Int):=by omega
 have q2:w3.cell? ⟨q,2,none⟩=some (.pointer (some ⟨j,0,none⟩)):=p3.c 2
 obtain⟨⟨R1,R2,c⟩,hR⟩:∃R:Dk×Jl×Nat,rwX D J l=R:=⟨_,rfl⟩
 have HRR:Hid (Pk R1 (m+1)/\ Jok R1 R2 (m+1)/\ c≠3):=by
  have h1:=pk_rw (J:=J) H0.out.2.2.1 l H0.out.2.2.2.2.2.2.1.byt
  have h2:=jok_rw H0.out.2.2.1 H0.out.2.2.2.1 l
  rw[hR] at h1 h2
  exact⟨h1,h2.1,h2.2⟩
 have HPW:=λ(V:World) (hV:Below w3.heap.size w3 V)=>jrewrite_any V d x j F D J (100000+m) aD aF aN l (some ⟨ga,0,none⟩) n (n+2) (p3.keep hV).dm H0.out.2.2.1.ok (by omega) ((t3.law (P:=λ_=>False) (F':=F) (G':=G) (Kd.below hV) ⟨id,id,id⟩ (λk e=>.inl e) (λk e=>.inl e)).w0 (p3.keep hV) H0.out.2.2.2.2.1).1 ((hV.block _ t3.jb.lt).trans t3.jb) ((t3.law (P:=λ_=>False) (F':=F) (G':=G) (Kd.below hV) ⟨id,id,id⟩ (λk e=>.inl e) (λk e=>.inl e)).w0 (p3.keep hV) H0.out.2.2.2.2.1).2 H0.out.2.2.2.2.2.2.1.len hnb (hrl3.below hV) H0.out.2.2.2.2.2.2.1.byt (H0.out.2.2.2.2.2.2.1.hlb J)
 simp only[hR,WrP] at HPW
 obtain⟨ev,hev⟩:∃ev,evJ aD aF aN c=ev:=⟨_,rfl⟩
 have HEV:Hid (evJ aD aF aN c=ev/\ rwX D J l=(R1,R2,c)):=⟨hev,hR⟩
 rw[hev] at HPW
 clear hev hR p3 t3 hrl3 hps hlz hm1 hm2 hb3 hx3 hs3 hx1 hw2 hpl hbp hb2 hbb
 have HP2:=HPW w3 (Below.refl _ _)
 clear HPW
 go_upto_region 9 with (first
  |(go_at_call 18
    refine HP2.mono ?_
    rintro e U ⟨rfl,hWj⟩
    have HWJ:Hid (Wj w3 U d x j F R1 R2):=hWj
    clear hWj))
 clear HP2 q2 o2 k0 o0 o3
 have H4:Hid (∃F',Pv W U q h x y F' G R1 D (.pointer (some ⟨j,0,none⟩)) (.pointer (some ⟨r,0,none⟩))/\ Pjr W U q h x y F' G R2 J j d r/\ (∀k,F' k-> F k∨w3.heap.size<= k)):=Pjr.wr (w:=w3) H3.out.1 H3.out.2.1 HWJ.out
 have hU:w3.heap.size<= U.heap.size:=HWJ.out.kd.size
 have hUs:∀k,w.heap.size<= k-> k < w3.heap.size-> U.heap[k]?=w3.heap[k]?:=λk h1 h2=>HWJ.out.kd.same k h2 (λe=>e.elim (λe=>by have:=(H0.out.1.fl _ e).2;omega) (λe=>by have:=H0.out.2.1.jb.lt;omega))
 have HUS:Hid (w3.heap.size<= U.heap.size/\ ∀k,w.heap.size<= k-> k < w3.heap.size-> U.heap[k]?=w3.heap[k]?):=⟨hU,hUs⟩
 obtain⟨F',p4,t4,hF4⟩:=H4.out
 have hsz:w.heap.size < w3.heap.size:=by have:=H3.out.2.2.2.2.2.2.2.2.2.1;have:=H3.out.2.2.2.2.2.2.2.2.2.2.2;have:=H0.out.2.2.2.2.2.2.2.2.2;omega
 have hxU:=(hUs w.heap.size (aqH _) hsz).trans H3.out.2.2.2.2.2.2.2.2.2.2.1
 have o3:U.cell? ⟨w.heap.size,3,none⟩=some (.slice aL n cL):=cell_of_row _ _ 3 _ _ _ hxU
 have q3:U.cell? ⟨q,3,none⟩=some (.pointer (some ⟨r,0,none⟩)):=p4.c 3
 obtain⟨z,hz⟩:∃z,enJ c=z:=⟨_,rfl⟩
 have HZ:Hid (enJ c=z):=hz
 have hO:=H0.out.2.2.2.2.2.2.1
 have HRW:=erewrite_any U.drew y r G D J (100000+m) l aL n cL (p4.keep (V:=U.drew) ⟨rfl,rfl,rfl,aqH _,λ_ _=>rfl⟩).em H0.out.2.2.1.ok (by omega) t4.nr.2.2.1 (t4.rb.same (V:=U.drew) rfl) hO.len hnb (hO.lin.below (p4.keep (V:=U.drew) ⟨rfl,rfl,rfl,aqH _,λ_ _=>rfl⟩).bel) hO.byt hJn hJk (hO.hlb J)
 unfold WkP at HRW
 rw[HEV.out.2] at HRW
 simp only at HRW
 rw[hz] at HRW
 have HRQ:Hid (Calls Tryz.prog 72 #[.pointer (some ⟨r,0,none⟩),.slice aL n cL] U.drew λe w'=>e=.returned (.int .i64 z)/\ Wk U.drew w' y r G R1 R2):=HRW
 have HC5:Hid (U.cell? ⟨q,3,none⟩=some (.pointer (some ⟨r,0,none⟩))/\ U.cell? ⟨w.heap.size,3,none⟩=some (.slice aL n cL)):=⟨q3,o3⟩
 have HNG:Hid (¬(G q∨q=r)/\ ¬(G w.heap.size∨w.heap.size=r)):=⟨λe=>e.elim H3.out.1.nq.2.2 (λe=>H3.out.2.1.nr.2.2.2.1 e.symm),λe=>e.elim (λe=>by have:=(H0.out.1.gl _ e).2;omega) (λe=>by have:=H0.out.2.1.rb.lt;omega)⟩
 have H5:Hid (Pv W U q h x y F' G R1 D (.pointer (some ⟨j,0,none⟩)) (.pointer (some ⟨r,0,none⟩))/\ Pjr W U q h x y F' G R2 J j d r/\ (∀k,F' k-> F k∨w3.heap.size<= k)):=⟨p4,t4,hF4⟩
 clear HRW hz p4 t4 hF4 hxU hO H4 HWJ hU hUs
 go_upto_region 9 with fail
 go_region_held3 (λV=>V.cell? ⟨q,3,none⟩=some (.pointer (some ⟨r,0,none⟩))/\ V.cell? ⟨w.heap.size,3,none⟩=some (.slice aL n cL))
  (first|exact HC5.out|exact HU2.out)
  (first
   |(go_at_call 72
     refine HRQ.out.mono ?_
     rintro e U2 ⟨rfl,hWk⟩
     have HWK:Hid (Wk U.drew U2 y r G R1 R2):=hWk
     have HU2:Hid (U2.cell? ⟨q,3,none⟩=some (.pointer (some ⟨r,0,none⟩))/\ U2.cell? ⟨w.heap.size,3,none⟩=some (.slice aL n cL)):=⟨hWk.kd.cell HC5.out.1 HNG.out.1,hWk.kd.cell HC5.out.2 HNG.out.2⟩
     clear hWk))
 clear q3 o3 HRQ HC5
 obtain⟨G',p6,t6,hG6⟩:=Pjr.wk (w:=U.drew) (H5.out.1.keep (V:=U.drew) ⟨rfl,rfl,rfl,aqH _,λ_ _=>rfl⟩) (H5.out.2.1.law (V:=U.drew) (P:=λ_=>False) (F':=F') (G':=G) (Kd.below ⟨rfl,rfl,rfl,aqH _,λ_ _=>rfl⟩) ⟨id,id,id⟩ (λk e=>.inl e) (λk e=>.inl e)) HWK.out
 have hU2:U.heap.size<= U2.heap.size:=HWK.out.kd.size
 have hs6:∀k,w.heap.size<= k-> k < w3.heap.size-> U2.heap[k]?=w3.heap[k]?:=λk h1 h2=>(HWK.out.kd.same k (Nat.lt_of_lt_of_le h2 HUS.out.1) (λe=>e.elim (λe=>by have:=(H0.out.1.gl _ e).2;omega) (λe=>by have:=H0.out.2.1.rb.lt;omega))).trans (HUS.out.2 k h1 h2)
 have hs1:=H0.out.2.2.2.2.2.2.2.2.2
 have hs2:=H3.out.2.2.2.2.2.2.2.2.2.2.2
 have hs3:=H3.out.2.2.2.2.2.2.2.2.2.1
 have hlz3:=H3.out.2.2.2.2.1.rebox H3.out.2.2.2.2.2.2.2.1 H3.out.2.2.2.2.2.2.2.2.1
 have hlz6:=hlz3.same (w':=U2) (λk h1 h2=>hs6 k (by omega) h1)
 have hO:=H0.out.2.2.2.2.2.2.1
 have HBK:=back7_any l aL n cL _ _ ga _ _ cs ps W U2 hO.len hnb hlz6 H3.out.2.2.2.1 H3.out.2.2.2.2.2.1 H3.out.2.2.2.2.2.2.1 hO.lin p6.bel (by have:=H0.out.1.bel.size;omega) hO.sz
 have hx6:=(hs6 w2.heap.size (by omega) (by omega)).trans H3.out.2.2.2.2.2.2.2.2.1
 have k0:U2.cell? ⟨w2.heap.size,0,none⟩=some (.slice (some ⟨ga,0,none⟩) (n+2) (n+2)):=cell_of_row _ _ 0 _ _ _ hx6
 have k1:U2.cell? ⟨w2.heap.size,1,none⟩=some (.slice av n cv):=cell_of_row _ _ 1 _ _ _ hx6
 have k2:U2.cell? ⟨w2.heap.size,2,none⟩=some (.slice aS n cvs):=cell_of_row _ _ 2 _ _ _ hx6
 have o3:=HU2.out.2
 have HBS:Hid (∀k,BkS ga ps k-> w.heap.size < k/\ k < w3.heap.size):=λk e=>by
  rcases e with rfl|⟨o,ho,rfl|rfl⟩
  ·have:=d_lt hlz3.all k rfl;omega
  ·obtain⟨i,hi⟩:=List.mem_iff_getElem?.mp ho;have:=d_lt (hlz3.dat i o hi) o.gd rfl;omega
  ·obtain⟨i,hi⟩:=List.mem_iff_getElem?.mp ho;have:=d_lt (hlz3.spn i o hi) o.gs rfl;omega
 have H6:Hid (Pv W U2 q h x y F' G' R1 R1 (.pointer (some ⟨j,0,none⟩)) (.pointer (some ⟨r,0,none⟩))/\ Pjr W U2 q h x y F' G' R2 R2 j d r/\ (∀k,G' k-> G k∨w3.heap.size<= k)):=⟨p6,t6,λk e=>(hG6 k e).imp id (λe=>Nat.le_trans HUS.out.1 e)⟩
 clear p6 t6 hG6 hlz3 hlz6 hx6 hO hs6 HWK
 go_upto_region 11 with (first
  |(go_at_call 71;refine HBK.mono ?_;rintro e U3 ⟨rfl,hk3⟩))
 clear HBK k0 k1 k2 o3
 have hW:=H0.out.1.bel.size
 have hql:=H0.out.1.ql
 have hhl:=H0.out.1.hl
 have nF':∀k,w.heap.size < k-> k < w3.heap.size-> ¬F' k:=λk h1 h2 e=>(H5.out.2.2 k e).elim (λe=>by have:=(H0.out.1.fl _ e).2;omega) (λe=>by omega)
 have nG':∀k,w.heap.size < k-> k < w3.heap.size-> ¬G' k:=λk h1 h2 e=>(H6.out.2.2 k e).elim (λe=>by have:=(H0.out.1.gl _ e).2;omega) (λe=>by omega)
 have p7:=H6.out.1.law (V:=U3) hk3 (λk e _=>by
  have:=HBS.out k e
  exact⟨by omega,nF' k this.1 this.2,nG' k this.1 this.2,by omega,by omega⟩)
 obtain⟨l1,l2,l3⟩:=H0.out.2.1.lts
 have t7:=H6.out.2.1.law (V:=U3) (F':=F') (G':=G') hk3 ⟨λe=>by have:=HBS.out _ e;omega,λe=>by have:=HBS.out _ e;omega,λe=>by have:=HBS.out _ e;omega⟩ (λk e=>.inl e) (λk e=>.inl e)
 have H7:Hid (Pv W U3 q h x y F' G' R1 R1 (.pointer (some ⟨j,0,none⟩)) (.pointer (some ⟨r,0,none⟩))/\ Pjr W U3 q h x y F' G' R2 R2 j d r):=⟨p7,t7⟩
 obtain⟨hs7,-,-⟩:=H0.out.2.2.2.2.1.snt p7.bel (λk e=>(p7.fl k e).1)
 have HNu:=number_any U3 _ aD aF aN c hs7 (H0.out.2.2.2.2.2.1.below p7.bel) HRR.out.2.2
 rw[nm_en HRR.out.2.2,HZ.out,HEV.out.1] at HNu
 have HFin:Hid (∀V:World,Below U3.heap.size U3 V-> ∃D' J',Py W V q (m+1) D' J'):=λV hV=>⟨R1,some R2,Py.keep ⟨HRR.out.1,h,x,y,F',G',_,_,H7.out.1,HRR.out.2.1,j,d,r,rfl,rfl,H7.out.2⟩ hV⟩
 clear hk3 p7 t7 hs7 nF' nG' l1 l2 l3 hW hql hhl hs1 hs2 hs3 hsz hU2
 by_cases hc:c=0
 ·have hz0:z=0:=by rw[←HZ.out,hc];rfl
  have he0:ev=.nilIface:=by rw[←HEV.out.1,hc];rfl
  subst hz0 he0
  clear hc
  go_wp2_with (go_at_call 16;refine HNu.mono ?_;rintro e U4 ⟨rfl,hb4⟩)
  go_ret
  exact⟨rfl,HFin.out U4 hb4.out⟩
 ·have hz0:z≠0:=by rw[←HZ.out];exact enJ_0 hc
  have hzb:(z == 0)=false:=by simp[hz0]
  obtain⟨T,v,he0⟩:=evJ_some (aD:=aD) (aF:=aF) (aN:=aN) hc
  rw[HEV.out.1] at he0
  subst he0
  clear hc
  go_wp2_with (go_at_call 16;refine HNu.mono ?_;rintro e U4 ⟨rfl,hb4⟩)
  go_ret
  exact⟨rfl,HFin.out U4 hb4.out⟩
def PJo (W w:World) (q h x y m:Nat) (F G:Nat-> Prop) (D:Dk) (pj pr:Value) (J:Option Jl):Prop:=match J with|none=>pj=.pointer none/\ pr=.pointer none|some J=>Jok D J m/\ ∃j d r,pj=.pointer (some ⟨j,0,none⟩)/\ pr=.pointer (some ⟨r,0,none⟩)/\ Pjr W w q h x y F G J J j d r
theorem PJo.law {W w V:World} {q h x y m m':Nat} {F G F' G':Nat-> Prop} {D D':Dk} {pj pr:Value} {J:Option Jl} (p:PJo W w q h x y m F G D pj pr J) (hk:Kd (λk=>F k∨G k) w V) (hF:∀k,F' k-> F k∨w.heap.size<= k) (hG:∀k,G' k-> G k∨w.heap.size<= k) (hj:∀J,Jok D J m-> Jok D' J m'):PJo W V q h x y m' F' G' D' pj pr J:=by
 cases J with
 |none=>exact p
 |some J=>
  obtain⟨k1,j,d,r,e1,e2,k2⟩:=p
  exact⟨hj J k1,j,d,r,e1,e2,k2.law hk ⟨λe=>e.elim k2.nj.2.1 k2.nj.2.2.1,λe=>e.elim k2.nd.2.1 k2.nd.2.2.1,λe=>e.elim k2.nr.2.1 k2.nr.2.2.1⟩ hF hG⟩
theorem lies_lt7 {W:World} {a:Option Addr} {bs:List Int} (hz:Lies .u8 W a bs):∀b off,bs≠[]-> a=some ⟨b,off,none⟩-> b < W.heap.size:=λb off h0 e=>by
 rcases hz with h|⟨b',off',e',hc⟩
 ·exact absurd h h0
 ·rw[e] at e'
  cases e'
  exact cell_lt (hc 0 (List.length_pos_iff.mpr h0))
theorem appD_r2 (D:Dk) (s:ByteArray) (zs:List Int):(appD D s zs).2≠3:=by
 have ha:actR D=0∨actR D=2:=by unfold actR;split<;>simp
 unfold appD
 split
 ·simp
 ·split
  ·simp
  ·simp only;omega
theorem befalls_arm (W w:World) (q m:Nat) (D:Dk) (J:Option Jl) (aD aF aN:Addr) (N:Int) (yes:Bool) (aL:Option Addr) (nL cL:Nat) (aB:Option Addr) (nB cB:Nat) (p:Py W w q m D J) (hS:S0 W aD aF aN) (hE:Et W) (hm:m<= 4194304) (hN:N<= 9223372036854775807):
 Calls Tryz.prog 32 #[.pointer (some ⟨q,0,none⟩),.agg (opA 5 N yes aL nL cL aB nB cB)] w λe w'=>StP W q m e w':=by
 obtain⟨hpk,h,x,y,F,G,pj0,pr0,p0,t0⟩:=p
 have t0:PJo W w q h x y m F G D pj0 pr0 J:=t0
 obtain⟨w1,hw1⟩:∃V,w.alloc (.cells (opA 5 N yes aL nL cL aB nB cB) 37)=V:=⟨_,rfl⟩
 have hb1:Below w.heap.size w w1:=by rw[←hw1];exact(Below.refl _ _).alloc (aqH _) _
 have hs1:w1.heap.size=w.heap.size+1:=by rw[←hw1];simp
 have hx1:w1.heap[w.heap.size]?=some (.cells (opA 5 N yes aL nL cL aB nB cB) 37 (0,0)):=by rw[←hw1];exact heap_new6 w _
 have p1:=p0.keep hb1
 have t1:PJo W w1 q h x y m F G D pj0 pr0 J:=t0.law (Kd.below hb1) (λk e=>.inl e) (λk e=>.inl e) (λ_ e=>e)
 have nF:∀k,w.heap.size<= k-> ¬F k:=λk hk e=>by have:=(p0.fl _ e).2;omega
 have nG:∀k,w.heap.size<= k-> ¬G k:=λk hk e=>by have:=(p0.gl _ e).2;omega
 have HN:Hid ((∀k,w.heap.size<= k-> ¬F k)/\ (∀k,w.heap.size<= k-> ¬G k)/\ w1.heap.size=w.heap.size+1):=⟨nF,nG,hs1⟩
 have H0:Hid (Pv W w1 q h x y F G D D pj0 pr0/\ PJo W w1 q h x y m F G D pj0 pr0 J/\ Pk D m/\ S0 W aD aF aN/\ Et W/\ w1.heap[w.heap.size]?=some (.cells (opA 5 N yes aL nL cL aB nB cB) 37 (0,0))):=⟨p1,t1,hpk,hS,hE,hx1⟩
 have o0:w1.cell? ⟨w.heap.size,0,none⟩=some (.int .i64 5):=cell_of_row _ _ 0 _ _ _ hx1
 have o1:w1.cell? ⟨w.heap.size,1,none⟩=some (.int .i64 N):=cell_of_row _ _ 1 _ _ _ hx1
 have o2:w1.cell? ⟨w.heap.size,2,none⟩=some (.bool yes):=cell_of_row _ _ 2 _ _ _ hx1
 have o4:w1.cell? ⟨w.heap.size,4,none⟩=some (.slice aB nB cB):=cell_of_row _ _ 4 _ _ _ hx1
 have q0:w1.cell? ⟨q,0,none⟩=some (.pointer (some ⟨h,0,none⟩)):=p1.c 0
 have HA:=dArm_any w1.drew h x F D N yes (p1.keep (V:=w1.drew) ⟨rfl,rfl,rfl,aqH _,λ_ _=>rfl⟩).dm (p1.keep (V:=w1.drew) ⟨rfl,rfl,rfl,aqH _,λ_ _=>rfl⟩).hc p1.nh.2.1
 have HA2:Hid (Calls Tryz.prog 14 #[.pointer (some ⟨h,0,none⟩),.int .i64 N,.bool yes] w1.drew λe w'=>(∃v,e=.returned v)/\ Dm w' x F (armD D N yes)/\ Kd F w1.drew w'):=HA
 have HC:Hid (w1.cell? ⟨q,0,none⟩=some (.pointer (some ⟨h,0,none⟩))/\ w1.cell? ⟨w.heap.size,1,none⟩=some (.int .i64 N)/\ w1.cell? ⟨w.heap.size,2,none⟩=some (.bool yes)):=⟨q0,o1,o2⟩
 have HQ:Hid (¬F q/\ ¬G q):=⟨p1.nq.2.1,p1.nq.2.2⟩
 clear hpk p0 t0 p1 t1 hb1 hs1 hx1 nF nG hS hE HA o4
 go_enter Tryz.func32,Tryz.ntmps32
 go_upto_region 4 with fail
 refine Code.wp_mono (λ_ _ _ h=>calmD_le h) ?_
 go_region_held3 (λV=>V.cell? ⟨q,0,none⟩=some (.pointer (some ⟨h,0,none⟩))/\ V.cell? ⟨w.heap.size,1,none⟩=some (.int .i64 N)/\ V.cell? ⟨w.heap.size,2,none⟩=some (.bool yes))
  (first|exact HC.out|exact HU.out)
  (first
   |(go_at_call 14
     refine HA2.out.mono ?_
     rintro e U ⟨⟨v,rfl⟩,hdm,hkd⟩
     have UD:Hid (Dm U x F (armD D N yes)/\ Kd F w1.drew U):=⟨hdm,hkd⟩
     have HU:Hid (U.cell? ⟨q,0,none⟩=some (.pointer (some ⟨h,0,none⟩))/\ U.cell? ⟨w.heap.size,1,none⟩=some (.int .i64 N)/\ U.cell? ⟨w.heap.size,2,none⟩=some (.bool yes)):=⟨hkd.cell HC.out.1 HQ.out.1,hkd.cell HC.out.2.1 (HN.out.1 _ (aqH _)),hkd.cell HC.out.2.2 (HN.out.1 _ (aqH _))⟩
     clear hdm hkd))
 simp only[calmD]
 clear HA2 o0 o1 o2 q0
 have p2:Pv W U q h x y F G (armD D N yes) D pj0 pr0:=(H0.out.1.keep (V:=w1.drew) ⟨rfl,rfl,rfl,aqH _,λ_ _=>rfl⟩).prog UD.out.1 (λk e=>⟨.inl e,Nat.lt_of_lt_of_le (H0.out.1.fl k e).2 UD.out.2.size⟩) UD.out.2 (λk e _=>⟨(H0.out.1.fl k e).1,H0.out.1.fg k e,λe2=>HQ.out.1 (e2 ▸ e),λe2=>H0.out.1.nh.2.1 (e2 ▸ e)⟩)
 have q1:U.cell? ⟨q,1,none⟩=some (.pointer (some ⟨y,0,none⟩)):=p2.c 1
 have o1:=HU.out.2.1
 have o2:=HU.out.2.2
 have HB:=eArm_any U.drew y G D N yes (p2.keep (V:=U.drew) ⟨rfl,rfl,rfl,aqH _,λ_ _=>rfl⟩).em
 have HB2:Hid (Calls Tryz.prog 66 #[.pointer (some ⟨y,0,none⟩),.int .i64 N,.bool yes] U.drew λe w'=>(∃v,e=.returned v)/\ Em w' y G (armD D N yes)/\ Kd G U.drew w'):=HB
 have HC2:Hid (U.cell? ⟨q,1,none⟩=some (.pointer (some ⟨y,0,none⟩))/\ U.cell? ⟨w.heap.size,1,none⟩=some (.int .i64 N)/\ U.cell? ⟨w.heap.size,2,none⟩=some (.bool yes)):=⟨q1,o1,o2⟩
 have H2:Hid (Pv W U q h x y F G (armD D N yes) D pj0 pr0):=p2
 clear HB p2
 go_upto_region 5 with fail
 refine Code.wp_mono (λ_ _ _ h=>calmD_le h) ?_
 go_region_held3 (λV=>V.cell? ⟨q,1,none⟩=some (.pointer (some ⟨y,0,none⟩))/\ V.cell? ⟨w.heap.size,1,none⟩=some (.int .i64 N)/\ V.cell? ⟨w.heap.size,2,none⟩=some (.bool yes))
  (first|exact HC2.out|exact HV2.out)
  (first
   |(go_at_call 66
     refine HB2.out.mono ?_
     rintro e V2 ⟨⟨v,rfl⟩,hdm,hkd⟩
     have V2D:Hid (Em V2 y G (armD D N yes)/\ Kd G U.drew V2):=⟨hdm,hkd⟩
     have HV2:Hid (V2.cell? ⟨q,1,none⟩=some (.pointer (some ⟨y,0,none⟩))/\ V2.cell? ⟨w.heap.size,1,none⟩=some (.int .i64 N)/\ V2.cell? ⟨w.heap.size,2,none⟩=some (.bool yes)):=⟨hkd.cell HC2.out.1 HQ.out.2,hkd.cell HC2.out.2.1 (HN.out.2.1 _ (aqH _)),hkd.cell HC2.out.2.2 (HN.out.2.1 _ (aqH _))⟩
     clear hdm hkd))
 simp only[calmD]
 clear HB2 q1 o1 o2
 have p3:Pv W V2 q h x y F G (armD D N yes) (armD D N yes) pj0 pr0:=(H2.out.keep (V:=U.drew) ⟨rfl,rfl,rfl,aqH _,λ_ _=>rfl⟩).refc V2D.out.1 (λk e=>⟨.inl e,Nat.lt_of_lt_of_le (H2.out.gl k e).2 V2D.out.2.size⟩) V2D.out.2 (λk e _=>⟨(H2.out.gl k e).1,λf=>H2.out.fg k f e,λe2=>HQ.out.2 (e2 ▸ e),λe2=>H0.out.1.nh.2.2.1 (e2 ▸ e)⟩)
 have hkk:Kd (λk=>F k∨G k) w1 V2:=(Kd.mono (Kd.ofDrew UD.out.2) (λk _ e=>.inl e)).trans (Kd.mono (Kd.ofDrew V2D.out.2) (λk _ e=>.inr e))
 have t3:PJo W V2 q h x y (m+1) F G (armD D N yes) pj0 pr0 J:=H0.out.2.1.law hkk (λk e=>.inl e) (λk e=>.inl e) (λJ e=>Jok.up ⟨e.n,e.k,e.f,e.z⟩ (by omega))
 have HE:Hid (∃D' J',Py W V2 q (m+1) D' J'):=⟨armD D N yes,J,⟨(pk_arm H0.out.2.2.1 N yes hN).up (by omega),h,x,y,F,G,pj0,pr0,p3,t3⟩⟩
 clear p3 t3 hkk
 go_wp2
 go_ret
 exact⟨rfl,HE.out⟩
theorem befalls_crash (W w:World) (q m:Nat) (D:Dk) (J:Option Jl) (aD aF aN:Addr) (N:Int) (yes:Bool) (aL:Option Addr) (nL cL:Nat) (aB:Option Addr) (nB cB:Nat) (p:Py W w q m D J) (hS:S0 W aD aF aN) (hE:Et W) (hm:m<= 4194304) (hN:N<= 9223372036854775807):
 Calls Tryz.prog 32 #[.pointer (some ⟨q,0,none⟩),.agg (opA 6 N yes aL nL cL aB nB cB)] w λe w'=>StP W q m e w':=by
 obtain⟨hpk,h,x,y,F,G,pj0,pr0,p0,t0⟩:=p
 have t0:PJo W w q h x y m F G D pj0 pr0 J:=t0
 obtain⟨w1,hw1⟩:∃V,w.alloc (.cells (opA 6 N yes aL nL cL aB nB cB) 37)=V:=⟨_,rfl⟩
 have hb1:Below w.heap.size w w1:=by rw[←hw1];exact(Below.refl _ _).alloc (aqH _) _
 have hs1:w1.heap.size=w.heap.size+1:=by rw[←hw1];simp
 have hx1:w1.heap[w.heap.size]?=some (.cells (opA 6 N yes aL nL cL aB nB cB) 37 (0,0)):=by rw[←hw1];exact heap_new6 w _
 have p1:=p0.keep hb1
 have t1:PJo W w1 q h x y m F G D pj0 pr0 J:=t0.law (Kd.below hb1) (λk e=>.inl e) (λk e=>.inl e) (λ_ e=>e)
 have nF:∀k,w.heap.size<= k-> ¬F k:=λk hk e=>by have:=(p0.fl _ e).2;omega
 have nG:∀k,w.heap.size<= k-> ¬G k:=λk hk e=>by have:=(p0.gl _ e).2;omega
 have HN:Hid ((∀k,w.heap.size<= k-> ¬F k)/\ (∀k,w.heap.size<= k-> ¬G k)/\ w1.heap.size=w.heap.size+1):=⟨nF,nG,hs1⟩
 have H0:Hid (Pv W w1 q h x y F G D D pj0 pr0/\ PJo W w1 q h x y m F G D pj0 pr0 J/\ Pk D m/\ S0 W aD aF aN/\ Et W/\ w1.heap[w.heap.size]?=some (.cells (opA 6 N yes aL nL cL aB nB cB) 37 (0,0))):=⟨p1,t1,hpk,hS,hE,hx1⟩
 have o0:w1.cell? ⟨w.heap.size,0,none⟩=some (.int .i64 6):=cell_of_row _ _ 0 _ _ _ hx1
 have o1:w1.cell? ⟨w.heap.size,1,none⟩=some (.int .i64 N):=cell_of_row _ _ 1 _ _ _ hx1
 have o2:w1.cell? ⟨w.heap.size,2,none⟩=some (.bool yes):=cell_of_row _ _ 2 _ _ _ hx1
 have o4:w1.cell? ⟨w.heap.size,4,none⟩=some (.slice aB nB cB):=cell_of_row _ _ 4 _ _ _ hx1
 have q0:w1.cell? ⟨q,0,none⟩=some (.pointer (some ⟨h,0,none⟩)):=p1.c 0
 have HA:=dCrash_any w1.drew h x F D N (100000+m) (p1.keep (V:=w1.drew) ⟨rfl,rfl,rfl,aqH _,λ_ _=>rfl⟩).dm hpk.ok (by omega) (p1.keep (V:=w1.drew) ⟨rfl,rfl,rfl,aqH _,λ_ _=>rfl⟩).hc p1.nh.2.1
 have HA2:Hid (Calls Tryz.prog 21 #[.pointer (some ⟨h,0,none⟩),.int .i64 N] w1.drew λe w'=>(∃v,e=.returned v)/\ Dm w' x (up F w1.drew) (crD D N)/\ Kd F w1.drew w'):=HA
 have HC:Hid (w1.cell? ⟨q,0,none⟩=some (.pointer (some ⟨h,0,none⟩))/\ w1.cell? ⟨w.heap.size,1,none⟩=some (.int .i64 N)):=⟨q0,o1⟩
 have HQ:Hid (¬F q/\ ¬G q):=⟨p1.nq.2.1,p1.nq.2.2⟩
 clear hpk p0 t0 p1 t1 hb1 hs1 hx1 nF nG hS hE HA o4 o2
 go_enter Tryz.func32,Tryz.ntmps32
 go_upto_region 8 with fail
 refine Code.wp_mono (λ_ _ _ h=>calmD_le h) ?_
 go_region_held3 (λV=>V.cell? ⟨q,0,none⟩=some (.pointer (some ⟨h,0,none⟩))/\ V.cell? ⟨w.heap.size,1,none⟩=some (.int .i64 N))
  (first|exact HC.out|exact HU.out)
  (first
   |(go_at_call 21
     refine HA2.out.mono ?_
     rintro e U ⟨⟨v,rfl⟩,hdm,hkd⟩
     have UD:Hid (Dm U x (up F w1.drew) (crD D N)/\ Kd F w1.drew U):=⟨hdm,hkd⟩
     have HU:Hid (U.cell? ⟨q,0,none⟩=some (.pointer (some ⟨h,0,none⟩))/\ U.cell? ⟨w.heap.size,1,none⟩=some (.int .i64 N)):=⟨hkd.cell HC.out.1 HQ.out.1,hkd.cell HC.out.2 (HN.out.1 _ (aqH _))⟩
     clear hdm hkd))
 simp only[calmD]
 clear HA2 o0 o1 q0
 have p2:Pv W U q h x y (fc (up F w1.drew) U) G (crD D N) D pj0 pr0:=(H0.out.1.keep (V:=w1.drew) ⟨rfl,rfl,rfl,aqH _,λ_ _=>rfl⟩).prog UD.out.1.fc (λk e=>⟨e.1,e.2⟩) UD.out.2 (λk e _=>⟨(H0.out.1.fl k e).1,H0.out.1.fg k e,λe2=>HQ.out.1 (e2 ▸ e),λe2=>H0.out.1.nh.2.1 (e2 ▸ e)⟩)
 have q1:U.cell? ⟨q,1,none⟩=some (.pointer (some ⟨y,0,none⟩)):=p2.c 1
 have o1:=HU.out.2
 have HB:=eCrash_any U.drew y G D N (100000+m) (p2.keep (V:=U.drew) ⟨rfl,rfl,rfl,aqH _,λ_ _=>rfl⟩).em H0.out.2.2.1.ok (by omega)
 have HB2:Hid (Calls Tryz.prog 67 #[.pointer (some ⟨y,0,none⟩),.int .i64 N] U.drew λe w'=>(∃v,e=.returned v)/\ Em w' y (up G U.drew) (crD D N)/\ Kd G U.drew w'):=HB
 have HC2:Hid (U.cell? ⟨q,1,none⟩=some (.pointer (some ⟨y,0,none⟩))/\ U.cell? ⟨w.heap.size,1,none⟩=some (.int .i64 N)):=⟨q1,o1⟩
 have H2:Hid (Pv W U q h x y (fc (up F w1.drew) U) G (crD D N) D pj0 pr0):=p2
 clear HB p2
 go_upto_region 9 with fail
 refine Code.wp_mono (λ_ _ _ h=>calmD_le h) ?_
 go_region_held3 (λV=>V.cell? ⟨q,1,none⟩=some (.pointer (some ⟨y,0,none⟩))/\ V.cell? ⟨w.heap.size,1,none⟩=some (.int .i64 N))
  (first|exact HC2.out|exact HV2.out)
  (first
   |(go_at_call 67
     refine HB2.out.mono ?_
     rintro e V2 ⟨⟨v,rfl⟩,hdm,hkd⟩
     have V2D:Hid (Em V2 y (up G U.drew) (crD D N)/\ Kd G U.drew V2):=⟨hdm,hkd⟩
     have HV2:Hid (V2.cell? ⟨q,1,none⟩=some (.pointer (some ⟨y,0,none⟩))/\ V2.cell? ⟨w.heap.size,1,none⟩=some (.int .i64 N)):=⟨hkd.cell HC2.out.1 HQ.out.2,hkd.cell HC2.out.2 (HN.out.2.1 _ (aqH _))⟩
     clear hdm hkd))
 simp only[calmD]
 clear HB2 q1 o1
 have p3:Pv W V2 q h x y (fc (up F w1.drew) U) (fc (up G U.drew) V2) (crD D N) (crD D N) pj0 pr0:=(H2.out.keep (V:=U.drew) ⟨rfl,rfl,rfl,aqH _,λ_ _=>rfl⟩).refc V2D.out.1.fc (λk e=>⟨e.1,e.2⟩) V2D.out.2 (λk e _=>⟨(H2.out.gl k e).1,λf=>H2.out.fg k f e,λe2=>HQ.out.2 (e2 ▸ e),λe2=>H0.out.1.nh.2.2.1 (e2 ▸ e)⟩)
 have k2:V2.cell? ⟨q,2,none⟩=some pj0:=p3.c 2
 have k3:V2.cell? ⟨q,3,none⟩=some pr0:=p3.c 3
 have z2:=p3.z 2
 have z3:=p3.z 3
 have HE:Hid (∃D' J',Py W ((V2.setCell ⟨q,2,none⟩ (.pointer none)).setCell ⟨q,3,none⟩ (.pointer none)) q (m+1) D' J'):=⟨crD D N,none,⟨(pk_cr H0.out.2.2.1 N).up (by omega),h,x,y,_,_,_,_,(p3.setJ (.pointer none)).setR (.pointer none),rfl,rfl⟩⟩
 clear p3
 go_wp2
 go_ret
 exact⟨rfl,HE.out⟩
theorem befalls_stray (W w:World) (q m:Nat) (D:Dk) (J:Option Jl) (aD aF aN:Addr) (N:Int) (yes:Bool) (aL:Option Addr) (nL cL:Nat) (aB:Option Addr) (nB cB:Nat) (bs:List Int) (p:Py W w q m D J) (hS:S0 W aD aF aN) (hE:Et W) (hm:m<= 4194304) (hl:bs.length=nB) (hz:Lies .u8 W aB bs) (hby:Bytey bs) (hnn:aB=none-> nB=0/\ cB=0) (hnb:nB<= 1048576):
 Calls Tryz.prog 32 #[.pointer (some ⟨q,0,none⟩),.agg (opA 7 N yes aL nL cL aB nB cB)] w λe w'=>StP W q m e w':=by
 obtain⟨hpk,h,x,y,F,G,pj0,pr0,p0,t0⟩:=p
 have t0:PJo W w q h x y m F G D pj0 pr0 J:=t0
 obtain⟨w1,hw1⟩:∃V,w.alloc (.cells (opA 7 N yes aL nL cL aB nB cB) 37)=V:=⟨_,rfl⟩
 have hb1:Below w.heap.size w w1:=by rw[←hw1];exact(Below.refl _ _).alloc (aqH _) _
 have hs1:w1.heap.size=w.heap.size+1:=by rw[←hw1];simp
 have hx1:w1.heap[w.heap.size]?=some (.cells (opA 7 N yes aL nL cL aB nB cB) 37 (0,0)):=by rw[←hw1];exact heap_new6 w _
 have p1:=p0.keep hb1
 have t1:PJo W w1 q h x y m F G D pj0 pr0 J:=t0.law (Kd.below hb1) (λk e=>.inl e) (λk e=>.inl e) (λ_ e=>e)
 have nF:∀k,w.heap.size<= k-> ¬F k:=λk hk e=>by have:=(p0.fl _ e).2;omega
 have nG:∀k,w.heap.size<= k-> ¬G k:=λk hk e=>by have:=(p0.gl _ e).2;omega
 have HN:Hid ((∀k,w.heap.size<= k-> ¬F k)/\ (∀k,w.heap.size<= k-> ¬G k)/\ w1.heap.size=w.heap.size+1):=⟨nF,nG,hs1⟩
 have H0:Hid (Pv W w1 q h x y F G D D pj0 pr0/\ PJo W w1 q h x y m F G D pj0 pr0 J/\ Pk D m/\ S0 W aD aF aN/\ Et W/\ w1.heap[w.heap.size]?=some (.cells (opA 7 N yes aL nL cL aB nB cB) 37 (0,0))):=⟨p1,t1,hpk,hS,hE,hx1⟩
 have o0:w1.cell? ⟨w.heap.size,0,none⟩=some (.int .i64 7):=cell_of_row _ _ 0 _ _ _ hx1
 have o1:w1.cell? ⟨w.heap.size,1,none⟩=some (.int .i64 N):=cell_of_row _ _ 1 _ _ _ hx1
 have o2:w1.cell? ⟨w.heap.size,2,none⟩=some (.bool yes):=cell_of_row _ _ 2 _ _ _ hx1
 have o4:w1.cell? ⟨w.heap.size,4,none⟩=some (.slice aB nB cB):=cell_of_row _ _ 4 _ _ _ hx1
 have q0:w1.cell? ⟨q,0,none⟩=some (.pointer (some ⟨h,0,none⟩)):=p1.c 0
 obtain⟨V1,hV1⟩:∃V,w1.drew.alloc (.cells #[.pointer (some ⟨x,0,none⟩)] 102)=V:=⟨_,rfl⟩
 have HDk0:=dDisk_any w1.drew h x (p1.keep (V:=w1.drew) ⟨rfl,rfl,rfl,aqH _,λ_ _=>rfl⟩).hc
 rw[hV1] at HDk0
 have hbV:Below w1.heap.size w1 V1:=by rw[←hV1];exact(⟨rfl,rfl,rfl,aqH _,λ_ _=>rfl⟩:Below w1.heap.size w1 w1.drew).alloc (aqH _) _
 have hsV:V1.heap.size=w1.heap.size+1:=by rw[←hV1,World.size_alloc];rfl
 have hdV:V1.cell? ⟨w1.heap.size,0,none⟩=some (.pointer (some ⟨x,0,none⟩)):=by
  have:=cell_of_row _ w1.drew.heap.size 0 _ _ _ (heap_new6 w1.drew (.cells #[.pointer (some ⟨x,0,none⟩)] 102))
  rw[hV1] at this
  exact this
 have HDk:Hid (Calls Tryz.prog 13 #[.pointer (some ⟨h,0,none⟩)] w1.drew λe w'=>e=.returned (.pointer (some ⟨w1.heap.size,0,none⟩))/\ w'=V1):=HDk0
 have pV:=p1.keep hbV
 obtain⟨hsn,-,-⟩:=hS.snt pV.bel (λk e=>(pV.fl k e).1)
 have hlt:∀b off,bs≠[]-> aB=some ⟨b,off,none⟩-> b < W.heap.size:=lies_lt7 hz
 have HAp0:=dAppend_any V1 w1.heap.size x F D jN aB nB cB bs (100000+m) aD aF aN pV.dm hpk.ok (by omega) hdV (nF _ (by omega)) hsn.er hsn.nf hl (lies_bel pV.bel hz) (λb off h0 e q=>by have:=hlt b off h0 e;have:=(pV.fl b q).1;omega) hnn (by omega)
 have hr3:=appD_r2 D jN bs
 have hrl:=appD_r D jN bs
 have hpa:=pk_app hpk jN hby
 obtain⟨⟨D1,c⟩,hR⟩:∃R:Dk×Nat,appD D jN bs=R:=⟨_,rfl⟩
 have HR0:Hid (appD D jN bs=(D1,c)):=hR
 unfold MP at HAp0
 rw[hR] at HAp0 hr3 hrl hpa
 simp only at HAp0 hr3 hrl hpa
 unfold jN at HAp0
 obtain⟨ev,hev⟩:∃ev,evD aD aF aN c=ev:=⟨_,rfl⟩
 rw[hev] at HAp0
 have HAp:Hid (Calls Tryz.prog 25 #[.pointer (some ⟨w1.heap.size,0,none⟩),.string ⟨#[106,111,117,114,110,97,108]⟩,.slice aB nB cB] V1 λe w'=>e=.returned ev/\ Dm w' x (up F V1) D1/\ Kd F V1 w'):=HAp0
 obtain⟨z,hzz⟩:∃z,enE c=z:=⟨_,rfl⟩
 have HZ:Hid (enE c=z/\ evD aD aF aN c=ev/\ c≠3/\ c<= 3/\ Pk D1 (m+1)):=⟨hzz,hev,hr3,hrl,hpa⟩
 have HNu:Hid (∀U:World,Dm U x (up F V1) D1-> Kd F V1 U-> Calls Tryz.prog 16 #[ev] U λe w'=>e=.returned (.int .i64 z)/\ Hid (Below U.heap.size U w')):=λU hdm hkd=>by
  have pU:=pV.prog (F':=fc (up F V1) U) hdm.fc (λk e=>⟨e.1,e.2⟩) hkd (λk e _=>⟨(pV.fl k e).1,pV.fg k e,λe2=>pV.nq.2.1 (e2 ▸ e),λe2=>pV.nh.2.1 (e2 ▸ e)⟩)
  obtain⟨hsu,-,-⟩:=hS.snt pU.bel (λk e=>(pU.fl k e).1)
  have:=number_any U _ aD aF aN c hsu (hE.below pU.bel) hr3
  rw[nm_en hr3,enJ_d hrl,hzz,evJ_d hrl,hev] at this
  exact this
 have HPv:Hid (Pv W V1 q h x y F G D D pj0 pr0/\ Below w1.heap.size w1 V1/\ ¬F q/\ ¬G q):=⟨pV,hbV,p1.nq.2.1,p1.nq.2.2⟩
 have HBy:Hid (bs.length=nB/\ Lies .u8 W aB bs/\ (aB=none-> nB=0/\ cB=0)/\ ∀b off,bs≠[]-> aB=some ⟨b,off,none⟩-> b < W.heap.size):=⟨hl,hz,hnn,hlt⟩
 have HC:Hid (w1.cell? ⟨q,0,none⟩=some (.pointer (some ⟨h,0,none⟩))/\ w1.cell? ⟨w.heap.size,4,none⟩=some (.slice aB nB cB)):=⟨q0,o4⟩
 clear hpk p0 t0 p1 t1 hb1 hs1 hx1 nF nG hS hE o1 o2 hV1 HDk0 hbV hsV hdV pV hsn hlt HAp0 hr3 hrl hpa hR hev hzz hl hz hby hnn
 go_enter Tryz.func32,Tryz.ntmps32
 go_upto_region 15 with fail
 refine Code.wp_mono (λ_ _ _ h=>calmD_le h) ?_
 go_region_held3 (λV=>V.cell? ⟨q,0,none⟩=some (.pointer (some ⟨h,0,none⟩))/\ V.cell? ⟨w.heap.size,4,none⟩=some (.slice aB nB cB))
  (first|exact HC.out|exact HUa.out|exact HUb.out|exact HUc.out)
  (first
   |(go_at_call 13
     refine HDk.out.mono ?_
     rintro e Va ⟨rfl,hVa⟩
     rw[hVa]
     clear hVa
     have HUa:Hid (V1.cell? ⟨q,0,none⟩=some (.pointer (some ⟨h,0,none⟩))/\ V1.cell? ⟨w.heap.size,4,none⟩=some (.slice aB nB cB)):=⟨bel_cell HPv.out.2.1 HC.out.1,bel_cell HPv.out.2.1 HC.out.2⟩)
   |(go_at_call 25
     refine HAp.out.mono ?_
     rintro e Ub ⟨rfl,hdm,hkd⟩
     have UbD:Hid (Dm Ub x (up F V1) D1/\ Kd F V1 Ub):=⟨hdm,hkd⟩
     have HUb:Hid (Ub.cell? ⟨q,0,none⟩=some (.pointer (some ⟨h,0,none⟩))/\ Ub.cell? ⟨w.heap.size,4,none⟩=some (.slice aB nB cB)):=⟨hkd.cell HUa.out.1 HPv.out.2.2.1,hkd.cell HUa.out.2 (HN.out.1 _ (aqH _))⟩
     clear hdm hkd)
   |(go_at_call 16
     refine(HNu.out Ub UbD.out.1 UbD.out.2).mono ?_
     rintro e U ⟨rfl,hbu⟩
     have HUc:Hid (U.cell? ⟨q,0,none⟩=some (.pointer (some ⟨h,0,none⟩))/\ U.cell? ⟨w.heap.size,4,none⟩=some (.slice aB nB cB)):=⟨bel_cell hbu.out HUb.out.1,bel_cell hbu.out HUb.out.2⟩))
 simp only[calmD]
 clear HDk HAp HNu q0 o0 o4
 have pU:=HPv.out.1.prog (F':=fc (up F V1) Ub) UbD.out.1.fc (λk e=>⟨e.1,e.2⟩) UbD.out.2 (λk e _=>⟨(HPv.out.1.fl k e).1,HPv.out.1.fg k e,λe2=>HPv.out.2.2.1 (e2 ▸ e),λe2=>HPv.out.1.nh.2.1 (e2 ▸ e)⟩)
 have p2:=pU.keep hbu.out
 have q1:U.cell? ⟨q,1,none⟩=some (.pointer (some ⟨y,0,none⟩)):=p2.c 1
 have o4:=HUc.out.2
 have HB0:=eAppend_any U.drew y G D jN aB nB cB bs (100000+m) (p2.keep (V:=U.drew) ⟨rfl,rfl,rfl,aqH _,λ_ _=>rfl⟩).em H0.out.2.2.1.ok (by omega) HBy.out.1 (lies_bel (p2.keep (V:=U.drew) ⟨rfl,rfl,rfl,aqH _,λ_ _=>rfl⟩).bel HBy.out.2.1) (λb off h0 e q=>by have:=HBy.out.2.2.2 b off h0 e;have:=(p2.gl b q).1;omega) HBy.out.2.2.1 (by omega)
 unfold EP at HB0
 rw[HR0.out] at HB0
 simp only at HB0
 unfold jN at HB0
 rw[HZ.out.1] at HB0
 have HB2:Hid (Calls Tryz.prog 68 #[.pointer (some ⟨y,0,none⟩),.string ⟨#[106,111,117,114,110,97,108]⟩,.slice aB nB cB] U.drew λe w'=>e=.returned (.int .i64 z)/\ Em w' y (up G U.drew) D1/\ Kd G U.drew w'):=HB0
 have HC2:Hid (U.cell? ⟨q,1,none⟩=some (.pointer (some ⟨y,0,none⟩))/\ U.cell? ⟨w.heap.size,4,none⟩=some (.slice aB nB cB)):=⟨q1,o4⟩
 have H2:Hid (Pv W U q h x y (fc (up F V1) Ub) G D1 D pj0 pr0):=p2
 clear HB0 p2 pU hbu
 go_upto_region 16 with fail
 refine Code.wp_mono (λ_ _ _ h=>calmD_le h) ?_
 go_region_held3 (λV=>V.cell? ⟨q,1,none⟩=some (.pointer (some ⟨y,0,none⟩))/\ V.cell? ⟨w.heap.size,4,none⟩=some (.slice aB nB cB))
  (first|exact HC2.out|exact HV2.out)
  (first
   |(go_at_call 68
     refine HB2.out.mono ?_
     rintro e V2 ⟨rfl,hem,hkd⟩
     have V2D:Hid (Em V2 y (up G U.drew) D1/\ Kd G U.drew V2):=⟨hem,hkd⟩
     have HV2:Hid (V2.cell? ⟨q,1,none⟩=some (.pointer (some ⟨y,0,none⟩))/\ V2.cell? ⟨w.heap.size,4,none⟩=some (.slice aB nB cB)):=⟨hkd.cell HC2.out.1 HPv.out.2.2.2,hkd.cell HC2.out.2 (HN.out.2.1 _ (aqH _))⟩
     clear hem hkd))
 simp only[calmD]
 clear HB2 q1 o4
 have p3:Pv W V2 q h x y (fc (up F V1) Ub) (fc (up G U.drew) V2) D1 D1 pj0 pr0:=(H2.out.keep (V:=U.drew) ⟨rfl,rfl,rfl,aqH _,λ_ _=>rfl⟩).refc V2D.out.1.fc (λk e=>⟨e.1,e.2⟩) V2D.out.2 (λk e _=>⟨(H2.out.gl k e).1,λf=>H2.out.fg k f e,λe2=>HPv.out.2.2.2 (e2 ▸ e),λe2=>H0.out.1.nh.2.2.1 (e2 ▸ e)⟩)
 have hzz:(z != z)=false:=by simp
 have k2:V2.cell? ⟨q,2,none⟩=some pj0:=p3.c 2
 have k3:V2.cell? ⟨q,3,none⟩=some pr0:=p3.c 3
 have z2:=p3.z 2
 have z3:=p3.z 3
 have HE:Hid (∃D' J',Py W ((V2.setCell ⟨q,2,none⟩ (.pointer none)).setCell ⟨q,3,none⟩ (.pointer none)) q (m+1) D' J'):=⟨D1,none,⟨HZ.out.2.2.2.2,h,x,y,_,_,_,_,(p3.setJ (.pointer none)).setR (.pointer none),rfl,rfl⟩⟩
 clear p3
 go_wp2
 go_ret
 exact⟨rfl,HE.out⟩
theorem befalls_left (W w:World) (q m:Nat) (D:Dk) (J:Option Jl) (aD aF aN:Addr) (N:Int) (yes:Bool) (aL:Option Addr) (nL cL:Nat) (aB:Option Addr) (nB cB:Nat) (bs:List Int) (p:Py W w q m D J) (hS:S0 W aD aF aN) (hE:Et W) (hm:m<= 4194304) (hl:bs.length=nB) (hz:Lies .u8 W aB bs) (hby:Bytey bs) (hnn:aB=none-> nB=0/\ cB=0) (hnb:nB<= 1048576):
 Calls Tryz.prog 32 #[.pointer (some ⟨q,0,none⟩),.agg (opA 8 N yes aL nL cL aB nB cB)] w λe w'=>StP W q m e w':=by
 obtain⟨hpk,h,x,y,F,G,pj0,pr0,p0,t0⟩:=p
 have t0:PJo W w q h x y m F G D pj0 pr0 J:=t0
 obtain⟨w1,hw1⟩:∃V,w.alloc (.cells (opA 8 N yes aL nL cL aB nB cB) 37)=V:=⟨_,rfl⟩
 have hb1:Below w.heap.size w w1:=by rw[←hw1];exact(Below.refl _ _).alloc (aqH _) _
 have hs1:w1.heap.size=w.heap.size+1:=by rw[←hw1];simp
 have hx1:w1.heap[w.heap.size]?=some (.cells (opA 8 N yes aL nL cL aB nB cB) 37 (0,0)):=by rw[←hw1];exact heap_new6 w _
 have p1:=p0.keep hb1
 have t1:PJo W w1 q h x y m F G D pj0 pr0 J:=t0.law (Kd.below hb1) (λk e=>.inl e) (λk e=>.inl e) (λ_ e=>e)
 have nF:∀k,w.heap.size<= k-> ¬F k:=λk hk e=>by have:=(p0.fl _ e).2;omega
 have nG:∀k,w.heap.size<= k-> ¬G k:=λk hk e=>by have:=(p0.gl _ e).2;omega
 have HN:Hid ((∀k,w.heap.size<= k-> ¬F k)/\ (∀k,w.heap.size<= k-> ¬G k)/\ w1.heap.size=w.heap.size+1):=⟨nF,nG,hs1⟩
 have H0:Hid (Pv W w1 q h x y F G D D pj0 pr0/\ PJo W w1 q h x y m F G D pj0 pr0 J/\ Pk D m/\ S0 W aD aF aN/\ Et W/\ w1.heap[w.heap.size]?=some (.cells (opA 8 N yes aL nL cL aB nB cB) 37 (0,0))):=⟨p1,t1,hpk,hS,hE,hx1⟩
 have o0:w1.cell? ⟨w.heap.size,0,none⟩=some (.int .i64 8):=cell_of_row _ _ 0 _ _ _ hx1
 have o1:w1.cell? ⟨w.heap.size,1,none⟩=some (.int .i64 N):=cell_of_row _ _ 1 _ _ _ hx1
 have o2:w1.cell? ⟨w.heap.size,2,none⟩=some (.bool yes):=cell_of_row _ _ 2 _ _ _ hx1
 have o4:w1.cell? ⟨w.heap.size,4,none⟩=some (.slice aB nB cB):=cell_of_row _ _ 4 _ _ _ hx1
 have q0:w1.cell? ⟨q,0,none⟩=some (.pointer (some ⟨h,0,none⟩)):=p1.c 0
 obtain⟨V1,hV1⟩:∃V,w1.drew.alloc (.cells #[.pointer (some ⟨x,0,none⟩)] 102)=V:=⟨_,rfl⟩
 have HDk0:=dDisk_any w1.drew h x (p1.keep (V:=w1.drew) ⟨rfl,rfl,rfl,aqH _,λ_ _=>rfl⟩).hc
 rw[hV1] at HDk0
 have hbV:Below w1.heap.size w1 V1:=by rw[←hV1];exact(⟨rfl,rfl,rfl,aqH _,λ_ _=>rfl⟩:Below w1.heap.size w1 w1.drew).alloc (aqH _) _
 have hsV:V1.heap.size=w1.heap.size+1:=by rw[←hV1,World.size_alloc];rfl
 have hdV:V1.cell? ⟨w1.heap.size,0,none⟩=some (.pointer (some ⟨x,0,none⟩)):=by
  have:=cell_of_row _ w1.drew.heap.size 0 _ _ _ (heap_new6 w1.drew (.cells #[.pointer (some ⟨x,0,none⟩)] 102))
  rw[hV1] at this
  exact this
 have HDk:Hid (Calls Tryz.prog 13 #[.pointer (some ⟨h,0,none⟩)] w1.drew λe w'=>e=.returned (.pointer (some ⟨w1.heap.size,0,none⟩))/\ w'=V1):=HDk0
 have pV:=p1.keep hbV
 obtain⟨hsn,-,-⟩:=hS.snt pV.bel (λk e=>(pV.fl k e).1)
 have hlt:∀b off,bs≠[]-> aB=some ⟨b,off,none⟩-> b < W.heap.size:=lies_lt7 hz
 have HAp0:=dAppend_any V1 w1.heap.size x F D jnN aB nB cB bs (100000+m) aD aF aN pV.dm hpk.ok (by omega) hdV (nF _ (by omega)) hsn.er hsn.nf hl (lies_bel pV.bel hz) (λb off h0 e q=>by have:=hlt b off h0 e;have:=(pV.fl b q).1;omega) hnn (by omega)
 have hr3:=appD_r2 D jnN bs
 have hrl:=appD_r D jnN bs
 have hpa:=pk_app hpk jnN hby
 obtain⟨⟨D1,c⟩,hR⟩:∃R:Dk×Nat,appD D jnN bs=R:=⟨_,rfl⟩
 have HR0:Hid (appD D jnN bs=(D1,c)):=hR
 unfold MP at HAp0
 rw[hR] at HAp0 hr3 hrl hpa
 simp only at HAp0 hr3 hrl hpa
 unfold jnN at HAp0
 obtain⟨ev,hev⟩:∃ev,evD aD aF aN c=ev:=⟨_,rfl⟩
 rw[hev] at HAp0
 have HAp:Hid (Calls Tryz.prog 25 #[.pointer (some ⟨w1.heap.size,0,none⟩),.string ⟨#[106,111,117,114,110,97,108,46,110,101,119]⟩,.slice aB nB cB] V1 λe w'=>e=.returned ev/\ Dm w' x (up F V1) D1/\ Kd F V1 w'):=HAp0
 obtain⟨z,hzz⟩:∃z,enE c=z:=⟨_,rfl⟩
 have HZ:Hid (enE c=z/\ evD aD aF aN c=ev/\ c≠3/\ c<= 3/\ Pk D1 (m+1)):=⟨hzz,hev,hr3,hrl,hpa⟩
 have HNu:Hid (∀U:World,Dm U x (up F V1) D1-> Kd F V1 U-> Calls Tryz.prog 16 #[ev] U λe w'=>e=.returned (.int .i64 z)/\ Hid (Below U.heap.size U w')):=λU hdm hkd=>by
  have pU:=pV.prog (F':=fc (up F V1) U) hdm.fc (λk e=>⟨e.1,e.2⟩) hkd (λk e _=>⟨(pV.fl k e).1,pV.fg k e,λe2=>pV.nq.2.1 (e2 ▸ e),λe2=>pV.nh.2.1 (e2 ▸ e)⟩)
  obtain⟨hsu,-,-⟩:=hS.snt pU.bel (λk e=>(pU.fl k e).1)
  have:=number_any U _ aD aF aN c hsu (hE.below pU.bel) hr3
  rw[nm_en hr3,enJ_d hrl,hzz,evJ_d hrl,hev] at this
  exact this
 have HPv:Hid (Pv W V1 q h x y F G D D pj0 pr0/\ Below w1.heap.size w1 V1/\ ¬F q/\ ¬G q):=⟨pV,hbV,p1.nq.2.1,p1.nq.2.2⟩
 have HBy:Hid (bs.length=nB/\ Lies .u8 W aB bs/\ (aB=none-> nB=0/\ cB=0)/\ ∀b off,bs≠[]-> aB=some ⟨b,off,none⟩-> b < W.heap.size):=⟨hl,hz,hnn,hlt⟩
 have HC:Hid (w1.cell? ⟨q,0,none⟩=some (.pointer (some ⟨h,0,none⟩))/\ w1.cell? ⟨w.heap.size,4,none⟩=some (.slice aB nB cB)):=⟨q0,o4⟩
 clear hpk p0 t0 p1 t1 hb1 hs1 hx1 nF nG hS hE o1 o2 hV1 HDk0 hbV hsV hdV pV hsn hlt HAp0 hr3 hrl hpa hR hev hzz hl hz hby hnn
 go_enter Tryz.func32,Tryz.ntmps32
 go_upto_region 15 with fail
 refine Code.wp_mono (λ_ _ _ h=>calmD_le h) ?_
 go_region_held3 (λV=>V.cell? ⟨q,0,none⟩=some (.pointer (some ⟨h,0,none⟩))/\ V.cell? ⟨w.heap.size,4,none⟩=some (.slice aB nB cB))
  (first|exact HC.out|exact HUa.out|exact HUb.out|exact HUc.out)
  (first
   |(go_at_call 13
     refine HDk.out.mono ?_
     rintro e Va ⟨rfl,hVa⟩
     rw[hVa]
     clear hVa
     have HUa:Hid (V1.cell? ⟨q,0,none⟩=some (.pointer (some ⟨h,0,none⟩))/\ V1.cell? ⟨w.heap.size,4,none⟩=some (.slice aB nB cB)):=⟨bel_cell HPv.out.2.1 HC.out.1,bel_cell HPv.out.2.1 HC.out.2⟩)
   |(go_at_call 25
     refine HAp.out.mono ?_
     rintro e Ub ⟨rfl,hdm,hkd⟩
     have UbD:Hid (Dm Ub x (up F V1) D1/\ Kd F V1 Ub):=⟨hdm,hkd⟩
     have HUb:Hid (Ub.cell? ⟨q,0,none⟩=some (.pointer (some ⟨h,0,none⟩))/\ Ub.cell? ⟨w.heap.size,4,none⟩=some (.slice aB nB cB)):=⟨hkd.cell HUa.out.1 HPv.out.2.2.1,hkd.cell HUa.out.2 (HN.out.1 _ (aqH _))⟩
     clear hdm hkd)
   |(go_at_call 16
     refine(HNu.out Ub UbD.out.1 UbD.out.2).mono ?_
     rintro e U ⟨rfl,hbu⟩
     have HUc:Hid (U.cell? ⟨q,0,none⟩=some (.pointer (some ⟨h,0,none⟩))/\ U.cell? ⟨w.heap.size,4,none⟩=some (.slice aB nB cB)):=⟨bel_cell hbu.out HUb.out.1,bel_cell hbu.out HUb.out.2⟩))
 simp only[calmD]
 clear HDk HAp HNu q0 o0 o4
 have pU:=HPv.out.1.prog (F':=fc (up F V1) Ub) UbD.out.1.fc (λk e=>⟨e.1,e.2⟩) UbD.out.2 (λk e _=>⟨(HPv.out.1.fl k e).1,HPv.out.1.fg k e,λe2=>HPv.out.2.2.1 (e2 ▸ e),λe2=>HPv.out.1.nh.2.1 (e2 ▸ e)⟩)
 have p2:=pU.keep hbu.out
 have q1:U.cell? ⟨q,1,none⟩=some (.pointer (some ⟨y,0,none⟩)):=p2.c 1
 have o4:=HUc.out.2
 have HB0:=eAppend_any U.drew y G D jnN aB nB cB bs (100000+m) (p2.keep (V:=U.drew) ⟨rfl,rfl,rfl,aqH _,λ_ _=>rfl⟩).em H0.out.2.2.1.ok (by omega) HBy.out.1 (lies_bel (p2.keep (V:=U.drew) ⟨rfl,rfl,rfl,aqH _,λ_ _=>rfl⟩).bel HBy.out.2.1) (λb off h0 e q=>by have:=HBy.out.2.2.2 b off h0 e;have:=(p2.gl b q).1;omega) HBy.out.2.2.1 (by omega)
 unfold EP at HB0
 rw[HR0.out] at HB0
 simp only at HB0
 unfold jnN at HB0
 rw[HZ.out.1] at HB0
 have HB2:Hid (Calls Tryz.prog 68 #[.pointer (some ⟨y,0,none⟩),.string ⟨#[106,111,117,114,110,97,108,46,110,101,119]⟩,.slice aB nB cB] U.drew λe w'=>e=.returned (.int .i64 z)/\ Em w' y (up G U.drew) D1/\ Kd G U.drew w'):=HB0
 have HC2:Hid (U.cell? ⟨q,1,none⟩=some (.pointer (some ⟨y,0,none⟩))/\ U.cell? ⟨w.heap.size,4,none⟩=some (.slice aB nB cB)):=⟨q1,o4⟩
 have H2:Hid (Pv W U q h x y (fc (up F V1) Ub) G D1 D pj0 pr0):=p2
 clear HB0 p2 pU hbu
 go_upto_region 16 with fail
 refine Code.wp_mono (λ_ _ _ h=>calmD_le h) ?_
 go_region_held3 (λV=>V.cell? ⟨q,1,none⟩=some (.pointer (some ⟨y,0,none⟩))/\ V.cell? ⟨w.heap.size,4,none⟩=some (.slice aB nB cB))
  (first|exact HC2.out|exact HV2.out)
  (first
   |(go_at_call 68
     refine HB2.out.mono ?_
     rintro e V2 ⟨rfl,hem,hkd⟩
     have V2D:Hid (Em V2 y (up G U.drew) D1/\ Kd G U.drew V2):=⟨hem,hkd⟩
     have HV2:Hid (V2.cell? ⟨q,1,none⟩=some (.pointer (some ⟨y,0,none⟩))/\ V2.cell? ⟨w.heap.size,4,none⟩=some (.slice aB nB cB)):=⟨hkd.cell HC2.out.1 HPv.out.2.2.2,hkd.cell HC2.out.2 (HN.out.2.1 _ (aqH _))⟩
     clear hem hkd))
 simp only[calmD]
 clear HB2 q1 o4
 have p3:Pv W V2 q h x y (fc (up F V1) Ub) (fc (up G U.drew) V2) D1 D1 pj0 pr0:=(H2.out.keep (V:=U.drew) ⟨rfl,rfl,rfl,aqH _,λ_ _=>rfl⟩).refc V2D.out.1.fc (λk e=>⟨e.1,e.2⟩) V2D.out.2 (λk e _=>⟨(H2.out.gl k e).1,λf=>H2.out.fg k f e,λe2=>HPv.out.2.2.2 (e2 ▸ e),λe2=>H0.out.1.nh.2.2.1 (e2 ▸ e)⟩)
 have hzz:(z != z)=false:=by simp
 have k2:V2.cell? ⟨q,2,none⟩=some pj0:=p3.c 2
 have k3:V2.cell? ⟨q,3,none⟩=some pr0:=p3.c 3
 have z2:=p3.z 2
 have z3:=p3.z 3
 have HE:Hid (∃D' J',Py W ((V2.setCell ⟨q,2,none⟩ (.pointer none)).setCell ⟨q,3,none⟩ (.pointer none)) q (m+1) D' J'):=⟨D1,none,⟨HZ.out.2.2.2.2,h,x,y,_,_,_,_,(p3.setJ (.pointer none)).setR (.pointer none),rfl,rfl⟩⟩
 clear p3
 go_wp2
 go_ret
 exact⟨rfl,HE.out⟩
theorem befalls_tight (W w:World) (q m:Nat) (D:Dk) (J:Option Jl) (aD aF aN:Addr) (N:Int) (yes:Bool) (aL:Option Addr) (nL cL:Nat) (aB:Option Addr) (nB cB:Nat) (p:Py W w q m D J) (hS:S0 W aD aF aN) (hE:Et W) (hm:m<= 4194304) (hN1:-9223372036854775808<= N) (hN2:N<= 9223372036854775807):
 Calls Tryz.prog 32 #[.pointer (some ⟨q,0,none⟩),.agg (opA 9 N yes aL nL cL aB nB cB)] w λe w'=>StP W q m e w':=by
 obtain⟨hpk,h,x,y,F,G,pj0,pr0,p0,t0⟩:=p
 have t0:PJo W w q h x y m F G D pj0 pr0 J:=t0
 obtain⟨w1,hw1⟩:∃V,w.alloc (.cells (opA 9 N yes aL nL cL aB nB cB) 37)=V:=⟨_,rfl⟩
 have hb1:Below w.heap.size w w1:=by rw[←hw1];exact(Below.refl _ _).alloc (aqH _) _
 have hs1:w1.heap.size=w.heap.size+1:=by rw[←hw1];simp
 have hx1:w1.heap[w.heap.size]?=some (.cells (opA 9 N yes aL nL cL aB nB cB) 37 (0,0)):=by rw[←hw1];exact heap_new6 w _
 have p1:=p0.keep hb1
 have t1:PJo W w1 q h x y m F G D pj0 pr0 J:=t0.law (Kd.below hb1) (λk e=>.inl e) (λk e=>.inl e) (λ_ e=>e)
 have nF:∀k,w.heap.size<= k-> ¬F k:=λk hk e=>by have:=(p0.fl _ e).2;omega
 have nG:∀k,w.heap.size<= k-> ¬G k:=λk hk e=>by have:=(p0.gl _ e).2;omega
 have HN:Hid ((∀k,w.heap.size<= k-> ¬F k)/\ (∀k,w.heap.size<= k-> ¬G k)/\ w1.heap.size=w.heap.size+1):=⟨nF,nG,hs1⟩
 have H0:Hid (Pv W w1 q h x y F G D D pj0 pr0/\ PJo W w1 q h x y m F G D pj0 pr0 J/\ Pk D m/\ S0 W aD aF aN/\ Et W/\ w1.heap[w.heap.size]?=some (.cells (opA 9 N yes aL nL cL aB nB cB) 37 (0,0))):=⟨p1,t1,hpk,hS,hE,hx1⟩
 have o0:w1.cell? ⟨w.heap.size,0,none⟩=some (.int .i64 9):=cell_of_row _ _ 0 _ _ _ hx1
 have o1:w1.cell? ⟨w.heap.size,1,none⟩=some (.int .i64 N):=cell_of_row _ _ 1 _ _ _ hx1
 have o2:w1.cell? ⟨w.heap.size,2,none⟩=some (.bool yes):=cell_of_row _ _ 2 _ _ _ hx1
 have o4:w1.cell? ⟨w.heap.size,4,none⟩=some (.slice aB nB cB):=cell_of_row _ _ 4 _ _ _ hx1
 have q0:w1.cell? ⟨q,0,none⟩=some (.pointer (some ⟨h,0,none⟩)):=p1.c 0
 obtain⟨n,hn⟩:∃n,(if N < 0 then -(N+1) else N)=n:=⟨_,rfl⟩
 have hn0:0<= n/\ n<= 9223372036854775807:=by rw[←hn];split<;>omega
 obtain⟨M,hM⟩:∃M,Int.tmod n 4096=M:=⟨_,rfl⟩
 have hMb:0<= M/\ M<= 4095:=by
  rw[←hM,Int.tmod_eq_emod_of_nonneg hn0.1];omega
 have hnM:nn0 M=M:=by unfold nn0;rw[if_neg (by omega)]
 have HNe:=dNew_any w1 M
 rw[hnM] at HNe
 have z0:=p1.z 0
 have hq1:=p1.ql
 have HNE:Hid (nn0 M=M):=hnM
 have HW:Hid (W.heap.size<= w1.heap.size/\ q < w.heap.size/\ W.heap.size<= q):=⟨p1.bel.size,p0.ql,p1.nq.1⟩
 clear hpk p0 t0 p1 t1 hb1 hs1 hx1 nF nG hS hE o2 o4 hnM hq1
 go_enter Tryz.func32,Tryz.ntmps32
 by_cases hNN:N < 0
 ·have hNN:N < 0:=hNN
  rw[if_pos hNN] at hn
  have hw1:IntKind.i64.wrap (N+1)=N+1:=by rw[IntKind.wrap_i64];omega
  have hw2:IntKind.i64.wrap (-(N+1))=n:=by rw[IntKind.wrap_i64];omega
  clear hn
  go_upto_region 24 with (go_at_call 7;refine HNe.mono ?_;rintro e w2 ⟨rfl,hdm,hhc,hs2,hb2⟩;have q0':=bel_cell hb2 q0;have hqc:=(hb2.block q (by have:=HW.out;have:=HN.out.2.2;omega)).trans H0.out.1.qc;have z0':=frozen_of_row _ _ 0 _ _ hqc)
  clear HNe q0 z0 o0 o1
  have H2:Hid (Dm w2 w1.heap.size (λg=>g=w1.heap.size) (dk0 M)/\ w2.cell? ⟨w1.heap.size+1,0,none⟩=some (.pointer (some ⟨w1.heap.size,0,none⟩))/\ w2.heap.size=w1.heap.size+2/\ Below w1.heap.size w1 w2/\ w2.heap[q]?=some (.cells #[.pointer (some ⟨h,0,none⟩),.pointer (some ⟨y,0,none⟩),pj0,pr0] 32 (0,0))):=⟨hdm,hhc,hs2,hb2,hqc⟩
  clear hdm hhc hs2 hb2 hqc q0' z0'
  obtain⟨w3,hw3⟩:∃V,w2.setCell ⟨q,0,none⟩ (.pointer (some ⟨w1.heap.size+1,0,none⟩))=V:=⟨_,rfl⟩
  rw[hw3]
  have hqw:=HW.out
  have hs1:=HN.out.2.2
  have hs2:=H2.out.2.2.1
  have H3:Hid (Dm w3 w1.heap.size (λg=>g=w1.heap.size) (dk0 M)/\ w3.cell? ⟨w1.heap.size+1,0,none⟩=some (.pointer (some ⟨w1.heap.size,0,none⟩))/\ w3.heap.size=w1.heap.size+2/\ Below W.heap.size W w3/\ w3.heap[q]?=some (.cells #[.pointer (some ⟨w1.heap.size+1,0,none⟩),.pointer (some ⟨y,0,none⟩),pj0,pr0] 32 (0,0))):=by
   rw[←hw3]
   have hset:∀k,k≠q-> (w2.setCell ⟨q,0,none⟩ (.pointer (some ⟨w1.heap.size+1,0,none⟩))).heap[k]?=w2.heap[k]?:=λk hk=>heap_setCell_other _ _ _ _ hk
   exact⟨H2.out.1.same (λk e _=>hset k (by omega)),(World.cell?_of_block (a:=⟨w1.heap.size+1,0,none⟩) (hset (w1.heap.size+1) (by omega))).trans H2.out.2.1,by rw[←hs2];simp[World.setCell],(H0.out.1.bel.trans (H2.out.2.2.2.1.mono hqw.1)).setCell (p:=⟨q,0,none⟩) hqw.2.2 _,heap_setCell_same w2 q 0 _ _ _ H2.out.2.2.2.2⟩
  have HNr:=eNew_any w3 M
  rw[HNE.out] at HNr
  have k1:w3.cell? ⟨q,1,none⟩=some (.pointer (some ⟨y,0,none⟩)):=cell_of_row _ _ 1 _ _ _ H3.out.2.2.2.2
  clear hw3 k1
  go_upto_region 25 with (go_at_call 8;refine HNr.mono ?_;rintro e w4 ⟨rfl,hem,hs4,hb4⟩;have hqc:=(hb4.block q (by have:=H3.out.2.2.1;omega)).trans H3.out.2.2.2.2;have q1':=cell_of_row _ _ 1 _ _ _ hqc;have z1':=frozen_of_row _ _ 1 _ _ hqc)
  clear HNr
  have hs3:=H3.out.2.2.1
  obtain⟨w5,hw5⟩:∃V,w4.setCell ⟨q,1,none⟩ (.pointer (some ⟨w3.heap.size,0,none⟩))=V:=⟨_,rfl⟩
  rw[hw5]
  have p3:Pv W w5 q (w1.heap.size+1) w1.heap.size (w1.heap.size+2) (λg=>g=w1.heap.size) (λg=>g=w1.heap.size+2) (dk0 M) (dk0 M) pj0 pr0:=by
   rw[←hw5,hs3]
   rw[hs3] at hem hs4
   have hset:∀k,k≠q-> (w4.setCell ⟨q,1,none⟩ (.pointer (some ⟨w1.heap.size+2,0,none⟩))).heap[k]?=w4.heap[k]?:=λk hk=>heap_setCell_other _ _ _ _ hk
   have hz:(w4.setCell ⟨q,1,none⟩ (.pointer (some ⟨w1.heap.size+2,0,none⟩))).heap.size=w1.heap.size+3:=by rw[←show w4.heap.size=w1.heap.size+3 by omega];simp[World.setCell]
   exact⟨(H3.out.2.2.2.1.trans (hb4.mono (by omega))).setCell (p:=⟨q,1,none⟩) hqw.2.2 _,heap_setCell_same w4 q 1 _ _ _ hqc,(World.cell?_of_block (a:=⟨w1.heap.size+1,0,none⟩) ((hset (w1.heap.size+1) (by omega)).trans (hb4.block (w1.heap.size+1) (by omega)))).trans H3.out.2.1,H3.out.1.same (λk e _=>(hset k (by omega)).trans (hb4.block k (by omega))),hem.same (λk e _=>hset k (by omega)),λk e=>⟨by omega,by omega⟩,λk e=>⟨by omega,by omega⟩,λk e e2=>by omega,⟨hqw.2.2,by omega,by omega⟩,⟨by omega,by omega,by omega,by omega⟩⟩
  clear hw5 hem hs4 hb4 hqc q1' z1'
  have k2:w5.cell? ⟨q,2,none⟩=some pj0:=p3.c 2
  have k3:w5.cell? ⟨q,3,none⟩=some pr0:=p3.c 3
  have z2:=p3.z 2
  have z3:=p3.z 3
  have HE:Hid (∃D' J',Py W ((w5.setCell ⟨q,2,none⟩ (.pointer none)).setCell ⟨q,3,none⟩ (.pointer none)) q (m+1) D' J'):=⟨dk0 M,none,⟨(pk_dk0 (by omega)).up (by omega),w1.heap.size+1,w1.heap.size,w1.heap.size+2,_,_,_,_,(p3.setJ (.pointer none)).setR (.pointer none),rfl,rfl⟩⟩
  clear p3
  go_wp2
  go_ret
  exact⟨rfl,HE.out⟩
 ·have hNN:¬N < 0:=hNN
  rw[if_neg hNN] at hn
  subst hn
  go_upto_region 24 with (go_at_call 7;refine HNe.mono ?_;rintro e w2 ⟨rfl,hdm,hhc,hs2,hb2⟩;have q0':=bel_cell hb2 q0;have hqc:=(hb2.block q (by have:=HW.out;have:=HN.out.2.2;omega)).trans H0.out.1.qc;have z0':=frozen_of_row _ _ 0 _ _ hqc)
  clear HNe q0 z0 o0 o1
  have H2:Hid (Dm w2 w1.heap.size (λg=>g=w1.heap.size) (dk0 M)/\ w2.cell? ⟨w1.heap.size+1,0,none⟩=some (.pointer (some ⟨w1.heap.size,0,none⟩))/\ w2.heap.size=w1.heap.size+2/\ Below w1.heap.size w1 w2/\ w2.heap[q]?=some (.cells #[.pointer (some ⟨h,0,none⟩),.pointer (some ⟨y,0,none⟩),pj0,pr0] 32 (0,0))):=⟨hdm,hhc,hs2,hb2,hqc⟩
  clear hdm hhc hs2 hb2 hqc q0' z0'
  obtain⟨w3,hw3⟩:∃V,w2.setCell ⟨q,0,none⟩ (.pointer (some ⟨w1.heap.size+1,0,none⟩))=V:=⟨_,rfl⟩
  rw[hw3]
  have hqw:=HW.out
  have hs1:=HN.out.2.2
  have hs2:=H2.out.2.2.1
  have H3:Hid (Dm w3 w1.heap.size (λg=>g=w1.heap.size) (dk0 M)/\ w3.cell? ⟨w1.heap.size+1,0,none⟩=some (.pointer (some ⟨w1.heap.size,0,none⟩))/\ w3.heap.size=w1.heap.size+2/\ Below W.heap.size W w3/\ w3.heap[q]?=some (.cells #[.pointer (some ⟨w1.heap.size+1,0,none⟩),.pointer (some ⟨y,0,none⟩),pj0,pr0] 32 (0,0))):=by
   rw[←hw3]
   have hset:∀k,k≠q-> (w2.setCell ⟨q,0,none⟩ (.pointer (some ⟨w1.heap.size+1,0,none⟩))).heap[k]?=w2.heap[k]?:=λk hk=>heap_setCell_other _ _ _ _ hk
   exact⟨H2.out.1.same (λk e _=>hset k (by omega)),(World.cell?_of_block (a:=⟨w1.heap.size+1,0,none⟩) (hset (w1.heap.size+1) (by omega))).trans H2.out.2.1,by rw[←hs2];simp[World.setCell],(H0.out.1.bel.trans (H2.out.2.2.2.1.mono hqw.1)).setCell (p:=⟨q,0,none⟩) hqw.2.2 _,heap_setCell_same w2 q 0 _ _ _ H2.out.2.2.2.2⟩
  have HNr:=eNew_any w3 M
  rw[HNE.out] at HNr
  have k1:w3.cell? ⟨q,1,none⟩=some (.pointer (some ⟨y,0,none⟩)):=cell_of_row _ _ 1 _ _ _ H3.out.2.2.2.2
  clear hw3 k1
  go_upto_region 25 with (go_at_call 8;refine HNr.mono ?_;rintro e w4 ⟨rfl,hem,hs4,hb4⟩;have hqc:=(hb4.block q (by have:=H3.out.2.2.1;omega)).trans H3.out.2.2.2.2;have q1':=cell_of_row _ _ 1 _ _ _ hqc;have z1':=frozen_of_row _ _ 1 _ _ hqc)
  clear HNr
  have hs3:=H3.out.2.2.1
  obtain⟨w5,hw5⟩:∃V,w4.setCell ⟨q,1,none⟩ (.pointer (some ⟨w3.heap.size,0,none⟩))=V:=⟨_,rfl⟩
  rw[hw5]
  have p3:Pv W w5 q (w1.heap.size+1) w1.heap.size (w1.heap.size+2) (λg=>g=w1.heap.size) (λg=>g=w1.heap.size+2) (dk0 M) (dk0 M) pj0 pr0:=by
   rw[←hw5,hs3]
   rw[hs3] at hem hs4
   have hset:∀k,k≠q-> (w4.setCell ⟨q,1,none⟩ (.pointer (some ⟨w1.heap.size+2,0,none⟩))).heap[k]?=w4.heap[k]?:=λk hk=>heap_setCell_other _ _ _ _ hk
   have hz:(w4.setCell ⟨q,1,none⟩ (.pointer (some ⟨w1.heap.size+2,0,none⟩))).heap.size=w1.heap.size+3:=by rw[←show w4.heap.size=w1.heap.size+3 by omega];simp[World.setCell]
   exact⟨(H3.out.2.2.2.1.trans (hb4.mono (by omega))).setCell (p:=⟨q,1,none⟩) hqw.2.2 _,heap_setCell_same w4 q 1 _ _ _ hqc,(World.cell?_of_block (a:=⟨w1.heap.size+1,0,none⟩) ((hset (w1.heap.size+1) (by omega)).trans (hb4.block (w1.heap.size+1) (by omega)))).trans H3.out.2.1,H3.out.1.same (λk e _=>(hset k (by omega)).trans (hb4.block k (by omega))),hem.same (λk e _=>hset k (by omega)),λk e=>⟨by omega,by omega⟩,λk e=>⟨by omega,by omega⟩,λk e e2=>by omega,⟨hqw.2.2,by omega,by omega⟩,⟨by omega,by omega,by omega,by omega⟩⟩
  clear hw5 hem hs4 hb4 hqc q1' z1'
  have k2:w5.cell? ⟨q,2,none⟩=some pj0:=p3.c 2
  have k3:w5.cell? ⟨q,3,none⟩=some pr0:=p3.c 3
  have z2:=p3.z 2
  have z3:=p3.z 3
  have HE:Hid (∃D' J',Py W ((w5.setCell ⟨q,2,none⟩ (.pointer none)).setCell ⟨q,3,none⟩ (.pointer none)) q (m+1) D' J'):=⟨dk0 M,none,⟨(pk_dk0 (by omega)).up (by omega),w1.heap.size+1,w1.heap.size,w1.heap.size+2,_,_,_,_,(p3.setJ (.pointer none)).setR (.pointer none),rfl,rfl⟩⟩
  clear p3
  go_wp2
  go_ret
  exact⟨rfl,HE.out⟩
theorem befalls_none (W w:World) (q m:Nat) (D:Dk) (J:Option Jl) (aD aF aN:Addr) (N:Int) (yes:Bool) (aL:Option Addr) (nL cL:Nat) (aB:Option Addr) (nB cB:Nat) (kind:Int) (p:Py W w q m D J) (hS:S0 W aD aF aN) (hE:Et W) (hm:m<= 4194304) (h5:kind≠5) (h6:kind≠6) (h7:kind≠7) (h8:kind≠8) (h9:kind≠9):
 Calls Tryz.prog 32 #[.pointer (some ⟨q,0,none⟩),.agg (opA kind N yes aL nL cL aB nB cB)] w λe w'=>StP W q m e w':=by
 obtain⟨hpk,h,x,y,F,G,pj0,pr0,p0,t0⟩:=p
 have t0:PJo W w q h x y m F G D pj0 pr0 J:=t0
 obtain⟨w1,hw1⟩:∃V,w.alloc (.cells (opA kind N yes aL nL cL aB nB cB) 37)=V:=⟨_,rfl⟩
 have hb1:Below w.heap.size w w1:=by rw[←hw1];exact(Below.refl _ _).alloc (aqH _) _
 have hs1:w1.heap.size=w.heap.size+1:=by rw[←hw1];simp
 have hx1:w1.heap[w.heap.size]?=some (.cells (opA kind N yes aL nL cL aB nB cB) 37 (0,0)):=by rw[←hw1];exact heap_new6 w _
 have p1:=p0.keep hb1
 have t1:PJo W w1 q h x y m F G D pj0 pr0 J:=t0.law (Kd.below hb1) (λk e=>.inl e) (λk e=>.inl e) (λ_ e=>e)
 have nF:∀k,w.heap.size<= k-> ¬F k:=λk hk e=>by have:=(p0.fl _ e).2;omega
 have nG:∀k,w.heap.size<= k-> ¬G k:=λk hk e=>by have:=(p0.gl _ e).2;omega
 have HN:Hid ((∀k,w.heap.size<= k-> ¬F k)/\ (∀k,w.heap.size<= k-> ¬G k)/\ w1.heap.size=w.heap.size+1):=⟨nF,nG,hs1⟩
 have H0:Hid (Pv W w1 q h x y F G D D pj0 pr0/\ PJo W w1 q h x y m F G D pj0 pr0 J/\ Pk D m/\ S0 W aD aF aN/\ Et W/\ w1.heap[w.heap.size]?=some (.cells (opA kind N yes aL nL cL aB nB cB) 37 (0,0))):=⟨p1,t1,hpk,hS,hE,hx1⟩
 have o0:w1.cell? ⟨w.heap.size,0,none⟩=some (.int .i64 kind):=cell_of_row _ _ 0 _ _ _ hx1
 have o1:w1.cell? ⟨w.heap.size,1,none⟩=some (.int .i64 N):=cell_of_row _ _ 1 _ _ _ hx1
 have o2:w1.cell? ⟨w.heap.size,2,none⟩=some (.bool yes):=cell_of_row _ _ 2 _ _ _ hx1
 have o4:w1.cell? ⟨w.heap.size,4,none⟩=some (.slice aB nB cB):=cell_of_row _ _ 4 _ _ _ hx1
 have q0:w1.cell? ⟨q,0,none⟩=some (.pointer (some ⟨h,0,none⟩)):=p1.c 0
 have b5:(kind == 5)=false:=by simp[h5]
 have b6:(kind == 6)=false:=by simp[h6]
 have b7:(kind == 7)=false:=by simp[h7]
 have b8:(kind == 8)=false:=by simp[h8]
 have b9:(kind == 9)=false:=by simp[h9]
 have HE:Hid (∃D' J',Py W w1 q (m+1) D' J'):=⟨D,J,Py.up ⟨hpk,h,x,y,F,G,pj0,pr0,p1,t1⟩ (by omega)⟩
 clear hpk p0 t0 p1 t1 hb1 hs1 hx1 nF nG hS hE o1 o2 o4 q0
 go_enter Tryz.func32,Tryz.ntmps32
 go_wp2
 go_ret
 exact⟨rfl,HE.out⟩
end Go.Proofs.YtllhbhogfffedaaGreatDoor.K
