import Derived.Test.YtllhbhogfffedaaGreatDoorRcR28
import Derived.Test.YtllhbhogfffedaaGreatDoorRcFst
import Derived.LaidEql
import Derived.Stop.Asserts
import Derived.RowKitTokens
import Derived.Deep.RegionHeld3
set_option maxHeartbeats 16000000
set_option maxRecDepth 100000
namespace Go.Proofs.YtllhbhogfffedaaGreatDoor
open Go.RowKit
set_option linter.unusedVariables false
set_option linter.unusedSimpArgs false
theorem open_none2 (w:World) (d x:Nat) (aN:Addr) (hT:Tab6 w) (hds:d < w.heap.size) (hxs:x < w.heap.size) (h1s:2 < w.heap.size) (hd:w.cell? ⟨d,0,none⟩=some (.pointer (some ⟨x,0,none⟩))) (hf:w.cell? ⟨x,0,none⟩=some (.slice none 0 0)) (hw:w.cell? ⟨x,5,none⟩=some (.bool false)) (hN:w.cell? ⟨2,0,none⟩=some (.iface 218 (.pointer (some aN)))):
 Calls Tryz.prog 12 #[.pointer (some ⟨d,0,none⟩)] w λe w'=>∃j a c,e=.returned (.tuple #[.pointer (some ⟨j,0,none⟩),.slice a 0 c,.nilIface])/\ w.heap.size<= j/\ j < w'.heap.size/\ w'.heap[j]?=some (.cells #[.pointer (some ⟨d,0,none⟩),.int .i64 0,.int .i64 0,.bool false] 100)/\ Below w.heap.size w w':=by
 have HR:=removeRest_none w d x aN hds hxs h1s hd hf hw hN
 have HD:Hid (∀W,Below w.heap.size w W-> Calls Tryz.prog 40 #[.pointer (some ⟨d,0,none⟩)] W λe w'=>e=.returned (.tuple #[.slice none 0 0,.nilIface])/\ Below W.heap.size W w'):=λW hb=>jread_none W d x aN (Nat.lt_of_lt_of_le h1s hb.size) ((hb.cell (p:=⟨d,0,none⟩) hds).trans hd) ((hb.cell (p:=⟨x,0,none⟩) hxs).trans hf) ((hb.cell (p:=⟨x,5,none⟩) hxs).trans hw) ((hb.cell (p:=⟨2,0,none⟩) h1s).trans hN)
 have HS:Hid (∀W,Below w.heap.size w W-> Calls Tryz.prog 41 #[.slice none 0 0] W λe w'=>∃a c,e=.returned (.tuple #[.slice a 0 c,.int .i64 0])/\ Below W.heap.size W w'):=λW hb=>scan_nil W (hT.below hb (tab6_pos hT))
 clear hd hf hw hN hT
 go_enter Tryz.func12,Tryz.ntmps12
 go_wp2_with (first
  |(go_at_call 39;refine HR.mono ?_;rintro e w2 ⟨rfl,hb2⟩)
  |(go_at_call 40;refine(HD.out _ hb2).mono ?_;rintro e w3 ⟨rfl,hb3⟩;have HB3:Hid (Below w.heap.size w w3):=hb2.trans (hb3.mono hb2.size))
  |(go_at_call 41;refine(HS.out _ HB3.out).mono ?_;rintro e w4 ⟨a4,c4,rfl,hb4⟩;have HB4:Hid (Below w.heap.size w w4):=HB3.out.trans (hb4.mono HB3.out.size)))
 refine bodyPost_ret (v:=.tuple #[.pointer (some ⟨w4.heap.size,0,none⟩),.slice a4 0 c4,.nilIface]) (by simp[results,Tryz.results12,go_sem]) rfl ?_
 exact⟨_,_,_,rfl,HB4.out.size,by simp,heap_new6 w4 (.cells #[.pointer (some ⟨d,0,none⟩),.int .i64 0,.int .i64 0,.bool false] 100),HB4.out.alloc HB4.out.size _⟩
def r300:Rc:=⟨2,0,0,0,0,0,0,300,0,[],[]⟩
theorem r300_may:mayB6 r300=true:=by decide
theorem r300_len:([r300].flatMap frB).length=11:=by decide
theorem next7_any (w:World):Calls Tryz.prog 29 #[.int .i64 300] w λe w'=>e=.returned nextV/\ Below w.heap.size w w':=by
 go_enter Tryz.func29,Tryz.ntmps29
 go_wp2
 refine bodyPost_ret (v:=nextV) (by simp[results,Tryz.results29,go_sem]) rfl ?_
 exact⟨rfl,(Below.refl _ _).alloc (aqH _) _⟩
theorem r300_lin (w:World):RLin (w.alloc nextO) (some ⟨w.heap.size,0,none⟩) [r300]:=by
 refine .inr ⟨w.heap.size,0,rfl,λi r hr=>?_⟩
 match i,hr with
 |0,hr=>
  simp at hr;subst hr
  refine⟨none,none,0,0,λj u hj=>?_,⟨rfl,rfl,by decide,C.Ls.nil _,.inl rfl,λ_=>⟨rfl,rfl⟩⟩⟩
  obtain⟨c0,c1,c2,c3,c4,c5,c6,c7,c8,c9,c10⟩:=next_cells (heap_new6 w nextO)
  have hj2:j < 11:=(Array.getElem?_eq_some_iff.mp hj).1
  match j,hj2,hj with
  |0,_,hj=>cases hj;exact c0
  |1,_,hj=>cases hj;exact c1
  |2,_,hj=>cases hj;exact c2
  |3,_,hj=>cases hj;exact c3
  |4,_,hj=>cases hj;exact c4
  |5,_,hj=>cases hj;exact c5
  |6,_,hj=>cases hj;exact c6
  |7,_,hj=>cases hj;exact c7
  |8,_,hj=>cases hj;exact c8
  |9,_,hj=>cases hj;exact c9
  |10,_,hj=>cases hj;exact c10
 |i+1,hr=>simp at hr
theorem jown_block {w w':World} {base n sz:Nat} {e:TypeId} {v:Value} {xs:List Value} (h:w.ownsRow base e sz v n xs) (hk:∀g,v.ownBlock=some g-> w'.heap[g]?=w.heap[g]?):w'.ownsRow base e sz v n xs:=by
 obtain⟨h1,h2⟩:=h
 refine⟨h1,?_⟩
 rcases h2 with h2|⟨g,cap,cur,rfl,hg,hh,r⟩
 ·exact .inl h2
 ·exact .inr ⟨g,cap,cur,rfl,hg,(hk g rfl).trans hh,r⟩
theorem awake7_any (w:World) (aN aD:Addr) (hT:Tab6 w) (h3:5<= w.heap.size) (hN:w.cell? ⟨2,0,none⟩=some (.iface 218 (.pointer (some aN)))) (hD:w.cell? ⟨0,0,none⟩=some (.iface 218 (.pointer (some aD)))):
 Calls Tryz.prog 6 #[] w λe w'=>e=.returned (.bool true)/\ Below w.heap.size w w':=by
 have H1:=diskNew_any w
 obtain⟨w1,hw1⟩:∃W,(w.alloc (.cells (bx0 1000) 85)).alloc (.cells #[.pointer (some ⟨w.heap.size,0,none⟩)] 87)=W:=⟨_,rfl⟩
 rw[hw1] at H1
 have hs1:w1.heap.size=w.heap.size+2:=by rw[←hw1];simp
 have hx1:w1.heap[w.heap.size]?=some (.cells (bx0 1000) 85):=by
  rw[←hw1]
  exact(Below.heap_alloc _ _ _ (by simp)).trans (heap_new6 w _)
 have hh1:w1.cell? ⟨w.heap.size+1,0,none⟩=some (.pointer (some ⟨w.heap.size,0,none⟩)):=by rw[←hw1];simp[go_sem]
 have b1:Below w.heap.size w w1:=by rw[←hw1];exact((Below.refl _ _).alloc (aqH _) _).alloc (by simp) _
 have H2:=diskOf_any w1 (w.heap.size+1) w.heap.size hh1
 obtain⟨w2,hw2⟩:∃W,w1.alloc (.cells #[.pointer (some ⟨w.heap.size,0,none⟩)] 102)=W:=⟨_,rfl⟩
 rw[hw2] at H2
 have hs2:w2.heap.size=w.heap.size+3:=by rw[←hw2];simp[hs1]
 have hx2:w2.heap[w.heap.size]?=some (.cells (bx0 1000) 85):=by rw[←hw2];exact(Below.heap_alloc _ _ _ (by omega)).trans hx1
 have hd2:w2.cell? ⟨w1.heap.size,0,none⟩=some (.pointer (some ⟨w.heap.size,0,none⟩)):=by rw[←hw2];simp[go_sem]
 have b2:Below w.heap.size w w2:=by rw[←hw2];exact b1.alloc (by omega) _
 have hh2:w2.cell? ⟨w.heap.size+1,0,none⟩=some (.pointer (some ⟨w.heap.size,0,none⟩)):=by rw[←hw2];exact jcell_grown hh1 (jgrown_alloc _ _ none) (by simp)
 rw[hs1] at hd2 H2
 have H3:=open_none2 w2 (w.heap.size+2) w.heap.size aN (hT.below b2 (tab6_pos hT)) (by omega) (by omega) (by omega) hd2 (cell_of_row _ _ 0 _ _ _ hx2) (cell_of_row _ _ 5 _ _ _ hx2) ((b2.cell (p:=⟨2,0,none⟩) (by simp;omega)).trans hN)
 have HX:Hid (w2.heap[w.heap.size]?=some (.cells (bx0 1000) 85)/\ w2.cell? ⟨w.heap.size+2,0,none⟩=some (.pointer (some ⟨w.heap.size,0,none⟩))/\ w2.cell? ⟨w.heap.size+1,0,none⟩=some (.pointer (some ⟨w.heap.size,0,none⟩))/\ Below w.heap.size w w2/\ Tab6 w/\ w.cell? ⟨0,0,none⟩=some (.iface 218 (.pointer (some aD)))):=⟨hx2,hd2,hh2,b2,hT,hD⟩
 clear hx1 hh1 hx2 hd2 hh2 b1 b2 hT hN hD hw1 hw2
 go_enter Tryz.func6,Tryz.ntmps6
 go_wp2_with fail
 refine H1.mono ?_
 rintro e w1' ⟨rfl,rfl⟩
 clear H1
 go_wp2_with fail
 refine H2.mono ?_
 rintro e w2' ⟨rfl,rfl⟩
 clear H2
 go_wp2_with fail
 refine H3.mono ?_
 rintro e w3 ⟨j,a3,c3,rfl,hj1,hj2,hjb,hb3⟩
 have H4:=next7_any w3
 have HJ:Hid (w3.heap[j]?=some (.cells #[.pointer (some ⟨w.heap.size+2,0,none⟩),.int .i64 0,.int .i64 0,.bool false] 100)/\ Below w2'.heap.size w2' w3):=⟨hjb,hb3⟩
 clear H3 hjb hb3
 go_wp2_with fail
 refine H4.mono ?_
 rintro e w4 ⟨rfl,hb4⟩
 clear H4
 have b24:Below w2'.heap.size w2' (w4.alloc nextO):=(HJ.out.2.trans (hb4.mono HJ.out.2.size)).alloc (Nat.le_trans HJ.out.2.size hb4.size) _
 have b34:Below w3.heap.size w3 (w4.alloc nextO):=hb4.alloc hb4.size _
 have hx5:(w4.alloc nextO).heap[w.heap.size]?=some (.cells (bx0 1000) 85):=(b24.block _ (by omega)).trans HX.out.1
 have hj5:(w4.alloc nextO).heap[j]?=some (.cells #[.pointer (some ⟨w.heap.size+2,0,none⟩),.int .i64 0,.int .i64 0,.bool false] 100):=(b34.block _ hj2).trans HJ.out.1
 have hd5:(w4.alloc nextO).cell? ⟨w.heap.size+2,0,none⟩=some (.pointer (some ⟨w.heap.size,0,none⟩)):=(b24.cell (p:=⟨w.heap.size+2,0,none⟩) (by simp;omega)).trans HX.out.2.1
 have b05:Below w.heap.size w (w4.alloc nextO):=HX.out.2.2.2.1.trans (b24.mono (by omega))
 have hs5:w2'.heap.size<= (w4.alloc nextO).heap.size:=b24.size
 have H5:=write_one (w4.alloc nextO) j (w.heap.size+2) w.heap.size aD [r300] (some ⟨w4.heap.size,0,none⟩) 1 1 11 (HX.out.2.2.2.2.1.below b05 (tab6_pos HX.out.2.2.2.2.1)) rfl (by omega) (by omega) (r300_lin w4) (λr hr=>by simp at hr;subst hr;exact λz hz=>by cases hz) (λr hr=>by simp at hr;subst hr;exact r300_may) r300_len (by omega) (by omega)
  ⟨cell_of_row _ _ 0 _ _ _ hj5,cell_of_row _ _ 1 _ _ _ hj5,cell_of_row _ _ 2 _ _ _ hj5,cell_of_row _ _ 3 _ _ _ hj5⟩ ⟨frozen_of_row _ _ 1 _ _ hj5,frozen_of_row _ _ 2 _ _ hj5⟩ (by omega) (by omega) (by omega) (by omega) (by omega)
  hd5 (cell_of_row _ _ 0 _ _ _ hx5) (cell_of_row _ _ 1 _ _ _ hx5) (cell_of_row _ _ 2 _ _ _ hx5) (cell_of_row _ _ 5 _ _ _ hx5) (frozen_of_row _ _ 0 _ _ hx5) ((b05.cell (p:=⟨0,0,none⟩) (by simp;omega)).trans HX.out.2.2.2.2.2)
 have HW5:Hid (Below w.heap.size w (w4.alloc nextO)/\ (w4.alloc nextO).cell? ⟨w.heap.size+2,0,none⟩=some (.pointer (some ⟨w.heap.size,0,none⟩))/\ (w4.alloc nextO).heap[w.heap.size]?=some (.cells (bx0 1000) 85)/\ (w4.alloc nextO).cell? ⟨w.heap.size+1,0,none⟩=some (.pointer (some ⟨w.heap.size,0,none⟩))):=⟨b05,hd5,hx5,(b24.cell (p:=⟨w.heap.size+1,0,none⟩) (by simp;omega)).trans HX.out.2.2.1⟩
 have hjl5:j < (w4.alloc nextO).heap.size:=(Array.getElem?_eq_some_iff.mp hj5).1
 have HBs:Hid ((∀u∈([r300].flatMap frB).map (Value.int .u8),u.oneCell'=true)/\ ∀u,(([r300].flatMap frB).map (Value.int .u8))[0]?=some u-> ∃z,u=.int .u8 z):=⟨λu hu=>by obtain⟨z,_,rfl⟩:=List.mem_map.mp hu;rfl,λu hu=>by
  rw[List.getElem?_map] at hu
  obtain⟨z,_,rfl⟩:=Option.map_eq_some_iff.mp hu
  exact⟨z,rfl⟩⟩
 have HBl:Hid ((([r300].flatMap frB).map (Value.int .u8)).length=11):=by show _=_;rw[List.length_map];exact r300_len
 generalize ([r300].flatMap frB).map (Value.int .u8)=bs at*
 clear hb4 b24 b34 hx5 hj5 hd5 b05 HJ
 go_wp2_with fail
 refine H5.mono ?_
 clear H5
 generalize w4.alloc nextO=w5 at*
 rintro e w6 ⟨rfl,hr6⟩
 obtain⟨F,cpF,ab,cb,hbx,hF1,hF2,hFz,hrow⟩:=hr6.ex
 have hs6:=hr6.size
 have H6:=jsize_any w6 j (w.heap.size+2) 11 11 hr6.jn
 have H7:=jloose_any w6 j (w.heap.size+2) 11 11 hr6.jn
 have b56:Below w.heap.size w w6:=⟨hr6.sys.1.trans HW5.out.1.os,hr6.sys.2.1.trans HW5.out.1.tape,hr6.sys.2.2.trans HW5.out.1.output,Nat.le_trans HW5.out.1.size hs6,λk hk=>(hr6.blk k (by have:=HW5.out.1.size;omega) (by omega) (by omega)).trans (HW5.out.1.block k hk)⟩
 have hd6:w6.cell? ⟨w.heap.size+2,0,none⟩=some (.pointer (some ⟨w.heap.size,0,none⟩)):=(World.cell?_of_block (a:=⟨w.heap.size+2,0,none⟩) (hr6.blk (w.heap.size+2) (by omega) (by omega) (by omega))).trans HW5.out.2.1
 have hh6:w6.cell? ⟨w.heap.size+1,0,none⟩=some (.pointer (some ⟨w.heap.size,0,none⟩)):=(World.cell?_of_block (a:=⟨w.heap.size+1,0,none⟩) (hr6.blk (w.heap.size+1) (by omega) (by omega) (by omega))).trans HW5.out.2.2.2
 have H8:=write_syn w6 j (w.heap.size+2) w.heap.size F cpF 11 aD ab cb (HX.out.2.2.2.2.1.below b56 (tab6_pos HX.out.2.2.2.2.1)) (by omega) (by omega) hr6.jn hr6.jz (by omega) (by omega) (by omega) (by omega) (by omega) (by omega) (by omega) (by omega) (by omega) hF2 hd6 hbx ((hr6.oth 2 (by omega)).trans (cell_of_row _ _ 2 _ _ _ HW5.out.2.2.1)) ((hr6.oth 5 (by omega)).trans (cell_of_row _ _ 5 _ _ _ HW5.out.2.2.1)) hFz ((b56.cell (p:=⟨0,0,none⟩) (by simp;omega)).trans HX.out.2.2.2.2.2)
 have hgF:∀g,(Value.slice ab 11 cb).ownBlock=some g-> g≠F:=λg hg e=>by
  subst e
  obtain⟨g',c',hv,_,_⟩:=jown_pos hrow (by omega)
  cases hv
  simp only[Value.ownBlock,aqG] at hg
  subst hg
  have h0:=World.ownsRow.cellAt hrow 0 (by omega)
  rw[hbx.2.1] at h0
  obtain⟨z,hz⟩:=HBs.out.2 _ h0.symm
  cases hz
 have HR6:Hid (w6.ownsRow w5.heap.size 5 1 (.slice ab 11 cb) 11 bs/\ (∀g,(Value.slice ab 11 cb).ownBlock=some g-> g≠F)/\ Below w.heap.size w w6/\ w6.cell? ⟨w.heap.size+1,0,none⟩=some (.pointer (some ⟨w.heap.size,0,none⟩))):=⟨hrow,hgF,b56,hh6⟩
 clear hr6 hbx hFz hrow b56 hd6 hh6 hgF HW5
 go_wp2_with fail
 refine H6.mono ?_
 rintro e w6' ⟨rfl,rfl⟩
 go_wp2_with fail
 refine H7.mono ?_
 rintro e w6'' ⟨rfl,rfl⟩
 clear H6 H7
 go_wp2_with fail
 refine H8.mono ?_
 rintro e w7 ⟨rfl,hr7⟩
 have hs7:=hr7.size
 have H9:=jloose_any w7 j (w.heap.size+2) 11 0 hr7.jn
 have hrow7:w7.ownsRow w5.heap.size 5 1 (.slice ab 11 cb) 11 bs:=jown_block HR6.out.1 (λg hg=>hr7.blk g (World.ownsRow.lt HR6.out.1 g hg).2 (HR6.out.2.1 g hg) (by have:=(World.ownsRow.lt HR6.out.1 g hg).1;omega))
 have hh7:w7.cell? ⟨w.heap.size+1,0,none⟩=some (.pointer (some ⟨w.heap.size,0,none⟩)):=(World.cell?_of_block (a:=⟨w.heap.size+1,0,none⟩) (hr7.blk (w.heap.size+1) (by omega) (by omega) (by omega))).trans HR6.out.2.2.2
 have H10:=files_one w7 (w.heap.size+1) w.heap.size F cpF 11 w5.heap.size jnm ab cb 11 bs (by omega) (by omega) hh7 hr7.bx hrow7 HBs.out.1
 have b7:Below w.heap.size w w7:=⟨hr7.sys.1.trans HR6.out.2.2.1.os,hr7.sys.2.1.trans HR6.out.2.2.1.tape,hr7.sys.2.2.trans HR6.out.2.2.1.output,Nat.le_trans HR6.out.2.2.1.size hs7,λk hk=>(hr7.blk k (by have:=HR6.out.2.2.1.size;omega) (by omega) (by omega)).trans (HR6.out.2.2.1.block k hk)⟩
 have HB7:Hid (Below w.heap.size w w7):=b7
 clear H8 hr7 hrow7 hh7 b7 HR6
 go_wp2_with fail
 refine H9.mono ?_
 rintro e w7' ⟨rfl,rfl⟩
 clear H9
 go_wp2_with fail
 refine H10.mono ?_
 rintro e w8 ⟨G,cG,rfl,g0,g2,hb8⟩
 have HB8:Hid (Below w.heap.size w w8):=HB7.out.trans (hb8.mono HB7.out.size)
 clear H10 hb8 HB7
 go_wp2
 go_ret
 exact⟨by simp,HB8.out⟩
end Go.Proofs.YtllhbhogfffedaaGreatDoor
namespace Go.Proofs.YtllhbhogfffedaaGreatDoor.K
open Go.RowKit
set_option linter.unusedVariables false
set_option linter.unusedSimpArgs false
structure S0 (w:World) (aD aF aN:Addr):Prop where
 er:Er w aD aF aN
 df:aD≠aF
 dn:aD≠aN
 fn:aF≠aN
 cD:∃(ca:Array Value) (ta:TypeId),w.heap[aD.block]?=some (.cells ca ta (0,0))
 cF:∃(ca:Array Value) (ta:TypeId),w.heap[aF.block]?=some (.cells ca ta (0,0))
 cN:∃(ca:Array Value) (ta:TypeId),w.heap[aN.block]?=some (.cells ca ta (0,0))
 tb:Tab6 w
theorem S0.later {w V:World} {aD aF aN:Addr} (h:S0 w aD aF aN) (hb:Below w.heap.size w V):S0 V aD aF aN:=by
 have k:∀{a:Addr},(∃(ca:Array Value) (ta:TypeId),w.heap[a.block]?=some (.cells ca ta (0,0)))-> (∃(ca:Array Value) (ta:TypeId),V.heap[a.block]?=some (.cells ca ta (0,0))):=λ⟨ca,ta,hh⟩=>⟨ca,ta,(hb.block _ (Array.getElem?_eq_some_iff.1 hh).1).trans hh⟩
 exact⟨h.er.below hb,h.df,h.dn,h.fn,k h.cD,k h.cF,k h.cN,h.tb.below hb (tab6_pos h.tb)⟩
theorem S0.snt {W w:World} {F:Nat-> Prop} {aD aF aN:Addr} (h:S0 W aD aF aN) (hb:Below W.heap.size W w) (hF:∀k,F k-> W.heap.size<= k):Snt w F aD aF aN/\ Tab6 w/\ ¬F 4:=by
 have h':=h.later hb
 have n:∀{b:Nat} {v:Value},W.cell? ⟨b,0,none⟩=some v-> ¬F b:=λhc q=>by have:=hF _ q;have:=cell_lt hc;omega
 have m:∀{a:Addr},(∃(ca:Array Value) (ta:TypeId),W.heap[a.block]?=some (.cells ca ta (0,0)))-> ¬F a.block:=λ⟨ca,ta,hh⟩ q=>by have:=hF _ q;have:=(Array.getElem?_eq_some_iff.1 hh).1;omega
 exact⟨⟨h'.er,⟨n h.er.d,n h.er.f,n h.er.n⟩,h.df,h.dn,h.fn,⟨h'.cD,m h.cD⟩,⟨h'.cF,m h.cF⟩,⟨h'.cN,m h.cN⟩⟩,h'.tb,λq=>by have:=hF _ q;have:=tab6_pos h.tb;omega⟩
structure Sj (W:World) (X:Nat-> Prop) (w:World) (D:Dk):Prop where
 bel:Below W.heap.size W w
 xs:∀k,X k-> k < w.heap.size
 hh:X (W.heap.size+1)/\ w.cell? ⟨W.heap.size+1,0,none⟩=some (.pointer (some ⟨W.heap.size,0,none⟩))
 dd:X (W.heap.size+2)/\ w.cell? ⟨W.heap.size+2,0,none⟩=some (.pointer (some ⟨W.heap.size,0,none⟩))
 foot:∃F:Nat-> Prop,Dm w W.heap.size F D/\ ∀k,F k-> W.heap.size<= k/\ ¬X k/\ k < w.heap.size
section
variable {W w V:World} {X:Nat-> Prop} {D D':Dk}
end
section
variable {W w:World} {X:Nat-> Prop} {D:Dk} {aD aF aN:Addr} {B:Nat}
def MJ (W:World) (X:Nat-> Prop) (R:Dk×Nat) (aD aF aN:Addr) (w:World) (e:Ending) (w':World):Prop:=e=.returned (evD aD aF aN R.2)/\ Sj W X w' R.1/\ ∀k,X k-> w'.heap[k]?=w.heap[k]?
def OJ (W:World) (X:Nat-> Prop) (d:Nat) (O:Opn) (aD aF aN:Addr) (w:World) (e:Ending) (w':World):Prop:=
 ∃pj v,e=.returned (.tuple #[pj,v,evD aD aF aN O.r])/\ Sj W X w' O.d/\ (∀k,X k-> w'.heap[k]?=w.heap[k]?)/\ w.heap.size<= w'.heap.size/\ (O.r≠0-> pj=.pointer none/\ v=.slice none 0 0)/\
  (O.r=0-> ∃j os,pj=.pointer (some ⟨j,0,none⟩)/\ Jn w' j d (O.n:Nat) (O.k:Nat)/\ Rl w' w.heap.size v os/\ os.map Ro.r=O.l)
end
theorem number_down (w:World) (F:Nat-> Prop) (aD aF aN:Addr) (h:Snt w F aD aF aN):Calls Tryz.prog 16 #[.iface 218 (.pointer (some aD))] w λe w'=>e=.returned (.int .i64 6)/\ Hid (Below w.heap.size w w'):=by
 have hb:Below w.heap.size w (w.alloc (.cells #[.int .i64 0] 55)):=(Below.refl _ _).alloc (aqH _) _
 have HI:Hid (∀V,Calls Tryz.prog 43 #[.iface 218 (.pointer (some aD)),.iface 218 (.pointer (some aD))] V λe w'=>e=.returned (.bool true)/\ w'=V):=λV=>isSame7 aD V
 have e0:(w.alloc (.cells #[.int .i64 0] 55)).cell? ⟨0,0,none⟩=some (.iface 218 (.pointer (some aD))):=(h.er.below hb).d
 clear h
 go_enter Tryz.func16,Tryz.ntmps16
 go_wp2_with (go_at_call 43;refine(HI.out _).mono ?_;rintro e w9 ⟨rfl,hw9⟩;rw[hw9];clear hw9)
 go_ret
 exact⟨rfl,hb⟩
end Go.Proofs.YtllhbhogfffedaaGreatDoor.K
namespace Go.Proofs.YtllhbhogfffedaaGreatDoor
open Go.RowKit Go.Extern.Stop Go.Stop Go.Extern
set_option linter.unusedVariables false
theorem Tryz.valueOfP (t:Addr) (w:World):(ReflectliteValue.unpack (.iface 105 (.pointer (some t)))).run Tryz.prog w
 =.ok (.agg #[.pointer (some ⟨5,105,none⟩),.pointer (some ⟨w.heap.size,0,none⟩),.int .u64 150]) (w.alloc (.cells #[.pointer (some t)] 105)):=by kernel_rfl
theorem Tryz.typeP (a:Addr) (w:World):(ReflectliteValue.methodAny (ReflectliteValue.valueError "reflectlite.Value.Type" 0) (λt _ _ _=>ReflectliteType.toType t) #[.agg #[.pointer (some ⟨5,105,none⟩),.pointer (some a),.int .u64 150]]).run Tryz.prog w
 =.ok (.iface 172 (.agg #[.pointer (some ⟨5,105,none⟩)])) w:=by kernel_rfl
theorem Tryz.methodKind (h:Value) (w:World):(Go.method 348 172 (.agg #[h]) "Kind").run Tryz.prog w=.ok (157,h) w:=by kernel_rfl
theorem Tryz.kindP (w:World):((ReflectliteType.abiMethod λt=>(λa:Nat=>Value.int IntKind.u8 (a:Int)) <$> Rtype.kind t) #[.pointer (some ⟨5,105,none⟩)]).run Tryz.prog w=.ok (.int .u8 22) w:=by kernel_rfl
theorem Tryz.kindE (w:World):((ReflectliteType.abiMethod λt=>(λa:Nat=>Value.int IntKind.u8 (a:Int)) <$> Rtype.kind t) #[.pointer (some ⟨5,55,none⟩)]).run Tryz.prog w=.ok (.int .u8 2) w:=by kernel_rfl
theorem rlm7 (z:Sem Value) (f:TypeId-> Addr-> Nat-> Nat-> Sem Value) (v:Value):
 ReflectliteValue.method z f #[v]=(do match ←ReflectliteValue.parts v with|none=>z|some (t,a,fl)=>f t a fl (fl % 32)):=rfl
theorem Tryz.partsP (a:Addr) (w:World):(ReflectliteValue.parts (.agg #[.pointer (some ⟨5,105,none⟩),.pointer (some a),.int .u64 150])).run Tryz.prog w=.ok (some (105,a,150)) w:=by kernel_rfl
theorem Tryz.isNilP (a p:Addr) (W:World) (ha:W.cell? a=some (.pointer (some p))):
 (ReflectliteValue.method (ReflectliteValue.valueError "reflectlite.Value.IsNil" 0) ReflectliteValue.isNil #[.agg #[.pointer (some ⟨5,105,none⟩),.pointer (some a),.int .u64 150]]).run Tryz.prog W=.ok (.bool false) W:=by
 rw[rlm7]
 simp only[Sem.run_bind,Tryz.partsP,Result.andThen]
 simp[ReflectliteValue.isNil,loadVar,isAgg,underlying,Tryz.underlying105,ha,Result.andThen]
theorem Tryz.methodElem (h:Value) (w:World):(Go.method 348 172 (.agg #[h]) "Elem").run Tryz.prog w=.ok (168,.agg #[h]) w:=by kernel_rfl
theorem Tryz.methodImplements (h:Value) (w:World):(Go.method 348 172 (.agg #[h]) "Implements").run Tryz.prog w=.ok (169,.agg #[h]) w:=by kernel_rfl
theorem Tryz.methodAssignableTo (h:Value) (w:World):(Go.method 348 172 (.agg #[h]) "AssignableTo").run Tryz.prog w=.ok (166,.agg #[h]) w:=by kernel_rfl
theorem Tryz.elemP (w:World):(ReflectliteType.method ReflectliteType.elem #[.agg #[.pointer (some ⟨5,105,none⟩)]]).run Tryz.prog w=.ok (.iface 172 (.agg #[.pointer (some ⟨5,55,none⟩)])) w:=by kernel_rfl
theorem Tryz.implementsE (w:World):(ReflectliteType.relation "Implements" ReflectliteType.implements_ #[.agg #[.pointer (some ⟨5,55,none⟩)],.iface 172 (.agg #[.pointer (some ⟨5,43,none⟩)])]).run Tryz.prog w=.ok (.bool true) w:=by kernel_rfl
theorem Tryz.typeOfE (v:Value) (w:World):(ReflectliteType.typeOf #[.iface 55 v]).run Tryz.prog w=.ok (.iface 172 (.agg #[.pointer (some ⟨5,55,none⟩)])) w:=by kernel_rfl
theorem Tryz.assignableE (w:World):(ReflectliteType.relation "AssignableTo" ReflectliteType.assignableTo #[.agg #[.pointer (some ⟨5,55,none⟩)],.iface 172 (.agg #[.pointer (some ⟨5,55,none⟩)])]).run Tryz.prog w=.ok (.bool true) w:=by kernel_rfl
theorem Tryz.valueOfE (n:Int) (w:World):(ReflectliteValue.unpack (.iface 55 (.int .i64 n))).run Tryz.prog w
 =.ok (.agg #[.pointer (some ⟨5,55,none⟩),.pointer (some ⟨w.heap.size,0,none⟩),.int .u64 130]) (w.alloc (.cells #[.int .i64 n] 55)):=by kernel_rfl
theorem Tryz.elemOfP (w:World):(Rtype.elem? 105).run Tryz.prog w=.ok (some 55) w:=by kernel_rfl
theorem Tryz.mkE (p:Addr) (w:World):(ReflectliteValue.mk 55 p ReflectliteValue.flagAddr).run Tryz.prog w=.ok (.agg #[.pointer (some ⟨5,55,none⟩),.pointer (some p),.int .u64 386]) w:=by kernel_rfl
theorem Tryz.elemVP (a p:Addr) (W:World) (ha:W.cell? a=some (.pointer (some p))):
 (ReflectliteValue.method (ReflectliteValue.valueError "reflectlite.Value.Elem" 0) ReflectliteValue.elem #[.agg #[.pointer (some ⟨5,105,none⟩),.pointer (some a),.int .u64 150]]).run Tryz.prog W
  =.ok (.agg #[.pointer (some ⟨5,55,none⟩),.pointer (some p),.int .u64 386]) W:=by
 rw[rlm7]
 simp only[Sem.run_bind,Tryz.partsP,Result.andThen]
 simp[ReflectliteValue.elem,loadVar,isAgg,underlying,Tryz.underlying105,ha,Result.andThen,Tryz.elemOfP,Tryz.mkE]
theorem rls7 (v x:Value):ReflectliteValue.set #[v,x]=(do
 let (some (dst,a,fl),some (src,b,_)):=(←ReflectliteValue.parts v,←ReflectliteValue.parts x)
  |unsupported (.noEntry "extern/(internal/reflectlite.Value).Set.zeroValue")
 if fl / ReflectliteValue.flagAddr % 2 == 0 then unsupported (.noEntry "extern/(internal/reflectlite.Value).Set.unaddressable")
 let val ←loadVar src b
 if ←Rtype.directlyAssignable dst src then storeVar dst a val
 else if ←Rtype.implements dst src then
  if (←Rtype.kind src) == 20 then
   match val with
   | .nilIface=>unsupported (.noEntry "extern/reflectlite: a nil value of one interface type handed on as a value of another")
   |_=>storeVar dst a val
  else storeVar dst a (.iface src val)
 else panicString ("reflectlite.Set: value of type "++(←Rtype.spelt src)++ " is not assignable to type "++(←Rtype.spelt dst))
 pure (.tuple #[])):=rfl
theorem Tryz.partsEa (a:Addr) (w:World):(ReflectliteValue.parts (.agg #[.pointer (some ⟨5,55,none⟩),.pointer (some a),.int .u64 386])).run Tryz.prog w=.ok (some (55,a,386)) w:=by kernel_rfl
theorem Tryz.partsE (a:Addr) (w:World):(ReflectliteValue.parts (.agg #[.pointer (some ⟨5,55,none⟩),.pointer (some a),.int .u64 130])).run Tryz.prog w=.ok (some (55,a,130)) w:=by kernel_rfl
theorem Tryz.directE (w:World):(Rtype.directlyAssignable 55 55).run Tryz.prog w=.ok true w:=by kernel_rfl
theorem Tryz.setE (ta b:Addr) (n:Int) (old:Value) (W:World) (hb:W.cell? b=some (.int .i64 n)) (ht:W.cell? ta=some old) (hf:W.frozen? ta=false):
 (ReflectliteValue.set #[.agg #[.pointer (some ⟨5,55,none⟩),.pointer (some ta),.int .u64 386],.agg #[.pointer (some ⟨5,55,none⟩),.pointer (some b),.int .u64 130]]).run Tryz.prog W
  =.ok (.tuple #[]) (W.setCell ta (.int .i64 n)):=by
 rw[rls7]
 simp only[Sem.run_bind,Tryz.partsEa,Tryz.partsE,Result.andThen]
 simp[ReflectliteValue.flagAddr,loadVar,isAgg,underlying,Tryz.underlying55,hb,Result.andThen,Tryz.directE,storeVar,Value.cells,storeCells,Addr.add]
 rw[run_store Tryz.prog W ta _ _ (by rfl)]
 simp[ht,hf]
theorem asHit7 (n:Int) (t:Nat) (old:Value) (w:World) (hg:w.cell? ⟨3,0,none⟩=some (.iface 172 (.agg #[.pointer (some ⟨5,43,none⟩)]))) (ht0:w.cell? ⟨t,0,none⟩=some old) (hf0:w.frozen? ⟨t,0,none⟩=false):
 Calls Tryz.prog 44 #[.iface 55 (.int .i64 n),.iface 105 (.pointer (some ⟨t,0,none⟩))] w λev w'=>ev=.returned (.bool true)/\ w'=((((w.alloc (.cells #[.pointer (some ⟨t,0,none⟩)] 105)).alloc (.cells #[.pointer (some ⟨5,105,none⟩),.pointer (some ⟨w.heap.size,0,none⟩),.int .u64 150] 147)).alloc (.cells #[.pointer (some ⟨5,105,none⟩),.pointer (some ⟨w.heap.size,0,none⟩),.int .u64 150] 147)).alloc (.cells #[.int .i64 n] 55)).setCell ⟨t,0,none⟩ (.int .i64 n):=by
 have h6:=@run_callFunc_extern Tryz.prog 79 _ (λargs=>ReflectliteValue.unpack (args.getD 0 (.tuple #[]))) Tryz.func79 (by kernel_rfl) (by kernel_rfl) (by kernel_rfl) (by kernel_rfl)
 have h7:=@run_callFunc_extern Tryz.prog 80 _ (ReflectliteValue.methodAny (ReflectliteValue.valueError "reflectlite.Value.Type" 0) (λt _ _ _=>ReflectliteType.toType t)) Tryz.func80 (by kernel_rfl) (by kernel_rfl) (by kernel_rfl) (by kernel_rfl)
 have h8:=@run_callFunc_extern Tryz.prog 81 _ (ReflectliteValue.method (ReflectliteValue.valueError "reflectlite.Value.IsNil" 0) ReflectliteValue.isNil) Tryz.func81 (by kernel_rfl) (by kernel_rfl) (by kernel_rfl) (by kernel_rfl)
 have h27:=@run_callFunc_extern Tryz.prog 157 _ (ReflectliteType.abiMethod λt=>do pure (.int .u8 (←Rtype.kind t))) Tryz.func157 (by kernel_rfl) (by kernel_rfl) (by kernel_rfl) (by kernel_rfl)
 have h37:=@run_callFunc_extern Tryz.prog 168 _ (ReflectliteType.method ReflectliteType.elem) Tryz.func168 (by kernel_rfl) (by kernel_rfl) (by kernel_rfl) (by kernel_rfl)
 have h38:=@run_callFunc_extern Tryz.prog 169 _ (ReflectliteType.relation "Implements" ReflectliteType.implements_) Tryz.func169 (by kernel_rfl) (by kernel_rfl) (by kernel_rfl) (by kernel_rfl)
 have h10:=@run_callFunc_extern Tryz.prog 77 _ ReflectliteType.typeOf Tryz.func77 (by kernel_rfl) (by kernel_rfl) (by kernel_rfl) (by kernel_rfl)
 have h35:=@run_callFunc_extern Tryz.prog 166 _ (ReflectliteType.relation "AssignableTo" ReflectliteType.assignableTo) Tryz.func166 (by kernel_rfl) (by kernel_rfl) (by kernel_rfl) (by kernel_rfl)
 have h11:=@run_callFunc_extern Tryz.prog 105 _ (ReflectliteValue.method (ReflectliteValue.valueError "reflectlite.Value.Elem" 0) ReflectliteValue.elem) Tryz.func105 (by kernel_rfl) (by kernel_rfl) (by kernel_rfl) (by kernel_rfl)
 have h12:=@run_callFunc_extern Tryz.prog 106 _ ReflectliteValue.set Tryz.func106 (by kernel_rfl) (by kernel_rfl) (by kernel_rfl) (by kernel_rfl)
 have tO:=Tryz.typeOfE
 have mA:=Tryz.methodAssignableTo
 have a25:=Tryz.assignableE
 have v25:=Tryz.valueOfE
 have f6:=Tryz.valueOfP
 have f7:=Tryz.typeP
 have mK:=Tryz.methodKind
 have mE:=Tryz.methodElem
 have mI:=Tryz.methodImplements
 have k27:=Tryz.kindP
 have k25:=Tryz.kindE
 have e27:=Tryz.elemP
 have i25:=Tryz.implementsE
 have n8:=Tryz.isNilP ⟨w.heap.size,0,none⟩ ⟨t,0,none⟩ ((w.alloc (.cells #[.pointer (some ⟨t,0,none⟩)] 105)).alloc (.cells #[.pointer (some ⟨5,105,none⟩),.pointer (some ⟨w.heap.size,0,none⟩),.int .u64 150] 147)) (by simp)
 have hlt:3 < w.heap.size:=World.block_lt_of_cell? w ⟨3,0,none⟩ hg
 have hg2:((w.alloc (.cells #[.pointer (some ⟨t,0,none⟩)] 105)).alloc (.cells #[.pointer (some ⟨5,105,none⟩),.pointer (some ⟨w.heap.size,0,none⟩),.int .u64 150] 147)).cell? ⟨3,0,none⟩=some (.iface 172 (.agg #[.pointer (some ⟨5,43,none⟩)])):=by
  rw[World.cell?_alloc_lt _ _ ⟨3,0,none⟩ (by simp;omega),World.cell?_alloc_lt _ _ ⟨3,0,none⟩ hlt];exact hg
 have htl:t < w.heap.size:=World.block_lt_of_cell? w ⟨t,0,none⟩ ht0
 have el:=Tryz.elemVP ⟨w.heap.size,0,none⟩ ⟨t,0,none⟩ (((w.alloc (.cells #[.pointer (some ⟨t,0,none⟩)] 105)).alloc (.cells #[.pointer (some ⟨5,105,none⟩),.pointer (some ⟨w.heap.size,0,none⟩),.int .u64 150] 147)).alloc (.cells #[.pointer (some ⟨5,105,none⟩),.pointer (some ⟨w.heap.size,0,none⟩),.int .u64 150] 147)) (by rw[World.cell?_alloc_lt _ _ ⟨w.heap.size,0,none⟩ (by simp;omega)];simp)
 have st:=Tryz.setE ⟨t,0,none⟩ ⟨w.heap.size+1+1+1,0,none⟩ n old ((((w.alloc (.cells #[.pointer (some ⟨t,0,none⟩)] 105)).alloc (.cells #[.pointer (some ⟨5,105,none⟩),.pointer (some ⟨w.heap.size,0,none⟩),.int .u64 150] 147)).alloc (.cells #[.pointer (some ⟨5,105,none⟩),.pointer (some ⟨w.heap.size,0,none⟩),.int .u64 150] 147)).alloc (.cells #[.int .i64 n] 55))
  (by rw[World.cell?_alloc_at _ _ _ _ (by simp)];rfl)
  (by rw[World.cell?_alloc_lt _ _ ⟨t,0,none⟩ (by simp;omega),World.cell?_alloc_lt _ _ ⟨t,0,none⟩ (by simp;omega),World.cell?_alloc_lt _ _ ⟨t,0,none⟩ (by simp;omega),World.cell?_alloc_lt _ _ ⟨t,0,none⟩ htl];exact ht0)
  (by rw[World.frozen?_alloc_old _ _ ⟨t,0,none⟩ (by simp;omega),World.frozen?_alloc_old _ _ ⟨t,0,none⟩ (by simp;omega),World.frozen?_alloc_old _ _ ⟨t,0,none⟩ (by simp;omega),World.frozen?_alloc_old _ _ ⟨t,0,none⟩ (Nat.ne_of_lt htl)];exact hf0)
 go_enter Tryz.func44,Tryz.ntmps44
 go_wp2
 refine wp_loop_rounds 1 ?_
 rw[rounds_succ]
 go_wp2
 go_ret
 exact⟨rfl,rfl⟩
theorem isErrno7 (n:Int) (b:Addr) (w:World):
 Calls Tryz.prog 43 #[.iface 55 (.int .i64 n),.iface 218 (.pointer (some b))] w λe w'=>e=.returned (.bool false)/\ w'=w:=by
 have k1:=@run_callFunc_extern Tryz.prog 77 _ Extern.ReflectliteType.typeOf Tryz.func77 (by kernel_rfl) (by kernel_rfl) (by kernel_rfl) (by kernel_rfl)
 have k2:∀(w:World),(callFunc 167 #[.agg #[.pointer (some ⟨5,218,none⟩)]]).run Tryz.prog w=.ok (.value (.bool true)) w:=by
  intro w
  have q:=@run_callFunc_extern Tryz.prog 167 _ (Extern.ReflectliteType.method λt=>do Extern.Rtype.noPackHeld "Comparable" t;pure (.bool (←typeInfo t).comparable)) Tryz.func167 (by kernel_rfl) (by kernel_rfl) (by kernel_rfl) (by kernel_rfl)
  rw[q]
  have q':((Extern.ReflectliteType.method λt=>do Extern.Rtype.noPackHeld "Comparable" t;pure (.bool (←typeInfo t).comparable)) #[.agg #[.pointer (some ⟨5,218,none⟩)]]).run Tryz.prog w=.ok (.bool true) w:=by kernel_rfl
  rw[q']
  rfl
 have k3:∀(v:Value) (w:World),(Extern.ReflectliteType.typeOf #[.iface 218 v]).run Tryz.prog w=.ok (.iface 172 (.agg #[.pointer (some ⟨5,218,none⟩)])) w:=by intro v w;kernel_rfl
 have k5:∀(v:Value) (w:World),(Go.method 348 172 v "Comparable").run Tryz.prog w=.ok (167,v) w:=by intro v w;kernel_rfl
 have k6:=run_eql_iface_types (P:=Tryz.prog) 55 218 (.int .i64 n) (.pointer (some b)) Tryz.underlying43 (by decide) w
 have n1:∀(v:Value) (xT:TypeId) (w:World),(Instr.typeAssert (.iface 55 v) xT 174 true).run Tryz.prog w=.ok (.tuple #[.nilIface,.bool false]) w:=λv xT w=>run_typeAssert_lacksB Tryz.underlying174 (by kernel_rfl) (by kernel_rfl) v xT w
 have n2:∀(v:Value) (xT:TypeId) (w:World),(Instr.typeAssert (.iface 55 v) xT 177 true).run Tryz.prog w=.ok (.tuple #[.nilIface,.bool false]) w:=λv xT w=>run_typeAssert_lacksB Tryz.underlying177 (by kernel_rfl) (by kernel_rfl) v xT w
 have n3:∀(v:Value) (xT:TypeId) (w:World),(Instr.typeAssert (.iface 55 v) xT 178 true).run Tryz.prog w=.ok (.tuple #[.nilIface,.bool false]) w:=λv xT w=>run_typeAssert_lacksB Tryz.underlying178 (by kernel_rfl) (by kernel_rfl) v xT w
 go_enter Tryz.func43,Tryz.ntmps43
 go_wp2
 refine wp_loop_rounds 1 ?_
 rw[rounds_succ]
 go_wp2
 go_ret
 exact⟨rfl,rfl⟩
end Go.Proofs.YtllhbhogfffedaaGreatDoor
namespace Go.Proofs.YtllhbhogfffedaaGreatDoor.K
open Go.RowKit
set_option linter.unusedVariables false
set_option linter.unusedSimpArgs false
structure Jl where
 n:Nat
 k:Nat
 dead:Bool
abbrev jbO (d:Nat) (J:Jl):Array Value:=#[.pointer (some ⟨d,0,none⟩),.int .i64 J.n,.int .i64 J.k,.bool J.dead]
def Jb (w:World) (j d:Nat) (J:Jl):Prop:=w.heap[j]?=some (.cells (jbO d J) 100 (0,0))
theorem Jb.c {w:World} {j d:Nat} {J:Jl} (h:Jb w j d J) (i:Nat):w.cell? ⟨j,i,none⟩=(jbO d J)[i]?:=cell_of_row _ _ i _ _ _ h
theorem Jb.z {w:World} {j d:Nat} {J:Jl} (h:Jb w j d J) (i:Nat):w.frozen? ⟨j,i,none⟩=false:=frozen_of_row _ _ i _ _ h
theorem Jb.lt {w:World} {j d:Nat} {J:Jl} (h:Jb w j d J):j < w.heap.size:=(Array.getElem?_eq_some_iff.1 h).1
def evJ (aD aF aN:Addr) (c:Nat):Value:=if c<= 3 then evD aD aF aN c else .iface 55 (.int .i64 c)
theorem evJ_nil {aD aF aN:Addr}:evJ aD aF aN 0=.nilIface:=rfl
theorem evJ_d {aD aF aN:Addr} {r:Nat} (h:r<= 3):evJ aD aF aN r=evD aD aF aN r:=if_pos h
theorem evJ_e {aD aF aN:Addr} {r:Nat} (h:3 < r):evJ aD aF aN r=.iface 55 (.int .i64 r):=if_neg (by omega)
def frE (J:Jl) (l:List Rc):Nat:=if J.dead=true then 70 else if l.all mayB6=true then 0 else 60
theorem frE_live {J:Jl} {l:List Rc} (h:frE J l=0):J.dead=false/\ fmR l=(l.flatMap frB,0):=by
 unfold frE at h
 by_cases h1:J.dead=true
 ·rw[if_pos h1] at h;cases h
 ·rw[if_neg h1] at h
  by_cases h2:l.all mayB6=true
  ·exact⟨by simpa using h1,by unfold fmR;rw[if_pos h2]⟩
  ·rw[if_neg h2] at h;cases h
def FrP (J:Jl) (l:List Rc) (aD aF aN:Addr) (w:World) (e:Ending) (w':World):Prop:=
 ∃v,e=.returned (.tuple #[v,evJ aD aF aN (frE J l)])/\ (frE J l=0-> w'.ownsRow w.heap.size 5 1 v (l.flatMap frB).length ((l.flatMap frB).map (Value.int .u8)))/\ (frE J l≠0-> v=.slice none 0 0)/\ Below w.heap.size w w'
theorem jframes_any (w:World) (j d:Nat) (J:Jl) (l:List Rc) (a:Option Addr) (n c:Nat) (aD aF aN:Addr) (hT:Tab6 w) (hl:l.length=n) (hn:n<= 1048576) (ha:RLin w a l) (hd:∀r∈l,Bytey r.data) (h:Jb w j d J):
 Calls Tryz.prog 45 #[.pointer (some ⟨j,0,none⟩),.slice a n c] w λe w'=>FrP J l aD aF aN w e w':=by
 have HF:=frame_any l a n c w hT hl hn ha hd
 have c3:w.cell? ⟨j,3,none⟩=some (.bool J.dead):=h.c 3
 clear hT hl ha hd h
 cases hdd:J.dead with
 |true=>
  have HE:Hid (frE J l=70):=by show _=_;unfold frE;rw[if_pos hdd]
  rw[hdd] at c3
  clear HF hdd
  go_enter Tryz.func45,Tryz.ntmps45
  go_wp2
  refine bodyPost_ret (v:=.tuple #[.slice none 0 0,.iface 55 (.int .i64 70)]) (by simp[results,Tryz.results45,go_sem]) rfl ?_
  exact⟨_,by rw[HE.out];rfl,λh=>(by rw[HE.out] at h;cases h),λ_=>rfl,Below.refl _ _⟩
 |false=>
  rw[hdd] at c3
  by_cases hm:l.all mayB6=true
  ·have HE:Hid (frE J l=0):=by show _=_;unfold frE;rw[if_neg (by simp[hdd]),if_pos hm]
   have hfm:fmR l=(l.flatMap frB,0):=by unfold fmR;rw[if_pos hm]
   rw[hfm] at HF
   unfold PrPost at HF
   clear hfm hm hdd
   go_enter Tryz.func45,Tryz.ntmps45
   go_wp2_with (go_at_call 83;refine HF.mono ?_;rintro e w2 ⟨v2,rfl,ho2,hb2⟩)
   refine bodyPost_ret (v:=.tuple #[v2,.nilIface]) (by simp[results,Tryz.results45,go_sem]) rfl ?_
   exact⟨_,by rw[HE.out];rfl,λ_=>ho2,λh=>absurd HE.out h,hb2⟩
  ·have HE:Hid (frE J l=60):=by show _=_;unfold frE;rw[if_neg (by simp[hdd]),if_neg hm]
   have hfm:fmR l=([],60):=by unfold fmR;rw[if_neg hm]
   rw[hfm] at HF
   unfold PrPost at HF
   clear hfm hm hdd
   go_enter Tryz.func45,Tryz.ntmps45
   go_wp2_with (go_at_call 83;refine HF.mono ?_;rintro e w2 ⟨v2,rfl,ho2,hb2⟩)
   refine bodyPost_ret (v:=.tuple #[.slice none 0 0,.iface 55 (.int .i64 60)]) (by simp[results,Tryz.results45,go_sem]) rfl ?_
   exact⟨_,by rw[HE.out];rfl,λh=>(by rw[HE.out] at h;cases h),λ_=>rfl,hb2⟩
def hdJ (J:Jl) (r:Nat):Jl:=if r=2 then ⟨0,0,true⟩ else J
theorem heard_any (w:World) (j d:Nat) (J:Jl) (r:Nat) (F:Nat-> Prop) (aD aF aN:Addr) (hr:r<= 3) (hS:Snt w F aD aF aN) (h:Jb w j d J):
 Calls Tryz.prog 46 #[.pointer (some ⟨j,0,none⟩),evD aD aF aN r] w λe w'=>e=.returned (evD aD aF aN r)/\ Jb w' j d (hdJ J r)/\ Kd (λk=>k=j) w w':=by
 have HI:=isDown_any w F aD aF aN r hr hS
 have c1:w.cell? ⟨j,1,none⟩=some (.int .i64 J.n):=h.c 1
 have c2:w.cell? ⟨j,2,none⟩=some (.int .i64 J.k):=h.c 2
 have c3:w.cell? ⟨j,3,none⟩=some (.bool J.dead):=h.c 3
 have z1:=h.z 1
 have z2:=h.z 2
 have z3:=h.z 3
 have e0:w.cell? ⟨0,0,none⟩=some (.iface 218 (.pointer (some aD))):=hS.er.d
 have HB:Hid (Jb w j d J):=h
 unfold errV at HI
 obtain⟨ev,hev⟩:∃ev,evD aD aF aN r=ev:=⟨_,rfl⟩
 rw[hev] at HI ⊢
 clear hev hS h
 by_cases h2:r=2
 ·have hb:decide (r=2)=true:=by simp[h2]
  have HE:Hid (hdJ J r=⟨0,0,true⟩):=by show _=_;unfold hdJ;rw[if_pos h2]
  rw[hb] at HI
  clear hb h2
  have HW:Hid (Jb (((w.setCell ⟨j,3,none⟩ (.bool true)).setCell ⟨j,1,none⟩ (.int .i64 0)).setCell ⟨j,2,none⟩ (.int .i64 0)) j d ⟨0,0,true⟩/\ Kd (λk=>k=j) w (((w.setCell ⟨j,3,none⟩ (.bool true)).setCell ⟨j,1,none⟩ (.int .i64 0)).setCell ⟨j,2,none⟩ (.int .i64 0))):=by
   refine⟨?_,?_⟩
   ·have e1:(w.setCell ⟨j,3,none⟩ (.bool true)).heap[j]?=_:=heap_setCell_same w j 3 _ _ _ HB.out
    have e2:((w.setCell ⟨j,3,none⟩ (.bool true)).setCell ⟨j,1,none⟩ (.int .i64 0)).heap[j]?=_:=heap_setCell_same _ j 1 _ _ _ e1
    exact heap_setCell_same _ j 2 _ _ _ e2
   ·exact((Kd.set (F:=λk=>k=j) (a:=w) (i:=3) (v:=.bool true) rfl).trans (Kd.set rfl)).trans (Kd.set rfl)
  go_enter Tryz.func46,Tryz.ntmps46
  go_wp2_with (go_at_call 43;refine HI.mono ?_;rintro e w9 ⟨rfl,hw9⟩;rw[hw9];clear hw9)
  go_ret
  exact⟨rfl,by rw[HE.out];exact HW.out.1,HW.out.2⟩
 ·have hb:decide (r=2)=false:=by simp[h2]
  have HE:Hid (hdJ J r=J):=by show _=_;unfold hdJ;rw[if_neg h2]
  rw[hb] at HI
  clear hb h2
  go_enter Tryz.func46,Tryz.ntmps46
  go_wp2_with (go_at_call 43;refine HI.mono ?_;rintro e w9 ⟨rfl,hw9⟩;rw[hw9];clear hw9)
  go_ret
  exact⟨rfl,by rw[HE.out];exact HB.out,Kd.refl _ _⟩
def wrS (D:Dk) (J:Jl) (sync:Bool):Dk×Jl×Nat:=
 if sync=false∨J.k=0 then (D,J,0)
 else if (fileD D jN (λi=>synF D.fs i)).2=0 then ((fileD D jN (λi=>synF D.fs i)).1,⟨J.n,0,J.dead⟩,0)
 else ((fileD D jN (λi=>synF D.fs i)).1,hdJ J (fileD D jN (λi=>synF D.fs i)).2,(fileD D jN (λi=>synF D.fs i)).2)
def wrA (D:Dk) (J:Jl) (l:List Rc) (sync:Bool):Dk×Jl×Nat:=
 if l.length=0 then wrS D J sync
 else if (appD D jN (l.flatMap frB)).2=0 then wrS (appD D jN (l.flatMap frB)).1 ⟨J.n+(l.flatMap frB).length,J.k+(l.flatMap frB).length,J.dead⟩ sync
 else ((appD D jN (l.flatMap frB)).1,hdJ J (appD D jN (l.flatMap frB)).2,(appD D jN (l.flatMap frB)).2)
def wrX (D:Dk) (J:Jl) (l:List Rc) (sync:Bool):Dk×Jl×Nat:=if frE J l=0 then wrA D J l sync else (D,J,frE J l)
structure Wj (w V:World) (d x j:Nat) (F:Nat-> Prop) (D:Dk) (J:Jl):Prop where
 foot:∃F':Nat-> Prop,Dm V x F' D/\ ∀k,F' k-> (F k∨w.heap.size<= k)/\ k < V.heap.size
 jb:Jb V j d J
 kd:Kd (λk=>F k∨k=j) w V
structure W0 (w:World) (d x j:Nat) (F:Nat-> Prop) (aD aF aN:Addr):Prop where
 s:Snt w F aD aF aN
 c:w.cell? ⟨d,0,none⟩=some (.pointer (some ⟨x,0,none⟩))
 nd:¬F d
 nj:¬F j
 dj:d≠j
 jl:j < w.heap.size
 js:j≠aD.block/\ j≠aF.block/\ j≠aN.block/\ j≠0/\ j≠1/\ j≠2
section
variable {w V U:World} {d x j:Nat} {F:Nat-> Prop} {D D':Dk} {J J':Jl} {aD aF aN:Addr}
theorem Wj.start (h:Dm w x F D) (hj:Jb w j d J):Wj w w d x j F D J:=⟨⟨fc F w,h.fc,λk q=>⟨.inl q.1,q.2⟩⟩,hj,Kd.refl _ _⟩
theorem Wj.below (h:Wj w V d x j F D J) (hb:Below V.heap.size V U):Wj w U d x j F D J:=by
 obtain⟨F',h1,h2⟩:=h.foot
 exact⟨⟨F',h1.below hb,λk q=>⟨(h2 k q).1,Nat.lt_of_lt_of_le (h2 k q).2 hb.size⟩⟩,(hb.block _ h.jb.lt).trans h.jb,h.kd.trans (Kd.below hb)⟩
theorem Wj.callF {F':Nat-> Prop} (h:Wj w V d x j F D J) (h0:W0 w d x j F aD aF aN) (h2:∀k,F' k-> (F k∨w.heap.size<= k)/\ k < V.heap.size):Snt V F' aD aF aN/\ V.cell? ⟨d,0,none⟩=some (.pointer (some ⟨x,0,none⟩))/\ ¬F' d/\ ¬F' j/\ ∀U D',Dm U x (up F' V) D'-> Kd F' V U-> Wj w U d x j F D' J:=by
 have n:∀{k},k < w.heap.size-> ¬F k-> ¬F' k:=λhk hn q=>(h2 _ q).1.elim hn (λq=>by omega)
 have hS:=h0.s
 have g:∀{b:Nat} {v:Value},w.cell? ⟨b,0,none⟩=some v-> ¬F b-> b≠j-> V.cell? ⟨b,0,none⟩=some v/\ ¬F' b:=λhc hn hj=>⟨h.kd.cell hc (λq=>q.elim hn hj),n (cell_lt hc) hn⟩
 have k:∀{a:Addr},((∃(ca:Array Value) (ta:TypeId),w.heap[a.block]?=some (.cells ca ta (0,0)))/\ ¬F a.block)-> j≠a.block-> ((∃(ca:Array Value) (ta:TypeId),V.heap[a.block]?=some (.cells ca ta (0,0)))/\ ¬F' a.block):=λ⟨⟨ca,ta,hh⟩,hn⟩ hj=>⟨⟨ca,ta,(h.kd.same _ (Array.getElem?_eq_some_iff.1 hh).1 (λq=>q.elim hn (λq=>hj q.symm))).trans hh⟩,n (Array.getElem?_eq_some_iff.1 hh).1 hn⟩
 obtain⟨j1,j2,j3,j4,j5,j6⟩:=h0.js
 have gD:=g hS.er.d hS.nf.1 (λe=>j4 e.symm)
 have gF:=g hS.er.f hS.nf.2.1 (λe=>j5 e.symm)
 have gN:=g hS.er.n hS.nf.2.2 (λe=>j6 e.symm)
 have gd:=g h0.c h0.nd h0.dj
 refine⟨⟨⟨gD.1,gF.1,gN.1⟩,⟨gD.2,gF.2,gN.2⟩,hS.df,hS.dn,hS.fn,k hS.cD j1,k hS.cF j2,k hS.cN j3⟩,gd.1,gd.2,n h0.jl h0.nj,λU D' hD hK=>?_⟩
 have hv:=h.kd.size
 refine⟨⟨fc (up F' V) U,hD.fc,λk q=>⟨Or.elim q.1 (λq=>(h2 k q).1) (λq=>.inr (by omega)),q.2⟩⟩,(hK.same _ h.jb.lt (n h0.jl h0.nj)).trans h.jb,Kd.next h.kd hK (λk q=>(h2 k q).1.elim (λq=>.inl (.inl q)) .inr)⟩
theorem Wj.call (h:Wj w V d x j F D J) (h0:W0 w d x j F aD aF aN):∃F',Dm V x F' D/\ (∀k,F' k-> (F k∨w.heap.size<= k)/\ k < V.heap.size)/\ Snt V F' aD aF aN/\ V.cell? ⟨d,0,none⟩=some (.pointer (some ⟨x,0,none⟩))/\ ¬F' d/\ ¬F' j/\ ∀U D',Dm U x (up F' V) D'-> Kd F' V U-> Wj w U d x j F D' J:=by
 obtain⟨F',h1,h2⟩:=h.foot
 exact⟨F',h1,h2,h.callF h0 h2⟩
theorem Wj.jour (h:Wj w V d x j F D J) (h0:W0 w d x j F aD aF aN) (hj:Jb U j d J') (hK:Kd (λk=>k=j) V U):Wj w U d x j F D J':=by
 obtain⟨F',h1,h2⟩:=h.foot
 have nj:¬F' j:=λq=>(h2 _ q).1.elim h0.nj (λq=>by have:=h0.jl;omega)
 exact⟨⟨F',h1.same (λk q hk=>hK.same k hk (λe=>nj (e ▸ q))),λk q=>⟨(h2 k q).1,Nat.lt_of_lt_of_le (h2 k q).2 hK.size⟩⟩,hj,Kd.next h.kd hK (λk q=>.inl (.inr q))⟩
end
theorem jb_set1 {V:World} {j d:Nat} {J:Jl} {n:Nat} (h:Jb V j d J):Jb (V.setCell ⟨j,1,none⟩ (.int .i64 n)) j d ⟨n,J.k,J.dead⟩:=heap_setCell_same _ j 1 _ _ _ h
theorem jb_set2 {V:World} {j d:Nat} {J:Jl} {n:Nat} (h:Jb V j d J):Jb (V.setCell ⟨j,2,none⟩ (.int .i64 n)) j d ⟨J.n,n,J.dead⟩:=heap_setCell_same _ j 2 _ _ _ h
theorem kd_set {V:World} {j i:Nat} {v:Value}:Kd (λk=>k=j) V (V.setCell ⟨j,i,none⟩ v):=Kd.set rfl
def WrP (w:World) (d x j:Nat) (F:Nat-> Prop) (R:Dk×Jl×Nat) (aD aF aN:Addr) (e:Ending) (w':World):Prop:=e=.returned (evJ aD aF aN R.2.2)/\ Wj w w' d x j F R.1 R.2.1
theorem appD_r (D:Dk) (s:ByteArray) (zs:List Int):(appD D s zs).2<= 3:=by
 have ha:actR D<= 3:=by unfold actR;split<;>omega
 unfold appD
 split
 ·simp
 ·split
  ·simp
  ·exact ha
theorem jwrite_any (w:World) (d x j:Nat) (F:Nat-> Prop) (D:Dk) (J:Jl) (B:Nat) (aD aF aN:Addr) (l:List Rc) (a:Option Addr) (n c:Nat) (sync:Bool) (h:Dm w x F D) (hk:D.Ok B) (hB:B<= 549755813888) (h0:W0 w d x j F aD aF aN) (hj:Jb w j d J) (hT:Tab6 w) (hl:l.length=n) (hn:n<= 1048576) (ha:RLin w a l) (hd:∀r∈l,Bytey r.data) (hJn:J.n<= 549755813888) (hJk:J.k<= 549755813888) (hlb:frE J l=0-> (l.flatMap frB).length<= 137438953472):
 Calls Tryz.prog 17 #[.pointer (some ⟨j,0,none⟩),.slice a n c,.bool sync] w λe w'=>WrP w d x j F (wrX D J l sync) aD aF aN e w':=by
 have HFR:=jframes_any w j d J l a n c aD aF aN hT hl hn ha hd hj
 unfold FrP at HFR
 obtain⟨R,hR⟩:∃R,wrX D J l sync=R:=⟨_,rfl⟩
 rw[hR]
 unfold wrX at hR
 have H0:Hid (W0 w d x j F aD aF aN/\ D.Ok B/\ Wj w w d x j F D J):=⟨h0,hk,Wj.start h hj⟩
 have HFC:Hid (Dm w x (fc F w) D):=h.fc
 have HL:Hid (l.length=n):=hl
 have hby:frE J l=0-> Bytey (l.flatMap frB):=λq=>by
  have:=(frE_live q).2
  refine fr_bytey (λr hr=>⟨?_,hd r hr⟩)
  unfold fmR at this
  by_cases hm:l.all mayB6=true
  ·exact List.all_eq_true.mp hm r hr
  ·rw[if_neg hm] at this;have:=congrArg Prod.snd this;simp at this
 clear h hk h0 hj hT hl ha hd
 by_cases hfe:frE J l=0
 case neg=>
  rw[if_neg hfe] at hR
  have HR:Hid (R=(D,J,frE J l)):=hR.symm
  have hgt:3 < frE J l:=by
   unfold frE at hfe ⊢
   split
   ·omega
   ·rename_i q
    rw[if_neg q] at hfe
    split
    ·rename_i q2;rw[if_pos q2] at hfe;exact absurd rfl hfe
    ·omega
  rw[evJ_e hgt] at HFR
  have HFE:Hid (frE J l≠0/\ evJ aD aF aN (frE J l)=.iface 55 (.int .i64 (frE J l:Nat))):=⟨hfe,evJ_e hgt⟩
  generalize frE J l=fe at*
  clear hR hby hfe hgt hlb
  go_enter Tryz.func17,Tryz.ntmps17
  go_wp2_with (go_at_call 45;refine HFR.mono ?_;rintro e V1 ⟨v1,rfl,-,hv1,hb1⟩;have HB1:Hid (Below w.heap.size w V1):=hb1;have hv1':=hv1 HFE.out.1;subst hv1';clear hv1 hb1)
  go_ret
  exact⟨by rw[HR.out];exact(congrArg Ending.returned HFE.out.2).symm,by rw[HR.out];exact H0.out.2.2.below HB1.out⟩
 case pos=>
  rw[if_pos hfe] at hR
  have hlb:=hlb hfe
  have HBY:Hid (Bytey (l.flatMap frB)/\ J.dead=false):=⟨hby hfe,(frE_live hfe).1⟩
  rw[hfe,evJ_nil] at HFR
  simp only[true_implies,ne_eq,not_true,false_implies,true_and] at HFR
  clear hby hfe
  go_enter Tryz.func17,Tryz.ntmps17
  go_wp2_with fail
  refine HFR.mono ?_
  clear HFR
  rintro e V1 ⟨v1,rfl,ho1,hb1⟩
  have hW1:=H0.out.2.2.below hb1
  have hw1:=hb1.size
  have HF1:Hid (Dm V1 x (fc F w) D):=HFC.out.below hb1
  unfold wrA at hR
  obtain⟨bs,hbs⟩:∃bs,l.flatMap frB=bs:=⟨_,rfl⟩
  rw[hbs] at ho1 hlb hR HBY
  rw[HL.out] at hR
  obtain⟨m,hm⟩:∃m,bs.length=m:=⟨_,rfl⟩
  have HM:Hid (bs.length=m):=hm
  rw[hm] at hR ho1 hlb
  obtain⟨a1,c1,hv1⟩:=d_shape ho1
  subst hv1
  have HO1:Hid (V1.ownsRow w.heap.size 5 1 (.slice a1 m c1) m (bs.map (Value.int .u8))):=ho1
  clear ho1 hb1 hbs hm
  by_cases hn0:n=0
  ·rw[if_pos hn0] at hR
   have hz:¬(0:Int) < (n:Int):=by omega
   have HW2:Hid (Wj w V1 d x j F D J):=hW1
   have hok2:=H0.out.2.1
   clear hn0 hW1
   obtain⟨V2,hV2⟩:∃V,V1=V:=⟨_,rfl⟩
   rw[hV2] at HW2 ⊢
   clear HO1 hV2
   have HV2:Hid (w.heap.size<= V2.heap.size):=HW2.out.kd.size
   obtain⟨D2,hD2⟩:∃D2,D=D2:=⟨_,rfl⟩
   obtain⟨J2,hJ2⟩:∃J2,J=J2:=⟨_,rfl⟩
   have hokB:D2.Ok (B+137438953472):=by rw[←hD2];exact hok2.up (by omega)
   have hJ2n:J2.n<= 1099511627776/\ J2.k<= 1099511627776:=by rw[←hJ2];omega
   rw[hD2,hJ2] at HW2 hR
   clear hok2 hD2 hJ2
   unfold wrS at hR
   have k0:V2.cell? ⟨j,0,none⟩=some (.pointer (some ⟨d,0,none⟩)):=HW2.out.jb.c 0
   have k2:V2.cell? ⟨j,2,none⟩=some (.int .i64 J2.k):=HW2.out.jb.c 2
   cases sync with
   |false=>
    rw[if_pos (.inl rfl)] at hR
    have HR:Hid (R=(D2,J2,0)):=hR.symm
    clear hR
    go_wp2
    go_ret
    exact⟨by rw[HR.out];rfl,by rw[HR.out];exact HW2.out⟩
   |true=>
    by_cases hk0:J2.k=0
    case pos=>
     rw[if_pos (.inr hk0)] at hR
     have HR:Hid (R=(D2,J2,0)):=hR.symm
     rw[hk0] at k2
     clear hR hk0
     go_wp2
     go_ret
     exact⟨by rw[HR.out];rfl,by rw[HR.out];exact HW2.out⟩
    case neg=>
     rw[if_neg (by simp[hk0])] at hR
     have hkz:¬(J2.k:Int)=0:=by omega
     obtain⟨F5,h51,h52,hS5,hc5,nd5,nj5,hnext5⟩:=HW2.out.call H0.out.1
     have HSY:=dSync_any V2 d x F5 D2 jN (B+137438953472) aD aF aN h51 hokB (by omega) hc5 nd5 hS5.er hS5.nf
     have hrr:=fileD_r D2 jN (λi=>synF D2.fs i)
     obtain⟨⟨D5,r5⟩,hR5⟩:∃R:Dk×Nat,fileD D2 jN (λi=>synF D2.fs i)=R:=⟨_,rfl⟩
     unfold MP at HSY
     rw[hR5] at HSY hR hrr
     simp only at HSY hR hrr
     unfold jN at HSY
     have HNX5:Hid (∀U D',Dm U x (up F5 V2) D'-> Kd F5 V2 U-> Wj w U d x j F D' J2):=hnext5
     clear hR5 hnext5 h51 h52 hS5 hc5 nd5 nj5 hk0
     go_wp2_with fail
     refine HSY.mono ?_
     clear HSY
     rintro e V5 ⟨rfl,hD5,hK5⟩
     have hW5:=HNX5.out V5 D5 hD5 hK5
     clear hD5 hK5 HNX5 k0 k2
     obtain⟨F6,-,-,hS6,-,-,-,-⟩:=hW5.call H0.out.1
     have HH:=heard_any V5 j d J2 r5 F6 aD aF aN hrr hS6 hW5.jb
     clear hS6
     obtain⟨ev5,hev5⟩:∃ev,evD aD aF aN r5=ev:=⟨_,rfl⟩
     rw[hev5] at HH ⊢
     have HEV5:Hid (evD aD aF aN r5=ev5/\ r5<= 3/\ Wj w V5 d x j F D5 J2):=⟨hev5,hrr,hW5⟩
     clear hW5 hev5 hrr
     go_wp2_with fail
     refine HH.mono ?_
     clear HH
     rintro e V6 ⟨rfl,hj6,hK6⟩
     have HW6:Hid (Wj w V6 d x j F D5 (hdJ J2 r5)):=HEV5.out.2.2.jour H0.out.1 hj6 hK6
     clear hj6 hK6
     by_cases hr5:r5=0
     case neg=>
      rw[if_neg hr5] at hR
      have HR:Hid (R=(D5,hdJ J2 r5,r5)):=hR.symm
      obtain⟨ae,hae⟩:=evD_some (aD:=aD) (aF:=aF) (aN:=aN) hr5
      have HAE:Hid (evJ aD aF aN r5=.iface 218 (.pointer (some ae))):=by show _=_;rw[evJ_d HEV5.out.2.1,hae]
      have he2:ev5=.iface 218 (.pointer (some ae)):=by rw[←HEV5.out.1,hae]
      rw[he2]
      clear hR hr5 hae he2 HEV5
      go_wp2
      go_ret
      exact⟨by rw[HR.out];exact(congrArg Ending.returned HAE.out).symm,by rw[HR.out];exact HW6.out⟩
     case pos=>
      rw[if_pos hr5] at hR
      have HR:Hid (R=(D5,⟨J2.n,0,J2.dead⟩,0)):=hR.symm
      have he2:ev5=.nilIface:=by rw[←HEV5.out.1,hr5];rfl
      have hdj:hdJ J2 r5=J2:=by rw[hr5];rfl
      rw[he2]
      rw[hdj] at HW6
      clear hR hr5 he2 hdj HEV5
      have k2:V6.cell? ⟨j,2,none⟩=some (.int .i64 J2.k):=HW6.out.jb.c 2
      have z2:=HW6.out.jb.z 2
      have HW7:Hid (Wj w (V6.setCell ⟨j,2,none⟩ (.int .i64 0)) d x j F D5 ⟨J2.n,0,J2.dead⟩):=HW6.out.jour H0.out.1 (jb_set2 (n:=0) HW6.out.jb) kd_set
      go_wp2
      go_ret
      exact⟨by rw[HR.out];rfl,by rw[HR.out];exact HW7.out⟩
  ·rw[if_neg hn0] at hR
   have hz:(0:Int) < (n:Int):=by omega
   clear hn0
   obtain⟨F1,hF1⟩:∃F1,fc F w=F1:=⟨_,rfl⟩
   have h1:=HF1.out
   have h2:∀k,F1 k-> F k/\ k < w.heap.size:=λk q=>by rw[←hF1] at q;exact q
   rw[hF1] at h1
   obtain⟨hS1,hc1,nd1,nj1,hnext⟩:=hW1.callF (F':=F1) H0.out.1 (λk q=>⟨.inl (h2 k q).1,by have:=(h2 k q).2;omega⟩)
   obtain⟨hz1,hnn1,hcc1,hll1⟩:=lies_own (own_low7 HO1.out (Nat.zero_le _))
   have HAP:=dAppend_any V1 d x F1 D jN a1 m c1 bs B aD aF aN h1 H0.out.2.1 (by omega) hc1 nd1 hS1.er hS1.nf HM.out hz1 (λb off hne e q=>by
    have hb:=(World.ownsRow.lt HO1.out b (by rw[e];rfl)).1
    have:=(h2 b q).2
    omega) hnn1 (by omega)
   have hrr:=appD_r D jN bs
   have hok1:(appD D jN bs).1.Ok (B+137438953472):=ok_app H0.out.2.1 HBY.out.1 (by rw[HM.out];omega) (by omega)
   unfold MP at HAP
   obtain⟨⟨D2,r2⟩,hR2⟩:∃R:Dk×Nat,appD D jN bs=R:=⟨_,rfl⟩
   rw[hR2] at HAP hR hrr hok1
   simp only at HAP hR hrr hok1
   unfold jN at HAP
   have HNX:Hid (∀U D',Dm U x (up F1 V1) D'-> Kd F1 V1 U-> Wj w U d x j F D' J):=hnext
   have k0:V1.cell? ⟨j,0,none⟩=some (.pointer (some ⟨d,0,none⟩)):=hW1.jb.c 0
   clear hR2 hnext h1 h2 hF1 HF1 hS1 hc1 nd1 nj1 hz1 hnn1 hcc1 hll1 hW1
   go_wp2_with fail
   refine HAP.mono ?_
   clear HAP
   rintro e V2 ⟨rfl,hD2,hK2⟩
   have hW2:=HNX.out V2 D2 hD2 hK2
   clear hD2 hK2 HNX k0
   obtain⟨F2,-,-,hS2,-,-,-,-⟩:=hW2.call H0.out.1
   have HH:=heard_any V2 j d J r2 F2 aD aF aN hrr hS2 hW2.jb
   clear hS2
   obtain⟨ev,hev⟩:∃ev,evD aD aF aN r2=ev:=⟨_,rfl⟩
   rw[hev] at HH ⊢
   have HEV:Hid (evD aD aF aN r2=ev/\ r2<= 3/\ Wj w V2 d x j F D2 J):=⟨hev,hrr,hW2⟩
   clear hW2 hev hrr
   go_wp2_with fail
   refine HH.mono ?_
   clear HH
   rintro e V3 ⟨rfl,hj3,hK3⟩
   have HW3:Hid (Wj w V3 d x j F D2 (hdJ J r2)):=HEV.out.2.2.jour H0.out.1 hj3 hK3
   clear hj3 hK3
   by_cases hr2:r2=0
   case neg=>
    rw[if_neg hr2] at hR
    have HR:Hid (R=(D2,hdJ J r2,r2)):=hR.symm
    obtain⟨ae,hae⟩:=evD_some (aD:=aD) (aF:=aF) (aN:=aN) hr2
    have HAE:Hid (evJ aD aF aN r2=.iface 218 (.pointer (some ae))):=by show _=_;rw[evJ_d HEV.out.2.1,hae]
    have he2:ev=.iface 218 (.pointer (some ae)):=by rw[←HEV.out.1,hae]
    rw[he2]
    clear hR hr2 hae he2 HEV
    go_wp2
    go_ret
    exact⟨by rw[HR.out];exact(congrArg Ending.returned HAE.out).symm,by rw[HR.out];exact HW3.out⟩
   case pos=>
    rw[if_pos hr2] at hR
    have he2:ev=.nilIface:=by rw[←HEV.out.1,hr2];rfl
    have hdj:hdJ J r2=J:=by rw[hr2];rfl
    rw[he2]
    rw[hdj] at HW3
    clear hr2 he2 hdj HEV
    have k1:V3.cell? ⟨j,1,none⟩=some (.int .i64 J.n):=HW3.out.jb.c 1
    have k2:V3.cell? ⟨j,2,none⟩=some (.int .i64 J.k):=HW3.out.jb.c 2
    have z1:=HW3.out.jb.z 1
    have z2:=HW3.out.jb.z 2
    have q1:IntKind.i64.wrap ((J.n:Int)+(m:Int))=(J.n:Int)+(m:Int):=by rw[IntKind.wrap_i64];omega
    have q2:IntKind.i64.wrap ((J.k:Int)+(m:Int))=(J.k:Int)+(m:Int):=by rw[IntKind.wrap_i64];omega
    obtain⟨V4,hV4⟩:∃V,(V3.setCell ⟨j,1,none⟩ (.int .i64 ((J.n:Int)+(m:Int)))).setCell ⟨j,2,none⟩ (.int .i64 ((J.k:Int)+(m:Int)))=V:=⟨_,rfl⟩
    have HW4:Hid (Wj w V4 d x j F D2 ⟨J.n+m,J.k+m,J.dead⟩):=by
     have e1:=jb_set1 (n:=J.n+m) HW3.out.jb
     have e2:=jb_set2 (n:=J.k+m) e1
     have:=HW3.out.jour H0.out.1 e2 ((kd_set (V:=V3)).trans kd_set)
     rw[show (((J.n+m:Nat):Int))=(J.n:Int)+(m:Int) by omega,show (((J.k+m:Nat):Int))=(J.k:Int)+(m:Int) by omega,hV4] at this
     exact this
    clear HW3
    obtain⟨J4,hJ4⟩:∃J4:Jl,⟨J.n+m,J.k+m,J.dead⟩=J4:=⟨_,rfl⟩
    rw[hJ4] at HW4 hR
    have hokB:=hok1
    clear hJ4 hok1
    go_upto_region 10 with fail
    clear k1 k2 z1 z2 hV4
    unfold wrS at hR
    have k0:V4.cell? ⟨j,0,none⟩=some (.pointer (some ⟨d,0,none⟩)):=HW4.out.jb.c 0
    have k2:V4.cell? ⟨j,2,none⟩=some (.int .i64 J4.k):=HW4.out.jb.c 2
    cases sync with
    |false=>
     rw[if_pos (.inl rfl)] at hR
     have HR:Hid (R=(D2,J4,0)):=hR.symm
     clear hR
     go_wp2
     go_ret
     exact⟨by rw[HR.out];rfl,by rw[HR.out];exact HW4.out⟩
    |true=>
     by_cases hk0:J4.k=0
     case pos=>
      rw[if_pos (.inr hk0)] at hR
      have HR:Hid (R=(D2,J4,0)):=hR.symm
      rw[hk0] at k2
      clear hR hk0
      go_wp2
      go_ret
      exact⟨by rw[HR.out];rfl,by rw[HR.out];exact HW4.out⟩
     case neg=>
      rw[if_neg (by simp[hk0])] at hR
      have hkz:¬(J4.k:Int)=0:=by omega
      obtain⟨F5,h51,h52,hS5,hc5,nd5,nj5,hnext5⟩:=HW4.out.call H0.out.1
      have HSY:=dSync_any V4 d x F5 D2 jN (B+137438953472) aD aF aN h51 hokB (by omega) hc5 nd5 hS5.er hS5.nf
      have hrr:=fileD_r D2 jN (λi=>synF D2.fs i)
      obtain⟨⟨D5,r5⟩,hR5⟩:∃R:Dk×Nat,fileD D2 jN (λi=>synF D2.fs i)=R:=⟨_,rfl⟩
      unfold MP at HSY
      rw[hR5] at HSY hR hrr
      simp only at HSY hR hrr
      unfold jN at HSY
      have HNX5:Hid (∀U D',Dm U x (up F5 V4) D'-> Kd F5 V4 U-> Wj w U d x j F D' J4):=hnext5
      clear hR5 hnext5 h51 h52 hS5 hc5 nd5 nj5 hk0
      go_wp2_with fail
      refine HSY.mono ?_
      clear HSY
      rintro e V5 ⟨rfl,hD5,hK5⟩
      have hW5:=HNX5.out V5 D5 hD5 hK5
      clear hD5 hK5 HNX5 k0 k2
      obtain⟨F6,-,-,hS6,-,-,-,-⟩:=hW5.call H0.out.1
      have HH:=heard_any V5 j d J4 r5 F6 aD aF aN hrr hS6 hW5.jb
      clear hS6
      obtain⟨ev5,hev5⟩:∃ev,evD aD aF aN r5=ev:=⟨_,rfl⟩
      rw[hev5] at HH ⊢
      have HEV5:Hid (evD aD aF aN r5=ev5/\ r5<= 3/\ Wj w V5 d x j F D5 J4):=⟨hev5,hrr,hW5⟩
      clear hW5 hev5 hrr
      go_wp2_with fail
      refine HH.mono ?_
      clear HH
      rintro e V6 ⟨rfl,hj6,hK6⟩
      have HW6:Hid (Wj w V6 d x j F D5 (hdJ J4 r5)):=HEV5.out.2.2.jour H0.out.1 hj6 hK6
      clear hj6 hK6
      by_cases hr5:r5=0
      case neg=>
       rw[if_neg hr5] at hR
       have HR:Hid (R=(D5,hdJ J4 r5,r5)):=hR.symm
       obtain⟨ae,hae⟩:=evD_some (aD:=aD) (aF:=aF) (aN:=aN) hr5
       have HAE:Hid (evJ aD aF aN r5=.iface 218 (.pointer (some ae))):=by show _=_;rw[evJ_d HEV5.out.2.1,hae]
       have he2:ev5=.iface 218 (.pointer (some ae)):=by rw[←HEV5.out.1,hae]
       rw[he2]
       clear hR hr5 hae he2 HEV5
       go_wp2
       go_ret
       exact⟨by rw[HR.out];exact(congrArg Ending.returned HAE.out).symm,by rw[HR.out];exact HW6.out⟩
      case pos=>
       rw[if_pos hr5] at hR
       have HR:Hid (R=(D5,⟨J4.n,0,J4.dead⟩,0)):=hR.symm
       have he2:ev5=.nilIface:=by rw[←HEV5.out.1,hr5];rfl
       have hdj:hdJ J4 r5=J4:=by rw[hr5];rfl
       rw[he2]
       rw[hdj] at HW6
       clear hR hr5 he2 hdj HEV5
       have k2:V6.cell? ⟨j,2,none⟩=some (.int .i64 J4.k):=HW6.out.jb.c 2
       have z2:=HW6.out.jb.z 2
       have HW7:Hid (Wj w (V6.setCell ⟨j,2,none⟩ (.int .i64 0)) d x j F D5 ⟨J4.n,0,J4.dead⟩):=HW6.out.jour H0.out.1 (jb_set2 (n:=0) HW6.out.jb) kd_set
       go_wp2
       go_ret
       exact⟨by rw[HR.out];rfl,by rw[HR.out];exact HW7.out⟩
theorem Wj.drew {w V:World} {d x j:Nat} {F:Nat-> Prop} {D:Dk} {J:Jl} (h:Wj w V d x j F D J):Wj w V.drew d x j F D J:=by
 obtain⟨F',h1,h2⟩:=h.foot
 exact⟨⟨F',h1.same (λk _ _=>rfl),h2⟩,h.jb,h.kd.drew⟩
def TnP (w:World) (d x j:Nat) (F:Nat-> Prop) (J:Jl) (R:Dk×Nat) (aD aF aN:Addr) (e:Ending) (w':World):Prop:=e=.returned (evD aD aF aN R.2)/\ Wj w w' d x j F R.1 J
theorem rw1_any (w:World) (d x j bj bb:Nat) (F:Nat-> Prop) (D:Dk) (J:Jl) (B:Nat) (aD aF aN:Addr) (a:Option Addr) (n c:Nat) (bs:List Int) (h:Dm w x F D) (hF:∀k,F k-> k < w.heap.size) (hj:Jb w j d J) (h0:W0 w d x j F aD aF aN) (hk:D.Ok B) (hB:B<= 1099511627776) (hb:w.cell? ⟨bj,0,none⟩=some (.pointer (some ⟨j,0,none⟩))) (hbb:w.cell? ⟨bb,0,none⟩=some (.slice a n c)) (nbj:¬F bj) (nbb:¬F bb)
 (hl:bs.length=n) (hz:Lies .u8 w a bs) (hzF:∀b off,bs≠[]-> a=some ⟨b,off,none⟩-> ¬F b) (hnn:a=none-> n=0/\ c=0) (hn:n<= 1099511627776):
 Calls Tryz.prog 48 #[.pointer (some ⟨bj,0,none⟩),.pointer (some ⟨bb,0,none⟩)] w λe U=>TnP w d x j F J (appD D jnN bs) aD aF aN e U:=by
 have hW:=(Wj.start h hj).drew
 obtain⟨hS,hc,nd,nj,hnx⟩:=hW.callF (F':=F) h0 (λk q=>⟨.inl q,hF k q⟩)
 have HA:=dAppend_any w.drew d x F D jnN a n c bs B aD aF aN (h.same (λk _ _=>rfl)) hk hB hc nd hS.er hS.nf hl hz hzF hnn hn
 unfold MP at HA
 have k0:w.cell? ⟨j,0,none⟩=some (.pointer (some ⟨d,0,none⟩)):=hj.c 0
 have HNX:Hid (∀U D',Dm U x (up F w.drew) D'-> Kd F w.drew U-> Wj w U d x j F D' J):=hnx
 obtain⟨⟨D2,r⟩,hR⟩:∃R:Dk×Nat,appD D jnN bs=R:=⟨_,rfl⟩
 rw[hR] at HA ⊢
 simp only at HA ⊢
 unfold jnN at HA
 obtain⟨ev,hev⟩:∃ev,evD aD aF aN r=ev:=⟨_,rfl⟩
 have HEV:Hid (evD aD aF aN r=ev):=hev
 rw[hev] at HA
 have HNF:Hid (¬F bj/\ ¬F j/\ ¬F bb):=⟨nbj,h0.nj,nbb⟩
 have HA':Hid (Calls Tryz.prog 25 #[.pointer (some ⟨d,0,none⟩),.string ⟨#[106,111,117,114,110,97,108,46,110,101,119]⟩,.slice a n c] w.drew λe w'=>e=.returned ev/\ Dm w' x (up F w.drew) D2/\ Kd F w.drew w'):=HA
 clear h h0 hk hF hj hS hc nd nj hnx hev hR hl hz hzF hnn hW HA
 go_enter Tryz.func48,Tryz.ntmps48
 go_wp2_with fail
 have HC:Hid (w.cell? ⟨bj,0,none⟩=some (.pointer (some ⟨j,0,none⟩))/\ w.cell? ⟨j,0,none⟩=some (.pointer (some ⟨d,0,none⟩))/\ w.cell? ⟨bb,0,none⟩=some (.slice a n c)):=⟨hb,k0,hbb⟩
 go_region_held3 (λV=>V.cell? ⟨bj,0,none⟩=some (.pointer (some ⟨j,0,none⟩))/\ V.cell? ⟨j,0,none⟩=some (.pointer (some ⟨d,0,none⟩))/\ V.cell? ⟨bb,0,none⟩=some (.slice a n c))
  (first|exact HC.out|exact HU.out)
  (first
   |(go_at_call 25
     refine HA'.out.mono ?_
     rintro e U ⟨rfl,hD,hK⟩
     have HW:Hid (Wj w U d x j F D2 J):=HNX.out U D2 hD hK
     have HU:Hid (U.cell? ⟨bj,0,none⟩=some (.pointer (some ⟨j,0,none⟩))/\ U.cell? ⟨j,0,none⟩=some (.pointer (some ⟨d,0,none⟩))/\ U.cell? ⟨bb,0,none⟩=some (.slice a n c)):=⟨hK.cell HC.out.1 HNF.out.1,hK.cell HC.out.2.1 HNF.out.2.1,hK.cell HC.out.2.2 HNF.out.2.2⟩
     clear hD hK))
 all_goals (
  go_wp2
  go_ret
  exact⟨by rw[HEV.out];rfl,HW.out⟩)
theorem rw2_any (w V:World) (d x j bj:Nat) (F:Nat-> Prop) (D:Dk) (J:Jl) (B:Nat) (aD aF aN:Addr) (h:Wj w V d x j F D J) (h0:W0 w d x j F aD aF aN) (hk:D.Ok B) (hB:B<= 1099511627776) (hb:V.cell? ⟨bj,0,none⟩=some (.pointer (some ⟨j,0,none⟩))):
 Calls Tryz.prog 49 #[.pointer (some ⟨bj,0,none⟩)] V λe U=>TnP w d x j F J (fileD D jnN (λi=>synF D.fs i)) aD aF aN e U:=by
 obtain⟨F',h1,h2,hS,hc,nd,nj,hnx⟩:=h.call h0
 have HA:=dSync_any V d x F' D jnN B aD aF aN h1 hk hB hc nd hS.er hS.nf
 unfold MP at HA
 have k0:V.cell? ⟨j,0,none⟩=some (.pointer (some ⟨d,0,none⟩)):=h.jb.c 0
 have HNX:Hid (∀U D',Dm U x (up F' V) D'-> Kd F' V U-> Wj w U d x j F D' J):=hnx
 obtain⟨⟨D2,r⟩,hR⟩:∃R:Dk×Nat,fileD D jnN (λi=>synF D.fs i)=R:=⟨_,rfl⟩
 rw[hR] at HA ⊢
 simp only at HA ⊢
 unfold jnN at HA
 obtain⟨ev,hev⟩:∃ev,evD aD aF aN r=ev:=⟨_,rfl⟩
 have HEV:Hid (evD aD aF aN r=ev):=hev
 rw[hev] at HA
 clear h h0 hk h1 h2 hS hc nd nj hnx hev hR
 go_enter Tryz.func49,Tryz.ntmps49
 go_wp2_with fail
 refine HA.mono ?_
 clear HA
 rintro e U ⟨rfl,hD,hK⟩
 have HW:Hid (Wj w U d x j F D2 J):=HNX.out U D2 hD hK
 clear hD hK
 go_wp2
 go_ret
 exact⟨by rw[HEV.out];rfl,HW.out⟩
theorem rw3_any (w V:World) (d x j bj:Nat) (F:Nat-> Prop) (D:Dk) (J:Jl) (B:Nat) (aD aF aN:Addr) (h:Wj w V d x j F D J) (h0:W0 w d x j F aD aF aN) (hk:D.Ok B) (hB:B<= 1099511627776) (hb:V.cell? ⟨bj,0,none⟩=some (.pointer (some ⟨j,0,none⟩))):
 Calls Tryz.prog 50 #[.pointer (some ⟨bj,0,none⟩)] V λe U=>TnP w d x j F J (fileD D jnN (λi=>renF D.fs i jN)) aD aF aN e U:=by
 obtain⟨F',h1,h2,hS,hc,nd,nj,hnx⟩:=h.call h0
 have HA:=dRename_any V d x F' D jnN jN B aD aF aN h1 hk hB hc nd hS.er hS.nf
 unfold MP at HA
 have k0:V.cell? ⟨j,0,none⟩=some (.pointer (some ⟨d,0,none⟩)):=h.jb.c 0
 have HNX:Hid (∀U D',Dm U x (up F' V) D'-> Kd F' V U-> Wj w U d x j F D' J):=hnx
 obtain⟨⟨D2,r⟩,hR⟩:∃R:Dk×Nat,fileD D jnN (λi=>renF D.fs i jN)=R:=⟨_,rfl⟩
 rw[hR] at HA ⊢
 simp only at HA ⊢
 unfold jnN jN at HA
 obtain⟨ev,hev⟩:∃ev,evD aD aF aN r=ev:=⟨_,rfl⟩
 have HEV:Hid (evD aD aF aN r=ev):=hev
 rw[hev] at HA
 clear h h0 hk h1 h2 hS hc nd nj hnx hev hR
 go_enter Tryz.func50,Tryz.ntmps50
 go_wp2_with fail
 refine HA.mono ?_
 clear HA
 rintro e U ⟨rfl,hD,hK⟩
 have HW:Hid (Wj w U d x j F D2 J):=HNX.out U D2 hD hK
 clear hD hK
 go_wp2
 go_ret
 exact⟨by rw[HEV.out];rfl,HW.out⟩
def tn3 (D:Dk) (J:Jl):Dk×Jl×Nat:=((fileD D jnN (λi=>renF D.fs i jN)).1,hdJ J (fileD D jnN (λi=>renF D.fs i jN)).2,(fileD D jnN (λi=>renF D.fs i jN)).2)
def tn2 (D:Dk) (J:Jl):Dk×Jl×Nat:=if (fileD D jnN (λi=>synF D.fs i)).2=0 then tn3 (fileD D jnN (λi=>synF D.fs i)).1 J else ((fileD D jnN (λi=>synF D.fs i)).1,hdJ J (fileD D jnN (λi=>synF D.fs i)).2,(fileD D jnN (λi=>synF D.fs i)).2)
def tnX (D:Dk) (J:Jl) (bs:List Int):Dk×Jl×Nat:=if (appD D jnN bs).2=0 then tn2 (appD D jnN bs).1 J else ((appD D jnN bs).1,hdJ J (appD D jnN bs).2,(appD D jnN bs).2)
theorem tn_r (D:Dk) (J:Jl) (bs:List Int):(tnX D J bs).2.2<= 3:=by
 unfold tnX
 split
 ·unfold tn2
  split
  ·exact fileD_r ..
  ·exact fileD_r ..
 ·exact appD_r ..
theorem inTurn_any (w:World) (d x j bj bb g:Nat) (F:Nat-> Prop) (D:Dk) (J:Jl) (B:Nat) (aD aF aN:Addr) (a:Option Addr) (n c:Nat) (bs:List Int) (h:Dm w x F D) (hF:∀k,F k-> k < w.heap.size) (hj:Jb w j d J) (h0:W0 w d x j F aD aF aN) (hk:D.Ok B) (hB:B<= 549755813888) (hb:w.cell? ⟨bj,0,none⟩=some (.pointer (some ⟨j,0,none⟩))) (hbb:w.cell? ⟨bb,0,none⟩=some (.slice a n c)) (nbj:¬F bj) (nbb:¬F bb) (jbj:bj≠j) (ng:¬F g) (jg:g≠j)
 (hl:bs.length=n) (hz:Lies .u8 w a bs) (hby:Bytey bs) (hzF:∀b off,bs≠[]-> a=some ⟨b,off,none⟩-> ¬F b) (hnn:a=none-> n=0/\ c=0) (hn:n<= 137438953472)
 (g0:w.cell? ⟨g,0,none⟩=some (.func (.func 48) #[] #[.pointer (some ⟨bj,0,none⟩),.pointer (some ⟨bb,0,none⟩)])) (g1:w.cell? ⟨g,1,none⟩=some (.func (.func 49) #[] #[.pointer (some ⟨bj,0,none⟩)])) (g2:w.cell? ⟨g,2,none⟩=some (.func (.func 50) #[] #[.pointer (some ⟨bj,0,none⟩)])):
 Calls Tryz.prog 47 #[.pointer (some ⟨j,0,none⟩),.slice (some ⟨g,0,none⟩) 3 3] w λe U=>WrP w d x j F (tnX D J bs) aD aF aN e U:=by
 have HA:=rw1_any w d x j bj bb F D J B aD aF aN a n c bs h hF hj h0 hk (by omega) hb hbb nbj nbb hl hz hzF hnn (by omega)
 have hrr:=appD_r D jnN bs
 have hok1:(appD D jnN bs).1.Ok (B+137438953473):=ok_app hk hby (by rw[hl];omega) (by omega)
 obtain⟨R,hR⟩:∃R,tnX D J bs=R:=⟨_,rfl⟩
 rw[hR]
 unfold tnX at hR
 have H0:Hid (W0 w d x j F aD aF aN/\ w.cell? ⟨bj,0,none⟩=some (.pointer (some ⟨j,0,none⟩))/\ (¬(F bj∨bj=j))/\ (¬(F g∨g=j))/\ w.cell? ⟨g,1,none⟩=some (.func (.func 49) #[] #[.pointer (some ⟨bj,0,none⟩)])/\ w.cell? ⟨g,2,none⟩=some (.func (.func 50) #[] #[.pointer (some ⟨bj,0,none⟩)])):=⟨h0,hb,λq=>q.elim nbj jbj,λq=>q.elim ng jg,g1,g2⟩
 unfold TnP at HA
 obtain⟨⟨D1,r1⟩,hR1⟩:∃R:Dk×Nat,appD D jnN bs=R:=⟨_,rfl⟩
 rw[hR1] at HA hR hrr hok1
 simp only at HA hR hrr hok1
 clear h hF hj h0 hk hb hbb nbj nbb jbj ng jg hl hz hby hzF hnn hR1 g1 g2
 go_enter Tryz.func47,Tryz.ntmps47
 go_wp2_with fail
 refine wp_loop_rounds 4 ?_
 rw[rounds_succ]
 go_wp2_with fail
 refine HA.mono ?_
 clear HA
 rintro e V1 ⟨rfl,hW1⟩
 obtain⟨FF1,-,-,hS1,-,-,-,-⟩:=hW1.call H0.out.1
 have HH:=heard_any V1 j d J r1 FF1 aD aF aN hrr hS1 hW1.jb
 clear hS1
 obtain⟨ev1,hev1⟩:∃ev,evD aD aF aN r1=ev:=⟨_,rfl⟩
 rw[hev1] at HH ⊢
 have HEV1:Hid (evD aD aF aN r1=ev1/\ r1<= 3/\ Wj w V1 d x j F D1 J):=⟨hev1,hrr,hW1⟩
 clear hW1 hev1 hrr
 go_wp2_with fail
 refine HH.mono ?_
 clear HH
 rintro e U1 ⟨rfl,hj1,hK1⟩
 have HU1:Hid (Wj w U1 d x j F D1 (hdJ J r1)):=HEV1.out.2.2.jour H0.out.1 hj1 hK1
 clear hj1 hK1
 by_cases hr1:r1=0
 case neg=>
  rw[if_neg hr1] at hR
  have HR:Hid (R=(D1,hdJ J r1,r1)):=hR.symm
  obtain⟨ae,hae⟩:=evD_some (aD:=aD) (aF:=aF) (aN:=aN) hr1
  have HAE:Hid (evJ aD aF aN r1=.iface 218 (.pointer (some ae))):=by show _=_;rw[evJ_d HEV1.out.2.1,hae]
  have he2:ev1=.iface 218 (.pointer (some ae)):=by rw[←HEV1.out.1,hae]
  rw[he2]
  clear hR hr1 hae he2 HEV1
  go_wp2
  go_ret
  exact⟨by rw[HR.out];exact(congrArg Ending.returned HAE.out).symm,by rw[HR.out];exact HU1.out⟩
 case pos=>
  rw[if_pos hr1] at hR
  have he2:ev1=.nilIface:=by rw[←HEV1.out.1,hr1];rfl
  have hdj:hdJ J r1=J:=by rw[hr1];rfl
  rw[he2]
  rw[hdj] at HU1
  clear hr1 he2 hdj HEV1
  unfold tn2 at hR
  have HB1:=rw2_any w U1 d x j bj F D1 J (B+137438953473) aD aF aN HU1.out H0.out.1 hok1 (by omega) (HU1.out.kd.cell H0.out.2.1 H0.out.2.2.1)
  have hrr:=fileD_r D1 jnN (λi=>synF D1.fs i)
  have hok2:(fileD D1 jnN (λi=>synF D1.fs i)).1.Ok (B+137438953473):=ok_file hok1 (λi=>fsok_syn hok1.files)
  unfold TnP at HB1
  obtain⟨⟨D2,r2⟩,hR2⟩:∃R:Dk×Nat,fileD D1 jnN (λi=>synF D1.fs i)=R:=⟨_,rfl⟩
  rw[hR2] at HB1 hR hrr hok2
  simp only at HB1 hR hrr hok2
  have gg:U1.cell? ⟨g,1,none⟩=_:=HU1.out.kd.cell H0.out.2.2.2.2.1 H0.out.2.2.2.1
  clear hR2
  go_wp2_with fail
  rw[rounds_succ]
  go_wp2_with fail
  clear gg
  refine HB1.mono ?_
  clear HB1
  rintro e V2 ⟨rfl,hW2⟩
  obtain⟨FF2,-,-,hS2,-,-,-,-⟩:=hW2.call H0.out.1
  have HH:=heard_any V2 j d J r2 FF2 aD aF aN hrr hS2 hW2.jb
  clear hS2
  obtain⟨ev2,hev2⟩:∃ev,evD aD aF aN r2=ev:=⟨_,rfl⟩
  rw[hev2] at HH ⊢
  have HEV2:Hid (evD aD aF aN r2=ev2/\ r2<= 3/\ Wj w V2 d x j F D2 J):=⟨hev2,hrr,hW2⟩
  clear hW2 hev2 hrr
  go_wp2_with fail
  refine HH.mono ?_
  clear HH
  rintro e U2 ⟨rfl,hj2,hK2⟩
  have HU2:Hid (Wj w U2 d x j F D2 (hdJ J r2)):=HEV2.out.2.2.jour H0.out.1 hj2 hK2
  clear hj2 hK2
  by_cases hr2:r2=0
  case neg=>
   rw[if_neg hr2] at hR
   have HR:Hid (R=(D2,hdJ J r2,r2)):=hR.symm
   obtain⟨ae,hae⟩:=evD_some (aD:=aD) (aF:=aF) (aN:=aN) hr2
   have HAE:Hid (evJ aD aF aN r2=.iface 218 (.pointer (some ae))):=by show _=_;rw[evJ_d HEV2.out.2.1,hae]
   have he2:ev2=.iface 218 (.pointer (some ae)):=by rw[←HEV2.out.1,hae]
   rw[he2]
   clear hR hr2 hae he2 HEV2
   go_wp2
   go_ret
   exact⟨by rw[HR.out];exact(congrArg Ending.returned HAE.out).symm,by rw[HR.out];exact HU2.out⟩
  case pos=>
   rw[if_pos hr2] at hR
   have he2:ev2=.nilIface:=by rw[←HEV2.out.1,hr2];rfl
   have hdj:hdJ J r2=J:=by rw[hr2];rfl
   rw[he2]
   rw[hdj] at HU2
   clear hr2 he2 hdj HEV2
   unfold tn3 at hR
   have HB2:=rw3_any w U2 d x j bj F D2 J (B+137438953473) aD aF aN HU2.out H0.out.1 hok2 (by omega) (HU2.out.kd.cell H0.out.2.1 H0.out.2.2.1)
   have hrr:=fileD_r D2 jnN (λi=>renF D2.fs i jN)
   have hok3:(fileD D2 jnN (λi=>renF D2.fs i jN)).1.Ok (B+137438953473):=ok_file hok2 (λi=>fsok_ren hok2.files)
   unfold TnP at HB2
   obtain⟨⟨D3,r3⟩,hR3⟩:∃R:Dk×Nat,fileD D2 jnN (λi=>renF D2.fs i jN)=R:=⟨_,rfl⟩
   rw[hR3] at HB2 hR hrr hok3
   simp only at HB2 hR hrr hok3
   have gg:U2.cell? ⟨g,2,none⟩=_:=HU2.out.kd.cell H0.out.2.2.2.2.2 H0.out.2.2.2.1
   clear hR3
   go_wp2_with fail
   rw[rounds_succ]
   go_wp2_with fail
   clear gg
   refine HB2.mono ?_
   clear HB2
   rintro e V3 ⟨rfl,hW3⟩
   obtain⟨FF3,-,-,hS3,-,-,-,-⟩:=hW3.call H0.out.1
   have HH:=heard_any V3 j d J r3 FF3 aD aF aN hrr hS3 hW3.jb
   clear hS3
   obtain⟨ev3,hev3⟩:∃ev,evD aD aF aN r3=ev:=⟨_,rfl⟩
   rw[hev3] at HH ⊢
   have HEV3:Hid (evD aD aF aN r3=ev3/\ r3<= 3/\ Wj w V3 d x j F D3 J):=⟨hev3,hrr,hW3⟩
   clear hW3 hev3 hrr
   go_wp2_with fail
   refine HH.mono ?_
   clear HH
   rintro e U3 ⟨rfl,hj3,hK3⟩
   have HU3:Hid (Wj w U3 d x j F D3 (hdJ J r3)):=HEV3.out.2.2.jour H0.out.1 hj3 hK3
   clear hj3 hK3
   by_cases hr3:r3=0
   case neg=>
    have HR:Hid (R=(D3,hdJ J r3,r3)):=hR.symm
    obtain⟨ae,hae⟩:=evD_some (aD:=aD) (aF:=aF) (aN:=aN) hr3
    have HAE:Hid (evJ aD aF aN r3=.iface 218 (.pointer (some ae))):=by show _=_;rw[evJ_d HEV3.out.2.1,hae]
    have he2:ev3=.iface 218 (.pointer (some ae)):=by rw[←HEV3.out.1,hae]
    rw[he2]
    clear hR hr3 hae he2 HEV3
    go_wp2
    go_ret
    exact⟨by rw[HR.out];exact(congrArg Ending.returned HAE.out).symm,by rw[HR.out];exact HU3.out⟩
   case pos=>
    have HR:Hid (R=(D3,hdJ J r3,r3)):=hR.symm
    have he2:ev3=.nilIface:=by rw[←HEV3.out.1,hr3];rfl
    have HR0:Hid (evJ aD aF aN r3=.nilIface):=by show _=_;rw[hr3];rfl
    rw[he2]
    clear hR hr3 he2 HEV3
    go_wp2_with fail
    rw[rounds_succ]
    go_wp2
    go_ret
    exact⟨by rw[HR.out];exact(congrArg Ending.returned HR0.out).symm,by rw[HR.out];exact HU3.out⟩
def rwA (D:Dk) (J:Jl) (bs:List Int):Dk×Jl×Nat:=if (tnX D J bs).2.2=0 then ((tnX D J bs).1,⟨bs.length,0,(tnX D J bs).2.1.dead⟩,0) else tnX D J bs
def rwX (D:Dk) (J:Jl) (l:List Rc):Dk×Jl×Nat:=if frE J l=0 then rwA D J (l.flatMap frB) else (D,J,frE J l)
theorem Wj.comp {w V U:World} {d x j:Nat} {F F':Nat-> Prop} {D':Dk} {J':Jl} (h:Kd (λk=>F k∨k=j) w V) (hF:∀k,F' k-> F k∨w.heap.size<= k) (h':Wj V U d x j F' D' J'):Wj w U d x j F D' J':=by
 obtain⟨G,h1,h2⟩:=h'.foot
 have hs:=h.size
 exact⟨⟨G,h1,λk q=>⟨(h2 k q).1.elim (hF k) (λq=>.inr (by omega)),(h2 k q).2⟩⟩,h'.jb,Kd.next h h'.kd (λk q=>q.elim (λq=>(hF k q).elim (λq=>.inl (.inl q)) .inr) (λq=>.inl (.inr q)))⟩
theorem W0.later {w V:World} {d x j:Nat} {F:Nat-> Prop} {aD aF aN:Addr} (h:W0 w d x j F aD aF aN) (hb:Below w.heap.size w V):W0 V d x j (fc F w) aD aF aN:=by
 have h':=h.s.kd (Kd.below (F:=F) hb)
 exact⟨⟨h'.er,⟨λq=>h.s.nf.1 q.1,λq=>h.s.nf.2.1 q.1,λq=>h.s.nf.2.2 q.1⟩,h.s.df,h.s.dn,h.s.fn,⟨h'.cD.1,λq=>h'.cD.2 q.1⟩,⟨h'.cF.1,λq=>h'.cF.2 q.1⟩,⟨h'.cN.1,λq=>h'.cN.2 q.1⟩⟩,bel_cell hb h.c,λq=>h.nd q.1,λq=>h.nj q.1,h.dj,Nat.lt_of_lt_of_le h.jl hb.size,h.js⟩
theorem jrewrite_any (w:World) (d x j:Nat) (F:Nat-> Prop) (D:Dk) (J:Jl) (B:Nat) (aD aF aN:Addr) (l:List Rc) (a:Option Addr) (n c:Nat) (h:Dm w x F D) (hk:D.Ok B) (hB:B<= 549755813888) (h0:W0 w d x j F aD aF aN) (hj:Jb w j d J) (hT:Tab6 w) (hl:l.length=n) (hn:n<= 1048576) (ha:RLin w a l) (hd:∀r∈l,Bytey r.data) (hlb:frE J l=0-> (l.flatMap frB).length<= 137438953472):
 Calls Tryz.prog 18 #[.pointer (some ⟨j,0,none⟩),.slice a n c] w λe w'=>WrP w d x j F (rwX D J l) aD aF aN e w':=by
 obtain⟨w0,hw0⟩:∃V,w.alloc (.cells #[.pointer (some ⟨j,0,none⟩)] 29)=V:=⟨_,rfl⟩
 have hb0:Below w.heap.size w w0:=by rw[←hw0];exact(Below.refl _ _).alloc (aqH _) _
 have hs0:w0.heap.size=w.heap.size+1:=by rw[←hw0];simp
 have cb0:w0.cell? ⟨w.heap.size,0,none⟩=some (.pointer (some ⟨j,0,none⟩)):=by
  have:=cell_of_row _ w.heap.size 0 _ _ _ (heap_new6 w (.cells #[.pointer (some ⟨j,0,none⟩)] 29))
  rw[hw0] at this
  exact this
 have hj0:Jb w0 j d J:=(hb0.block _ hj.lt).trans hj
 have HFR:=jframes_any w0 j d J l a n c aD aF aN (hT.below hb0 (tab6_pos hT)) hl hn (ha.below hb0) hd hj0
 unfold FrP at HFR
 obtain⟨R,hR⟩:∃R,rwX D J l=R:=⟨_,rfl⟩
 rw[hR]
 unfold rwX at hR
 have hjl:=hj.lt
 have H0:Hid (W0 w d x j F aD aF aN/\ D.Ok B/\ Wj w w d x j F D J/\ Dm w x (fc F w) D/\ Jb w j d J/\ Below w.heap.size w w0):=⟨h0,hk,Wj.start h hj,h.fc,hj,hb0⟩
 have hby:frE J l=0-> Bytey (l.flatMap frB):=λq=>by
  have:=(frE_live q).2
  refine fr_bytey (λr hr=>⟨?_,hd r hr⟩)
  unfold fmR at this
  by_cases hm:l.all mayB6=true
  ·exact List.all_eq_true.mp hm r hr
  ·rw[if_neg hm] at this;have:=congrArg Prod.snd this;simp at this
 clear h hk h0 hj hT hl ha hd hb0 hj0
 by_cases hfe:frE J l=0
 case neg=>
  rw[if_neg hfe] at hR
  have HR:Hid (R=(D,J,frE J l)):=hR.symm
  have hgt:3 < frE J l:=by
   unfold frE at hfe ⊢
   split
   ·omega
   ·rename_i q
    rw[if_neg q] at hfe
    split
    ·rename_i q2;rw[if_pos q2] at hfe;exact absurd rfl hfe
    ·omega
  rw[evJ_e hgt] at HFR
  have HFE:Hid (frE J l≠0/\ evJ aD aF aN (frE J l)=.iface 55 (.int .i64 (frE J l:Nat))):=⟨hfe,evJ_e hgt⟩
  generalize frE J l=fe at*
  clear hR hby hfe hgt hlb
  go_enter Tryz.func18,Tryz.ntmps18
  go_wp2_with fail
  refine HFR.mono ?_
  clear HFR hw0
  rintro e V1 ⟨v1,rfl,-,hv1,hb1⟩
  have hv1':=hv1 HFE.out.1
  subst hv1'
  have HB1:Hid (Below w.heap.size w V1):=H0.out.2.2.2.2.2.trans (hb1.mono (by omega))
  clear hv1 hb1
  go_wp2
  go_ret
  exact⟨by rw[HR.out];exact(congrArg Ending.returned HFE.out.2).symm,by rw[HR.out];exact H0.out.2.2.1.below (HB1.out.alloc HB1.out.size _)⟩
 case pos=>
  rw[if_pos hfe] at hR
  have hlb:=hlb hfe
  have HBY:Hid (Bytey (l.flatMap frB)/\ J.dead=false):=⟨hby hfe,(frE_live hfe).1⟩
  rw[hfe,evJ_nil] at HFR
  simp only[true_implies,ne_eq,not_true,false_implies,true_and] at HFR
  clear hby hfe
  go_enter Tryz.func18,Tryz.ntmps18
  go_wp2_with fail
  refine HFR.mono ?_
  clear HFR hw0
  rintro e V1 ⟨v1,rfl,ho1,hb1⟩
  have hw1:=hb1.size
  have hbw1:Below w.heap.size w V1:=H0.out.2.2.2.2.2.trans (hb1.mono (by omega))
  obtain⟨bs,hbs⟩:∃bs,l.flatMap frB=bs:=⟨_,rfl⟩
  rw[hbs] at ho1 hlb hR HBY
  obtain⟨m,hm⟩:∃m,bs.length=m:=⟨_,rfl⟩
  have HM:Hid (bs.length=m):=hm
  rw[hm] at ho1 hlb
  unfold rwA at hR
  rw[hm] at hR
  obtain⟨a1,c1,hv1⟩:=d_shape ho1
  subst hv1
  have cb1:=bel_cell hb1 cb0
  have HO1:Hid (V1.ownsRow w0.heap.size 5 1 (.slice a1 m c1) m (bs.map (Value.int .u8))/\ Below w.heap.size w V1):=⟨ho1,hbw1⟩
  clear ho1 hb1 hbs hm hbw1 cb0
  obtain⟨V2,hV2⟩:∃V,V1.alloc (.cells #[.slice a1 m c1] 35)=V:=⟨_,rfl⟩
  have hb2:Below V1.heap.size V1 V2:=by rw[←hV2];exact(Below.refl _ _).alloc (aqH _) _
  have hs2:V2.heap.size=V1.heap.size+1:=by rw[←hV2];simp
  have cc2:V2.cell? ⟨V1.heap.size,0,none⟩=some (.slice a1 m c1):=by
   have:=cell_of_row _ V1.heap.size 0 _ _ _ (heap_new6 V1 (.cells #[.slice a1 m c1] 35))
   rw[hV2] at this
   exact this
  have cb2:=bel_cell hb2 cb1
  obtain⟨V3,hV3⟩:∃V,V2.alloc (.cells #[.func (.func 48) #[] #[.pointer (some ⟨w.heap.size,0,none⟩),.pointer (some ⟨V1.heap.size,0,none⟩)],.func (.func 49) #[] #[.pointer (some ⟨w.heap.size,0,none⟩)],.func (.func 50) #[] #[.pointer (some ⟨w.heap.size,0,none⟩)]] 109)=V:=⟨_,rfl⟩
  have hb3:Below V2.heap.size V2 V3:=by rw[←hV3];exact(Below.refl _ _).alloc (aqH _) _
  have hs3:V3.heap.size=V1.heap.size+2:=by rw[←hV3];simp[hs2]
  have hg3:=heap_new6 V2 (.cells #[.func (.func 48) #[] #[.pointer (some ⟨w.heap.size,0,none⟩),.pointer (some ⟨V1.heap.size,0,none⟩)],.func (.func 49) #[] #[.pointer (some ⟨w.heap.size,0,none⟩)],.func (.func 50) #[] #[.pointer (some ⟨w.heap.size,0,none⟩)]] 109)
  rw[hV3,hs2] at hg3
  have hb13:Below V1.heap.size V1 V3:=hb2.trans (hb3.mono (by omega))
  have hbw3:Below w.heap.size w V3:=HO1.out.2.trans (hb13.mono HO1.out.2.size)
  obtain⟨hz1,hnn1,hcc1,hll1⟩:=lies_own (own_low7 HO1.out.1 (Nat.zero_le _))
  have HIT:=inTurn_any V3 d x j w.heap.size V1.heap.size (V1.heap.size+1) (fc F w) D J B aD aF aN a1 m c1 bs (H0.out.2.2.2.1.below hbw3) (λk q=>Nat.lt_of_lt_of_le q.2 hbw3.size) ((hbw3.block _ hjl).trans H0.out.2.2.2.2.1) (H0.out.1.later hbw3) H0.out.2.1 hB (bel_cell hb3 cb2) (bel_cell hb3 cc2) (λq=>by have:=q.2;omega) (λq=>by have:=q.2;omega) (by omega) (λq=>by have:=q.2;omega) (by omega)
   HM.out (lies_bel hb13 hz1) HBY.out.1 (λb off hne e q=>by
    have hb:=(World.ownsRow.lt HO1.out.1 b (by rw[e];rfl)).1
    have:=q.2
    omega) hnn1 hlb (cell_of_row _ _ 0 _ _ _ hg3) (cell_of_row _ _ 1 _ _ _ hg3) (cell_of_row _ _ 2 _ _ _ hg3)
  have hrr:=tn_r D J bs
  obtain⟨⟨D4,J4,r4⟩,hR4⟩:∃R:Dk×Jl×Nat,tnX D J bs=R:=⟨_,rfl⟩
  unfold WrP at HIT
  rw[hR4] at HIT hR hrr
  simp only at HIT hR hrr
  have H3:Hid (Below w.heap.size w V3/\ V3.cell? ⟨w.heap.size,0,none⟩=some (.pointer (some ⟨j,0,none⟩))/\ V3.cell? ⟨V1.heap.size,0,none⟩=some (.slice a1 m c1)):=⟨hbw3,bel_cell hb3 cb2,bel_cell hb3 cc2⟩
  clear hz1 hnn1 hcc1 hll1 hg3 hb2 hb3 hb13 hbw3 cc2 hR4
  go_wp2_with fail
  refine HIT.mono ?_
  clear HIT hV2 hV3 cb1 cb2
  rintro e U ⟨rfl,hWU⟩
  have HWU:Hid (Wj w U d x j F D4 J4):=Wj.comp (Kd.below H3.out.1) (λk q=>.inl q.1) hWU
  have u0:U.cell? ⟨w.heap.size,0,none⟩=some (.pointer (some ⟨j,0,none⟩)):=hWU.kd.cell H3.out.2.1 (λq=>q.elim (λq=>by have:=q.2;omega) (λq=>by omega))
  have u1:U.cell? ⟨V1.heap.size,0,none⟩=some (.slice a1 m c1):=hWU.kd.cell H3.out.2.2 (λq=>q.elim (λq=>by have:=q.2;omega) (λq=>by omega))
  clear hWU H3
  by_cases hr4:r4=0
  case neg=>
   rw[if_neg hr4] at hR
   have HR:Hid (R=(D4,J4,r4)):=hR.symm
   obtain⟨ae,hae⟩:=evD_some (aD:=aD) (aF:=aF) (aN:=aN) hr4
   have HAE:Hid (evJ aD aF aN r4=.iface 218 (.pointer (some ae))):=by show _=_;rw[evJ_d hrr,hae]
   rw[HAE.out]
   clear hR hr4 hae u0 u1
   go_wp2
   go_ret
   exact⟨by rw[HR.out];exact(congrArg Ending.returned HAE.out).symm,by rw[HR.out];exact HWU.out⟩
  case pos=>
   rw[if_pos hr4] at hR
   have HR:Hid (R=(D4,⟨m,0,J4.dead⟩,0)):=hR.symm
   rw[hr4,evJ_nil]
   clear hR hr4 hrr
   have k1:U.cell? ⟨j,1,none⟩=some (.int .i64 J4.n):=HWU.out.jb.c 1
   have k2:U.cell? ⟨j,2,none⟩=some (.int .i64 J4.k):=HWU.out.jb.c 2
   have z1:=HWU.out.jb.z 1
   have z2:=HWU.out.jb.z 2
   have hne1:w.heap.size≠j:=by omega
   have hne2:V1.heap.size≠j:=by have:=HO1.out.2.size;omega
   have HW7:Hid (Wj w ((U.setCell ⟨j,1,none⟩ (.int .i64 (m:Nat))).setCell ⟨j,2,none⟩ (.int .i64 0)).drew d x j F D4 ⟨m,0,J4.dead⟩):=(HWU.out.jour H0.out.1 (jb_set2 (n:=0) (jb_set1 (n:=m) HWU.out.jb)) (kd_set.trans kd_set)).drew
   go_upto_region 7 with fail
   go_region_held3 (λV=>V.cell? ⟨w.heap.size,0,none⟩=some (.pointer (some ⟨j,0,none⟩))/\ V.cell? ⟨V1.heap.size,0,none⟩=some (.slice a1 m c1))
    (first|exact⟨u0,u1⟩|exact⟨set_cell u0 hne1,set_cell u1 hne2⟩|exact⟨set_cell (set_cell u0 hne1) hne1,set_cell (set_cell u1 hne2) hne2⟩)
    (fail)
   all_goals (
    go_wp2
    go_ret
    exact⟨by rw[HR.out];rfl,by rw[HR.out];exact HW7.out⟩)
end Go.Proofs.YtllhbhogfffedaaGreatDoor.K
