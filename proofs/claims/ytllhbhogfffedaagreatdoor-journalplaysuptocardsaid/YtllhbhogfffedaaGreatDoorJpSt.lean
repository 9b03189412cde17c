import Derived.Test.YtllhbhogfffedaaGreatDoorJpWs
import Derived.Test.YtllhbhogfffedaaGreatDoorGiven
import Derived.Test.YtllhbhogfffedaaGreatDoorRcRf1
import Derived.Deep.SlicePairs
import Derived.Deep.Slices
import Derived.Test.YtllhbhogfffedaaGreatDoorCards
import Derived.Test.YtllhbhogfffedaaGreatDoorTie
import Derived.WalkKit
import Derived.ProofKit
import Derived.OpenShut
import Derived.ShutString
import Derived.Below
import Derived.JoinedCond
import Derived.Deep.DeepHandedRow
import Derived.Lib.LaidTab
import Derived.Stop.LaidErr
import Derived.LaidHandle
set_option maxHeartbeats 8000000
set_option maxRecDepth 100000
namespace Go.Proofs.YtllhbhogfffedaaGreatDoor.K
open Go.RowKit
set_option linter.unusedVariables false
set_option linter.unusedSimpArgs false
theorem jSize7 (w:World) (j d:Nat) (J:Jl) (h:Jb w j d J):Calls Tryz.prog 19 #[.pointer (some ⟨j,0,none⟩)] w λe w'=>e=.returned (.int .i64 (J.n:Nat))/\ w'=w:=by
 have k1:w.cell? ⟨j,1,none⟩=some (.int .i64 J.n):=h.c 1
 clear h
 go_enter Tryz.func19,Tryz.ntmps19
 go_wp2
 go_ret
 exact⟨rfl,rfl⟩
theorem jLoose7 (w:World) (j d:Nat) (J:Jl) (h:Jb w j d J):Calls Tryz.prog 20 #[.pointer (some ⟨j,0,none⟩)] w λe w'=>e=.returned (.int .i64 (J.k:Nat))/\ w'=w:=by
 have k2:w.cell? ⟨j,2,none⟩=some (.int .i64 J.k):=h.c 2
 clear h
 go_enter Tryz.func20,Tryz.ntmps20
 go_wp2
 go_ret
 exact⟨rfl,rfl⟩
structure OpB (W:World) (aB:Option Addr) (nB cB:Nat) (bs:List Int):Prop where
 len:bs.length=nB
 lie:Lies .u8 W aB bs
 byt:Bytey bs
 nil:aB=none-> nB=0/\ cB=0
 le:nB<= 1048576
theorem step_open (W w:World) (q m:Nat) (D:Dk) (J:Option Jl) (aD aF aN:Addr) (N:Int) (yes:Bool) (aL:Option Addr) (n cL:Nat) (aB:Option Addr) (nB cB:Nat) (l:List Rc) (bs:List Int) (p:Py W w q m D J) (hS:S0 W aD aF aN) (hE:Et W) (hm:m<= 4194304) (hO:OpL W aL n l) (hB:OpB W aB nB cB bs) (hN1:-9223372036854775808<= N) (hN2:N<= 9223372036854775807):
 Calls Tryz.prog 10 #[.pointer (some ⟨q,0,none⟩),.agg (opA 1 N yes aL n cL aB nB cB)] w λe w'=>StP W q m e w':=by
 obtain⟨w1,hw1⟩:∃V,w.alloc (.cells (opA 1 N yes aL n cL aB nB cB) 37)=V:=⟨_,rfl⟩
 have hb1:Below w.heap.size w w1:=by rw[←hw1];exact(Below.refl _ _).alloc (aqH _) _
 have hx1:w1.heap[w.heap.size]?=some (.cells (opA 1 N yes aL n cL aB nB cB) 37 (0,0)):=by rw[←hw1];exact heap_new6 w _
 have p1:=p.keep hb1
 have o0:w1.cell? ⟨w.heap.size,0,none⟩=some (.int .i64 1):=cell_of_row _ _ 0 _ _ _ hx1
 have o1:w1.cell? ⟨w.heap.size,1,none⟩=some (.int .i64 N):=cell_of_row _ _ 1 _ _ _ hx1
 have o2:w1.cell? ⟨w.heap.size,2,none⟩=some (.bool yes):=cell_of_row _ _ 2 _ _ _ hx1
 have o3:w1.cell? ⟨w.heap.size,3,none⟩=some (.slice aL n cL):=cell_of_row _ _ 3 _ _ _ hx1
 have o4:w1.cell? ⟨w.heap.size,4,none⟩=some (.slice aB nB cB):=cell_of_row _ _ 4 _ _ _ hx1
 have HX:Calls Tryz.prog 9 #[.pointer (some ⟨q,0,none⟩)] w1 λe w'=>StP W q m e w':=(if hr:(opX D).r=0 then opens_ok W w1 q m D J aD aF aN p1 hS hE hm hr else opens_no W w1 q m D J aD aF aN p1 hS hE hm hr)
 unfold StP at HX
 clear hb1 hx1 p p1 hS hE hO hB
 go_enter Tryz.func10,Tryz.ntmps10
 go_wp2_with (go_at_call 9;refine HX.mono ?_;rintro e w2 ⟨rfl,hex⟩;have HE2:Hid (∃D' J',Py W w2 q (m+1) D' J'):=hex;clear hex)
 go_ret
 exact⟨rfl,HE2.out⟩
theorem step_arm (W w:World) (q m:Nat) (D:Dk) (J:Option Jl) (aD aF aN:Addr) (N:Int) (yes:Bool) (aL:Option Addr) (n cL:Nat) (aB:Option Addr) (nB cB:Nat) (l:List Rc) (bs:List Int) (p:Py W w q m D J) (hS:S0 W aD aF aN) (hE:Et W) (hm:m<= 4194304) (hO:OpL W aL n l) (hB:OpB W aB nB cB bs) (hN1:-9223372036854775808<= N) (hN2:N<= 9223372036854775807):
 Calls Tryz.prog 10 #[.pointer (some ⟨q,0,none⟩),.agg (opA 5 N yes aL n cL aB nB cB)] w λe w'=>StP W q m e w':=by
 obtain⟨w1,hw1⟩:∃V,w.alloc (.cells (opA 5 N yes aL n cL aB nB cB) 37)=V:=⟨_,rfl⟩
 have hb1:Below w.heap.size w w1:=by rw[←hw1];exact(Below.refl _ _).alloc (aqH _) _
 have hx1:w1.heap[w.heap.size]?=some (.cells (opA 5 N yes aL n cL aB nB cB) 37 (0,0)):=by rw[←hw1];exact heap_new6 w _
 have p1:=p.keep hb1
 have o0:w1.cell? ⟨w.heap.size,0,none⟩=some (.int .i64 5):=cell_of_row _ _ 0 _ _ _ hx1
 have o1:w1.cell? ⟨w.heap.size,1,none⟩=some (.int .i64 N):=cell_of_row _ _ 1 _ _ _ hx1
 have o2:w1.cell? ⟨w.heap.size,2,none⟩=some (.bool yes):=cell_of_row _ _ 2 _ _ _ hx1
 have o3:w1.cell? ⟨w.heap.size,3,none⟩=some (.slice aL n cL):=cell_of_row _ _ 3 _ _ _ hx1
 have o4:w1.cell? ⟨w.heap.size,4,none⟩=some (.slice aB nB cB):=cell_of_row _ _ 4 _ _ _ hx1
 have HX:=befalls_arm W w1 q m D J aD aF aN N yes aL n cL aB nB cB p1 hS hE hm hN2
 unfold StP at HX
 clear hb1 hx1 p p1 hS hE hO hB
 go_enter Tryz.func10,Tryz.ntmps10
 go_wp2_with (go_at_call 32;refine HX.mono ?_;rintro e w2 ⟨rfl,hex⟩;have HE2:Hid (∃D' J',Py W w2 q (m+1) D' J'):=hex;clear hex)
 go_ret
 exact⟨rfl,HE2.out⟩
theorem step_crash (W w:World) (q m:Nat) (D:Dk) (J:Option Jl) (aD aF aN:Addr) (N:Int) (yes:Bool) (aL:Option Addr) (n cL:Nat) (aB:Option Addr) (nB cB:Nat) (l:List Rc) (bs:List Int) (p:Py W w q m D J) (hS:S0 W aD aF aN) (hE:Et W) (hm:m<= 4194304) (hO:OpL W aL n l) (hB:OpB W aB nB cB bs) (hN1:-9223372036854775808<= N) (hN2:N<= 9223372036854775807):
 Calls Tryz.prog 10 #[.pointer (some ⟨q,0,none⟩),.agg (opA 6 N yes aL n cL aB nB cB)] w λe w'=>StP W q m e w':=by
 obtain⟨w1,hw1⟩:∃V,w.alloc (.cells (opA 6 N yes aL n cL aB nB cB) 37)=V:=⟨_,rfl⟩
 have hb1:Below w.heap.size w w1:=by rw[←hw1];exact(Below.refl _ _).alloc (aqH _) _
 have hx1:w1.heap[w.heap.size]?=some (.cells (opA 6 N yes aL n cL aB nB cB) 37 (0,0)):=by rw[←hw1];exact heap_new6 w _
 have p1:=p.keep hb1
 have o0:w1.cell? ⟨w.heap.size,0,none⟩=some (.int .i64 6):=cell_of_row _ _ 0 _ _ _ hx1
 have o1:w1.cell? ⟨w.heap.size,1,none⟩=some (.int .i64 N):=cell_of_row _ _ 1 _ _ _ hx1
 have o2:w1.cell? ⟨w.heap.size,2,none⟩=some (.bool yes):=cell_of_row _ _ 2 _ _ _ hx1
 have o3:w1.cell? ⟨w.heap.size,3,none⟩=some (.slice aL n cL):=cell_of_row _ _ 3 _ _ _ hx1
 have o4:w1.cell? ⟨w.heap.size,4,none⟩=some (.slice aB nB cB):=cell_of_row _ _ 4 _ _ _ hx1
 have HX:=befalls_crash W w1 q m D J aD aF aN N yes aL n cL aB nB cB p1 hS hE hm hN2
 unfold StP at HX
 clear hb1 hx1 p p1 hS hE hO hB
 go_enter Tryz.func10,Tryz.ntmps10
 go_wp2_with (go_at_call 32;refine HX.mono ?_;rintro e w2 ⟨rfl,hex⟩;have HE2:Hid (∃D' J',Py W w2 q (m+1) D' J'):=hex;clear hex)
 go_ret
 exact⟨rfl,HE2.out⟩
theorem step_stray (W w:World) (q m:Nat) (D:Dk) (J:Option Jl) (aD aF aN:Addr) (N:Int) (yes:Bool) (aL:Option Addr) (n cL:Nat) (aB:Option Addr) (nB cB:Nat) (l:List Rc) (bs:List Int) (p:Py W w q m D J) (hS:S0 W aD aF aN) (hE:Et W) (hm:m<= 4194304) (hO:OpL W aL n l) (hB:OpB W aB nB cB bs) (hN1:-9223372036854775808<= N) (hN2:N<= 9223372036854775807):
 Calls Tryz.prog 10 #[.pointer (some ⟨q,0,none⟩),.agg (opA 7 N yes aL n cL aB nB cB)] w λe w'=>StP W q m e w':=by
 obtain⟨w1,hw1⟩:∃V,w.alloc (.cells (opA 7 N yes aL n cL aB nB cB) 37)=V:=⟨_,rfl⟩
 have hb1:Below w.heap.size w w1:=by rw[←hw1];exact(Below.refl _ _).alloc (aqH _) _
 have hx1:w1.heap[w.heap.size]?=some (.cells (opA 7 N yes aL n cL aB nB cB) 37 (0,0)):=by rw[←hw1];exact heap_new6 w _
 have p1:=p.keep hb1
 have o0:w1.cell? ⟨w.heap.size,0,none⟩=some (.int .i64 7):=cell_of_row _ _ 0 _ _ _ hx1
 have o1:w1.cell? ⟨w.heap.size,1,none⟩=some (.int .i64 N):=cell_of_row _ _ 1 _ _ _ hx1
 have o2:w1.cell? ⟨w.heap.size,2,none⟩=some (.bool yes):=cell_of_row _ _ 2 _ _ _ hx1
 have o3:w1.cell? ⟨w.heap.size,3,none⟩=some (.slice aL n cL):=cell_of_row _ _ 3 _ _ _ hx1
 have o4:w1.cell? ⟨w.heap.size,4,none⟩=some (.slice aB nB cB):=cell_of_row _ _ 4 _ _ _ hx1
 have HX:=befalls_stray W w1 q m D J aD aF aN N yes aL n cL aB nB cB bs p1 hS hE hm hB.len hB.lie hB.byt hB.nil hB.le
 unfold StP at HX
 clear hb1 hx1 p p1 hS hE hO hB
 go_enter Tryz.func10,Tryz.ntmps10
 go_wp2_with (go_at_call 32;refine HX.mono ?_;rintro e w2 ⟨rfl,hex⟩;have HE2:Hid (∃D' J',Py W w2 q (m+1) D' J'):=hex;clear hex)
 go_ret
 exact⟨rfl,HE2.out⟩
theorem step_left (W w:World) (q m:Nat) (D:Dk) (J:Option Jl) (aD aF aN:Addr) (N:Int) (yes:Bool) (aL:Option Addr) (n cL:Nat) (aB:Option Addr) (nB cB:Nat) (l:List Rc) (bs:List Int) (p:Py W w q m D J) (hS:S0 W aD aF aN) (hE:Et W) (hm:m<= 4194304) (hO:OpL W aL n l) (hB:OpB W aB nB cB bs) (hN1:-9223372036854775808<= N) (hN2:N<= 9223372036854775807):
 Calls Tryz.prog 10 #[.pointer (some ⟨q,0,none⟩),.agg (opA 8 N yes aL n cL aB nB cB)] w λe w'=>StP W q m e w':=by
 obtain⟨w1,hw1⟩:∃V,w.alloc (.cells (opA 8 N yes aL n cL aB nB cB) 37)=V:=⟨_,rfl⟩
 have hb1:Below w.heap.size w w1:=by rw[←hw1];exact(Below.refl _ _).alloc (aqH _) _
 have hx1:w1.heap[w.heap.size]?=some (.cells (opA 8 N yes aL n cL aB nB cB) 37 (0,0)):=by rw[←hw1];exact heap_new6 w _
 have p1:=p.keep hb1
 have o0:w1.cell? ⟨w.heap.size,0,none⟩=some (.int .i64 8):=cell_of_row _ _ 0 _ _ _ hx1
 have o1:w1.cell? ⟨w.heap.size,1,none⟩=some (.int .i64 N):=cell_of_row _ _ 1 _ _ _ hx1
 have o2:w1.cell? ⟨w.heap.size,2,none⟩=some (.bool yes):=cell_of_row _ _ 2 _ _ _ hx1
 have o3:w1.cell? ⟨w.heap.size,3,none⟩=some (.slice aL n cL):=cell_of_row _ _ 3 _ _ _ hx1
 have o4:w1.cell? ⟨w.heap.size,4,none⟩=some (.slice aB nB cB):=cell_of_row _ _ 4 _ _ _ hx1
 have HX:=befalls_left W w1 q m D J aD aF aN N yes aL n cL aB nB cB bs p1 hS hE hm hB.len hB.lie hB.byt hB.nil hB.le
 unfold StP at HX
 clear hb1 hx1 p p1 hS hE hO hB
 go_enter Tryz.func10,Tryz.ntmps10
 go_wp2_with (go_at_call 32;refine HX.mono ?_;rintro e w2 ⟨rfl,hex⟩;have HE2:Hid (∃D' J',Py W w2 q (m+1) D' J'):=hex;clear hex)
 go_ret
 exact⟨rfl,HE2.out⟩
theorem step_tight (W w:World) (q m:Nat) (D:Dk) (J:Option Jl) (aD aF aN:Addr) (N:Int) (yes:Bool) (aL:Option Addr) (n cL:Nat) (aB:Option Addr) (nB cB:Nat) (l:List Rc) (bs:List Int) (p:Py W w q m D J) (hS:S0 W aD aF aN) (hE:Et W) (hm:m<= 4194304) (hO:OpL W aL n l) (hB:OpB W aB nB cB bs) (hN1:-9223372036854775808<= N) (hN2:N<= 9223372036854775807):
 Calls Tryz.prog 10 #[.pointer (some ⟨q,0,none⟩),.agg (opA 9 N yes aL n cL aB nB cB)] w λe w'=>StP W q m e w':=by
 obtain⟨w1,hw1⟩:∃V,w.alloc (.cells (opA 9 N yes aL n cL aB nB cB) 37)=V:=⟨_,rfl⟩
 have hb1:Below w.heap.size w w1:=by rw[←hw1];exact(Below.refl _ _).alloc (aqH _) _
 have hx1:w1.heap[w.heap.size]?=some (.cells (opA 9 N yes aL n cL aB nB cB) 37 (0,0)):=by rw[←hw1];exact heap_new6 w _
 have p1:=p.keep hb1
 have o0:w1.cell? ⟨w.heap.size,0,none⟩=some (.int .i64 9):=cell_of_row _ _ 0 _ _ _ hx1
 have o1:w1.cell? ⟨w.heap.size,1,none⟩=some (.int .i64 N):=cell_of_row _ _ 1 _ _ _ hx1
 have o2:w1.cell? ⟨w.heap.size,2,none⟩=some (.bool yes):=cell_of_row _ _ 2 _ _ _ hx1
 have o3:w1.cell? ⟨w.heap.size,3,none⟩=some (.slice aL n cL):=cell_of_row _ _ 3 _ _ _ hx1
 have o4:w1.cell? ⟨w.heap.size,4,none⟩=some (.slice aB nB cB):=cell_of_row _ _ 4 _ _ _ hx1
 have HX:=befalls_tight W w1 q m D J aD aF aN N yes aL n cL aB nB cB p1 hS hE hm hN1 hN2
 unfold StP at HX
 clear hb1 hx1 p p1 hS hE hO hB
 go_enter Tryz.func10,Tryz.ntmps10
 go_wp2_with (go_at_call 32;refine HX.mono ?_;rintro e w2 ⟨rfl,hex⟩;have HE2:Hid (∃D' J',Py W w2 q (m+1) D' J'):=hex;clear hex)
 go_ret
 exact⟨rfl,HE2.out⟩
theorem step_more (W w:World) (q m:Nat) (D:Dk) (J:Option Jl) (aD aF aN:Addr) (kind:Int) (N:Int) (yes:Bool) (aL:Option Addr) (n cL:Nat) (aB:Option Addr) (nB cB:Nat) (l:List Rc) (bs:List Int) (p:Py W w q m D J) (hS:S0 W aD aF aN) (hE:Et W) (hm:m<= 4194304) (hO:OpL W aL n l) (hB:OpB W aB nB cB bs) (hN1:-9223372036854775808<= N) (hN2:N<= 9223372036854775807) (hk:10<= kind):
 Calls Tryz.prog 10 #[.pointer (some ⟨q,0,none⟩),.agg (opA kind N yes aL n cL aB nB cB)] w λe w'=>StP W q m e w':=by
 obtain⟨w1,hw1⟩:∃V,w.alloc (.cells (opA kind N yes aL n cL aB nB cB) 37)=V:=⟨_,rfl⟩
 have hb1:Below w.heap.size w w1:=by rw[←hw1];exact(Below.refl _ _).alloc (aqH _) _
 have hx1:w1.heap[w.heap.size]?=some (.cells (opA kind N yes aL n cL aB nB cB) 37 (0,0)):=by rw[←hw1];exact heap_new6 w _
 have p1:=p.keep hb1
 have o0:w1.cell? ⟨w.heap.size,0,none⟩=some (.int .i64 kind):=cell_of_row _ _ 0 _ _ _ hx1
 have o1:w1.cell? ⟨w.heap.size,1,none⟩=some (.int .i64 N):=cell_of_row _ _ 1 _ _ _ hx1
 have o2:w1.cell? ⟨w.heap.size,2,none⟩=some (.bool yes):=cell_of_row _ _ 2 _ _ _ hx1
 have o3:w1.cell? ⟨w.heap.size,3,none⟩=some (.slice aL n cL):=cell_of_row _ _ 3 _ _ _ hx1
 have o4:w1.cell? ⟨w.heap.size,4,none⟩=some (.slice aB nB cB):=cell_of_row _ _ 4 _ _ _ hx1
 have hk1:(kind == 1)=false:=by simp;omega
 have hk5:¬kind < 5:=by omega
 have hk6:5<= kind:=by omega
 have HX:=befalls_none W w1 q m D J aD aF aN N yes aL n cL aB nB cB kind p1 hS hE hm (by omega) (by omega) (by omega) (by omega) (by omega)
 unfold StP at HX
 clear hb1 hx1 p p1 hS hE hO hB
 go_enter Tryz.func10,Tryz.ntmps10
 go_wp2_with (go_at_call 32;refine HX.mono ?_;rintro e w2 ⟨rfl,hex⟩;have HE2:Hid (∃D' J',Py W w2 q (m+1) D' J'):=hex;clear hex)
 go_ret
 exact⟨rfl,HE2.out⟩
theorem step_none (W w:World) (q m:Nat) (D:Dk) (aD aF aN:Addr) (kind:Int) (N:Int) (yes:Bool) (aL:Option Addr) (n cL:Nat) (aB:Option Addr) (nB cB:Nat) (l:List Rc) (bs:List Int) (p:Py W w q m D none) (hS:S0 W aD aF aN) (hE:Et W) (hm:m<= 4194304) (hO:OpL W aL n l) (hB:OpB W aB nB cB bs) (hN1:-9223372036854775808<= N) (hN2:N<= 9223372036854775807) (hk5:kind < 5) (hk1:¬kind=1):
 Calls Tryz.prog 10 #[.pointer (some ⟨q,0,none⟩),.agg (opA kind N yes aL n cL aB nB cB)] w λe w'=>StP W q m e w':=by
 obtain⟨w1,hw1⟩:∃V,w.alloc (.cells (opA kind N yes aL n cL aB nB cB) 37)=V:=⟨_,rfl⟩
 have hb1:Below w.heap.size w w1:=by rw[←hw1];exact(Below.refl _ _).alloc (aqH _) _
 have hx1:w1.heap[w.heap.size]?=some (.cells (opA kind N yes aL n cL aB nB cB) 37 (0,0)):=by rw[←hw1];exact heap_new6 w _
 have p1:=p.keep hb1
 have o0:w1.cell? ⟨w.heap.size,0,none⟩=some (.int .i64 kind):=cell_of_row _ _ 0 _ _ _ hx1
 have o1:w1.cell? ⟨w.heap.size,1,none⟩=some (.int .i64 N):=cell_of_row _ _ 1 _ _ _ hx1
 have o2:w1.cell? ⟨w.heap.size,2,none⟩=some (.bool yes):=cell_of_row _ _ 2 _ _ _ hx1
 have o3:w1.cell? ⟨w.heap.size,3,none⟩=some (.slice aL n cL):=cell_of_row _ _ 3 _ _ _ hx1
 have o4:w1.cell? ⟨w.heap.size,4,none⟩=some (.slice aB nB cB):=cell_of_row _ _ 4 _ _ _ hx1
 have hb:(kind == 1)=false:=by simp[hk1]
 have hk6:¬5<= kind:=by omega
 obtain⟨h,x,y,F,G,pj,pr,p2,rfl,rfl⟩:=p1.ex
 have q2:w1.cell? ⟨q,2,none⟩=some (.pointer none):=p2.c 2
 have HE2:Hid (∃D' J',Py W w1 q (m+1) D' J'):=⟨D,none,p1.up (by omega)⟩
 clear hb1 hx1 p p1 p2 hS hE hO hB
 go_enter Tryz.func10,Tryz.ntmps10
 go_wp2
 go_ret
 exact⟨rfl,HE2.out⟩
theorem step_write (W w:World) (q m:Nat) (D:Dk) (J:Jl) (aD aF aN:Addr) (N:Int) (yes:Bool) (aL:Option Addr) (n cL:Nat) (aB:Option Addr) (nB cB:Nat) (l:List Rc) (bs:List Int) (p:Py W w q m D (some J)) (hS:S0 W aD aF aN) (hE:Et W) (hm:m<= 4194304) (hO:OpL W aL n l) (hB:OpB W aB nB cB bs) (hN1:-9223372036854775808<= N) (hN2:N<= 9223372036854775807):
 Calls Tryz.prog 10 #[.pointer (some ⟨q,0,none⟩),.agg (opA 2 N yes aL n cL aB nB cB)] w λe w'=>StP W q m e w':=by
 obtain⟨w1,hw1⟩:∃V,w.alloc (.cells (opA 2 N yes aL n cL aB nB cB) 37)=V:=⟨_,rfl⟩
 have hb1:Below w.heap.size w w1:=by rw[←hw1];exact(Below.refl _ _).alloc (aqH _) _
 have hx1:w1.heap[w.heap.size]?=some (.cells (opA 2 N yes aL n cL aB nB cB) 37 (0,0)):=by rw[←hw1];exact heap_new6 w _
 have p1:=p.keep hb1
 have o0:w1.cell? ⟨w.heap.size,0,none⟩=some (.int .i64 2):=cell_of_row _ _ 0 _ _ _ hx1
 have o1:w1.cell? ⟨w.heap.size,1,none⟩=some (.int .i64 N):=cell_of_row _ _ 1 _ _ _ hx1
 have o2:w1.cell? ⟨w.heap.size,2,none⟩=some (.bool yes):=cell_of_row _ _ 2 _ _ _ hx1
 have o3:w1.cell? ⟨w.heap.size,3,none⟩=some (.slice aL n cL):=cell_of_row _ _ 3 _ _ _ hx1
 have o4:w1.cell? ⟨w.heap.size,4,none⟩=some (.slice aB nB cB):=cell_of_row _ _ 4 _ _ _ hx1
 obtain⟨h,x,y,F,G,pj,pr,p2,hjo,j,d,r,rfl,rfl,t2⟩:=p1.ex
 have q2:w1.cell? ⟨q,2,none⟩=some (.pointer (some ⟨j,0,none⟩)):=p2.c 2
 have q3:w1.cell? ⟨q,3,none⟩=some (.pointer (some ⟨r,0,none⟩)):=p2.c 3
 have HX:=writes_wr W w1 q m D J aD aF aN N yes aL n cL aB nB cB l p1 hS hE hm hO
 unfold StP at HX
 clear hb1 hx1 p p1 p2 hjo t2 hS hE hO hB
 go_enter Tryz.func10,Tryz.ntmps10
 go_wp2_with (go_at_call 33;refine HX.mono ?_;rintro e w2 ⟨rfl,hex⟩;have HE2:Hid (∃D' J',Py W w2 q (m+1) D' J'):=hex;clear hex)
 go_ret
 exact⟨rfl,HE2.out⟩
theorem step_rewrite (W w:World) (q m:Nat) (D:Dk) (J:Jl) (aD aF aN:Addr) (N:Int) (yes:Bool) (aL:Option Addr) (n cL:Nat) (aB:Option Addr) (nB cB:Nat) (l:List Rc) (bs:List Int) (p:Py W w q m D (some J)) (hS:S0 W aD aF aN) (hE:Et W) (hm:m<= 4194304) (hO:OpL W aL n l) (hB:OpB W aB nB cB bs) (hN1:-9223372036854775808<= N) (hN2:N<= 9223372036854775807):
 Calls Tryz.prog 10 #[.pointer (some ⟨q,0,none⟩),.agg (opA 3 N yes aL n cL aB nB cB)] w λe w'=>StP W q m e w':=by
 obtain⟨w1,hw1⟩:∃V,w.alloc (.cells (opA 3 N yes aL n cL aB nB cB) 37)=V:=⟨_,rfl⟩
 have hb1:Below w.heap.size w w1:=by rw[←hw1];exact(Below.refl _ _).alloc (aqH _) _
 have hx1:w1.heap[w.heap.size]?=some (.cells (opA 3 N yes aL n cL aB nB cB) 37 (0,0)):=by rw[←hw1];exact heap_new6 w _
 have p1:=p.keep hb1
 have o0:w1.cell? ⟨w.heap.size,0,none⟩=some (.int .i64 3):=cell_of_row _ _ 0 _ _ _ hx1
 have o1:w1.cell? ⟨w.heap.size,1,none⟩=some (.int .i64 N):=cell_of_row _ _ 1 _ _ _ hx1
 have o2:w1.cell? ⟨w.heap.size,2,none⟩=some (.bool yes):=cell_of_row _ _ 2 _ _ _ hx1
 have o3:w1.cell? ⟨w.heap.size,3,none⟩=some (.slice aL n cL):=cell_of_row _ _ 3 _ _ _ hx1
 have o4:w1.cell? ⟨w.heap.size,4,none⟩=some (.slice aB nB cB):=cell_of_row _ _ 4 _ _ _ hx1
 obtain⟨h,x,y,F,G,pj,pr,p2,hjo,j,d,r,rfl,rfl,t2⟩:=p1.ex
 have q2:w1.cell? ⟨q,2,none⟩=some (.pointer (some ⟨j,0,none⟩)):=p2.c 2
 have q3:w1.cell? ⟨q,3,none⟩=some (.pointer (some ⟨r,0,none⟩)):=p2.c 3
 have HX:=writes_re W w1 q m D J aD aF aN 3 N yes aL n cL aB nB cB l p1 hS hE hm hO (by decide)
 unfold StP at HX
 clear hb1 hx1 p p1 p2 hjo t2 hS hE hO hB
 go_enter Tryz.func10,Tryz.ntmps10
 go_wp2_with (go_at_call 33;refine HX.mono ?_;rintro e w2 ⟨rfl,hex⟩;have HE2:Hid (∃D' J',Py W w2 q (m+1) D' J'):=hex;clear hex)
 go_ret
 exact⟨rfl,HE2.out⟩
theorem step_look (W w:World) (q m:Nat) (D:Dk) (J:Jl) (aD aF aN:Addr) (N:Int) (yes:Bool) (aL:Option Addr) (n cL:Nat) (aB:Option Addr) (nB cB:Nat) (l:List Rc) (bs:List Int) (p:Py W w q m D (some J)) (hS:S0 W aD aF aN) (hE:Et W) (hm:m<= 4194304) (hO:OpL W aL n l) (hB:OpB W aB nB cB bs) (hN1:-9223372036854775808<= N) (hN2:N<= 9223372036854775807):
 Calls Tryz.prog 10 #[.pointer (some ⟨q,0,none⟩),.agg (opA 4 N yes aL n cL aB nB cB)] w λe w'=>StP W q m e w':=by
 obtain⟨w1,hw1⟩:∃V,w.alloc (.cells (opA 4 N yes aL n cL aB nB cB) 37)=V:=⟨_,rfl⟩
 have hb1:Below w.heap.size w w1:=by rw[←hw1];exact(Below.refl _ _).alloc (aqH _) _
 have hx1:w1.heap[w.heap.size]?=some (.cells (opA 4 N yes aL n cL aB nB cB) 37 (0,0)):=by rw[←hw1];exact heap_new6 w _
 have p1:=p.keep hb1
 have o0:w1.cell? ⟨w.heap.size,0,none⟩=some (.int .i64 4):=cell_of_row _ _ 0 _ _ _ hx1
 have o1:w1.cell? ⟨w.heap.size,1,none⟩=some (.int .i64 N):=cell_of_row _ _ 1 _ _ _ hx1
 have o2:w1.cell? ⟨w.heap.size,2,none⟩=some (.bool yes):=cell_of_row _ _ 2 _ _ _ hx1
 have o3:w1.cell? ⟨w.heap.size,3,none⟩=some (.slice aL n cL):=cell_of_row _ _ 3 _ _ _ hx1
 have o4:w1.cell? ⟨w.heap.size,4,none⟩=some (.slice aB nB cB):=cell_of_row _ _ 4 _ _ _ hx1
 obtain⟨h,x,y,F,G,pj,pr,p2,hjo,j,d,r,rfl,rfl,t2⟩:=p1.ex
 have q2:w1.cell? ⟨q,2,none⟩=some (.pointer (some ⟨j,0,none⟩)):=p2.c 2
 have q3:w1.cell? ⟨q,3,none⟩=some (.pointer (some ⟨r,0,none⟩)):=p2.c 3
 have HS1:=jSize7 w1 j d J t2.jb
 have HS2:=jLoose7 w1 j d J t2.jb
 have HS3:=eSize_any w1 r y J t2.rb
 have HS4:=eLoose_any w1 r y J t2.rb
 have e1:szJ J=J.n:=by unfold szJ;split;exact(hjo.z (by assumption)).1.symm;rfl
 have e2:lsJ J=J.k:=by unfold lsJ;split;exact(hjo.z (by assumption)).2.symm;rfl
 rw[e1] at HS3
 rw[e2] at HS4
 have HE2:Hid (∃D' J',Py W w1 q (m+1) D' J'):=⟨D,some J,p1.up (by omega)⟩
 generalize J.n=jn at*
 generalize J.k=jk at*
 clear hb1 hx1 p p1 p2 hjo t2 hS hE hO hB e1 e2
 go_enter Tryz.func10,Tryz.ntmps10
 go_wp2_with (first
  |(go_at_call 19;refine HS1.mono ?_;rintro e V1 ⟨rfl,hV⟩;rw[hV];clear hV)
  |(go_at_call 20;refine HS2.mono ?_;rintro e V2 ⟨rfl,hV⟩;rw[hV];clear hV)
  |(go_at_call 34;refine HS3.mono ?_;rintro e V3 ⟨rfl,hV⟩;rw[hV];clear hV)
  |(go_at_call 35;refine HS4.mono ?_;rintro e V4 ⟨rfl,hV⟩;rw[hV];clear hV))
 go_ret
 exact⟨rfl,HE2.out⟩
theorem step_idle (W w:World) (q m:Nat) (D:Dk) (J:Jl) (aD aF aN:Addr) (kind:Int) (N:Int) (yes:Bool) (aL:Option Addr) (n cL:Nat) (aB:Option Addr) (nB cB:Nat) (l:List Rc) (bs:List Int) (p:Py W w q m D (some J)) (hS:S0 W aD aF aN) (hE:Et W) (hm:m<= 4194304) (hO:OpL W aL n l) (hB:OpB W aB nB cB bs) (hN1:-9223372036854775808<= N) (hN2:N<= 9223372036854775807) (hk5:kind < 5) (hk1:kind≠1) (hk2:kind≠2) (hk3:kind≠3) (hk4:kind≠4):
 Calls Tryz.prog 10 #[.pointer (some ⟨q,0,none⟩),.agg (opA kind N yes aL n cL aB nB cB)] w λe w'=>StP W q m e w':=by
 obtain⟨w1,hw1⟩:∃V,w.alloc (.cells (opA kind N yes aL n cL aB nB cB) 37)=V:=⟨_,rfl⟩
 have hb1:Below w.heap.size w w1:=by rw[←hw1];exact(Below.refl _ _).alloc (aqH _) _
 have hx1:w1.heap[w.heap.size]?=some (.cells (opA kind N yes aL n cL aB nB cB) 37 (0,0)):=by rw[←hw1];exact heap_new6 w _
 have p1:=p.keep hb1
 have o0:w1.cell? ⟨w.heap.size,0,none⟩=some (.int .i64 kind):=cell_of_row _ _ 0 _ _ _ hx1
 have o1:w1.cell? ⟨w.heap.size,1,none⟩=some (.int .i64 N):=cell_of_row _ _ 1 _ _ _ hx1
 have o2:w1.cell? ⟨w.heap.size,2,none⟩=some (.bool yes):=cell_of_row _ _ 2 _ _ _ hx1
 have o3:w1.cell? ⟨w.heap.size,3,none⟩=some (.slice aL n cL):=cell_of_row _ _ 3 _ _ _ hx1
 have o4:w1.cell? ⟨w.heap.size,4,none⟩=some (.slice aB nB cB):=cell_of_row _ _ 4 _ _ _ hx1
 obtain⟨h,x,y,F,G,pj,pr,p2,hjo,j,d,r,rfl,rfl,t2⟩:=p1.ex
 have q2:w1.cell? ⟨q,2,none⟩=some (.pointer (some ⟨j,0,none⟩)):=p2.c 2
 have q3:w1.cell? ⟨q,3,none⟩=some (.pointer (some ⟨r,0,none⟩)):=p2.c 3
 have b1:(kind == 1)=false:=by simp[hk1]
 have b2:(kind == 2)=false:=by simp[hk2]
 have b3:(kind == 3)=false:=by simp[hk3]
 have b4:(kind == 4)=false:=by simp[hk4]
 have hk6:¬5<= kind:=by omega
 have HE2:Hid (∃D' J',Py W w1 q (m+1) D' J'):=⟨D,some J,p1.up (by omega)⟩
 clear hb1 hx1 p p1 p2 hjo t2 hS hE hO hB
 go_enter Tryz.func10,Tryz.ntmps10
 go_wp2
 go_ret
 exact⟨rfl,HE2.out⟩
theorem step_any (W w:World) (q m:Nat) (D:Dk) (J:Option Jl) (aD aF aN:Addr) (kind N:Int) (yes:Bool) (aL:Option Addr) (n cL:Nat) (aB:Option Addr) (nB cB:Nat) (l:List Rc) (bs:List Int) (p:Py W w q m D J) (hS:S0 W aD aF aN) (hE:Et W) (hm:m<= 4194304) (hO:OpL W aL n l) (hB:OpB W aB nB cB bs) (hN1:-9223372036854775808<= N) (hN2:N<= 9223372036854775807):
 Calls Tryz.prog 10 #[.pointer (some ⟨q,0,none⟩),.agg (opA kind N yes aL n cL aB nB cB)] w λe w'=>StP W q m e w':=by
 by_cases h1:kind=1
 ·subst h1;exact step_open W w q m D J aD aF aN N yes aL n cL aB nB cB l bs p hS hE hm hO hB hN1 hN2
 by_cases h5:kind < 5
 ·cases J with
  |none=>exact step_none W w q m D aD aF aN kind N yes aL n cL aB nB cB l bs p hS hE hm hO hB hN1 hN2 h5 h1
  |some J=>
   by_cases h2:kind=2
   ·subst h2;exact step_write W w q m D J aD aF aN N yes aL n cL aB nB cB l bs p hS hE hm hO hB hN1 hN2
   by_cases h3:kind=3
   ·subst h3;exact step_rewrite W w q m D J aD aF aN N yes aL n cL aB nB cB l bs p hS hE hm hO hB hN1 hN2
   by_cases h4:kind=4
   ·subst h4;exact step_look W w q m D J aD aF aN N yes aL n cL aB nB cB l bs p hS hE hm hO hB hN1 hN2
   exact step_idle W w q m D J aD aF aN kind N yes aL n cL aB nB cB l bs p hS hE hm hO hB hN1 hN2 h5 h1 h2 h3 h4
 by_cases h:kind=5
 ·subst h;exact step_arm W w q m D J aD aF aN N yes aL n cL aB nB cB l bs p hS hE hm hO hB hN1 hN2
 by_cases h6:kind=6
 ·subst h6;exact step_crash W w q m D J aD aF aN N yes aL n cL aB nB cB l bs p hS hE hm hO hB hN1 hN2
 by_cases h7:kind=7
 ·subst h7;exact step_stray W w q m D J aD aF aN N yes aL n cL aB nB cB l bs p hS hE hm hO hB hN1 hN2
 by_cases h8:kind=8
 ·subst h8;exact step_left W w q m D J aD aF aN N yes aL n cL aB nB cB l bs p hS hE hm hO hB hN1 hN2
 by_cases h9:kind=9
 ·subst h9;exact step_tight W w q m D J aD aF aN N yes aL n cL aB nB cB l bs p hS hE hm hO hB hN1 hN2
 exact step_more W w q m D J aD aF aN kind N yes aL n cL aB nB cB l bs p hS hE hm hO hB hN1 hN2 (by omega)
def ScO (W:World) (b off:Nat):Prop:=∃(kind N:Int) (yes:Bool) (aL:Option Addr) (nL cL:Nat) (aB:Option Addr) (nB cB:Nat) (l:List Rc) (bs:List Int),(∀j u,(opA kind N yes aL nL cL aB nB cB)[j]?=some u-> W.cell? ⟨b,off+j,none⟩=some u)/\ OpL W aL nL l/\ OpB W aB nB cB bs/\ -9223372036854775808<= N/\ N<= 9223372036854775807
def ScI (W:World) (a:Option Addr) (n:Nat):Prop:=∀i,i < n-> ∃b off,a=some ⟨b,off,none⟩/\ ScO W b (off+i*5)
theorem Py.bel {W w:World} {q m:Nat} {D:Dk} {J:Option Jl} (p:Py W w q m D J):Below W.heap.size W w:=by
 obtain⟨h,x,y,F,G,pj,pr,p1,_⟩:=p.ex
 exact p1.bel
def PlJ (W:World) (q n:Nat) (v:Value) (wr:World):Prop:=∃(i:Nat) (D:Dk) (J:Option Jl),v=.int .i64 i/\ i<= n/\ Py W wr q (i+1) D J
theorem plays_walk (a:Option Addr) (n c:Nat) (w:World) (aD aF aN:Addr) (hS:S0 w aD aF aN) (hE:Et w) (h5:5<= w.heap.size) (hn:n<= 1048576) (hs:ScI w a n):
 Calls Tryz.prog 3 #[.slice a n c] w λe w'=>e=.returned (.bool true)/\ Hid (Below w.heap.size w w'):=by
 have HA:=awake7_any w aN aD hS.tb h5 hS.er.n hS.er.d
 have H0:Hid (S0 w aD aF aN/\ Et w/\ ScI w a n):=⟨hS,hE,hs⟩
 clear hS hE h5 hs
 go_enter Tryz.func3,Tryz.ntmps3
 go_upto_region 2 with (go_at_call 6;refine HA.mono ?_;rintro e w1 ⟨rfl,hb1⟩)
 clear HA
 have HN:=dNew_any w1 100000
 rw[show nn0 100000=100000 from rfl] at HN
 have HB1:Hid (Below w.heap.size w w1):=hb1
 clear hb1
 go_upto_region 3 with (first
  |(go_at_call 7;refine HN.mono ?_;rintro e w2 ⟨rfl,hdm,hhc,hs2,hb2⟩
    have H2:Hid (Dm w2 w1.heap.size (λg=>g=w1.heap.size) (dk0 100000)/\ w2.cell? ⟨w1.heap.size+1,0,none⟩=some (.pointer (some ⟨w1.heap.size,0,none⟩))/\ w2.heap.size=w1.heap.size+2/\ Below w1.heap.size w1 w2):=⟨hdm,hhc,hs2,hb2⟩
    clear hdm hhc hs2 hb2
    have HN2:=eNew_any w2 100000
    rw[show nn0 100000=100000 from rfl] at HN2)
  |(go_at_call 8;refine HN2.mono ?_;rintro e w3 ⟨rfl,hem,hs3,hb3⟩
    have H3:Hid (Em w3 w2.heap.size (λg=>g=w2.heap.size) (dk0 100000)/\ w3.heap.size=w2.heap.size+1/\ Below w2.heap.size w2 w3):=⟨hem,hs3,hb3⟩
    clear hem hs3 hb3))
 clear HN HN2
 obtain⟨w4,hw4⟩:∃V,w3.alloc (.cells #[.pointer (some ⟨w1.heap.size+1,0,none⟩),.pointer (some ⟨w2.heap.size,0,none⟩),.pointer none,.pointer none] 32)=V:=⟨_,rfl⟩
 rw[hw4]
 have hP:Py w w4 w3.heap.size 0 (dk0 100000) none:=by
  have hb4:Below w3.heap.size w3 w4:=by rw[←hw4];exact(Below.refl _ _).alloc (aqH _) _
  have hs4:w4.heap.size=w3.heap.size+1:=by rw[←hw4];simp
  have hx4:w4.heap[w3.heap.size]?=some (.cells #[.pointer (some ⟨w1.heap.size+1,0,none⟩),.pointer (some ⟨w2.heap.size,0,none⟩),.pointer none,.pointer none] 32 (0,0)):=by rw[←hw4];exact heap_new6 w3 _
  have s1:=HB1.out.size
  have s2:=H2.out.2.2.1
  have s3:=H3.out.2.1
  refine⟨pk_dk0 (by omega),w1.heap.size+1,w1.heap.size,w2.heap.size,λg=>g=w1.heap.size,λg=>g=w2.heap.size,.pointer none,.pointer none,⟨HB1.out.trans ((H2.out.2.2.2.trans ((H3.out.2.2.trans (hb4.mono (by omega))).mono (by omega))).mono s1),hx4,bel_cell hb4 (bel_cell H3.out.2.2 H2.out.2.1),(H2.out.1.below H3.out.2.2).below hb4,H3.out.1.below hb4,λk e=>⟨by omega,by omega⟩,λk e=>⟨by omega,by omega⟩,λk e e2=>by omega,⟨by omega,by omega,by omega⟩,⟨by omega,by omega,by omega,by omega⟩⟩,rfl,rfl⟩
 have HOp:Calls Tryz.prog 9 #[.pointer (some ⟨w3.heap.size,0,none⟩)] w4 λe w'=>StP w w3.heap.size 0 e w':=if hr:(opX (dk0 100000)).r=0 then opens_ok w w4 _ 0 _ none aD aF aN hP H0.out.1 H0.out.2.1 (by omega) hr else opens_no w w4 _ 0 _ none aD aF aN hP H0.out.1 H0.out.2.1 (by omega) hr
 unfold StP at HOp
 obtain⟨q,hq⟩:∃q,w3.heap.size=q:=⟨_,rfl⟩
 rw[hq] at HOp ⊢
 clear hP hw4 hq
 go_upto_region 4 with (go_at_call 9;refine HOp.mono ?_;rintro e w5 ⟨rfl,hex⟩;have H5:Hid (∃D' J',Py w w5 q (0+1) D' J'):=hex;clear hex)
 clear HOp
 go_wp2
 go_loopw [6] (λv wr=>PlJ w q n v wr) (λv _=>n - (intOf v).toNat)
 case atStart=>
  obtain⟨D,J,h⟩:=H5.out
  exact⟨0,D,J,rfl,Nat.zero_le _,h⟩
 case round=>
  obtain⟨i,D,J,rfl,hi,hp⟩:=hrel
  have hiw:IntKind.i64.wrap ((i:Int)+1)=(i:Int)+1:=by rw[IntKind.wrap_i64];omega
  by_cases hin:i < n
  ·have hin':(i:Int) < (n:Int):=by omega
   obtain⟨b,off,rfl,kind,N,yes,aL,nL,cL,aB,nB,cB,l,bs,hce,hO,hB,hN1,hN2⟩:=H0.out.2.2 i hin
   have HSt:=step_any w wr q (i+1) D J aD aF aN kind N yes aL nL cL aB nB cB l bs hp H0.out.1 H0.out.2.1 (by omega) hO hB hN1 hN2
   unfold StP at HSt
   have c0:=bel_cell hp.bel (hce 0 (.int .i64 kind) rfl)
   have c1:=bel_cell hp.bel (hce 1 (.int .i64 N) rfl)
   have c2:=bel_cell hp.bel (hce 2 (.bool yes) rfl)
   have c3:=bel_cell hp.bel (hce 3 (.slice aL nL cL) rfl)
   have c4:=bel_cell hp.bel (hce 4 (.slice aB nB cB) rfl)
   simp only[Nat.add_zero] at c0
   clear hce hO hB hp
   go_upto_region 10 with (go_at_call 10;refine HSt.mono ?_;rintro e w6 ⟨rfl,hex⟩;have H6:Hid (∃D' J',Py w w6 q (i+1+1) D' J'):=hex;clear hex)
   clear HSt c0 c1 c2 c3 c4
   obtain⟨D6,J6,hp6⟩:=H6.out
   have HAl:=hp6.alike (by omega)
   clear hp6
   go_upto_region 11 with (go_at_call 11;refine HAl.mono ?_;rintro e w7 ⟨rfl,hp7⟩)
   clear HAl
   have HEnd:Hid (PlJ w q n (.int .i64 ((i:Int)+1)) w7):=⟨i+1,D6,J6,by simp,by omega,hp7.out⟩
   go_wp2
   exact⟨HEnd.out,by simp[intOf];omega⟩
  ·have hin':¬(i:Int) < (n:Int):=by omega
   have HEnd:Hid (Below w.heap.size w wr):=hp.bel
   clear hp
   go_wp2
   go_ret
   exact⟨rfl,HEnd.out⟩
end Go.Proofs.YtllhbhogfffedaaGreatDoor.K
namespace Go.Proofs.YtllhbhogfffedaaGreatDoor
open Go.ChangeShapes Go.WideShapes Go.ChangeAt Go.RowKit
set_option linter.unusedVariables false
variable {H:Type} {enc:TypeId×Value-> H} {W:World}
theorem recs_of7 {fuel:Nat} {v:Value} {d:DataW H} {p:List MemPlace} (hf':DataW.trod enc Tryz.prog W 0 (λ_=>true) true fuel 34 [v]=some (d,p)) (hw:(d.weights Tryz.prog 34).all (·<= reachBytes)=true):
 ∃a l n c,v=.slice a n c/\ l.length=n/\ n<= c/\ c*120<= 140737488351232/\ RLin W a l/\ (∀r∈l,Bytey r.data)/\ (a=none-> n=0/\ c=0)/\ n<= Rows.uptoBulk d/\ (∀r∈l,r.data.length<= 140737488351232/\ r.spans.length*16<= 140737488351232):=by
 rcases Go.Deep.open_slice Tryz.underlying34 hf' with ⟨hcs,_⟩|⟨a,len,cap,m,n,D,Pl,hcs,_,hl,hm,hmm,hx,hel⟩
 ·simp at hcs
  subst hcs
  exact⟨none,[],0,0,rfl,rfl,aqH _,by omega,.inl rfl,λr hr=>by simp at hr,λ_=>⟨rfl,rfl⟩,Nat.zero_le _,λr hr=>by simp at hr⟩
 ·simp at hcs
  subst hcs
  simp only[if_true] at hmm
  subst hmm
  simp only[Prod.mk.injEq] at hx
  have hwm:∀i,i < len-> ((D i).weights Tryz.prog 81).all (·<= reachBytes)=true:=λi hi=>by
   refine all_of_mem hw (λn hn=>?_)
   rw[hx.1]
   simp only[DataW.weights,Tryz.underlying34,List.mem_cons,List.mem_append]
   exact .inr (.inl (rwAll_mem (List.mem_map.mpr ⟨i,List.mem_range.mpr hi,rfl⟩) n hn))
  have hsz:m*120<= 140737488351232:=by
   have h1:=sized_slice (ts:=[34]) (ds:=[d]) (j:=0) (by simpa[DataW.weightsEach] using hw) rfl (by rw[hx.1];rfl) Tryz.underlying34
   rw[rbytes_rec] at h1
   simp only[List.length_map,List.length_range,reachBytes] at h1
   have:len+(m - len)=m:=by omega
   rw[this] at h1
   exact h1
  obtain⟨xs,hxl,hxs⟩:=rlist_of (n:=len) (p:=λi (x:Rc)=>(Bytey x.data/\ x.data.length<= 140737488351232/\ x.spans.length*16<= 140737488351232)/\ ∃sa da sc dc,(∀j u,(rcC x (.slice sa x.spans.length sc) (.slice da x.data.length dc))[j]?=some u-> W.cell? ((a.add (i*11)).add j)=some u)/\ RIn W x sa da x.spans.length x.data.length sc dc) (λi hi=>by
   obtain⟨cs',h1,h2⟩:=hel i (by omega)
   rw[rcells_rec] at h1
   obtain⟨_,hlen,hcell⟩:=World.cells?_some h1
   obtain⟨r,sa,da,ns,nd,sc,dc,rfl,q1,q2,q3,q4,q5,q6⟩:=rec_of hlen h2 (hwm i hi)
   obtain rfl:=q1.spn
   obtain rfl:=q1.dat
   refine⟨r,⟨q2,by omega,by omega⟩,sa,da,sc,dc,λj u hj=>?_,q1⟩
   have hj2:j < 11:=(Array.getElem?_eq_some_iff.mp hj).1
   rw[hcell j hj2,Array.getElem?_toList]
   exact hj)
  subst hxl
  refine⟨some a,xs,xs.length,m,rfl,rfl,hl,hsz,?_,λr hr=>?_,(λh=>by cases h),?_,λr hr=>?_⟩
  ·by_cases h0:xs=[]
   ·exact .inl h0
   ·right
    have h1:0 < xs.length:=List.length_pos_iff.mpr h0
    have hx0:xs[0]?=some xs[0]:=List.getElem?_eq_getElem h1
    obtain⟨_,sa,da,sc,dc,q1,_⟩:=hxs 0 _ hx0
    have q2:=q1 0 _ rfl
    obtain⟨g,off,rfl⟩:∃g off,a=⟨g,off,none⟩:=by
     have q3:=World.cell?_spot q2
     obtain⟨b,off,spot⟩:=a
     have hs:spot=none:=by simpa[Addr.add] using q3
     subst hs
     exact⟨b,off,rfl⟩
    refine⟨g,off,rfl,λi r hi=>?_⟩
    obtain⟨_,sa,da,sc,dc,q3,q4⟩:=hxs i r hi
    refine⟨sa,da,sc,dc,λj u hj=>?_,q4⟩
    have:=q3 j u hj
    rw[radd_none,radd_none] at this
    exact this
  ·obtain⟨i,hi⟩:=List.getElem?_of_mem hr
   exact(hxs i r hi).1.1
  ·rw[hx.1]
   have h1:=bulk_length ((List.range xs.length).map D)
   simp only[List.length_map,List.length_range] at h1
   simp only[Rows.uptoBulk]
   omega
  ·obtain⟨i,hi⟩:=List.getElem?_of_mem hr
   exact(hxs i r hi).1.2
end Go.Proofs.YtllhbhogfffedaaGreatDoor
namespace Go.Proofs.YtllhbhogfffedaaGreatDoor.K
open Go.ChangeShapes Go.WideShapes Go.ChangeAt Go.RowKit
set_option linter.unusedVariables false
variable {H:Type} {enc:TypeId×Value-> H} {W:World}
theorem ocells_bool:Tryz.prog.cellsOf 4=1:=by kernel_rfl
theorem ocells_int:Tryz.prog.cellsOf 3=1:=by kernel_rfl
theorem ocells_recs:Tryz.prog.cellsOf 34=1:=by kernel_rfl
theorem ocells_byt:Tryz.prog.cellsOf 35=1:=by kernel_rfl
theorem ocells_op:Tryz.prog.cellsOf 37=5:=by kernel_rfl
theorem bulk_mem7 {x:DataW H}:∀{l:List (DataW H)},x∈l-> Rows.uptoBulk x<= Rows.uptoBulkAll l
 |y::r,h=>by
  simp only[Rows.uptoBulkAll]
  rcases List.mem_cons.mp h with rfl|h
  ·omega
  ·have:=bulk_mem7 h;omega
theorem bget7 {α:Type} {f:Option α} {xs:List α} {i n:Nat} (hl:xs.length=n) (hi:i < n) (h:f=xs[i]?):∃y,f=some y/\ xs[i]?=some y:=⟨_,h.trans (List.getElem?_eq_getElem (by omega)),List.getElem?_eq_getElem (by omega)⟩
theorem byt_of7 {fuel:Nat} {c5:Value} {y:DataW H×List MemPlace} (e5:DataW.trod enc Tryz.prog W 0 (λ_=>true) true fuel 35 [c5]=some y) (hbk:Rows.uptoBulk y.1<= 1048576):
 ∃(a:Option Addr) (n c:Nat) (zs:List Int),c5=.slice a n c/\ zs.length=n/\ Bytey zs/\ Lies .u8 W a zs/\ (a=none-> n=0/\ c=0)/\ n<= c/\ c<= 1048576:=by
 have hv:∃a len cap,c5=.slice a len cap:=by
  rcases open_ints Tryz.underlying35 Tryz.underlying5 (by kernel_rfl) e5 with ⟨hcs,_⟩|⟨x,l,c,zs,hcs,_⟩
  ·simp at hcs;exact⟨_,_,_,hcs⟩
  ·simp at hcs;exact⟨_,_,_,hcs⟩
 obtain⟨a,len,cap,rfl⟩:=hv
 obtain⟨zs,l,c,bb,e,nn⟩:=given_ints Tryz.underlying35 Tryz.underlying5 (by kernel_rfl) (d:=y.1) (p:=y.2) ⟨fuel,e5⟩
 have m:=bulk_ints l e
 exact⟨a,len,cap,zs,rfl,l,bytey_of bb,c,nn,m.1,by omega⟩
theorem op_of7 {fuel:Nat} {l:List Value} {d:DataW H} {p:List MemPlace} (hsz:l.length=5) (hf:DataW.trod enc Tryz.prog W 0 (λ_=>true) true fuel 37 l=some (d,p)) (hw:(d.weights Tryz.prog 37).all (·<= reachBytes)=true) (hbk:Rows.uptoBulk d<= 1048576):
 ∃(kind N:Int) (yes:Bool) (aL:Option Addr) (nL cL:Nat) (aB:Option Addr) (nB cB:Nat) (rs:List Rc) (bs:List Int),l=(opA kind N yes aL nL cL aB nB cB).toList/\ OpL W aL nL rs/\ OpB W aB nB cB bs/\ -9223372036854775808<= N/\ N<= 9223372036854775807:=by
 match l,hsz with
 |[c0,c1,c2,c3,c4],_=>
  obtain⟨xs,n,_,hx,_,hlen,hfd⟩:=DataW.trod_struct Tryz.underlying37 hf
  have hl:xs.length=5:=by simpa using hlen
  have q0:DataW.trod enc Tryz.prog W 0 (λ_=>true) true n 3 (([c0,c1,c2,c3,c4].drop 0).take (Tryz.prog.cellsOf 3))=xs[0]?:=hfd 0 _ rfl
  have q1:DataW.trod enc Tryz.prog W 0 (λ_=>true) true n 3 (([c0,c1,c2,c3,c4].drop 1).take (Tryz.prog.cellsOf 3))=xs[1]?:=hfd 1 _ rfl
  have q2:DataW.trod enc Tryz.prog W 0 (λ_=>true) true n 4 (([c0,c1,c2,c3,c4].drop 2).take (Tryz.prog.cellsOf 4))=xs[2]?:=hfd 2 _ rfl
  have q3:DataW.trod enc Tryz.prog W 0 (λ_=>true) true n 34 (([c0,c1,c2,c3,c4].drop 3).take (Tryz.prog.cellsOf 34))=xs[3]?:=hfd 3 _ rfl
  have q4:DataW.trod enc Tryz.prog W 0 (λ_=>true) true n 35 (([c0,c1,c2,c3,c4].drop 4).take (Tryz.prog.cellsOf 35))=xs[4]?:=hfd 4 _ rfl
  rw[ocells_int] at q0 q1
  rw[ocells_bool] at q2
  rw[ocells_recs] at q3
  rw[ocells_byt] at q4
  have hd:d=.agg (xs.map (·.1)):=congrArg Prod.fst hx
  have m3:Rows.uptoBulkAll (xs.map (·.1))<= 1048576:=by rw[hd] at hbk;simp only[Rows.uptoBulk] at hbk;omega
  obtain⟨y0,e0,_⟩:=bget7 hl (by omega) q0
  obtain⟨y1,e1,_⟩:=bget7 hl (by omega) q1
  obtain⟨y2,e2,_⟩:=bget7 hl (by omega) q2
  obtain⟨y3,e3',hy3⟩:=bget7 hl (by omega) q3
  obtain⟨y4,e4',hy4⟩:=bget7 hl (by omega) q4
  have e3:DataW.trod enc Tryz.prog W 0 (λ_=>true) true n 34 [c3]=some (y3.1,y3.2):=e3'
  have e4:DataW.trod enc Tryz.prog W 0 (λ_=>true) true n 35 [c4]=some y4:=e4'
  obtain⟨n0,r0,_⟩:=DataW.trod_int Tryz.underlying3 e0
  obtain⟨n1,r1,_,w1⟩:=DataW.trod_int Tryz.underlying3 e1
  obtain⟨b2,r2,_⟩:=DataW.trod_bool Tryz.underlying4 e2
  simp at r0 r1 r2
  subst r0 r1 r2
  have hwe:(DataW.weightsEach Tryz.prog [3,3,4,34,35] (xs.map (·.1))).all (·<= reachBytes)=true:=by
   rw[hd] at hw
   simp only[DataW.weights,Tryz.underlying37] at hw
   exact hw
  have hw3:(y3.1.weights Tryz.prog 34).all (·<= reachBytes)=true:=all_of_mem hwe (DataW.weights_mem_each (j:=3) rfl (by rw[List.getElem?_map,hy3];rfl))
  obtain⟨a,rs,m,c,rfl,h2,h3,h4,h5,h6,h7,h8,h9⟩:=recs_of7 e3 hw3
  obtain⟨aB,nB,cB,bs,rfl,k1,k2,k3,k4,k5,k6⟩:=byt_of7 e4 (Nat.le_trans (bulk_mem7 (List.mem_of_getElem? (i:=4) (by rw[List.getElem?_map,hy4];rfl))) m3)
  have hm:m<= 1048576:=Nat.le_trans h8 (Nat.le_trans (bulk_mem7 (List.mem_of_getElem? (i:=3) (by rw[List.getElem?_map,hy3];rfl))) m3)
  refine⟨n0,n1,b2,a,m,c,aB,nB,cB,rs,bs,rfl,⟨h2,hm,h5,h6,h9,λq=>?_⟩,⟨k1,k3,k2,k4,by omega⟩,(bounds_i64 w1).1,(bounds_i64 w1).2⟩
  have hb:=fr_len (l:=rs) (λr hr=>List.all_eq_true.mp q r hr)
  rw[h2] at hb
  have:80008*m<= 80008*1048576:=Nat.mul_le_mul_left _ hm
  omega
theorem given_ops7 {v:Value} {d:DataW H} {p:List MemPlace} {base:Nat} (hok:Value.okWide Tryz.prog W .any base 22 v) (h:DataW.Trod enc Tryz.prog W 0 (λ_=>true) true 22 v d p) (hw:(d.weights Tryz.prog 22).all (·<= reachBytes)=true) (hbk:Rows.uptoBulk d<= 1048576):
 ∃a n c,v=.slice a n c/\ ScI W a n/\ n<= 1048576:=by
 obtain⟨a0,len0,cap0,rfl⟩:=okWide_slice Tryz.underlying22 hok
 obtain⟨fuel,hf⟩:=h
 have hf':DataW.trod enc Tryz.prog W 0 (λ_=>true) true fuel 22 [.slice a0 len0 cap0]=some (d,p):=hf
 clear hf hok
 rcases Go.Deep.open_slice Tryz.underlying22 hf' with ⟨hcs,_⟩|⟨a,len,cap,m,n,D,Pl,hcs,_,hl,hm,hmm,hx,hel⟩
 ·simp at hcs
  obtain⟨rfl,rfl,rfl⟩:=hcs
  exact⟨none,0,0,rfl,λi hi=>by omega,by omega⟩
 ·simp at hcs
  obtain⟨rfl,rfl,rfl⟩:=hcs
  simp only[if_true] at hmm
  subst hmm
  simp only[Prod.mk.injEq] at hx
  have hwm:∀i,i < len0-> ((D i).weights Tryz.prog 37).all (·<= reachBytes)=true:=λi hi=>by
   refine all_of_mem hw (λn hn=>?_)
   rw[hx.1]
   simp only[DataW.weights,Tryz.underlying22,List.mem_cons,List.mem_append]
   exact .inr (.inl (rwAll_mem (List.mem_map.mpr ⟨i,List.mem_range.mpr hi,rfl⟩) n hn))
  have hall:Rows.uptoBulkAll ((List.range len0).map D)<= 1048576:=by rw[hx.1] at hbk;simp only[Rows.uptoBulk] at hbk;omega
  refine⟨some a,len0,m,rfl,λi hi=>?_,?_⟩
  ·obtain⟨cs',h1,h2⟩:=hel i (by omega)
   rw[ocells_op] at h1
   obtain⟨_,hlen,hcell⟩:=World.cells?_some h1
   obtain⟨kind,N,yes,aL,nL,cL,aB,nB,cB,rs,bs,rfl,k⟩:=op_of7 hlen h2 (hwm i hi) (Nat.le_trans (bulk_mem7 (List.mem_map.mpr ⟨i,List.mem_range.mpr hi,rfl⟩)) hall)
   obtain⟨g,off,rfl⟩:∃g off,a=⟨g,off,none⟩:=by
    obtain⟨cs0,h10,_⟩:=hel 0 (by omega)
    rw[ocells_op] at h10
    obtain⟨_,hlen0,hcell0⟩:=World.cells?_some h10
    have q2:=(hcell0 0 (by omega)).trans (List.getElem?_eq_getElem (by omega))
    have q3:=World.cell?_spot q2
    obtain⟨b,off,spot⟩:=a
    have hs:spot=none:=by simpa[Addr.add] using q3
    subst hs
    exact⟨b,off,rfl⟩
   refine⟨g,off,rfl,kind,N,yes,aL,nL,cL,aB,nB,cB,rs,bs,λj u hj=>?_,k⟩
   have hj2:j < 5:=(Array.getElem?_eq_some_iff.mp hj).1
   have:=hcell j hj2
   rw[radd_none,radd_none] at this
   rw[this,Array.getElem?_toList]
   exact hj
  ·have h1:=bulk_length ((List.range len0).map D)
   simp only[List.length_map,List.length_range] at h1
   omega
end Go.Proofs.YtllhbhogfffedaaGreatDoor.K
namespace Go.Proofs.YtllhbhogfffedaaGreatDoor.journalPlaysUpto
open Go.ChangeShapes Go.WideShapes Go.ChangeAt Go.RowKit
set_option linter.unusedVariables false
theorem gD:Tryz.prog.globalNamed "lantern/disk.ErrDown"=some 0:=by kernel_rfl
theorem gF:Tryz.prog.globalNamed "lantern/disk.ErrFull"=some 1:=by kernel_rfl
theorem gN:Tryz.prog.globalNamed "lantern/disk.ErrNone"=some 2:=by kernel_rfl
theorem gDType:(Tryz.prog.globals[0]?).map (·.type)=some 43:=by kernel_rfl
theorem gFType:(Tryz.prog.globals[1]?).map (·.type)=some 43:=by kernel_rfl
theorem gNType:(Tryz.prog.globals[2]?).map (·.type)=some 43:=by kernel_rfl
theorem cellsS:Tryz.prog.cellsOf 238=1:=by kernel_rfl
theorem cellsStr:Tryz.prog.cellsOf 9=1:=by kernel_rfl
theorem star: "*"++ "errors.errorString"= "*errors.errorString":=by decide
theorem rowE (u:TypeId) (h:Tryz.prog.typeName? 3 u=some "*errors.errorString"):u=218:=
 typeName_ptr_named (nm:= "errors.errorString") (by rw[star];kernel_rfl) (by kernel_rfl) (by decide) u (by rw[star];exact h)
theorem gEt:Tryz.prog.globalNamed "errors.errorType"=some 3:=by kernel_rfl
theorem rt:(Tryz.prog.cutTypes.find? (·.1 == "internal/reflectlite.rtype")).map (·.2)=some 172:=by kernel_rfl
abbrev tySize:Nat:=348 - 100
theorem oneRow:((List.range tySize).filter λt=>Tryz.prog.rowNamed t [101,114,114,111,114])=[43]:=by kernel_rfl
theorem tSize:Tryz.prog.types.size=tySize:=by kernel_rfl
theorem gTab:Tryz.prog.globalNamed "lantern/record.kinds"=some 4:=by kernel_rfl
theorem gTabType:(Tryz.prog.globals[4]?).map (·.type)=some 209:=by kernel_rfl
theorem cellsTab:Tryz.prog.cellsOf 209=13:=by kernel_rfl
theorem cellsParts:Tryz.prog.cellsOf 198=1:=by kernel_rfl
theorem sents {W:World} (h0:laidMetH Tryz.prog Rows.journalPlaysUptoRow.laid W):(∃aD aF aN:Addr,K.S0 W aD aF aN)/\ K.Et W:=by
 have h:laidMet Tryz.prog [("lantern/disk.ErrFull",Rows.laid_lantern_disk_ErrFull),("lantern/disk.ErrDown",Rows.laid_lantern_disk_ErrDown),("lantern/disk.ErrNone",Rows.laid_lantern_disk_ErrNone),("lantern/record.kinds",Rows.laid_lantern_record_kinds)] W:=h0.1
 have hT:Lib.TabIs Tryz.prog W "lantern/record.kinds" .u16 kiT:=
  Lib.tabIs_of_head (rest:=[]) gTab gTabType Tryz.underlying209 Tryz.underlying198 cellsParts cellsTab h.tail.tail.tail
 obtain⟨aF,sF,hvF,hcF,hsF,_⟩:=laid_sentinel h gF gFType Tryz.underlying43 rowE Tryz.underlying218 Tryz.underlying238 rfl rfl Tryz.underlying9 cellsS cellsStr
 obtain⟨aD,sD,hvD,hcD,hsD,_⟩:=laid_sentinel h.tail gD gDType Tryz.underlying43 rowE Tryz.underlying218 Tryz.underlying238 rfl rfl Tryz.underlying9 cellsS cellsStr
 obtain⟨aN,sN,hvN,hcN,hsN,_⟩:=laid_sentinel h.tail.tail gN gNType Tryz.underlying43 rowE Tryz.underlying218 Tryz.underlying238 rfl rfl Tryz.underlying9 cellsS cellsStr
 have cD:W.cell? ⟨0,0,none⟩=some (.iface 218 (.pointer (some aD))):=World.var?_cell gD hvD 0
 have cF:W.cell? ⟨1,0,none⟩=some (.iface 218 (.pointer (some aF))):=World.var?_cell gF hvF 0
 have cN:W.cell? ⟨2,0,none⟩=some (.iface 218 (.pointer (some aN))):=World.var?_cell gN hvN 0
 have ne:∀{a b:Addr} {s t:ByteArray},W.cell? a=some (.string s)-> W.cell? b=some (.string t)-> s.data.toList≠t.data.toList-> a≠b:=λh1 h2 h3 e=>by
  subst e
  rw[h1] at h2
  cases h2
  exact h3 rfl
 have cl:(∃(ca:Array Value) (ta:TypeId),W.heap[aD.block]?=some (.cells ca ta (0,0)))/\ (∃(ca:Array Value) (ta:TypeId),W.heap[aF.block]?=some (.cells ca ta (0,0)))/\ (∃(ca:Array Value) (ta:TypeId),W.heap[aN.block]?=some (.cells ca ta (0,0))):=by
  obtain⟨ps,⟨g0,t0,cs0,f0,p0,q0,hg0,ht0,hv0,hd0,⟨g1,t1,cs1,f1,p1,q1,hg1,ht1,hv1,hd1,⟨g2,t2,cs2,f2,p2,q2,hg2,ht2,hv2,hd2,⟨g3,t3,cs3,f3,p3,q3,hg3,ht3,hv3,hd3,hq3,e3⟩,e2⟩,e1⟩,e0⟩,hnd,hrows⟩:=h
  obtain rfl:=Option.some.inj (gF.symm.trans hg0)
  obtain rfl:=Option.some.inj (gD.symm.trans hg1)
  obtain rfl:=Option.some.inj (gN.symm.trans hg2)
  obtain rfl:=Option.some.inj (gFType.symm.trans ht0)
  obtain rfl:=Option.some.inj (gDType.symm.trans ht1)
  obtain rfl:=Option.some.inj (gNType.symm.trans ht2)
  subst e3
  subst e2
  subst e1
  subst e0
  have k0:=Option.some.inj (hv0.symm.trans hvF)
  have k1:=Option.some.inj (hv1.symm.trans hvD)
  have k2:=Option.some.inj (hv2.symm.trans hvN)
  subst k0 k1 k2
  have ok0:∀u v,([.iface 218 (.pointer (some aF))]:List Value)=[.iface u v]-> Value.okWide Tryz.prog W .any 0 u v:=λu v e=>by
   simp only[List.cons.injEq,Value.iface.injEq] at e
   obtain⟨⟨rfl,rfl⟩,_⟩:=e
   exact(hrows 1 0 (by simp[MemPlace.row])).2 _ _ cF
  have ok1:∀u v,([.iface 218 (.pointer (some aD))]:List Value)=[.iface u v]-> Value.okWide Tryz.prog W .any 0 u v:=λu v e=>by
   simp only[List.cons.injEq,Value.iface.injEq] at e
   obtain⟨⟨rfl,rfl⟩,_⟩:=e
   exact(hrows 0 0 (by simp[MemPlace.row])).2 _ _ cD
  have ok2:∀u v,([.iface 218 (.pointer (some aN))]:List Value)=[.iface u v]-> Value.okWide Tryz.prog W .any 0 u v:=λu v e=>by
   simp only[List.cons.injEq,Value.iface.injEq] at e
   obtain⟨⟨rfl,rfl⟩,_⟩:=e
   exact(hrows 2 0 (by simp[MemPlace.row])).2 _ _ cN
  obtain⟨b0,_,z0,_,_,_,rfl⟩:=errorString_of_trod Tryz.underlying43 rowE Tryz.underlying218 Tryz.underlying238 rfl rfl Tryz.underlying9 cellsS cellsStr hd0 ok0
  obtain⟨b1,_,z1,_,_,_,rfl⟩:=errorString_of_trod Tryz.underlying43 rowE Tryz.underlying218 Tryz.underlying238 rfl rfl Tryz.underlying9 cellsS cellsStr hd1 ok1
  obtain⟨b2,_,z2,_,_,_,rfl⟩:=errorString_of_trod Tryz.underlying43 rowE Tryz.underlying218 Tryz.underlying238 rfl rfl Tryz.underlying9 cellsS cellsStr hd2 ok2
  simp only[List.cons.injEq,Value.iface.injEq,Value.pointer.injEq,aqG,and_true,true_and] at z0 z1 z2
  subst z0 z1 z2
  exact⟨(hrows aD.block aD.off (by simp[MemPlace.row])).1,(hrows aF.block aF.off (by simp[MemPlace.row])).1,(hrows aN.block aN.off (by simp[MemPlace.row])).1⟩
 refine⟨⟨aD,aF,aN,⟨cD,cF,cN⟩,ne hcD hcF (by rw[hsD,hsF];decide),ne hcD hcN (by rw[hsD,hsN];decide),ne hcF hcN (by rw[hsF,hsN];decide),cl.1,cl.2.1,cl.2.2,λi hi=>hT.cell gTab i hi⟩,?_⟩
 obtain⟨name,u,ty,t1,t2,t3,t4,t5⟩:=h0.2 _ (List.mem_cons_self ..)
 have en:name=[101,114,114,111,114]:=(Option.some.inj t1).symm
 subst en
 obtain rfl:=Option.some.inj (rt.symm.trans t2)
 have hm:ty∈(List.range tySize).filter λt=>Tryz.prog.rowNamed t [101,114,114,111,114]:=List.mem_filter.2 ⟨List.mem_range.2 (by rw[←tSize];exact t3),t4⟩
 rw[oneRow] at hm
 obtain rfl:=List.mem_singleton.1 hm
 have hh:typeHandle Tryz.prog 43=.pointer (some ⟨5,43,none⟩):=by kernel_rfl
 rw[hh] at t5
 unfold K.Et
 simpa using World.var?_cell gEt t5 0
def laidWorld (P:Program) (os:Os):World:=
 let w0:=World.holding P os ⟨#[.cells #[.string ⟨#[116,104,101,32,100,105,115,107,32,104,97,115,32,110,111,32,114,111,111,109]⟩] 238,.cells #[.string ⟨#[116,104,101,32,100,105,115,107,32,105,115,32,100,111,119,110]⟩] 238,.cells #[.string ⟨#[110,111,32,115,117,99,104,32,102,105,108,101]⟩] 238],#[.slice none 0 0],[]⟩
 let low:=(World.holding P default ⟨#[],#[],[]⟩).heap.size
 {w0 with heap:=((((w0.heap.modify 4 λ
  | .cells _ t frozen=>.cells #[.int .u16 0,.int .u16 65,.int .u16 64,.int .u16 623,.int .u16 131,.int .u16 3,.int .u16 635,.int .u16 3,.int .u16 131,.int .u16 3,.int .u16 3,.int .u16 320,.int .u16 107] t frozen
  |o=>o).modify 3 λ
  | .cells _ t frozen=>.cells #[.iface 172 (.agg #[.pointer (some ⟨5,43,none⟩)])] t frozen
  |o=>o).modify 1 λ
  | .cells _ t frozen=>.cells #[.iface 218 (.pointer (some ⟨low,0,none⟩))] t frozen
  |o=>o).modify 0 λ
  | .cells _ t frozen=>.cells #[.iface 218 (.pointer (some ⟨low+1,0,none⟩))] t frozen
  |o=>o).modify 2 λ
  | .cells _ t frozen=>.cells #[.iface 218 (.pointer (some ⟨low+2,0,none⟩))] t frozen
  |o=>o}
theorem laid_met (os:Os):laidMetH Tryz.prog Rows.journalPlaysUptoRow.laid ((laidWorld Tryz.prog os).forCall (λ_ _=>0) ⟨#[],#[.slice none 0 0],[]⟩).memory:=
 laidMetH_of_parts (laidMet_of_run' 8 (by kernel_rfl) (by kernel_rfl)) (by kernel_rfl)
theorem reads (os:Os) {H:Type} (enc:TypeId×Value-> H):∃places,DataW.whole enc Tryz.prog ((laidWorld Tryz.prog os).forCall (λ_ _=>0) ⟨#[],#[.slice none 0 0],[]⟩).memory Tryz.f3.params.toList Rows.journalPlaysSpec.vars false (#[.slice none 0 0]:Array Value).toList 8=some ([.nil],[],places):=
 ⟨[],by kernel_rfl⟩
theorem lifted (os:Os) (started:os.Started) (H:Type) (enc:TypeId×Value-> H) (F:Stop.Interp):
 ReturnsInHanded {} Tryz.checked os 3 .any ((Rows.OpenSpec.upto Rows.journalPlaysSpec).preRow enc Tryz.prog Tryz.f3 Rows.journalPlaysUptoRow.domain false Rows.journalPlaysUptoRow.laid) (((Rows.OpenSpec.upto Rows.journalPlaysSpec).at F).post enc Tryz.prog Tryz.f3 false true false false):=by
 obtain⟨places,hx⟩:=reads os enc
 refine returnsInHanded_of_row (C:=Tryz.checked) (s:=Rows.OpenSpec.upto Rows.journalPlaysSpec) own started (by kernel_rfl) Tryz.func3
  (witness_row_at (enc:=enc) (C:=Tryz.checked) false (laidWorld Tryz.prog os) #[.slice none 0 0] rfl (by kernel_rfl) (by kernel_rfl) (by kernel_rfl)
   (OpenSpec.preRow_of_cond 8 hx (by kernel_rfl) (λk hk=>by cases hk;kernel_rfl) (by kernel_rfl) (laid_met os))) ?_
 intro W base args ds gs before hval0 hW _ hk0 hsz0 hL _ _
 have hsz:(DataW.weightsEach Tryz.prog (Tryz.f3.params.toList++(Rows.OpenSpec.upto Rows.journalPlaysSpec).bare.plain.varTypes Tryz.prog) (ds++gs)).all (·<= reachBytes)=true:=hsz0
 have hval:∀(j:Nat) t v,Tryz.f3.params[j]?=some t-> args[j]?=some v-> Value.okWide Tryz.prog W .any base t v:=hval0
 have hW':=hW
 obtain⟨p,q,hA0,hV,rfl,hfz,hnd⟩:=hW
 have hA:DataW.TrodAll enc Tryz.prog W 0 (λ_=>true) true Tryz.f3.params.toList args.toList ds p:=hA0
 rw[Tryz.params3] at hA hval hsz
 obtain⟨v0,vs0,d0,ds0,p0,q0,hargs,rfl,rfl,h0,r0⟩:=trodAll_cons hA
 obtain⟨rfl,rfl,rfl⟩:=trodAll_nil r0
 obtain rfl:args=#[v0]:=by cases args;simp_all
 obtain⟨rfl,rfl⟩:=trodVars_none hV
 have hk:Rows.uptoBulkAll [d0]<= 1048576:=by have h:=of_decide_eq_true (hk0 _ rfl);simpa only[List.append_nil] using h
 simp only[Rows.uptoBulkAll] at hk
 have lt0:∀x∈p0,x.block < W.heap.size:=by obtain⟨m,hm⟩:=h0;exact DataW.trod_lt m _ _ _ hm
 obtain⟨a0,n0,c0,rfl,hsc,hn0⟩:=K.given_ops7 (hval 0 22 v0 rfl rfl) h0 (all_of_mem hsz (DataW.weights_mem_each (j:=0) rfl rfl)) (by omega)
 clear hA0 hval0
 obtain⟨⟨aD,aF,aN,hS⟩,hE⟩:=sents hL
 have h5:5<= W.heap.size:=by have:=tab6_pos hS.tb;omega
 refine(K.plays_walk a0 n0 c0 W aD aF aN hS hE h5 hn0 hsc).mono λe W' ⟨he,bel0⟩=>?_
 have bel:=bel0.out
 subst he
 exact⟨_,rfl,_,_,_,[],_,[],hW',trodAll_mk1 (shut_bool Tryz.underlying4 _),(trodAll_cons_mk (Below.trod laidOut (by kernel_rfl) (of_decide_eq_true (by kernel_rfl)) h0 bel lt0) trodAll_mk0),rfl,bel.frame _,λh=>by cases h⟩
theorem plain (f:FuncId) (fn:Func) (hf:Tryz.pinned.checked.prog.funcNamed "lantern/lanternlaw07.JournalPlays"=some f) (hfn:Tryz.pinned.checked.prog.funcs[f]?=some fn):
 true=Tryz.pinned.checked.prog.looks []/\ ∀(j:Nat) t,fn.params[j]?=some t-> Tryz.pinned.checked.prog.wantsStandIn t=false:=by
 obtain rfl:f=3:=Option.some.inj ((show Tryz.prog.funcNamed "lantern/lanternlaw07.JournalPlays"=some 3 by kernel_rfl).symm.trans hf) |>.symm
 obtain rfl:fn=Tryz.f3:=(Option.some.inj (Tryz.func3.symm.trans hfn)).symm
 refine⟨by kernel_rfl,λj t ht=>?_⟩
 rw[Tryz.params3] at ht
 have hm:t=22:=by simpa using Array.mem_of_getElem? ht
 subst hm
 exact(show Tryz.prog.wantsStandIn 22=false by kernel_rfl)
end Go.Proofs.YtllhbhogfffedaaGreatDoor.journalPlaysUpto
namespace Go.Proofs.YtllhbhogfffedaaGreatDoor
theorem journalPlays_said:Rows.JournalPlaysUptoSaid:=
 OpenClaim.holds_of_cond 3 Tryz.f3 rfl rfl rfl rfl rfl rfl rfl ⟨rfl,rfl,rfl,rfl,rfl⟩ rfl rfl rfl rfl rfl (by kernel_rfl) Tryz.func3 (by kernel_rfl)
  (of_decide_eq_true (by kernel_rfl)) (by unfold Func.isWrapper;first|(rw[if_pos (by decide+kernel)];kernel_rfl)|(rw[if_neg (by decide+kernel)];exact⟨rfl,rfl⟩))
  (λos started H enc _ F=>by rw[OpenClaim.pre_eq_preRow];exact journalPlaysUpto.lifted os started H enc F)
theorem journalPlays_upto:Rows.JournalPlaysUptoCardSaid:=
 Claim7.holds_tied_plain_at .later [] _ _ _ _ journalPlays_said (λ_ h=>by cases h) (by kernel_rfl) (λ_ h=>by cases h) journalPlaysUpto_row_tie rfl ⟨rfl,rfl⟩ (by kernel_rfl) rfl journalPlaysUpto.plain (by kernel_rfl)
#print axioms journalPlays_upto
end Go.Proofs.YtllhbhogfffedaaGreatDoor
