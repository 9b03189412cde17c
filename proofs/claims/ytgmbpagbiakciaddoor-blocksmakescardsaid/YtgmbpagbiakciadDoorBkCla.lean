import Derived.Test.YtgmbpagbiakciadDoorBkWlk
import Derived.Deep.RegionWith
import Derived.Deep.CutRange
namespace Go.Proofs.YtgmbpagbiakciadDoor.C
open Go.RowKit Go.Shelf
attribute [local go_sem] Oper.semAt_some

theorem heapC {W : World} {i : Nat} {o : Obj} (h : W.heap[i]? = some o) (ob : Obj) : (W.alloc ob).heap[i]? = some o :=
  (Below.heap_alloc W ob i (by obtain ⟨hi, _⟩ := Array.getElem?_eq_some_iff.mp h; exact hi)).trans h

/-- An outcome that is no panic. -/
def calm (Q : Exit → Act → World → Prop) : Exit → Act → World → Prop
  | .panic _, _, _ => False
  | e, a, w => Q e a w
theorem calm_le {Q : Exit → Act → World → Prop} {e : Exit} {a : Act} {w : World} (h : calm Q e a w) : Q e a w := by
  cases e <;> first | exact h | exact h.elim

/-- What the loop of clash keeps where nothing came yet. -/
structure CI (Nb Bs : Nat) (w : World) (f t : Int) (W : World) : Prop where
  nb : W.heap[Nb]? = some (.cells #[.int .i64 0] 3 (0, 0))
  sb : W.heap[Bs]? = some (.cells #[.int .i64 f, .int .i64 t] 42 (0, 0))
  low : Below w.heap.size w W
theorem CI.own {Nb Bs B : Nat} {w : World} {f t : Int} (hB : w.heap.size ≤ B) : OwnFrom B (fun (_ : List { x : Pz // x ∈ pc t f [] }) W => CI Nb Bs w f t W) := fun _ X Y row hs hg hr =>
  ⟨cells_keep hs.nb hg hr, cells_keep hs.sb hg hr, ownFrom_below (β := Unit) (Nat.le_refl _) hB () X Y row hs.low hg hr⟩
theorem CI.alloc {Nb Bs : Nat} {w : World} {f t : Int} {W : World} (h : CI Nb Bs w f t W) (o : Obj) : CI Nb Bs w f t (W.alloc o) :=
  ⟨heapC h.nb o, heapC h.sb o, h.low.alloc h.low.size o⟩

set_option maxRecDepth 100000 in
set_option maxHeartbeats 4000000 in
theorem clash_none (Bb : Nat) (hv bv : Value) (at' : Int) (ad : Option Addr) (nd cd : Nat) (w : World) (h0 : 0 ≤ at' ∧ at' ≤ 65536) (hn0 : 1 ≤ nd) (hnd : at' + nd ≤ 65536) (hB : w.heap[Bb]? = some (.cells #[hv, bv, .bool false] 110 (0, 0))) (hl : Ls w hv []) (n : Nat) (hn : 9 ≤ n) :
    CallsIn Fence.wide n Tryd.prog 65 #[.pointer (some ⟨Bb, 0, none⟩), .int .i64 at', .slice ad nd cd] w (fun e w' => e = .returned (.int .i64 0) ∧ Below w.heap.size w w') := by
  have h1 : 1 ≤ n := by omega
  have HL : Hid (Ls w hv []) := hl
  have HBb : Hid (Bb < w.heap.size) := (Array.getElem?_eq_some_iff.1 hB).1
  obtain ⟨W0, hW0⟩ : ∃ W0, W0 = (((w.alloc (.cells #[.pointer (some ⟨Bb, 0, none⟩)] 63)).alloc (.cells #[.int .i64 at'] 3)).alloc (.cells #[.slice ad nd cd] 47)).alloc (.cells #[.int .i64 0] 3) := ⟨_, rfl⟩
  have HB0 : Hid (Below w.heap.size w W0) := by rw [hW0]; exact ((((Below.refl _ _).alloc (Nat.le_refl _) _).alloc (by simp) _).alloc (by simp; omega) _).alloc (by simp; omega) _
  have hbk : W0.heap[Bb]? = some (.cells #[hv, bv, .bool false] 110 (0, 0)) := (HB0.out.block _ HBb.out).trans hB
  refine callsIn_of_wp_marks Tryd.func65 rfl trivial ?_ rfl
  simp only [Tryd.ntmps65, List.size_toArray, List.length_cons, List.length_nil, Nat.reduceAdd, Nat.reduceSub, Array.replicate_succ, Array.replicate_zero, List.push_toArray, List.append_toArray, List.nil_append, List.cons_append]
  refine wpIn_wide.2 (Code.wp_mono (fun _ _ _ h => calm_le h) ?_)
  rw [hW0] at hbk
  have q0 := cell_of_row _ _ 0 _ _ _ hbk
  have q1 := cell_of_row _ _ 1 _ _ _ hbk
  have q2 := cell_of_row _ _ 2 _ _ _ hbk
  simp only [List.getElem?_toArray, List.getElem?_cons_zero, List.getElem?_cons_succ] at q0 q1 q2
  clear hl hB hbk
  go_wp2_with fail
  rw [← hW0] at q0 q1 q2 ⊢
  have x0 : W0.heap[w.heap.size]? = some (.cells #[.pointer (some ⟨Bb, 0, none⟩)] 63 (0, 0)) := by rw [hW0]; exact heapC (heapC (heapC (heap_alloc_new' _ _) _) _) _
  have x1 : W0.heap[w.heap.size + 1]? = some (.cells #[.int .i64 at'] 3 (0, 0)) := by
    have := heap_alloc_new' (w.alloc (.cells #[.pointer (some ⟨Bb, 0, none⟩)] 63)) (.cells #[.int .i64 at'] 3)
    rw [World.size_alloc] at this; rw [hW0]; exact heapC (heapC this _) _
  have x2 : W0.heap[w.heap.size + 1 + 1]? = some (.cells #[.slice ad nd cd] 47 (0, 0)) := by
    have := heap_alloc_new' ((w.alloc (.cells #[.pointer (some ⟨Bb, 0, none⟩)] 63)).alloc (.cells #[.int .i64 at'] 3)) (.cells #[.slice ad nd cd] 47)
    rw [World.size_alloc, World.size_alloc] at this; rw [hW0]; exact heapC this _
  have x3 : W0.heap[w.heap.size + 1 + 1 + 1]? = some (.cells #[.int .i64 0] 3 (0, 0)) := by
    have := heap_alloc_new' (((w.alloc (.cells #[.pointer (some ⟨Bb, 0, none⟩)] 63)).alloc (.cells #[.int .i64 at'] 3)).alloc (.cells #[.slice ad nd cd] 47)) (.cells #[.int .i64 0] 3)
    rw [World.size_alloc, World.size_alloc, World.size_alloc] at this; rw [hW0]; exact this
  have hsz : W0.heap.size = w.heap.size + 4 := by rw [hW0]; simp
  clear hW0
  have c0 := cell_of_one x0
  have c1 := cell_of_one x1
  have c2 := cell_of_one x2
  have HX : Hid (W0.heap[w.heap.size + 1 + 1 + 1]? = some (.cells #[.int .i64 0] 3 (0, 0)) ∧ W0.heap.size = w.heap.size + 4) := ⟨x3, hsz⟩
  have hpl := places_any at' ad nd cd W0.drew h0 (by omega)
  have HLS : Hid (∀ W, Below w.heap.size w W → Calls Tryd.prog 86 #[hv, .agg #[.int .i64 at', .int .i64 (at' + nd)]] W (WalkPost [] at' (at' + nd) W)) := fun W hb => walk_any at' (at' + nd) (HL.out.below hb) ⟨by simp, trivial⟩ ⟨by show 0 ≤ at'; omega, by show at' ≤ at' + (nd : Int); omega, by show at' + (nd : Int) ≤ _; omega⟩
  clear x0 x1 x2 x3 hsz
  go_cut [23] from 16 (fun q wx => ∃ (Bs Bl : Nat) (a2 : Option Addr) (cc2 : Nat), q = .func (.func 115) #[] #[.pointer (some ⟨Bs, 0, none⟩), .pointer (some ⟨Bl, 0, none⟩)] ∧ Hid (wx.heap[w.heap.size + 1 + 1 + 1]? = some (.cells #[.int .i64 0] 3 (0, 0)) ∧ w.heap.size + 4 ≤ wx.heap.size) ∧ Hid (Below w.heap.size w wx) ∧ Hid (wx.heap[Bs]? = some (.cells #[.int .i64 at', .int .i64 (at' + nd)] 42 (0, 0)) ∧ wx.heap[Bl]? = some (.cells #[.slice a2 0 cc2] 38 (0, 0)) ∧ w.heap.size + 4 ≤ Bs ∧ w.heap.size + 4 ≤ Bl))
  case first =>
    go_region_with (first
      | (go_at_call 85
         refine hpl.mono ?_
         rintro e w1 ⟨rfl, hb1⟩
         have d0 : w1.cell? ⟨Bb, 0, none⟩ = some hv := (hb1.cell (p := ⟨Bb, 0, none⟩) (World.block_lt_of_cell? W0 ⟨Bb, 0, none⟩ q0)).trans q0
         have d1 : w1.cell? ⟨w.heap.size, 0, none⟩ = some (.pointer (some ⟨Bb, 0, none⟩)) := (hb1.cell (p := ⟨w.heap.size, 0, none⟩) (World.block_lt_of_cell? W0 ⟨w.heap.size, 0, none⟩ c0)).trans c0
         have HB1 : Hid (Below w.heap.size w w1) := HB0.out.drew.trans (hb1.mono HB0.out.size)
         have HX1 : Hid (w1.heap[w.heap.size + 1 + 1 + 1]? = some (.cells #[.int .i64 0] 3 (0, 0)) ∧ w.heap.size + 4 ≤ w1.heap.size) := ⟨(hb1.block _ (by show _ < W0.heap.size; rw [HX.out.2]; omega)).trans HX.out.1, by have := hb1.size; rw [← HX.out.2]; exact this⟩
         clear hb1)
      | (go_at_call 86
         refine (HLS.out _ HB1.out).mono ?_
         rintro e w2 ⟨Bs, Bl, a2, cc2, rfl, hs1, hs2, hs3, hs4, hs5, hs6, hb2⟩
         have HX2 : Hid (w2.heap[w.heap.size + 1 + 1 + 1]? = some (.cells #[.int .i64 0] 3 (0, 0)) ∧ w.heap.size + 4 ≤ w2.heap.size) := ⟨(hb2.block _ (by have := HX1.out.2; omega)).trans HX1.out.1, by have := hb2.size; have := HX1.out.2; omega⟩
         have HB2 : Hid (Below w.heap.size w w2) := HB1.out.trans (hb2.mono HB1.out.size)
         have HW2 : Hid (w2.heap[Bs]? = some (.cells #[.int .i64 at', .int .i64 (at' + nd)] 42 (0, 0)) ∧ w2.heap[Bl]? = some (.cells #[.slice a2 0 cc2] 38 (0, 0)) ∧ w.heap.size + 4 ≤ Bs ∧ w.heap.size + 4 ≤ Bl) := ⟨hs1, by rw [show (wth [] (at', at' + (nd : Int))).length = 0 from by simp [wth, pc]; split <;> simp [pick]] at hs2; exact hs2, by have := HX1.out.2; omega, by have := HX1.out.2; omega⟩
         clear hs1 hs2 hs3 hs4 hs5 hs6 hb2))
    all_goals (
      go_wp2_with fail
      go_meet
      exact ⟨Bs, Bl, a2, cc2, rfl, HX2, HB2, HW2⟩)
  case rest =>
    obtain ⟨Bs, Bl, a2, cc2, rfl, HX2, HB2, HW2⟩ := hcut
    clear hpl HLS c0 c1 c2 q0 q1 q2 HX HB0 HL
    go_wp2_with fail
    have hsz := HX2.out.2
    have hx3 := HX2.out.1
    have hlw := HB2.out
    obtain ⟨hw1, hw2, hw3, hw4⟩ := HW2.out
    have hBsl : Bs < wc.heap.size := (Array.getElem?_eq_some_iff.1 hw1).1
    have hlow := HB2.out.size
    refine (wpIn_wide (n := n)).1 ?_
    refine wpIn_rangeFunc_ownH rfl h1 (gf := 115) (lb := #[.pointer (some ⟨Bs, 0, none⟩), .pointer (some ⟨Bl, 0, none⟩)]) rfl trivial (enters_of Tryd.func115 (by kernel_rfl) rfl)
      (pieces_mem (n - 1) (by omega) Bs Bl w.heap.size a2 cc2 [] at' (at' + nd) (by simp) wc hlow hw1 (cell_of_one hw2) ⟨.inl rfl, fun h => absurd rfl h⟩) Kps.trans (kps_b hlow hBsl) (Below.refl _ _) (fun _ => rfl)
      (fun _ W => CI (w.heap.size + 1 + 1 + 1) Bs w at' (at' + nd) W) (fun _ _ _ => False)
      (CI.own hlow) (fun _ _ _ _ _ hs _ _ => hs)
      ⟨hx3, hw1, hlw⟩
      (fun x a' W => ∃ Bx, W.heap[Bx]? = some (.cells #[.int .i64 x.1.1.1, .int .i64 x.1.1.2] 42 (0, 0)) ∧ a' = { tmps := #[.pointer (some ⟨Bb, 0, none⟩), .int .i64 at', .slice ad nd cd, .pointer (some ⟨w.heap.size, 0, none⟩), .pointer (some ⟨w.heap.size + 1, 0, none⟩), .pointer (some ⟨w.heap.size + 1 + 1, 0, none⟩), .int .i64 0, .pointer (some ⟨w.heap.size + 1 + 1 + 1, 0, none⟩), .pointer (some ⟨Bx, 0, none⟩), .bool x.1.2, undef, .pointer (some ⟨Bb, 0, none⟩), .pointer (some ⟨Bb, 0, none⟩), .pointer (some ⟨Bb, 2, none⟩), .bool false, undef, u16, u17, u18, u19, u20, u21, u22, .func (.func 115) #[] #[.pointer (some ⟨Bs, 0, none⟩), .pointer (some ⟨Bl, 0, none⟩)], .agg #[.int .i64 x.1.1.1, .int .i64 x.1.1.2], .bool x.1.2, u26, u27, u28, u29, u30, u31, u32, u33, u34, u35, u36, u37, u38, u39, u40, u41, u42, u43, u44, u45, u46, u47, u48, u49, u50, u51, u52, u53], defers := [] })
      (fun x a' _ X Y row hs hg hr => by obtain ⟨Bx, h2, h3⟩ := hs; exact ⟨Bx, cells_keep h2 hg hr, h3⟩)
      ?assign ?body ?done ?stop
    case assign =>
      rintro l' pre x W K hGI hK
      gi_wp2
      exact hK _ _ ((KeepsOthers.alloc _ _).from _) ⟨(Below.refl _ W).alloc hGI.low.size _, Below.heap_alloc W _ _ (Array.getElem?_eq_some_iff.1 hGI.sb).1⟩ (hGI.alloc _) ⟨W.heap.size, heap_alloc_new' _ _, rfl⟩
    case body =>
      rintro l' pre ⟨x, hx⟩ a' W hl' hr hGI ⟨Bx, hxb, rfl⟩ hlt
      have hx2 : x = ((at', at' + (nd : Int)), false) := by
        rw [pc, if_pos (by omega)] at hx; simpa using hx
      subst hx2
      have k0 : W.cell? ⟨Bx, 0, none⟩ = some (.int .i64 at') := by rw [cell_of_row _ _ _ _ _ _ hxb]; rfl
      have HGI : Hid (CI (w.heap.size + 1 + 1 + 1) Bs w at' (at' + nd) W) := hGI
      clear hGI hxb hr
      gi_wp2_with fail
      refine wpIn_loop_rounds 1 ?_
      rw [roundsIn_succ]
      gi_wp2
      exact ⟨KeepsFrom.refl _ _, Kps.refl _ _ _, HGI.out⟩
    case done =>
      rintro D ys W hD hS hGI hK
      have hc := cell_of_one hGI.nb
      have HB3 : Hid (Below w.heap.size w (W.putObj D (.deferred none))) := hGI.low.trans (belowK_b (w := w) (Nat.le_refl _) W D _ _ (by omega) hK rfl rfl)
      clear hGI
      go_wp2
      change bodyPostM Fence.wide n Tryd.prog _ _ Exit.ret _ _
      refine ⟨by simp, .inl ⟨_, _, rfl, run_takeDeferred hK, ?_⟩⟩
      exact ⟨_, results_tmp rfl _ _ _, rfl, HB3.out⟩
    case stop =>
      rintro D c' pre W _ _ h _
      exact h.elim

end Go.Proofs.YtgmbpagbiakciadDoor.C
