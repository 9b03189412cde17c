import Derived.Test.YthkphihgdklbbaaDoorBfItr
namespace Go.Proofs.YthkphihgdklbbaaDoor.C
open Go.RowKit Go.Shelf
attribute [local go_sem] Oper.semAt_some
set_option linter.unusedVariables false

theorem SOwn.spK {W : World} {base g n c : Nat} {a : Option Addr} {l : List Sp} (h : SOwn W base (.slice a n c) l) : SpK (fun k => ∃ x, a = some x ∧ x.block = k) W a l := ⟨h.spa, fun _ x hx => ⟨x, hx, rfl⟩⟩

set_option maxRecDepth 100000 in
set_option maxHeartbeats 4000000 in
theorem clash_any (Bb : Nat) (b : Bf) (hv bv : Value) (at' : Int) (ad : Option Addr) (nd cd : Nat) (zs : List Int) (w : World) (hB : BuC w Bb b hv bv) (hm : may4 at' zs) (hnd : zs.length = nd) (hz : Lies .u8 w ad zs) (n : Nat) (hn : 9 ≤ n) :
    CallsIn Fence.wide n Tryd.prog 50 #[.pointer (some ⟨Bb, 0, none⟩), .int .i64 at', .slice ad nd cd] w (fun e w' => e = .returned (.int .i64 (clN b at' zs)) ∧ Below w.heap.size w w') := by
  have h1 : 1 ≤ n := by omega
  have HM : Hid (may4 at' zs) := hm
  have hX0 := x4_start (dv := .slice ad nd cd) at' hB.blk
  have HB : Hid (BuC w Bb b hv bv) := hB
  have HZ : Hid (Lies .u8 w ad zs ∧ zs.length = nd) := ⟨hz, hnd⟩
  obtain ⟨V0, hV0⟩ : ∃ V0, V0 = (((w.alloc (.cells #[.pointer (some ⟨Bb, 0, none⟩)] 25)).alloc (.cells #[.int .i64 at'] 3)).alloc (.cells #[.slice ad nd cd] 36)) := ⟨_, rfl⟩
  have hs0 : V0.heap.size = w.heap.size + 1 + 1 + 1 := by rw [hV0]; simp
  rw [← hV0] at hX0
  refine callsIn_of_wp_marks Tryd.func50 rfl trivial ?_ rfl
  simp only [Tryd.ntmps50, List.size_toArray, List.length_cons, List.length_nil, Nat.reduceAdd, Nat.reduceSub, Array.replicate_succ, Array.replicate_zero, List.push_toArray, List.append_toArray, List.nil_append, List.cons_append]
  refine wpIn_wide.2 (Code.wp_mono (fun _ _ _ h => calmB_le h) ?_)
  have hX := hX0.alloc (.cells #[.int .i64 0] 3)
  have hnb : (V0.alloc (.cells #[.int .i64 0] 3)).heap[w.heap.size + 1 + 1 + 1]? = some (.cells #[.int .i64 0] 3 (0, 0)) := by
    have := heap_alloc_new' V0 (.cells #[.int .i64 0] 3)
    rw [hs0] at this; exact this
  clear hm hB hz hnd hX0
  cases hdr : b.dr with
  | true =>
    have HC : Hid (clN b at' zs = 0) := by unfold Hid clN; rw [if_pos hdr]
    have q2 := cell_of_row _ _ 2 _ _ _ hX.bb
    simp only [List.getElem?_toArray, List.getElem?_cons_zero, List.getElem?_cons_succ, hdr] at q2
    have HL : Hid (Below w.heap.size w (V0.alloc (.cells #[.int .i64 0] 3))) := hX.low
    rw [hV0] at q2 HL
    clear hX hnb hs0 hV0
    go_wp2
    change bodyPostM Fence.wide n Tryd.prog _ _ Exit.ret _ _
    exact ⟨_, results_tmp rfl _ _ _, by rw [HC.out]; rfl, HL.out⟩
  | false =>
    have HC : Hid (clN b at' zs = clp (dfB b.bs zs at') (pc (at' + nd) at' b.l)) := by
      unfold Hid clN
      rw [if_neg (by simp [hdr]), clp_pc HB.out.ok.set.2 (by omega), HZ.out.2]
      congr 1; omega
    have q2 := cell_of_row _ _ 2 _ _ _ hX.bb
    simp only [List.getElem?_toArray, List.getElem?_cons_zero, List.getElem?_cons_succ, hdr] at q2
    obtain ⟨W0, hW0⟩ : ∃ W0, W0 = V0.alloc (.cells #[.int .i64 0] 3) := ⟨_, rfl⟩
    have HS0 : Hid (W0.heap.size = w.heap.size + 4) := by unfold Hid; rw [hW0, World.size_alloc, hs0]
    have HN0 : Hid (W0.heap[w.heap.size + 1 + 1 + 1]? = some (.cells #[.int .i64 0] 3 (0, 0))) := by unfold Hid; rw [hW0]; exact hnb
    have HX : Hid (X4 w Bb hv bv b.dr at' (.slice ad nd cd) W0) := by unfold Hid; rw [hW0]; exact hX
    rw [hV0] at q2
    clear hX hnb hs0
    go_wp2_with fail
    rw [← hV0, ← hW0]
    clear q2 hV0 hW0 V0
    have hpl : ∀ V, Calls Tryd.prog 65 #[.int .i64 at', .slice ad nd cd] V fun e w' => e = .returned (.agg #[.int .i64 at', .int .i64 (at' + nd)]) ∧ Below V.heap.size V w' := fun V => places_any at' ad nd cd V ⟨HM.out.2.2.1, by have := HM.out.2.2.2; omega⟩ (by have := HM.out.1; have := HZ.out.2; omega)
    have HWk : Hid (∀ V, X4 w Bb hv bv b.dr at' (.slice ad nd cd) V → Calls Tryd.prog 66 #[hv, .agg #[.int .i64 at', .int .i64 (at' + nd)]] V (WalkPost b.l at' (at' + nd) V)) := fun V hV => walk_any at' (at' + nd) (((HB.out.hav.below hV.low).ls (by have := HB.out.ok.set.1; omega))) HB.out.ok.set ⟨HM.out.2.2.1, by show at' ≤ at' + (nd : Int); omega, by show at' + (nd : Int) ≤ _; have := HM.out.2.2.2; have := HZ.out.2; omega⟩
    go_cut [23] from 16 (fun q wx => ∃ (Bs Bl : Nat) (a2 : Option Addr) (cc2 : Nat), q = .func (.func 70) #[] #[.pointer (some ⟨Bs, 0, none⟩), .pointer (some ⟨Bl, 0, none⟩)] ∧ Hid (Below W0.heap.size W0 wx ∧ wx.heap[Bs]? = some (.cells #[.int .i64 at', .int .i64 (at' + nd)] 38 (0, 0)) ∧ wx.heap[Bl]? = some (.cells #[.slice a2 (wth b.l (at', at' + (nd : Int))).length cc2] 59 (0, 0)) ∧ SOwn wx W0.heap.size (.slice a2 (wth b.l (at', at' + (nd : Int))).length cc2) (wth b.l (at', at' + (nd : Int))) ∧ W0.heap.size ≤ Bs ∧ W0.heap.size ≤ Bl))
    case first =>
      have hx := HX.out
      have hy := HX.out.drew
      have HBe : Hid (Below W0.heap.size W0 W0.drew) := (Below.refl _ _).drew
      go_region_held3 (fun V => V.cell? ⟨w.heap.size, 0, none⟩ = some (.pointer (some ⟨Bb, 0, none⟩)) ∧ V.cell? ⟨w.heap.size + 1, 0, none⟩ = some (.int .i64 at') ∧ V.cell? ⟨w.heap.size + 1 + 1, 0, none⟩ = some (.slice ad nd cd) ∧ V.cell? ⟨Bb, 0, none⟩ = some hv)
        (first | (exact hx.cells) | (exact hy.cells) | (exact hu.cells) | (exact hu2.cells))
        (first
          | (go_at_call 65
             refine (hpl _).mono ?_
             rintro e w1 ⟨rfl, hb1⟩
             have hu := hy.below hb1
             have HB1 : Hid (Below W0.heap.size W0 w1) := HBe.out.trans hb1
             clear hb1)
          | (go_at_call 66
             refine (HWk.out _ hu).mono ?_
             rintro e w2 ⟨Bs, Bl, a2, cc2, rfl, hs1, hs2, hs3, hs4, hs5, hs6, hb2⟩
             have hu2 := hu.below hb2
             have HW2 : Hid (Below W0.heap.size W0 w2 ∧ w2.heap[Bs]? = some (.cells #[.int .i64 at', .int .i64 (at' + nd)] 38 (0, 0)) ∧ w2.heap[Bl]? = some (.cells #[.slice a2 (wth b.l (at', at' + (nd : Int))).length cc2] 59 (0, 0)) ∧ SOwn w2 W0.heap.size (.slice a2 (wth b.l (at', at' + (nd : Int))).length cc2) (wth b.l (at', at' + (nd : Int))) ∧ W0.heap.size ≤ Bs ∧ W0.heap.size ≤ Bl) := ⟨HB1.out.trans (hb2.mono HB1.out.size), hs1, hs2, hs3.base HB1.out.size, Nat.le_trans HB1.out.size hs4, Nat.le_trans HB1.out.size hs5⟩
             clear hs1 hs2 hs3 hs4 hs5 hs6 hb2))
      all_goals (
        go_wp2_with fail
        go_meet
        exact ⟨Bs, Bl, a2, cc2, rfl, HW2⟩)
    case rest =>
      obtain ⟨Bs, Bl, a2, cc2, rfl, HW2⟩ := hcut
      obtain ⟨W6, rfl⟩ : ∃ W6, W6 = wc := ⟨_, rfl⟩
      clear hpl HWk
      go_wp2_with fail
      obtain ⟨hw0, hw1, hw2, hw3, hw4, hw5⟩ := HW2.out
      have hs0 := HS0.out
      have hBsl : Bs < W6.heap.size := (Array.getElem?_eq_some_iff.1 hw1).1
      have hs6 := hw0.size
      have HKl : Hid (∀ k, (∃ x, a2 = some x ∧ x.block = k) → W0.heap.size ≤ k ∧ k < W6.heap.size) := by
        rintro k ⟨x, rfl, rfl⟩
        exact hw3.lt _ rfl
      have HX6 : Hid (X4 w Bb hv bv b.dr at' (.slice ad nd cd) W6) := HX.out.below hw0
      have hJ0 : CJ (w.heap.size + 3) (w.heap.size + 1 + 1 + 1) Bs W6 (dfB b.bs zs at') at' (at' + nd) [] W6 := ⟨(hw0.block _ (by omega)).trans HN0.out, hw1, Below.refl _ _⟩
      have hcl : pc (at' + nd) at' (wth b.l (at', at' + (nd : Int))) = pc (at' + nd) at' b.l := pc_within
      have hll : (wth b.l (at', at' + (nd : Int))).length ≤ 1048576 := by have := len_true (hi := at' + nd) (l := b.l) (p := at'); have := HB.out.ok.set.1; show (pick true (pc (at' + nd) at' b.l)).length ≤ _; omega
      have hseq := piecesK_mem (n - 1) (by omega) Bs Bl (fun k => ∃ x, a2 = some x ∧ x.block = k) a2 cc2 (wth b.l (at', at' + (nd : Int))) at' (at' + nd) hll W6 hw1 (cell_of_one hw2) (SOwn.spK (g := 0) hw3)
      rw [hcl] at hseq
      clear hcl hll hw2 hw3
      refine (wpIn_wide (n := n)).1 ?_
      refine wpIn_rangeFunc_ownH rfl h1 (gf := 70) (lb := #[.pointer (some ⟨Bs, 0, none⟩), .pointer (some ⟨Bl, 0, none⟩)]) rfl trivial (enters_of Tryd.func70 (by kernel_rfl) rfl)
        hseq KpK.trans (kpK_put (N := W6.heap.size) (fun k hk => (HKl.out k hk).2) hBsl) (Below.refl _ _) (fun _ => rfl)
        (fun pre W => CJ (w.heap.size + 3) (w.heap.size + 1 + 1 + 1) Bs W6 (dfB b.bs zs at') at' (at' + nd) (pre.map Subtype.val) W) (fun _ _ _ => False)
        (CJ.own (by omega) (by omega)) (fun _ _ _ _ _ hs _ _ => hs)
        hJ0
        (fun x a' W => ∃ Bx, W6.heap.size ≤ Bx ∧ W.heap[Bx]? = some (.cells #[.int .i64 x.1.1.1, .int .i64 x.1.1.2] 38 (0, 0)) ∧ a' = { tmps := #[.pointer (some ⟨Bb, 0, none⟩), .int .i64 at', .slice ad nd cd, .pointer (some ⟨w.heap.size, 0, none⟩), .pointer (some ⟨w.heap.size + 1, 0, none⟩), .pointer (some ⟨w.heap.size + 1 + 1, 0, none⟩), .int .i64 0, .pointer (some ⟨w.heap.size + 1 + 1 + 1, 0, none⟩), .pointer (some ⟨Bx, 0, none⟩), .bool x.1.2, undef, .pointer (some ⟨Bb, 0, none⟩), .pointer (some ⟨Bb, 0, none⟩), .pointer (some ⟨Bb, 2, none⟩), .bool false, undef, u16, u17, u18, u19, u20, u21, u22, .func (.func 70) #[] #[.pointer (some ⟨Bs, 0, none⟩), .pointer (some ⟨Bl, 0, none⟩)], .agg #[.int .i64 x.1.1.1, .int .i64 x.1.1.2], .bool x.1.2, u26, u27, u28, u29, u30, u31, u32, u33, u34, u35, u36, u37, u38, u39, u40, u41, u42, u43, u44, u45, u46, u47, u48, u49, u50, u51, u52, u53], defers := [] })
        (fun x a' _ X Y row hs hg hr => by obtain ⟨Bx, h2, h3, h4⟩ := hs; exact ⟨Bx, h2, cells_keep h3 hg hr, h4⟩)
        ?assign ?body ?done ?stop
      case assign =>
        rintro l' pre x W K hGI hK
        have hlw := hGI.low.size
        gi_wp2
        exact hK _ _ ((KeepsOthers.alloc _ _).from _) ⟨BlK.of_below ((Below.refl _ W).alloc (Nat.le_refl _) _), Below.heap_alloc W _ _ (Array.getElem?_eq_some_iff.1 hGI.sb).1⟩ (hGI.alloc (by omega) _) ⟨W.heap.size, hlw, heap_alloc_new' _ _, rfl⟩
      case body =>
        rintro l' pre ⟨⟨⟨x1, x2⟩, xc⟩, hx⟩ a' W hl' hr hGI ⟨Bx, hbx, hxb, rfl⟩ hlt
        have hin := pc_in HB.out.ok.set.2 _ hx
        simp only at hin
        have k0 : W.cell? ⟨Bx, 0, none⟩ = some (.int .i64 x1) := by rw [cell_of_row _ _ _ _ _ _ hxb]; rfl
        have HGI : Hid (CJ (w.heap.size + 3) (w.heap.size + 1 + 1 + 1) Bs W6 (dfB b.bs zs at') at' (at' + nd) (pre.map Subtype.val) W) := hGI
        have HXB : Hid (W.heap[Bx]? = some (.cells #[.int .i64 x1, .int .i64 x2] 38 (0, 0))) := hxb
        have HL' : Hid (W6.heap.size ≤ l' ∧ ∃ r, W.heap[l']? = some (.loop r)) := ⟨hl', hr⟩
        clear hGI hxb hr hl'
        cases xc with
        | false =>
          gi_wp2_with fail
          refine wpIn_loop_rounds 1 ?_
          rw [roundsIn_succ]
          gi_wp2
          refine ⟨KeepsFrom.refl _ _, KpK.refl _ _ _, ?_⟩
          have e : clp (dfB b.bs zs at') ((pre ++ [(⟨((x1, x2), false), hx⟩ : { x : Pz // x ∈ pc (at' + nd) at' b.l })]).map Subtype.val) = clp (dfB b.bs zs at') (pre.map Subtype.val) := by rw [List.map_append]; show clp _ (_ ++ [((x1, x2), false)]) = _; rw [clp_snoc]; simp
          exact ⟨by rw [e]; exact HGI.out.nb, HGI.out.sb, HGI.out.low⟩
        | true =>
          have hc1 : ∀ i : Int, x1 ≤ i → i < x2 → has b.l i = true := fun i i1 i2 => pc_true HB.out.ok.set.2 hx rfl i i1 i2
          have hat := HM.out.2.2.1
          have hle := HM.out.2.2.2
          have hnz := HZ.out.2
          have hfx : ∀ i : Int, x1 ≤ i → i < x2 → i < b.bs.length := fun i i1 i2 => (HB.out.ok.hi (hc1 i i1 i2)).2.2 hdr
          obtain ⟨gb, cpb, rfl⟩ : ∃ gb cpb, bv = .slice (some ⟨gb, 0, none⟩) b.bs.length cpb := own_some HB.out.byt (by have := hfx x1 (by omega) (by omega); omega)
          obtain ⟨gd, od, rfl, hzc⟩ : ∃ gd od, ad = some ⟨gd, od, none⟩ ∧ ∀ i, i < zs.length → w.cell? ⟨gd, od + i, none⟩ = some (.int .u8 (zs.getD i 0)) := by
            rcases HZ.out.1 with h0 | h0
            · subst h0; have := HM.out.2.1; simp at this
            · exact h0
          have HBC : Hid (∀ k : Nat, k < b.bs.length → w.cell? ⟨gb, k, none⟩ = some (.int .u8 (b.bs.getD k 0))) := fun k hk => by
            rw [HB.out.byt.cellAt k (by omega), List.getElem?_map, List.getD_eq_getElem?_getD, List.getElem?_eq_getElem hk]; rfl
          have HZC : Hid (∀ i, i < zs.length → w.cell? ⟨gd, od + i, none⟩ = some (.int .u8 (zs.getD i 0))) := hzc
          have HXW : Hid (X4 w Bb hv (.slice (some ⟨gb, 0, none⟩) b.bs.length cpb) b.dr at' (.slice (some ⟨gd, od, none⟩) nd cd) W) := by
            have h6 := HX6.out
            have hl := HGI.out.low
            exact ⟨(hl.block _ (by omega)).trans h6.p3, (hl.block _ (by omega)).trans h6.p4, (hl.block _ (by omega)).trans h6.p5, (hl.block _ (by have := (Array.getElem?_eq_some_iff.1 HB.out.blk).1; omega)).trans h6.bb, h6.low.trans (hl.mono (by omega))⟩
          clear hzc
          have hcp : 0 ≤ clp (dfB b.bs zs at') (pre.map Subtype.val) ∧ clp (dfB b.bs zs at') (pre.map Subtype.val) ≤ 4001 * 65536 := by
            have h2 := clp_bound (p := dfB b.bs zs at') (M := 65536) (pre := pre.map Subtype.val) (fun y hy => by
              obtain ⟨⟨z, hz⟩, _, rfl⟩ := List.mem_map.mp hy
              have h3 := pc_in HB.out.ok.set.2 _ hz
              have := HM.out.2.2.2; have := HZ.out.2
              show z.1.2 - z.1.1 ≤ _
              omega)
            have h4 := len_pc (hi := at' + nd) (l := b.l) (p := at')
            have h5 := HB.out.ok.set.1
            rw [List.length_map] at h2
            have h6 : ((pre.length : Nat) : Int) * ((65536 : Nat) : Int) ≤ 4001 * 65536 := Int.mul_le_mul_of_nonneg_right (by omega) (by omega)
            exact ⟨h2.1, by omega⟩
          obtain ⟨C, hC⟩ : ∃ C, C = clp (dfB b.bs zs at') (pre.map Subtype.val) := ⟨_, rfl⟩
          rw [← hC] at hcp
          have HCK : Hid (CK (w.heap.size + 1 + 1 + 1) W C W) := ⟨⟨rfl, rfl, rfl, Nat.le_refl _, fun _ _ _ => rfl⟩, rfl, by rw [hC]; exact HGI.out.nb⟩
          have HCC : Hid (C = clp (dfB b.bs zs at') (pre.map Subtype.val)) := hC
          clear hC
          gi_wp2_with fail
          gi_loopw [10] (fun p wr => ∃ k : Nat, x1 ≤ k ∧ (k : Int) ≤ x2 ∧ p = .int .i64 (k : Int) ∧ Hid (CK (w.heap.size + 1 + 1 + 1) W (C + cb (dfB b.bs zs at') x1 ((k : Int) - x1).toNat) wr)) (fun p _ => (x2 - intOf p).toNat)
          case atStart =>
            refine ⟨x1.toNat, by omega, by omega, by rw [show ((x1.toNat : Nat) : Int) = x1 from by omega], ?_⟩
            rw [show (((x1.toNat : Nat) : Int) - x1).toNat = 0 from by omega]
            show Hid (CK _ W (C + 0) W)
            rw [Int.add_zero]; exact HCK
          case round =>
            obtain ⟨k, hk1, hk2, rfl, HK⟩ := hrel
            have e1 : wr.cell? ⟨Bx, 1, none⟩ = some (.int .i64 x2) := by rw [cell_of_row _ _ _ _ _ _ (HK.out.blk (by omega) HXB.out)]; rfl
            by_cases hlt2 : (k : Int) < x2
            · have hkx := hfx k hk1 hlt2
              have hxr : X4 w Bb hv (.slice (some ⟨gb, 0, none⟩) b.bs.length cpb) b.dr at' (.slice (some ⟨gd, od, none⟩) nd cd) wr.drew := by
                have hx := HXW.out
                have hBw := (Array.getElem?_eq_some_iff.1 HB.out.blk).1
                exact X4.drew ⟨HK.out.blk (by omega) hx.p3, HK.out.blk (by omega) hx.p4, HK.out.blk (by omega) hx.p5, HK.out.blk (by omega) hx.bb, hx.low.grown HK.out.gr hx.low.size (fun k e => by cases e; omega)⟩
              obtain ⟨m, hm⟩ : ∃ m : Nat, (m : Int) = (k : Int) - at' := ⟨((k : Int) - at').toNat, by omega⟩
              have hwr : IntKind.i64.wrap ((k : Int) - at') = (m : Int) := by rw [IntKind.wrap_i64]; omega
              have hgw : gb < w.heap.size := World.block_lt_of_cell? w ⟨gb, k, none⟩ (HBC.out k (by omega))
              have hdw : gd < w.heap.size := World.block_lt_of_cell? w ⟨gd, od + m, none⟩ (HZC.out m (by omega))
              have y1 : wr.drew.cell? ⟨gb, k, none⟩ = some (.int .u8 (b.bs.getD k 0)) := (hxr.low.cell (p := ⟨gb, k, none⟩) hgw).trans (HBC.out k (by omega))
              have y2 : wr.drew.cell? ⟨gd, od + m, none⟩ = some (.int .u8 (zs.getD m 0)) := (hxr.low.cell (p := ⟨gd, od + m, none⟩) hdw).trans (HZC.out m (by omega))
              have HR : Hid ((b.bs.getD k 0 != zs.getD m 0) = dfB b.bs zs at' k) := by
                unfold Hid dfB
                rw [show ((k : Int)).toNat = k from by omega, show ((k : Int) - at').toNat = m from by omega]
                generalize b.bs.getD k 0 = X
                generalize zs.getD m 0 = Y
                by_cases q : X = Y
                · subst q; simp
                · rw [decide_eq_true q]; exact bne_iff_ne.mpr q
              have HST : Hid (cb (dfB b.bs zs at') x1 (((k + 1 : Nat) : Int) - x1).toNat = cb (dfB b.bs zs at') x1 ((k : Int) - x1).toNat + (if dfB b.bs zs at' k then 1 else 0)) := by
                unfold Hid
                rw [show (((k + 1 : Nat) : Int) - x1).toNat = ((k : Int) - x1).toNat + 1 from by omega]
                show cb _ _ _ + (if dfB b.bs zs at' (x1 + (((k : Int) - x1).toNat : Nat)) = true then 1 else 0) = _
                rw [show x1 + ((((k : Int) - x1).toNat : Nat) : Int) = (k : Int) from by omega]
              have hbo := cb_bound (dfB b.bs zs at') x1 ((k : Int) - x1).toNat
              have hk63 : IntKind.i64.wrap ((k : Int) + 1) = ((k + 1 : Nat) : Int) := by rw [IntKind.wrap_i64]; omega
              have HK' : Hid (CK (w.heap.size + 1 + 1 + 1) W (C + cb (dfB b.bs zs at') x1 ((k : Int) - x1).toNat) wr.drew) := HK.out.drew
              clear HK
              generalize cb (dfB b.bs zs at') x1 ((k : Int) - x1).toNat = c0 at HST HK' hbo
              generalize dfB b.bs zs at' k = r at HST HR
              gi_wp2_with fail
              refine reg10 l' _ _ (by rintro ⟨a, w, h⟩; exact h) (fun _ _ _ _ h => h) w.heap.size (w.heap.size + 1) (w.heap.size + 1 + 1) Bb gb b.bs.length cpb gd od nd cd k m at' (b.bs.getD k 0) (zs.getD m 0) r wr hkx (by omega) hwr HR.out ⟨cell_of_one hxr.p3, cell_of_one hxr.p4, cell_of_one hxr.p5, cell_of_row _ _ 1 _ _ _ hxr.bb, y1, y2⟩ ?_
              have z1 : wr.drew.cell? ⟨w.heap.size + 1 + 1 + 1, 0, none⟩ = some (.int .i64 (C + c0)) := cell_of_one HK'.out.nb
              have z2 : wr.drew.frozen? ⟨w.heap.size + 1 + 1 + 1, 0, none⟩ = false := frozen_of_row _ _ 0 _ _ HK'.out.nb
              have z3 : IntKind.i64.wrap (C + c0 + 1) = C + c0 + 1 := by rw [IntKind.wrap_i64]; omega
              clear y1 y2 hxr hwr e1
              cases r with
              | true =>
                gi_wp2
                go_roundw
                case rel =>
                  refine ⟨k + 1, by omega, by omega, rfl, ?_⟩
                  rw [HST.out, if_pos rfl, show C + (c0 + 1) = C + c0 + 1 from by omega]
                  exact HK'.out.set
                case measure => simp [intOf]; omega
              | false =>
                gi_wp2
                go_roundw
                case rel =>
                  refine ⟨k + 1, by omega, by omega, rfl, ?_⟩
                  rw [HST.out, if_neg (by simp), Int.add_zero]
                  exact HK'
                case measure => simp [intOf]; omega
            · gi_wp2
              have hke : (k : Int) = x2 := by omega
              have h2 := HK.out
              rw [show ((k : Int) - x1).toNat = (x2 - x1).toNat from by omega] at h2
              have e : clp (dfB b.bs zs at') ((pre ++ [(⟨((x1, x2), true), hx⟩ : { x : Pz // x ∈ pc (at' + nd) at' b.l })]).map Subtype.val) = C + cb (dfB b.bs zs at') x1 (x2 - x1).toNat := by rw [List.map_append]; show clp _ (_ ++ [((x1, x2), true)]) = _; rw [clp_snoc, HCC.out]; simp
              have hKO : KeepsOthers W wr := KeepsOthers.of_grownBy h2.gr fun j o ej hj => by
                cases ej; rw [HGI.out.nb] at hj; cases hj; rfl
              have hBsb := HGI.out.sb
              refine ⟨hKO.from _, ⟨⟨by rw [h2.sz]; exact Nat.le_refl _, fun j hj hl => h2.gr.block j hl (fun e => by cases e; have := (HKl.out _ hj).1; omega)⟩, (h2.blk (by omega) hBsb).trans hBsb.symm⟩, ?_, h2.blk (by omega) hBsb, HGI.out.low.grown h2.gr (by have := HGI.out.low.size; omega) (fun k e => by cases e; omega)⟩
              rw [e]; exact h2.nb
      case done =>
        rintro D ys W hD hS hGI hK
        have hc := cell_of_one hGI.nb
        rw [hS] at hc
        have HB3 : Hid (Below w.heap.size w (W.putObj D (.deferred none))) := (HX6.out.low.trans (hGI.low.mono (by omega))).trans (belowK_b (w := w) (Nat.le_refl _) W D _ _ (by omega) hK rfl rfl)
        clear hGI
        go_wp2
        change bodyPostM Fence.wide n Tryd.prog _ _ Exit.ret _ _
        refine ⟨by simp, .inl ⟨_, _, rfl, run_takeDeferred hK, ?_⟩⟩
        exact ⟨_, results_tmp rfl _ _ _, by rw [HC.out]; rfl, HB3.out⟩
      case stop =>
        rintro D c' pre W _ _ h _
        exact h.elim
end Go.Proofs.YthkphihgdklbbaaDoor.C
