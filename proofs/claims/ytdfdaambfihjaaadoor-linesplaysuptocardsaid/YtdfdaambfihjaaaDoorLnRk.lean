import Derived.Test.YtdfdaambfihjaaaDoorLnAk
import Derived.Test.YtdfdaambfihjaaaDoorRx2
import Derived.Test.YtdfdaambfihjaaaDoorTk2
namespace Go.Proofs.YtdfdaambfihjaaaDoor.L
open Go.RowKit
set_option linter.unusedVariables false
set_option linter.unusedSimpArgs false

theorem bool_info : (Tryd.prog.info? 4).map (fun i => (i.zero, i.size, i.bytes)) = some (some (.bool false), 1, 1) := by kernel_rfl
theorem made_b (n : Nat) : (madeCells (Value.cells (.bool false)) (n * 1)).toList = (List.replicate n false).map Value.bool := by
  rw [Nat.mul_one]
  refine List.ext_getElem? fun i => ?_
  by_cases h : i < n <;> simp [madeCells, Value.cells, List.getElem?_range, List.getElem?_replicate, h, Nat.mod_one]
theorem set_map (T : List Bool) (i : Nat) (b : Bool) : ((T.map Value.bool).toArray).setIfInBounds i (.bool b) = ((T.set i b).map Value.bool).toArray := by
  rw [List.setIfInBounds_toArray, List.map_set]
/-- Where Take stands. -/
structure Rtk (w wr : World) (K : Int) (most : Nat) (ws : List Wa) (k i : Nat) (T : List Bool) (ov : Value) : Prop where
  bl : Below w.heap.size w wr
  tk : wr.heap[w.heap.size]? = some (.cells (T.map Value.bool).toArray 4 (0, 0))
  tr : TkR K most ws k i T
  ow : wr.ownsRow (w.heap.size + 1) 37 14 ov (Oo K most ws k i).length (seg (Oo K most ws k i))
theorem Rtk.tcell {w wr : World} {K : Int} {most : Nat} {ws : List Wa} {k i : Nat} {T : List Bool} {ov : Value} (h : Rtk w wr K most ws k i T ov) {j : Nat} {b : Bool} (hj : T[j]? = some b) : wr.cell? ⟨w.heap.size, j, none⟩ = some (.bool b) ∧ wr.frozen? ⟨w.heap.size, j, none⟩ = false := by
  refine ⟨(cell_of_row _ _ _ _ _ _ h.tk).trans ?_, frozen_of_row _ _ _ _ _ h.tk⟩
  simp [List.getElem?_map, hj]
theorem Rtk.same {w wr : World} {K : Int} {most : Nat} {ws : List Wa} {k i k' i' : Nat} {T : List Bool} {ov : Value} (h : Rtk w wr K most ws k i T ov) (ht : TkR K most ws k' i' T) (ho : Oo K most ws k' i' = Oo K most ws k i) : Rtk w wr K most ws k' i' T ov := ⟨h.bl, h.tk, ht, by rw [ho]; exact h.ow⟩
/-- What the reference's Take leaves. -/
structure RtP (w w' : World) (r : Nat) (lim K : Int) (ws ws' : List Wa) (most : Nat) (v' ov : Value) : Prop where
  rl : Rl w' r lim v' ws'
  nv : ∀ g, v'.ownBlock = some g → w.heap.size ≤ g
  kl : Kl (fun g => g = r) w w'
  out : w'.ownsRow 0 37 14 ov ((Pf K ws 3).take most).length (seg ((Pf K ws 3).take most))
  no : ∀ g, ov.ownBlock = some g → w.heap.size ≤ g ∧ v'.ownBlock ≠ some g
  lf : LfI K most ws ws.length ws'

set_option maxRecDepth 100000 in
set_option maxHeartbeats 16000000 in
theorem rtake_any (w : World) (r : Nat) (lim K : Int) (v : Value) (ws : List Wa) (mi : Int) (most : Nat) (hmi : mi.toNat = most) (h : Rl w r lim v ws) (hsl : ∀ x ∈ ws, x.y.Sl) (n : Nat) (hn : ws.length = n) (hnb : n ≤ 17179869184) :
    Calls Tryd.prog 9 #[.pointer (some ⟨r, 0, none⟩), .int .i64 K, .int .i64 mi] w fun e w' => ∃ ws' v' ov, e = .returned ov ∧ RtP w w' r lim K ws ws' most v' ov := by
  obtain ⟨i0, hi, hz0, hz1, hz2⟩ := info_parts wts_info
  obtain ⟨iS, hiS, hS0, hS1, hS2⟩ := info_parts seg_info
  obtain ⟨iB, hiB, hB0, hB1, hB2⟩ := info_parts bool_info
  obtain ⟨va, vc, hv⟩ := own_sl h.row
  rw [hn] at hv
  subst hv
  have HL : Hid (Rl w r lim (.slice va n vc) ws ∧ ws.length = n ∧ (∀ x ∈ ws, x.y.Sl)) := ⟨h, hn, hsl⟩
  have HR : Hid (∀ V : World, Below w.heap.size w V → Rl V r lim (.slice va n vc) ws) := fun V hV => h.below hV
  have c1 : w.cell? ⟨r, 1, none⟩ = some (.slice va n vc) := (cell_of_row _ _ _ _ _ _ h.box).trans rfl
  have hmq : ∀ q : Nat, ((q : Int) < mi ↔ q < most) := fun q => by omega
  have HMQ : Hid (∀ q : Nat, ((q : Int) < mi ↔ q < most)) := hmq
  obtain ⟨G, hG⟩ : ∃ G, w.heap.size = G := ⟨_, rfl⟩
  have HG : Hid (w.heap.size = G) := hG
  clear h hn hsl hmi hmq
  go_enter Tryd.func9, Tryd.ntmps9
  go_upto_region 3 with (first
    | (at_make; refine wpList_make_full _ rfl _ _ 75 rfl w.heap.size 4 iB (.bool false) 1 Tryd.underlying75 hiB hB0 hB1 .i64 .i64 _ _ n rfl rfl (by simp) (by simp) (by rw [hB2]; omega) (by unfold maxLen; omega) (Nat.le_refl _) ?_
       intro w1 hown1 hgrow1
       have HB1 : Hid (Below w.heap.size w w1) := (Below.refl _ _).grown hgrow1 (Nat.le_refl _) (by intro j hj; cases hj)
       have HG1 : Hid (w1.heap[w.heap.size]? = some (.cells ((List.replicate n false).map Value.bool).toArray 4 (0, 0))) := (by rw [made_b] at hown1; exact q2full hown1)
       clear hown1 hgrow1)
    | go_in)
  try rw [hG]
  clear c1 hG
  have HK0 : Hid (Rtk w w1 K most ws 0 0 (List.replicate n false) (.slice none 0 0)) := by
    have e := HL.out.2.1
    refine ⟨HB1.out, HG1.out, by rw [← e]; exact TkR.zero K most ws, ?_⟩
    have : Oo K most ws 0 0 = [] := by simp [Oo, Pf, Fk]
    rw [this]
    exact World.ownsRow_nil _ _ _ _
  go_wp2_with fail
  go_loopw [7, 9, 10, 11] (fun s7 s9 _ _ wr => ∃ (k : Nat) (T : List Bool) (ov : Value), k ≤ 3 ∧ s9 = .int .i64 (k : Nat) ∧ ov = s7 ∧ Hid (Rtk w wr K most ws k 0 T ov)) (fun _ s9 _ _ _ => 3 - (intOf s9).toNat)
  case atStart => exact ⟨0, _, _, by omega, rfl, rfl, HK0⟩
  case round =>
    obtain ⟨k, T, ov, hk, rfl, hov, HK⟩ := hrel
    subst hov
    clear HK0 HB1 HG1
    obtain ⟨w2, hw2⟩ : ∃ x, x = wr := ⟨_, rfl⟩
    subst hw2
    by_cases hlt : k < 3
    · have hlt' : (k : Int) < 3 := by omega
      have hwk : IntKind.i64.wrap ((k : Int) + 1) = (k : Int) + 1 := by rw [IntKind.wrap_i64]; omega
      go_wp2_with fail
      go_loopw [7, 10, 11] (fun s7 s10 _ wr => ∃ (i : Nat) (T : List Bool) (ov : Value), i ≤ n ∧ s10 = .int .i64 (i : Nat) ∧ ov = s7 ∧ Hid (Rtk w wr K most ws k i T ov)) (fun _ s10 _ _ => n - (intOf s10).toNat)
      case atStart => exact ⟨0, _, _, by omega, rfl, rfl, HK⟩
      case round =>
        obtain ⟨i, T, ov, hin, rfl, hov, HK⟩ := hrel
        subst hov
        obtain ⟨oa, oc, hov⟩ := own_sl HK.out.ow
        subst hov
        have hRw := HR.out wr HK.out.bl
        have c1 : wr.cell? ⟨r, 1, none⟩ = some (.slice va n vc) := (cell_of_row _ _ _ _ _ _ hRw.box).trans rfl
        obtain ⟨q, hq⟩ : ∃ q, (Oo K most ws k i).length = q := ⟨_, rfl⟩
        have HQ : Hid ((Oo K most ws k i).length = q) := hq
        have hqb : q ≤ 68719476736 := by rw [← hq]; have h1 := Oo_len (K := K) (most := most) (ws := ws) (i := i) hlt; have h2 := HL.out.2.1; omega
        rw [hq]
        by_cases hil : i < n
        · have hil' : (i : Int) < (n : Int) := by omega
          have h0i : 0 ≤ (i : Int) := by omega
          have hwi : IntKind.i64.wrap ((i : Int) + 1) = (i : Int) + 1 := by rw [IntKind.wrap_i64]; omega
          by_cases hqm : (q : Int) < mi
          · obtain ⟨x, hx⟩ := get_one ws i (by rw [HL.out.2.1]; exact hil)
            obtain ⟨g, cc, e1, hcl⟩ := hRw.cell hx
            rw [HL.out.2.1] at e1
            simp only [Value.slice.injEq, true_and] at e1
            obtain ⟨rfl, rfl⟩ := e1
            have HX : Hid (ws[i]? = some x) := hx
            have hxl := HL.out.2.2 x (List.mem_of_getElem? hx)
            obtain ⟨xp, xs, hvx, tvx, dvx, cvx⟩ := x
            obtain ⟨⟨a1, n1, k1, rfl⟩, ⟨a2, n2, k2, rfl⟩, ⟨a3, n3, k3, rfl⟩, a4, n4, k4, rfl⟩ := hxl
            have x0 := hcl 0 _ rfl
            rw [Nat.add_zero] at x0
            have x1 := hcl 1 _ rfl
            have x2 := hcl 2 _ rfl
            have x3 := hcl 3 _ rfl
            have x4 := hcl 4 _ rfl
            have x5 := hcl 5 _ rfl
            have x6 := hcl 6 _ rfl
            have x7 := hcl 7 _ rfl
            have x8 := hcl 8 _ rfl
            have x9 := hcl 9 _ rfl
            have x10 := hcl 10 _ rfl
            have x11 := hcl 11 _ rfl
            have x12 := hcl 12 _ rfl
            have x13 := hcl 13 _ rfl
            have x14 := hcl 14 _ rfl
            have hrk := rank11_any xs.typ wr
            rw [(kd_n xs.typ).1] at hrk
            obtain ⟨kn, hkn⟩ : ∃ kn, kdn xs.typ = kn := ⟨_, rfl⟩
            rw [hkn] at hrk
            have HKN : Hid (kdn xs.typ = kn) := hkn
            clear hcl hx hRw hkn hq
            go_wp2_with fail
            refine hrk.mono ?_
            rintro e wr1 ⟨rfl, rfl⟩
            clear hrk
            by_cases e1 : xp = K
            · by_cases e2 : kn = k
              · have HI : Hid (isK K k (⟨xp, (⟨xs, .slice a1 n1 k1, .slice a2 n2 k2, .slice a3 n3 k3, .slice a4 n4 k4⟩ : Sv)⟩ : Wa) = true) := by show isK K k (⟨xp, (⟨xs, .slice a1 n1 k1, .slice a2 n2 k2, .slice a3 n3 k3, .slice a4 n4 k4⟩ : Sv)⟩ : Wa) = true; unfold isK; simp [e1, HKN.out, e2]
                have HM : Hid ((Oo K most ws k i).length < most) := by show _ < _; rw [HQ.out]; exact (HMQ.out q).mp hqm
                have HRo : Hid (wr.ownsRow (w.heap.size + 1) 37 14 (.slice oa q oc) q (seg (Oo K most ws k i))) := by have h := HK.out.ow; rw [HQ.out] at h; exact h
                have HOne : Hid (∀ u ∈ (⟨xs, .slice a1 n1 k1, .slice a2 n2 k2, .slice a3 n3 k3, .slice a4 n4 k4⟩ : Sv).L, u.oneCell' = true) := Sv.Sl.one (x := (⟨xs, .slice a1 n1 k1, .slice a2 n2 k2, .slice a3 n3 k3, .slice a4 n4 k4⟩ : Sv)) ⟨⟨_, _, _, rfl⟩, ⟨_, _, _, rfl⟩, ⟨_, _, _, rfl⟩, _, _, _, rfl⟩
                have hWs : w.heap.size + 1 ≤ wr.heap.size := (Array.getElem?_eq_some_iff.1 HK.out.tk).1
                obtain ⟨kI, hkI⟩ : ∃ kI : Int, kI = (k : Int) := ⟨_, rfl⟩
                have e2' : ((kn : Nat) : Int) = (k : Int) := by omega
                have e2b : (((kn : Nat) : Int) == (k : Int)) = true := by simp [e2']
                have e1b : (xp == K) = true := by simp [e1]
                clear hkI kI
                subst e1
                subst e2
                go_upto_region 12 with (first
                  | (at_builtin; refine wpList_append_own_at _ rfl _ _ 30 rfl (w.heap.size + 1) 37 iS _ 14 _ Tryd.underlying30 hiS hS0 hS1 hS2 rfl (by decide) (.slice oa q oc) q (seg (Oo xp most ws kn i)) (by first | rfl | simp [Act.eval]) (World.ownsRow.alloc HRo.out _) ⟨wr.heap.size, 0, none⟩ 1 1 (⟨xs, .slice a1 n1 k1, .slice a2 n2 k2, .slice a3 n3 k3, .slice a4 n4 k4⟩ : Sv).L (by first | rfl | simp [Act.eval]) rfl (wrow_new wr (⟨xs, .slice a1 n1 k1, .slice a2 n2 k2, .slice a3 n3 k3, .slice a4 n4 k4⟩ : Sv).L 37) HOne.out (by unfold maxLen; omega) (by omega) (by simp; omega) ?_
                     intro v6 w6 hown6 hgrow6 hx6 hat6
                     obtain ⟨a6, c6, hv6⟩ := own_sl hown6
                     subst hv6
                     clear hx6)
                  | go_in)
                have H6 : Hid (Below w.heap.size w w6 ∧ w6.heap[w.heap.size]? = some (.cells (T.map Value.bool).toArray 4 (0, 0)) ∧ w6.ownsRow (w.heap.size + 1) 37 14 (.slice a6 (q + 1) c6) (q + 1) (seg (Oo xp most ws kn i) ++ (⟨xs, .slice a1 n1 k1, .slice a2 n2 k2, .slice a3 n3 k3, .slice a4 n4 k4⟩ : Sv).L)) := by
                  have hg := grown_al hgrow6
                  have hb := HK.out.bl
                  refine ⟨⟨hg.os.trans hb.os, hg.tape.trans hb.tape, hg.output.trans hb.output, Nat.le_trans hb.size hg.size, fun j hj => (grown_blk hg (by omega) (fun e2 => by have := (HRo.out.lt j e2).1; omega)).trans (hb.block j hj)⟩, (grown_blk hg (by omega) (fun e2 => by have := (HRo.out.lt _ e2).1; omega)).trans HK.out.tk, hown6⟩
                have hTl : T.length = n := HK.out.tr.1.trans HL.out.2.1
                obtain ⟨tb, htb⟩ := get_one T i (by omega)
                have t1 : w6.cell? ⟨G, i, none⟩ = some (.bool tb) := by rw [← HG.out, cell_of_row _ _ _ _ _ _ H6.out.2.1]; simp [List.getElem?_map, htb]
                have t2 : w6.frozen? ⟨G, i, none⟩ = false := by rw [← HG.out]; exact frozen_of_row _ _ _ _ _ H6.out.2.1
                have HE : Hid (Rtk w (w6.setCell ⟨G, i, none⟩ (.bool true)) xp most ws kn (i + 1) (T.set i true) (.slice a6 (q + 1) c6)) := by
                  have h1 := heap_setCell_same w6 w.heap.size i _ _ (.bool true) H6.out.2.1
                  rw [set_map] at h1
                  rw [← HG.out]
                  have ho := Oo_take HX.out HI.out HM.out
                  refine ⟨H6.out.1.setCell (p := ⟨w.heap.size, i, none⟩) (Nat.le_refl _) _, h1, HK.out.tr.take HX.out HI.out (Oo_lt HM.out).1, ?_⟩
                  rw [ho, List.length_append, HQ.out, seg_app, show seg [(⟨xs, .slice a1 n1 k1, .slice a2 n2 k2, .slice a3 n3 k3, .slice a4 n4 k4⟩ : Sv)] = (⟨xs, .slice a1 n1 k1, .slice a2 n2 k2, .slice a3 n3 k3, .slice a4 n4 k4⟩ : Sv).L by simp [seg]]
                  exact own_blk H6.out.2.2 (fun g hg => heap_setCell_other _ _ _ _ (fun e => by have := (H6.out.2.2.lt g hg).1; simp at e; omega))
                clear hown6 hgrow6 hat6 htb x0 x1 x2 x3 x4 x5 x6 x7 x8 x9 x10 x11 x12 x13 x14
                go_wp2
                go_roundw
                case rel => exact ⟨i + 1, _, _, by omega, by go_num, rfl, HE⟩
                case measure => simp [intOf]; omega
              · have e2' : ¬ ((kn : Nat) : Int) = (k : Int) := by omega
                have e2b : (((kn : Nat) : Int) == (k : Int)) = false := by simpa using e2'
                have HE : Hid (Rtk w wr K most ws k (i + 1) T (.slice oa q oc)) := by
                  have hI : isK K k (⟨xp, (⟨xs, .slice a1 n1 k1, .slice a2 n2 k2, .slice a3 n3 k3, .slice a4 n4 k4⟩ : Sv)⟩ : Wa) = false := by unfold isK; simp [HKN.out, e2]
                  have h := HK.out.same (HK.out.tr.skip HX.out hI) (Oo_skip HX.out hI)
                  rw [HQ.out] at h
                  exact h
                subst e1
                go_wp2
                go_roundw
                case rel => exact ⟨i + 1, _, _, by omega, by go_num, rfl, HE⟩
                case measure => simp [intOf]; omega
            · have e1b : (xp == K) = false := by simpa using e1
              have HE : Hid (Rtk w wr K most ws k (i + 1) T (.slice oa q oc)) := by
                have hI : isK K k (⟨xp, (⟨xs, .slice a1 n1 k1, .slice a2 n2 k2, .slice a3 n3 k3, .slice a4 n4 k4⟩ : Sv)⟩ : Wa) = false := by unfold isK; simp [e1]
                have h := HK.out.same (HK.out.tr.skip HX.out hI) (Oo_skip HX.out hI)
                rw [HQ.out] at h
                exact h
              go_wp2
              go_roundw
              case rel => exact ⟨i + 1, _, _, by omega, by go_num, rfl, HE⟩
              case measure => simp [intOf]; omega
          · have HE : Hid (Rtk w wr K most ws (k + 1) 0 T (.slice oa q oc)) := by
              have hm : most ≤ (Oo K most ws k i).length := by
                rw [HQ.out]
                have h1 := HMQ.out q
                omega
              obtain ⟨h1, h2⟩ := Oo_next (.inr hm)
              have h := HK.out.same (HK.out.tr.next h2) h1
              rw [HQ.out] at h
              exact h
            clear hRw hq
            go_wp2
            go_roundw
            case rel => exact ⟨k + 1, _, _, by omega, by go_num, rfl, HE⟩
            case measure => simp [intOf]; omega
        · have hil' : ¬ (i : Int) < (n : Int) := by omega
          have HE : Hid (Rtk w wr K most ws (k + 1) 0 T (.slice oa q oc)) := by
            obtain ⟨h1, h2⟩ := Oo_next (K := K) (most := most) (ws := ws) (k := k) (i := i) (.inl (by rw [HL.out.2.1]; omega))
            have h := HK.out.same (HK.out.tr.next h2) h1
            rw [HQ.out] at h
            exact h
          clear hRw hq
          go_wp2
          go_roundw
          case rel => exact ⟨k + 1, _, _, by omega, by go_num, rfl, HE⟩
          case measure => simp [intOf]; omega
    · have hlt' : ¬ (k : Int) < 3 := by omega
      have HK3 : Hid (Rtk w w2 K most ws 3 0 T ov) := by
        have h := HK.out
        rw [show k = 3 by omega] at h
        exact h
      have HL0 : Hid (Rtk w w2 K most ws 3 0 T ov ∧ Below w.heap.size w w2 ∧ w2.ownsRow (w.heap.size + 1) 77 15 (.slice none 0 0) 0 (wsg []) ∧ LfI K most ws 0 []) := ⟨HK3.out, HK3.out.bl, World.ownsRow_nil _ _ _ _, LfI.zero K most ws⟩
      clear hlt hk HK3
      go_wp2_with fail
      go_loopw [12, 13] (fun s12 s13 wr => ∃ (i : Nat) (L : List Wa) (lv : Value), i ≤ n ∧ s13 = .int .i64 (i : Nat) ∧ lv = s12 ∧ Hid (Rtk w wr K most ws 3 0 T ov ∧ wr.ownsRow (w.heap.size + 1) 77 15 lv L.length (wsg L) ∧ LfI K most ws i L)) (fun _ s13 _ => n - (intOf s13).toNat)
      case atStart => exact ⟨0, [], _, by omega, rfl, rfl, HL0.out.1, HL0.out.2.2.1, HL0.out.2.2.2⟩
      case round =>
        obtain ⟨i, L, lv, hin, rfl, hlv, HO⟩ := hrel
        subst hlv
        clear HL0 HK
        have hRw := HR.out wr HO.out.1.bl
        have c1 : wr.cell? ⟨r, 1, none⟩ = some (.slice va n vc) := (cell_of_row _ _ _ _ _ _ hRw.box).trans rfl
        by_cases hil : i < n
        · have hil' : (i : Int) < (n : Int) := by omega
          have h0i : 0 ≤ (i : Int) := by omega
          have hwi : IntKind.i64.wrap ((i : Int) + 1) = (i : Int) + 1 := by rw [IntKind.wrap_i64]; omega
          obtain ⟨x, hx⟩ := get_one ws i (by rw [HL.out.2.1]; exact hil)
          obtain ⟨g, cc, e1, hcl⟩ := hRw.cell hx
          rw [HL.out.2.1] at e1
          simp only [Value.slice.injEq, true_and] at e1
          obtain ⟨rfl, rfl⟩ := e1
          have htb := HO.out.1.tr.2 i x hx
          obtain ⟨tb, htbe⟩ : ∃ tb, tkb K most ws 3 0 i x = tb := ⟨_, rfl⟩
          rw [htbe] at htb
          have ht1 := (HO.out.1.tcell htb).1
          rw [HG.out] at ht1
          have HNx : Hid (LfI K most ws (i + 1) (L ++ (if tb = true then [] else [x]))) := HO.out.2.2.next hx tb htbe.symm
          have hxl := HL.out.2.2 x (List.mem_of_getElem? hx)
          obtain ⟨xp, xs, hvx, tvx, dvx, cvx⟩ := x
          obtain ⟨⟨a1, n1, k1, rfl⟩, ⟨a2, n2, k2, rfl⟩, ⟨a3, n3, k3, rfl⟩, a4, n4, k4, rfl⟩ := hxl
          have x0 := hcl 0 _ rfl
          rw [Nat.add_zero] at x0
          have x1 := hcl 1 _ rfl
          have x2 := hcl 2 _ rfl
          have x3 := hcl 3 _ rfl
          have x4 := hcl 4 _ rfl
          have x5 := hcl 5 _ rfl
          have x6 := hcl 6 _ rfl
          have x7 := hcl 7 _ rfl
          have x8 := hcl 8 _ rfl
          have x9 := hcl 9 _ rfl
          have x10 := hcl 10 _ rfl
          have x11 := hcl 11 _ rfl
          have x12 := hcl 12 _ rfl
          have x13 := hcl 13 _ rfl
          have x14 := hcl 14 _ rfl
          clear hcl hx hRw htb htbe
          cases tb with
          | true =>
            have HE : Hid (Rtk w wr K most ws 3 0 T ov ∧ wr.ownsRow (w.heap.size + 1) 77 15 lv L.length (wsg L) ∧ LfI K most ws (i + 1) L) := ⟨HO.out.1, HO.out.2.1, by have h := HNx.out; simp only [if_true, List.append_nil] at h; exact h⟩
            clear x0 x1 x2 x3 x4 x5 x6 x7 x8 x9 x10 x11 x12 x13 x14
            go_wp2
            go_roundw
            case rel => exact ⟨i + 1, L, _, by omega, by go_num, rfl, HE⟩
            case measure => simp [intOf]; omega
          | false =>
            obtain ⟨N, hN⟩ : ∃ N, L.length = N := ⟨_, rfl⟩
            have hNb : N ≤ 68719476735 := by rw [← hN]; have := HO.out.2.2.len; omega
            have HN : Hid (L.length = N) := hN
            have hro := HO.out.2.1
            rw [hN] at hro
            obtain ⟨la, lc, hle⟩ := own_sl hro
            subst hle
            have HRo : Hid (wr.ownsRow (w.heap.size + 1) 77 15 (.slice la N lc) N (wsg L)) := hro
            have HOne : Hid (∀ u ∈ (⟨xp, (⟨xs, .slice a1 n1 k1, .slice a2 n2 k2, .slice a3 n3 k3, .slice a4 n4 k4⟩ : Sv)⟩ : Wa).L, u.oneCell' = true) := Wa.one (x := (⟨xp, (⟨xs, .slice a1 n1 k1, .slice a2 n2 k2, .slice a3 n3 k3, .slice a4 n4 k4⟩ : Sv)⟩ : Wa)) ⟨⟨_, _, _, rfl⟩, ⟨_, _, _, rfl⟩, ⟨_, _, _, rfl⟩, _, _, _, rfl⟩
            have hWs : w.heap.size + 1 ≤ wr.heap.size := (Array.getElem?_eq_some_iff.1 HO.out.1.tk).1
            clear hro hN
            go_wp2_with (at_builtin; refine wpList_append_own_at _ rfl _ _ 64 rfl (w.heap.size + 1) 77 i0 _ 15 184 Tryd.underlying64 hi hz0 hz1 hz2 rfl (by decide) (.slice la N lc) N (wsg L) (by first | rfl | simp [Act.eval]) (World.ownsRow.alloc HRo.out _) ⟨wr.heap.size, 0, none⟩ 1 1 (⟨xp, (⟨xs, .slice a1 n1 k1, .slice a2 n2 k2, .slice a3 n3 k3, .slice a4 n4 k4⟩ : Sv)⟩ : Wa).L (by first | rfl | simp [Act.eval]) rfl (wrow_new wr (⟨xp, (⟨xs, .slice a1 n1 k1, .slice a2 n2 k2, .slice a3 n3 k3, .slice a4 n4 k4⟩ : Sv)⟩ : Wa).L 77) HOne.out (by unfold maxLen; omega) (by omega) (by simp; omega) ?_)
            intro v' w6 hown6 hgrow6 hx6 hat6
            obtain ⟨a6, c6, hv6⟩ := own_sl hown6
            subst hv6
            have HE : Hid (Rtk w w6 K most ws 3 0 T ov ∧ w6.ownsRow (w.heap.size + 1) 77 15 (.slice a6 (N + 1) c6) (L ++ [(⟨xp, (⟨xs, .slice a1 n1 k1, .slice a2 n2 k2, .slice a3 n3 k3, .slice a4 n4 k4⟩ : Sv)⟩ : Wa)]).length (wsg (L ++ [(⟨xp, (⟨xs, .slice a1 n1 k1, .slice a2 n2 k2, .slice a3 n3 k3, .slice a4 n4 k4⟩ : Sv)⟩ : Wa)])) ∧ LfI K most ws (i + 1) (L ++ [(⟨xp, (⟨xs, .slice a1 n1 k1, .slice a2 n2 k2, .slice a3 n3 k3, .slice a4 n4 k4⟩ : Sv)⟩ : Wa)])) := by
              have e := HNx.out
              simp only [Bool.false_eq_true, if_false] at e
              have hg := grown_al hgrow6
              have hb := HO.out.1.bl
              refine ⟨⟨⟨hg.os.trans hb.os, hg.tape.trans hb.tape, hg.output.trans hb.output, Nat.le_trans hb.size hg.size, fun j hj => (grown_blk hg (by omega) (fun e2 => by have := (HRo.out.lt j e2).1; omega)).trans (hb.block j hj)⟩, (grown_blk hg (by omega) (fun e2 => by have := (HRo.out.lt _ e2).1; omega)).trans HO.out.1.tk, HO.out.1.tr, own_blk HO.out.1.ow (fun g2 hg2 => grown_blk hg (HO.out.1.ow.lt g2 hg2).2 (fun e2 => own_tyX HO.out.1.ow HRo.out (by decide) hg2 e2))⟩, ?_, e⟩
              rw [List.length_append, wsg_app, HN.out, show wsg [(⟨xp, (⟨xs, .slice a1 n1 k1, .slice a2 n2 k2, .slice a3 n3 k3, .slice a4 n4 k4⟩ : Sv)⟩ : Wa)] = (⟨xp, (⟨xs, .slice a1 n1 k1, .slice a2 n2 k2, .slice a3 n3 k3, .slice a4 n4 k4⟩ : Sv)⟩ : Wa).L by simp [wsg]]
              exact hown6
            clear hown6 hgrow6 hx6 hat6 x0 x1 x2 x3 x4 x5 x6 x7 x8 x9 x10 x11 x12 x13 x14
            go_wp2
            go_roundw
            case rel => exact ⟨i + 1, _, _, by omega, by go_num, rfl, HE⟩
            case measure => simp [intOf]; omega
        · have hil' : ¬ (i : Int) < (n : Int) := by omega
          obtain rfl : i = n := by omega
          obtain ⟨la, lc, hle⟩ := own_sl HO.out.2.1
          subst hle
          obtain ⟨q, hq⟩ : ∃ q, L.length = q := ⟨_, rfl⟩
          have f1 : wr.frozen? ⟨r, 1, none⟩ = false := frozen_of_row _ _ _ _ _ hRw.box
          have HF : Hid (RtP w (wr.setCell ⟨r, 1, none⟩ (.slice la q lc)) r lim K ws L most (.slice la q lc) ov) := by
            have ho := HO.out.2.1
            rw [hq] at ho
            have hs := HO.out.1.bl.size
            have hb2 := heap_setCell_same wr r 1 _ _ (.slice la q lc) hRw.box
            have hp : Oo K most ws 3 0 = (Pf K ws 3).take most := by unfold Oo; simp [Fk]
            have hoo := HO.out.1.ow
            rw [hp] at hoo
            refine ⟨⟨by rw [hb2]; simp, by rw [hq]; exact own_base (own_blk ho (fun g hg => heap_setCell_other _ _ _ _ (fun e => own_hp ho hRw.box (by decide) (by rw [hg, e])))) (Nat.zero_le _)⟩, fun g hg => by have := (ho.lt g hg).1; omega, (Kl.of_below HO.out.1.bl).grown (grown_set _ _ _ _) (fun k hk => .inl (by simpa using hk.symm)), own_base (own_blk hoo (fun g hg => heap_setCell_other _ _ _ _ (fun e => own_hp hoo hRw.box (by decide) (by rw [hg, e])))) (Nat.zero_le _), fun g hg => ⟨by have := (hoo.lt g hg).1; omega, fun e => own_tyX hoo ho (by decide) hg e⟩, ?_⟩
            rw [HL.out.2.1]
            exact HO.out.2.2
          rw [hq]
          clear hq hRw
          go_wp2
          go_ret
          exact ⟨_, _, _, rfl, HF.out⟩

end Go.Proofs.YtdfdaambfihjaaaDoor.L
