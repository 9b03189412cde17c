import Derived.Test.YtpdafcchldenpaaDoorGrp
import Derived.Deep.RegionHeld3
namespace Go.Proofs.YtpdafcchldenpaaDoor.C
open Go.RowKit

theorem ob_ne {W : World} {base : Nat} {v : Value} {l : List Sp} (h : SOwn W base v l) : v.ownBlock = none ∨ v.ownBlock ≠ some W.heap.size := by
  cases hv : v.ownBlock with
  | none => left; rfl
  | some g => right; intro e; simp only [Option.some.injEq] at e; have := (h.lt g hv).2; omega
theorem ob_lt {W : World} {base : Nat} {v : Value} {l : List Sp} (h : SOwn W base v l) : ∀ k, v.ownBlock = some k → base ≤ k := fun k hk => (h.lt k hk).1
theorem two_set0 {W : World} {g : Nat} {x y : Value} {t : TypeId} (h : W.heap[g]? = some (.cells #[x, y] t (0, 0))) (v : Value) : (W.setCell ⟨g, 0, none⟩ v).heap[g]? = some (.cells #[v, y] t (0, 0)) := by
  simp only [World.setCell, Array.getElem?_modify, h, if_true, Option.map_some]
  simp
theorem two_set1 {W : World} {g : Nat} {x y : Value} {t : TypeId} (h : W.heap[g]? = some (.cells #[x, y] t (0, 0))) (v : Value) : (W.setCell ⟨g, 1, none⟩ v).heap[g]? = some (.cells #[x, v] t (0, 0)) := by
  simp only [World.setCell, Array.getElem?_modify, h, if_true, Option.map_some]
  simp
theorem keep_box {W : World} {g S i j : Nat} {u x : Value} (h : g ≠ S) (hc : W.cell? ⟨S, j, none⟩ = some x) : (W.setCell ⟨g, i, none⟩ u).cell? ⟨S, j, none⟩ = some x := by
  rw [World.cell?_of_block (w := W) (Below.heap_setCell _ _ _ _ (fun e => h (by simpa using e.symm)))]; exact hc
/-- A span is written into its box. -/
theorem box_put {W : World} {base : Nat} {v : Value} {l : List Sp} (h : SOwn W base v l) (x y : Value) (n : Nat) : SOwn ((((W.alloc (.cells #[.int .i64 0, .int .i64 0] 40)).drewN n).setCell ⟨W.heap.size, 0, none⟩ x).setCell ⟨W.heap.size, 1, none⟩ y) base v l := by
  have h0 : SOwn ((W.alloc (.cells #[.int .i64 0, .int .i64 0] 40)).drewN n) base v l := World.ownsRow.alloc h _
  have h1 := World.ownsRow.kept h0 (grown_set _ W.heap.size 0 x) (ob_ne h)
  exact World.ownsRow.kept h1 (grown_set _ W.heap.size 1 y) (ob_ne h)
theorem box_below {W w : World} (h : Below w.heap.size w W) (x y : Value) (n : Nat) : Below w.heap.size w ((((W.alloc (.cells #[.int .i64 0, .int .i64 0] 40)).drewN n).setCell ⟨W.heap.size, 0, none⟩ x).setCell ⟨W.heap.size, 1, none⟩ y) :=
  ((below_drewN (h.alloc h.size _) n).setCell (p := ⟨W.heap.size, 0, none⟩) h.size _).setCell (p := ⟨W.heap.size, 1, none⟩) h.size _
theorem box_blk (W : World) (x y : Value) (n : Nat) : ((((W.alloc (.cells #[.int .i64 0, .int .i64 0] 40)).drewN n).setCell ⟨W.heap.size, 0, none⟩ x).setCell ⟨W.heap.size, 1, none⟩ y).heap[W.heap.size]? = some (.cells #[x, y] 40 (0, 0)) := by
  have h : ((W.alloc (.cells #[.int .i64 0, .int .i64 0] 40)).drewN n).heap[W.heap.size]? = some (.cells #[.int .i64 0, .int .i64 0] 40 (0, 0)) := heap_alloc_new' _ _
  exact two_set1 (two_set0 h x) y
theorem box_c0 (W : World) (x y : Value) (n : Nat) : ((((W.alloc (.cells #[.int .i64 0, .int .i64 0] 40)).drewN n).setCell ⟨W.heap.size, 0, none⟩ x).setCell ⟨W.heap.size, 1, none⟩ y).cell? ⟨W.heap.size, 0, none⟩ = some x := by
  rw [cell_of_row _ _ _ _ _ _ (box_blk W x y n)]; rfl
theorem box_c1 (W : World) (x y : Value) (n : Nat) : ((((W.alloc (.cells #[.int .i64 0, .int .i64 0] 40)).drewN n).setCell ⟨W.heap.size, 0, none⟩ x).setCell ⟨W.heap.size, 1, none⟩ y).cell? ⟨W.heap.size, 1, none⟩ = some y := by
  rw [cell_of_row _ _ _ _ _ _ (box_blk W x y n)]; rfl
theorem box_size (W : World) (x y : Value) (n : Nat) : ((((W.alloc (.cells #[.int .i64 0, .int .i64 0] 40)).drewN n).setCell ⟨W.heap.size, 0, none⟩ x).setCell ⟨W.heap.size, 1, none⟩ y).heap.size = W.heap.size + 1 := by simp [World.setCell]

set_option maxHeartbeats 16000000 in
set_option maxRecDepth 100000 in
theorem refunion_in (a b : Option Addr) (ca cb : Nat) (l m : List Sp) (w : World) (h : Ls w (.slice a l.length ca) l) (h' : Ls w (.slice b m.length cb) m) (sl : IsSet l) (sm : IsSet m) :
    Calls Tryd.prog 6 #[.slice a l.length ca, .slice b m.length cb] w (UnionPost l m w) := by
  obtain ⟨i0, hi, hz0, hz1, hz2⟩ := info_parts Tryd.info_span
  have HM0 : Hid (Mg l m [] l m) := Mg.start sl.2 sm.2
  have HLa : Hid (Ls w (.slice a l.length ca) l) := h
  have HLb : Hid (Ls w (.slice b m.length cb) m) := h'
  have HA : Hid (Spa w a l) := by obtain ⟨a', c', hv, hs, _⟩ := h.shape; simp only [Value.slice.injEq] at hv; obtain ⟨rfl, _, _⟩ := hv; exact hs
  have HB : Hid (Spa w b m) := by obtain ⟨a', c', hv, hs, _⟩ := h'.shape; simp only [Value.slice.injEq] at hv; obtain ⟨rfl, _, _⟩ := hv; exact hs
  have HSl : Hid (IsSet l) := sl
  have HSm : Hid (IsSet m) := sm
  have hl2 := sl.1
  have hm2 := sm.1
  have hR1 := refright_ls h
  rw [setB_iff.mpr sl] at hR1
  clear h h' sl sm
  go_enter Tryd.func6, Tryd.ntmps6
  go_wp2_with fail
  refine hR1.mono ?_
  rintro e w1 ⟨rfl, hb1⟩
  have HB1 : Hid (Below w.heap.size w w1) := hb1
  have hR2 := refright_ls (HLb.out.below hb1)
  rw [setB_iff.mpr HSm.out] at hR2
  clear hR1 hb1
  go_wp2_with fail
  refine hR2.mono ?_
  rintro e w2 ⟨rfl, hb2⟩
  have HB2 : Hid (Below w.heap.size w w2) := HB1.out.trans (hb2.mono HB1.out.size)
  clear hR2 hb2 HB1
  go_wp2_with fail
  go_loopw [8, 9, 10] (fun v x y wr => ∃ (i k : Nat) (out : List Sp) (ao : Option Addr) (co : Nat), i ≤ l.length ∧ k ≤ m.length ∧ x = .int .i64 i ∧ y = .int .i64 k ∧ v = .slice ao out.length co ∧ SOwn wr w.heap.size v out ∧ Mg l m out (l.drop i) (m.drop k) ∧ Below w.heap.size w wr) (fun _ x y _ => (l.length - (intOf x).toNat) + (m.length - (intOf y).toNat))
  case atStart => exact ⟨0, 0, [], none, 0, by omega, by omega, rfl, rfl, rfl, SOwn.nil _ _, HM0.out, HB2.out⟩
  case round =>
    obtain ⟨i, k, out, ao, co, hil, hkm, rfl, rfl, rfl, hso, hmg, hbe⟩ := hrel
    have HSo : Hid (SOwn wr w.heap.size (.slice ao out.length co) out) := hso
    have HMg : Hid (Mg l m out (l.drop i) (m.drop k)) := hmg
    have HBe : Hid (Below w.heap.size w wr) := hbe
    have hol : out.length ≤ 4000 := by have := hmg.len; simp at this; omega
    have hwr := hbe.size
    clear hso hmg hbe HM0 HB2
    by_cases hi1 : i < l.length
    · have hi1' : (i : Int) < (l.length : Int) := by omega
      by_cases hk1 : k < m.length
      · have hk1' : (k : Int) < (m.length : Int) := by omega
        have hk1'' : ¬ (m.length : Int) ≤ (k : Int) := by omega
        obtain ⟨p, hp⟩ := get_some l i hi1
        obtain ⟨ga, oa, rfl, x1, x2⟩ := (HA.out.below HBe.out).at hp
        obtain ⟨pa1, pa2⟩ := p
        simp only at x1 x2
        rw [drop_get l i _ hp] at HMg
        obtain ⟨p', hp'⟩ := get_some m k hk1
        obtain ⟨gb, ob, rfl, y1, y2⟩ := (HB.out.below HBe.out).at hp'
        obtain ⟨pb1, pb2⟩ := p'
        simp only at y1 y2
        rw [drop_get m k _ hp'] at HMg
        by_cases hc : pa1 ≤ pb1
        · obtain ⟨p1, e1⟩ : ∃ p1, pa1 = p1 := ⟨_, rfl⟩
          obtain ⟨p2, e2⟩ : ∃ p2, pa2 = p2 := ⟨_, rfl⟩
          subst e1
          subst e2
          have HMg2 : Hid (Mg l m (jo out (pa1, pa2)) (l.drop (i + 1)) (m.drop k)) := by
            have := HMg.out.step (fun t ht => by
              rcases List.mem_cons.mp ht with rfl | ht
              · exact hc
              · have := HMg.out.okB.next t ht; simp only at this ⊢; omega)
            rw [drop_get m k _ hp']; exact this
          clear HMg hp hp'
          have hbx : Below wr.heap.size wr (wr.alloc (.cells #[.int .i64 0, .int .i64 0] 40)) := (Below.refl _ _).alloc (Nat.le_refl _) _
          have X1 := cell_below x1 hbx
          have X2 := cell_below x2 hbx
          have Y1 := cell_below y1 hbx
          have Y2 := cell_below y2 hbx
          clear hbx
          go_wp2_with fail
          go_quiet (fail)
          go_wp2_with fail
          have HS2 := box_put HSo.out (.int .i64 pa1) (.int .i64 pa2) nq
          have HB2 := box_below HBe.out (.int .i64 pa1) (.int .i64 pa2) nq
          have k0 := box_c0 wr (.int .i64 pa1) (.int .i64 pa2) nq
          have k1 := box_c1 wr (.int .i64 pa1) (.int .i64 pa2) nq
          have hsz := box_size wr (.int .i64 pa1) (.int .i64 pa2) nq
          generalize ((((wr.alloc (.cells #[.int .i64 0, .int .i64 0] 40)).drewN nq).setCell ⟨wr.heap.size, 0, none⟩ (.int .i64 pa1)).setCell ⟨wr.heap.size, 1, none⟩ (.int .i64 pa2)) = W2 at HS2 HB2 k0 k1 hsz ⊢
          by_cases hout : out = []
          · subst hout
            simp only [List.length_nil] at *
            have HSx : Hid (∀ n, (W2.drewN n).ownsRow w.heap.size 40 2 (.slice ao 0 co) 0 []) := fun n => HS2
            have HBx : Hid (∀ n, Below w.heap.size w (W2.drewN n)) := fun n => below_drewN HB2 n
            rw [jo_nil] at HMg2
            clear HS2 HB2 HSo HBe
            go_quiet (fail)
            go_wp2_with (at_builtin; refine wpList_append_own_at _ rfl _ _ 26 rfl w.heap.size 40 i0 (.agg #[.int .i64 0, .int .i64 0]) 2 16 Tryd.underlying26 hi hz0 hz1 hz2 rfl (by decide) _ _ _ rfl ((HSx.out _).alloc _) ⟨wr.heap.size + 1, 0, none⟩ 1 1 [.int .i64 pa1, .int .i64 pa2] rfl rfl ?c1 ?c2 ?c3 ?c4 ?c5 ?_)
            case c1 => exact cell_two_at _ _ _ _ _ hsz.symm
            case c2 => intro u hu; simp at hu; rcases hu with rfl | rfl <;> rfl
            case c3 => unfold maxLen; omega
            case c4 => omega
            case c5 => simp; omega
            intro v' w5 hown5 hgrow5 _ _
            have HS5 : Hid (SOwn w5 w.heap.size v' [(pa1, pa2)]) := hown5
            have HB5 : Hid (Below w.heap.size w w5) := (((HBx.out _).alloc (by simp; omega) _).grown hgrow5 (by simp; omega) (fun j hj => ((HSx.out 0).lt j hj).1))
            obtain ⟨a5, c5, hv5⟩ := HS5.out.shape
            subst hv5
            clear hown5 hgrow5 HSx HBx k0 k1
            go_wp2
            go_roundw
            case rel => exact ⟨i + 1, k, _, a5, c5, by omega, by omega, by go_num, by go_num, rfl, HS5.out, HMg2.out, HB5.out⟩
            case measure => simp [intOf]; omega
          · obtain ⟨ol, ou, hou⟩ : ∃ ol ou, out = ol ++ [ou] := ⟨out.dropLast, out.getLast hout, (List.dropLast_concat_getLast hout).symm⟩
            subst hou
            obtain ⟨u1, u2⟩ := ou
            obtain ⟨g, cap, hv, hg1, hg2, q1, q2, q3, q4⟩ := HS2.last
            simp only [Value.slice.injEq] at hv
            obtain ⟨rfl, hlen, rfl⟩ := hv
            have HLn : Hid ((ol ++ [(u1, u2)]).length = ol.length + 1) := hlen
            have hol2 : ol.length ≤ 4000 := by omega
            simp only at q1 q2 q4
            have hown2 : W2.ownsRow w.heap.size 40 2 (.slice (some ⟨g, 0, none⟩) (ol.length + 1) co) (ol.length + 1) ((ol ++ [(u1, u2)]).flatMap spc) := by have := HS2; unfold SOwn at this; rw [hlen] at this; exact this
            have q5 := q4 (max u2 pa2)
            have f5 := q3 (ol.length * 2 + 1)
            have hwm : IntKind.i64.wrap (((ol.length + 1 : Nat) : Int) - 1) = ol.length := by rw [IntKind.wrap_i64]; omega
            have hlt9 : (ol.length : Int) < ((ol.length + 1 : Nat) : Int) := by omega
            have hn0 : (0 : Int) < ((ol.length + 1 : Nat) : Int) := by omega
            have hnd : decide (0 < ol.length + 1) = true := decide_eq_true (by omega)
            have hn1 : ol.length + 1 ≤ 4001 := by omega
            have hgne : g ≠ wr.heap.size := by have := (HSo.out.lt g rfl).2; omega
            rw [hlen] at HSo HS2 q5 ⊢
            clear hlen q4 q3 HSo HBe HS2 hol hout
            by_cases hfar : u2 < pa1
            · rw [jo_far _ _ _ hfar] at HMg2
              have HSx : Hid (∀ n, (W2.drewN n).ownsRow w.heap.size 40 2 (.slice (some ⟨g, 0, none⟩) (ol.length + 1) co) (ol.length + 1) ((ol ++ [(u1, u2)]).flatMap spc)) := fun n => hown2
              have HBx : Hid (∀ n, Below w.heap.size w (W2.drewN n)) := fun n => below_drewN HB2 n
              have HXf : Hid ((ol ++ [(u1, u2)] ++ [(pa1, pa2)]).flatMap spc = (ol ++ [(u1, u2)]).flatMap spc ++ [.int .i64 pa1, .int .i64 pa2]) := by unfold Hid; rw [List.flatMap_append]; rfl
              have HXl : Hid ((ol ++ [(u1, u2)] ++ [(pa1, pa2)]).length = ol.length + 1 + 1) := by unfold Hid; simp
              have hdf : decide (pa1 ≤ u2) = false := decide_eq_false (by omega)
              clear q5 HB2 hown2
              generalize (ol ++ [(u1, u2)]).flatMap spc = X at *
              generalize ol.length + 1 = n at *
              go_quiet (fail)
              go_wp2_with (at_builtin; refine wpList_append_own_at _ rfl _ _ 26 rfl w.heap.size 40 i0 (.agg #[.int .i64 0, .int .i64 0]) 2 16 Tryd.underlying26 hi hz0 hz1 hz2 rfl (by decide) _ _ _ rfl ((HSx.out _).alloc _) ⟨wr.heap.size + 1, 0, none⟩ 1 1 [.int .i64 pa1, .int .i64 pa2] rfl rfl ?c1 ?c2 ?c3 ?c4 ?c5 ?_)
              case c1 => exact cell_two_at _ _ _ _ _ hsz.symm
              case c2 => intro u hu; simp at hu; rcases hu with rfl | rfl <;> rfl
              case c3 => unfold maxLen; omega
              case c4 => omega
              case c5 => simp; omega
              intro v' w5 hown5 hgrow5 _ _
              have HS5 : Hid (SOwn w5 w.heap.size v' (ol ++ [(u1, u2)] ++ [(pa1, pa2)])) := by unfold Hid SOwn; rw [HXl.out, HXf.out]; exact hown5
              have HB5 : Hid (Below w.heap.size w w5) := (((HBx.out _).alloc (by simp; omega) _).grown hgrow5 (by simp; omega) (fun j hj => ((HSx.out 0).lt j hj).1))
              obtain ⟨a5, c5, hv5⟩ := HS5.out.shape
              subst hv5
              clear hown5 hgrow5 HSx HBx k0 k1 HXf
              go_wp2
              go_roundw
              case rel => exact ⟨i + 1, k, _, a5, c5, by omega, by omega, by go_num, by go_num, rfl, HS5.out, HMg2.out, HB5.out⟩
              case measure => simp [intOf]; omega
            · rw [jo_near _ _ _ (by show pa1 ≤ u2; omega)] at HMg2
              have HS5 : Hid (SOwn (W2.setCell ⟨g, ol.length * 2 + 1, none⟩ (.int .i64 (max u2 pa2))) w.heap.size (.slice (some ⟨g, 0, none⟩) (ol.length + 1) co) (ol ++ [(u1, max u2 pa2)])) := q5
              have HB5 : Hid (∀ n x, Below w.heap.size w ((W2.drewN n).setCell ⟨g, ol.length * 2 + 1, none⟩ x)) := fun n x => (below_drewN HB2 n).setCell (p := ⟨g, ol.length * 2 + 1, none⟩) hg1 x
              have HXl : Hid ((ol ++ [(u1, max u2 pa2)]).length = ol.length + 1) := by unfold Hid; simp
              have hdf : decide (pa1 ≤ u2) = true := decide_eq_true (by omega)
              clear q5 HB2 hown2
              simp only at HMg2 HS5
              generalize ol.length + 1 = n at *
              go_quiet (fail)
              rcases Int.lt_or_le u2 pa2 with hmx | hmx
              · rw [show max u2 pa2 = pa2 from by omega] at HS5 HMg2 HXl
                go_wp2
                go_region
                all_goals go_wp2
                go_roundw
                case rel => exact ⟨i + 1, k, _, _, _, by omega, by omega, by go_num, by go_num, by rw [HXl.out], HS5.out, HMg2.out, HB5.out _ _⟩
                case measure => simp [intOf]; omega
              · rw [show max u2 pa2 = u2 from by omega] at HS5 HMg2 HXl
                go_wp2
                go_region
                all_goals go_wp2
                go_roundw
                case rel => exact ⟨i + 1, k, _, _, _, by omega, by omega, by go_num, by go_num, by rw [HXl.out], HS5.out, HMg2.out, HB5.out _ _⟩
                case measure => simp [intOf]; omega
        · have HMg2 : Hid (Mg l m (jo out (pb1, pb2)) (l.drop i) (m.drop (k + 1))) := by
            have := (HMg.out.swap.step (fun t ht => by
              rcases List.mem_cons.mp ht with rfl | ht
              · show pb1 ≤ pa1; omega
              · have := HMg.out.okA.next t ht; simp only at this ⊢; omega)).swap
            rw [drop_get l i _ hp]; exact this
          have hcd : decide (pa1 ≤ pb1) = false := decide_eq_false hc
          clear HMg hp hp'
          have hbx : Below wr.heap.size wr (wr.alloc (.cells #[.int .i64 0, .int .i64 0] 40)) := (Below.refl _ _).alloc (Nat.le_refl _) _
          have X1 := cell_below x1 hbx
          have X2 := cell_below x2 hbx
          have Y1 := cell_below y1 hbx
          have Y2 := cell_below y2 hbx
          clear hbx
          go_wp2_with fail
          go_quiet (fail)
          go_wp2_with fail
          have HS2 := box_put HSo.out (.int .i64 pb1) (.int .i64 pb2) nq
          have HB2 := box_below HBe.out (.int .i64 pb1) (.int .i64 pb2) nq
          have k0 := box_c0 wr (.int .i64 pb1) (.int .i64 pb2) nq
          have k1 := box_c1 wr (.int .i64 pb1) (.int .i64 pb2) nq
          have hsz := box_size wr (.int .i64 pb1) (.int .i64 pb2) nq
          generalize ((((wr.alloc (.cells #[.int .i64 0, .int .i64 0] 40)).drewN nq).setCell ⟨wr.heap.size, 0, none⟩ (.int .i64 pb1)).setCell ⟨wr.heap.size, 1, none⟩ (.int .i64 pb2)) = W2 at HS2 HB2 k0 k1 hsz ⊢
          by_cases hout : out = []
          · subst hout
            simp only [List.length_nil] at *
            have HSx : Hid (∀ n, (W2.drewN n).ownsRow w.heap.size 40 2 (.slice ao 0 co) 0 []) := fun n => HS2
            have HBx : Hid (∀ n, Below w.heap.size w (W2.drewN n)) := fun n => below_drewN HB2 n
            rw [jo_nil] at HMg2
            clear HS2 HB2 HSo HBe
            go_quiet (fail)
            go_wp2_with (at_builtin; refine wpList_append_own_at _ rfl _ _ 26 rfl w.heap.size 40 i0 (.agg #[.int .i64 0, .int .i64 0]) 2 16 Tryd.underlying26 hi hz0 hz1 hz2 rfl (by decide) _ _ _ rfl ((HSx.out _).alloc _) ⟨wr.heap.size + 1, 0, none⟩ 1 1 [.int .i64 pb1, .int .i64 pb2] rfl rfl ?c1 ?c2 ?c3 ?c4 ?c5 ?_)
            case c1 => exact cell_two_at _ _ _ _ _ hsz.symm
            case c2 => intro u hu; simp at hu; rcases hu with rfl | rfl <;> rfl
            case c3 => unfold maxLen; omega
            case c4 => omega
            case c5 => simp; omega
            intro v' w5 hown5 hgrow5 _ _
            have HS5 : Hid (SOwn w5 w.heap.size v' [(pb1, pb2)]) := hown5
            have HB5 : Hid (Below w.heap.size w w5) := (((HBx.out _).alloc (by simp; omega) _).grown hgrow5 (by simp; omega) (fun j hj => ((HSx.out 0).lt j hj).1))
            obtain ⟨a5, c5, hv5⟩ := HS5.out.shape
            subst hv5
            clear hown5 hgrow5 HSx HBx k0 k1
            go_wp2
            go_roundw
            case rel => exact ⟨i, k + 1, _, a5, c5, by omega, by omega, by go_num, by go_num, rfl, HS5.out, HMg2.out, HB5.out⟩
            case measure => simp [intOf]; omega
          · obtain ⟨ol, ou, hou⟩ : ∃ ol ou, out = ol ++ [ou] := ⟨out.dropLast, out.getLast hout, (List.dropLast_concat_getLast hout).symm⟩
            subst hou
            obtain ⟨u1, u2⟩ := ou
            obtain ⟨g, cap, hv, hg1, hg2, q1, q2, q3, q4⟩ := HS2.last
            simp only [Value.slice.injEq] at hv
            obtain ⟨rfl, hlen, rfl⟩ := hv
            have HLn : Hid ((ol ++ [(u1, u2)]).length = ol.length + 1) := hlen
            have hol2 : ol.length ≤ 4000 := by omega
            simp only at q1 q2 q4
            have hown2 : W2.ownsRow w.heap.size 40 2 (.slice (some ⟨g, 0, none⟩) (ol.length + 1) co) (ol.length + 1) ((ol ++ [(u1, u2)]).flatMap spc) := by have := HS2; unfold SOwn at this; rw [hlen] at this; exact this
            have q5 := q4 (max u2 pb2)
            have f5 := q3 (ol.length * 2 + 1)
            have hwm : IntKind.i64.wrap (((ol.length + 1 : Nat) : Int) - 1) = ol.length := by rw [IntKind.wrap_i64]; omega
            have hlt9 : (ol.length : Int) < ((ol.length + 1 : Nat) : Int) := by omega
            have hn0 : (0 : Int) < ((ol.length + 1 : Nat) : Int) := by omega
            have hnd : decide (0 < ol.length + 1) = true := decide_eq_true (by omega)
            have hn1 : ol.length + 1 ≤ 4001 := by omega
            have hgne : g ≠ wr.heap.size := by have := (HSo.out.lt g rfl).2; omega
            rw [hlen] at HSo HS2 q5 ⊢
            clear hlen q4 q3 HSo HBe HS2 hol hout
            by_cases hfar : u2 < pb1
            · rw [jo_far _ _ _ hfar] at HMg2
              have HSx : Hid (∀ n, (W2.drewN n).ownsRow w.heap.size 40 2 (.slice (some ⟨g, 0, none⟩) (ol.length + 1) co) (ol.length + 1) ((ol ++ [(u1, u2)]).flatMap spc)) := fun n => hown2
              have HBx : Hid (∀ n, Below w.heap.size w (W2.drewN n)) := fun n => below_drewN HB2 n
              have HXf : Hid ((ol ++ [(u1, u2)] ++ [(pb1, pb2)]).flatMap spc = (ol ++ [(u1, u2)]).flatMap spc ++ [.int .i64 pb1, .int .i64 pb2]) := by unfold Hid; rw [List.flatMap_append]; rfl
              have HXl : Hid ((ol ++ [(u1, u2)] ++ [(pb1, pb2)]).length = ol.length + 1 + 1) := by unfold Hid; simp
              have hdf : decide (pb1 ≤ u2) = false := decide_eq_false (by omega)
              clear q5 HB2 hown2
              generalize (ol ++ [(u1, u2)]).flatMap spc = X at *
              generalize ol.length + 1 = n at *
              go_quiet (fail)
              go_wp2_with (at_builtin; refine wpList_append_own_at _ rfl _ _ 26 rfl w.heap.size 40 i0 (.agg #[.int .i64 0, .int .i64 0]) 2 16 Tryd.underlying26 hi hz0 hz1 hz2 rfl (by decide) _ _ _ rfl ((HSx.out _).alloc _) ⟨wr.heap.size + 1, 0, none⟩ 1 1 [.int .i64 pb1, .int .i64 pb2] rfl rfl ?c1 ?c2 ?c3 ?c4 ?c5 ?_)
              case c1 => exact cell_two_at _ _ _ _ _ hsz.symm
              case c2 => intro u hu; simp at hu; rcases hu with rfl | rfl <;> rfl
              case c3 => unfold maxLen; omega
              case c4 => omega
              case c5 => simp; omega
              intro v' w5 hown5 hgrow5 _ _
              have HS5 : Hid (SOwn w5 w.heap.size v' (ol ++ [(u1, u2)] ++ [(pb1, pb2)])) := by unfold Hid SOwn; rw [HXl.out, HXf.out]; exact hown5
              have HB5 : Hid (Below w.heap.size w w5) := (((HBx.out _).alloc (by simp; omega) _).grown hgrow5 (by simp; omega) (fun j hj => ((HSx.out 0).lt j hj).1))
              obtain ⟨a5, c5, hv5⟩ := HS5.out.shape
              subst hv5
              clear hown5 hgrow5 HSx HBx k0 k1 HXf
              go_wp2
              go_roundw
              case rel => exact ⟨i, k + 1, _, a5, c5, by omega, by omega, by go_num, by go_num, rfl, HS5.out, HMg2.out, HB5.out⟩
              case measure => simp [intOf]; omega
            · rw [jo_near _ _ _ (by show pb1 ≤ u2; omega)] at HMg2
              have HS5 : Hid (SOwn (W2.setCell ⟨g, ol.length * 2 + 1, none⟩ (.int .i64 (max u2 pb2))) w.heap.size (.slice (some ⟨g, 0, none⟩) (ol.length + 1) co) (ol ++ [(u1, max u2 pb2)])) := q5
              have HB5 : Hid (∀ n x, Below w.heap.size w ((W2.drewN n).setCell ⟨g, ol.length * 2 + 1, none⟩ x)) := fun n x => (below_drewN HB2 n).setCell (p := ⟨g, ol.length * 2 + 1, none⟩) hg1 x
              have HXl : Hid ((ol ++ [(u1, max u2 pb2)]).length = ol.length + 1) := by unfold Hid; simp
              have hdf : decide (pb1 ≤ u2) = true := decide_eq_true (by omega)
              clear q5 HB2 hown2
              simp only at HMg2 HS5
              generalize ol.length + 1 = n at *
              go_quiet (fail)
              rcases Int.lt_or_le u2 pb2 with hmx | hmx
              · rw [show max u2 pb2 = pb2 from by omega] at HS5 HMg2 HXl
                go_wp2
                go_region
                all_goals go_wp2
                go_roundw
                case rel => exact ⟨i, k + 1, _, _, _, by omega, by omega, by go_num, by go_num, by rw [HXl.out], HS5.out, HMg2.out, HB5.out _ _⟩
                case measure => simp [intOf]; omega
              · rw [show max u2 pb2 = u2 from by omega] at HS5 HMg2 HXl
                go_wp2
                go_region
                all_goals go_wp2
                go_roundw
                case rel => exact ⟨i, k + 1, _, _, _, by omega, by omega, by go_num, by go_num, by rw [HXl.out], HS5.out, HMg2.out, HB5.out _ _⟩
                case measure => simp [intOf]; omega
      · have hkm1 : k = m.length := by omega
        subst hkm1
        obtain ⟨p, hp⟩ := get_some l i hi1
        obtain ⟨ga, oa, rfl, x1, x2⟩ := (HA.out.below HBe.out).at hp
        obtain ⟨pa1, pa2⟩ := p
        simp only at x1 x2
        rw [drop_get l i _ hp] at HMg
        have HMg2 : Hid (Mg l m (jo out (pa1, pa2)) (l.drop (i + 1)) (m.drop m.length)) := by
          exact HMg.out.step (fun t ht => by rw [List.drop_length] at ht; cases ht)
        clear HMg hp
        have hbx : Below wr.heap.size wr (wr.alloc (.cells #[.int .i64 0, .int .i64 0] 40)) := (Below.refl _ _).alloc (Nat.le_refl _) _
        have X1 := cell_below x1 hbx
        have X2 := cell_below x2 hbx
        clear hbx
        go_wp2_with fail
        go_quiet (fail)
        go_wp2_with fail
        have HS2 := box_put HSo.out (.int .i64 pa1) (.int .i64 pa2) nq
        have HB2 := box_below HBe.out (.int .i64 pa1) (.int .i64 pa2) nq
        have k0 := box_c0 wr (.int .i64 pa1) (.int .i64 pa2) nq
        have k1 := box_c1 wr (.int .i64 pa1) (.int .i64 pa2) nq
        have hsz := box_size wr (.int .i64 pa1) (.int .i64 pa2) nq
        generalize ((((wr.alloc (.cells #[.int .i64 0, .int .i64 0] 40)).drewN nq).setCell ⟨wr.heap.size, 0, none⟩ (.int .i64 pa1)).setCell ⟨wr.heap.size, 1, none⟩ (.int .i64 pa2)) = W2 at HS2 HB2 k0 k1 hsz ⊢
        by_cases hout : out = []
        · subst hout
          simp only [List.length_nil] at *
          have HSx : Hid (∀ n, (W2.drewN n).ownsRow w.heap.size 40 2 (.slice ao 0 co) 0 []) := fun n => HS2
          have HBx : Hid (∀ n, Below w.heap.size w (W2.drewN n)) := fun n => below_drewN HB2 n
          rw [jo_nil] at HMg2
          clear HS2 HB2 HSo HBe
          go_quiet (fail)
          go_wp2_with (at_builtin; refine wpList_append_own_at _ rfl _ _ 26 rfl w.heap.size 40 i0 (.agg #[.int .i64 0, .int .i64 0]) 2 16 Tryd.underlying26 hi hz0 hz1 hz2 rfl (by decide) _ _ _ rfl ((HSx.out _).alloc _) ⟨wr.heap.size + 1, 0, none⟩ 1 1 [.int .i64 pa1, .int .i64 pa2] rfl rfl ?c1 ?c2 ?c3 ?c4 ?c5 ?_)
          case c1 => exact cell_two_at _ _ _ _ _ hsz.symm
          case c2 => intro u hu; simp at hu; rcases hu with rfl | rfl <;> rfl
          case c3 => unfold maxLen; omega
          case c4 => omega
          case c5 => simp; omega
          intro v' w5 hown5 hgrow5 _ _
          have HS5 : Hid (SOwn w5 w.heap.size v' [(pa1, pa2)]) := hown5
          have HB5 : Hid (Below w.heap.size w w5) := (((HBx.out _).alloc (by simp; omega) _).grown hgrow5 (by simp; omega) (fun j hj => ((HSx.out 0).lt j hj).1))
          obtain ⟨a5, c5, hv5⟩ := HS5.out.shape
          subst hv5
          clear hown5 hgrow5 HSx HBx k0 k1
          go_wp2
          go_roundw
          case rel => exact ⟨i + 1, m.length, _, a5, c5, by omega, by omega, by go_num, by go_num, rfl, HS5.out, HMg2.out, HB5.out⟩
          case measure => simp [intOf]; omega
        · obtain ⟨ol, ou, hou⟩ : ∃ ol ou, out = ol ++ [ou] := ⟨out.dropLast, out.getLast hout, (List.dropLast_concat_getLast hout).symm⟩
          subst hou
          obtain ⟨u1, u2⟩ := ou
          obtain ⟨g, cap, hv, hg1, hg2, q1, q2, q3, q4⟩ := HS2.last
          simp only [Value.slice.injEq] at hv
          obtain ⟨rfl, hlen, rfl⟩ := hv
          have HLn : Hid ((ol ++ [(u1, u2)]).length = ol.length + 1) := hlen
          have hol2 : ol.length ≤ 4000 := by omega
          simp only at q1 q2 q4
          have hown2 : W2.ownsRow w.heap.size 40 2 (.slice (some ⟨g, 0, none⟩) (ol.length + 1) co) (ol.length + 1) ((ol ++ [(u1, u2)]).flatMap spc) := by have := HS2; unfold SOwn at this; rw [hlen] at this; exact this
          have q5 := q4 (max u2 pa2)
          have f5 := q3 (ol.length * 2 + 1)
          have hwm : IntKind.i64.wrap (((ol.length + 1 : Nat) : Int) - 1) = ol.length := by rw [IntKind.wrap_i64]; omega
          have hlt9 : (ol.length : Int) < ((ol.length + 1 : Nat) : Int) := by omega
          have hn0 : (0 : Int) < ((ol.length + 1 : Nat) : Int) := by omega
          have hnd : decide (0 < ol.length + 1) = true := decide_eq_true (by omega)
          have hn1 : ol.length + 1 ≤ 4001 := by omega
          have hgne : g ≠ wr.heap.size := by have := (HSo.out.lt g rfl).2; omega
          rw [hlen] at HSo HS2 q5 ⊢
          clear hlen q4 q3 HSo HBe HS2 hol hout
          by_cases hfar : u2 < pa1
          · rw [jo_far _ _ _ hfar] at HMg2
            have HSx : Hid (∀ n, (W2.drewN n).ownsRow w.heap.size 40 2 (.slice (some ⟨g, 0, none⟩) (ol.length + 1) co) (ol.length + 1) ((ol ++ [(u1, u2)]).flatMap spc)) := fun n => hown2
            have HBx : Hid (∀ n, Below w.heap.size w (W2.drewN n)) := fun n => below_drewN HB2 n
            have HXf : Hid ((ol ++ [(u1, u2)] ++ [(pa1, pa2)]).flatMap spc = (ol ++ [(u1, u2)]).flatMap spc ++ [.int .i64 pa1, .int .i64 pa2]) := by unfold Hid; rw [List.flatMap_append]; rfl
            have HXl : Hid ((ol ++ [(u1, u2)] ++ [(pa1, pa2)]).length = ol.length + 1 + 1) := by unfold Hid; simp
            have hdf : decide (pa1 ≤ u2) = false := decide_eq_false (by omega)
            clear q5 HB2 hown2
            generalize (ol ++ [(u1, u2)]).flatMap spc = X at *
            generalize ol.length + 1 = n at *
            go_quiet (fail)
            go_wp2_with (at_builtin; refine wpList_append_own_at _ rfl _ _ 26 rfl w.heap.size 40 i0 (.agg #[.int .i64 0, .int .i64 0]) 2 16 Tryd.underlying26 hi hz0 hz1 hz2 rfl (by decide) _ _ _ rfl ((HSx.out _).alloc _) ⟨wr.heap.size + 1, 0, none⟩ 1 1 [.int .i64 pa1, .int .i64 pa2] rfl rfl ?c1 ?c2 ?c3 ?c4 ?c5 ?_)
            case c1 => exact cell_two_at _ _ _ _ _ hsz.symm
            case c2 => intro u hu; simp at hu; rcases hu with rfl | rfl <;> rfl
            case c3 => unfold maxLen; omega
            case c4 => omega
            case c5 => simp; omega
            intro v' w5 hown5 hgrow5 _ _
            have HS5 : Hid (SOwn w5 w.heap.size v' (ol ++ [(u1, u2)] ++ [(pa1, pa2)])) := by unfold Hid SOwn; rw [HXl.out, HXf.out]; exact hown5
            have HB5 : Hid (Below w.heap.size w w5) := (((HBx.out _).alloc (by simp; omega) _).grown hgrow5 (by simp; omega) (fun j hj => ((HSx.out 0).lt j hj).1))
            obtain ⟨a5, c5, hv5⟩ := HS5.out.shape
            subst hv5
            clear hown5 hgrow5 HSx HBx k0 k1 HXf
            go_wp2
            go_roundw
            case rel => exact ⟨i + 1, m.length, _, a5, c5, by omega, by omega, by go_num, by go_num, rfl, HS5.out, HMg2.out, HB5.out⟩
            case measure => simp [intOf]; omega
          · rw [jo_near _ _ _ (by show pa1 ≤ u2; omega)] at HMg2
            have HS5 : Hid (SOwn (W2.setCell ⟨g, ol.length * 2 + 1, none⟩ (.int .i64 (max u2 pa2))) w.heap.size (.slice (some ⟨g, 0, none⟩) (ol.length + 1) co) (ol ++ [(u1, max u2 pa2)])) := q5
            have HB5 : Hid (∀ n x, Below w.heap.size w ((W2.drewN n).setCell ⟨g, ol.length * 2 + 1, none⟩ x)) := fun n x => (below_drewN HB2 n).setCell (p := ⟨g, ol.length * 2 + 1, none⟩) hg1 x
            have HXl : Hid ((ol ++ [(u1, max u2 pa2)]).length = ol.length + 1) := by unfold Hid; simp
            have hdf : decide (pa1 ≤ u2) = true := decide_eq_true (by omega)
            clear q5 HB2 hown2
            simp only at HMg2 HS5
            generalize ol.length + 1 = n at *
            go_quiet (fail)
            rcases Int.lt_or_le u2 pa2 with hmx | hmx
            · rw [show max u2 pa2 = pa2 from by omega] at HS5 HMg2 HXl
              go_wp2
              go_region
              all_goals go_wp2
              go_roundw
              case rel => exact ⟨i + 1, m.length, _, _, _, by omega, by omega, by go_num, by go_num, by rw [HXl.out], HS5.out, HMg2.out, HB5.out _ _⟩
              case measure => simp [intOf]; omega
            · rw [show max u2 pa2 = u2 from by omega] at HS5 HMg2 HXl
              go_wp2
              go_region
              all_goals go_wp2
              go_roundw
              case rel => exact ⟨i + 1, m.length, _, _, _, by omega, by omega, by go_num, by go_num, by rw [HXl.out], HS5.out, HMg2.out, HB5.out _ _⟩
              case measure => simp [intOf]; omega
    · have hil1 : l.length ≤ i := by omega
      have hi1' : ¬ (i : Int) < (l.length : Int) := by omega
      have HDr : Hid (l.drop i = []) := List.drop_eq_nil_of_le hil1
      have hdn : decide (i < l.length) = false := decide_eq_false (by omega)
      have hdm : decide ((i : Int) < (l.length : Int)) = false := decide_eq_false (by omega)
      by_cases hk1 : k < m.length
      · have hk1' : (k : Int) < (m.length : Int) := by omega
        have hk1'' : ¬ (m.length : Int) ≤ (k : Int) := by omega
        have hdk : decide (m.length ≤ k) = false := decide_eq_false (by omega)
        obtain ⟨p', hp'⟩ := get_some m k hk1
        obtain ⟨gb, ob, rfl, y1, y2⟩ := (HB.out.below HBe.out).at hp'
        obtain ⟨pb1, pb2⟩ := p'
        simp only at y1 y2
        rw [drop_get m k _ hp'] at HMg
        have HMg2 : Hid (Mg l m (jo out (pb1, pb2)) (l.drop i) (m.drop (k + 1))) := by
          exact (HMg.out.swap.step (fun t ht => by rw [HDr.out] at ht; cases ht)).swap
        clear HMg hp'
        have hbx : Below wr.heap.size wr (wr.alloc (.cells #[.int .i64 0, .int .i64 0] 40)) := (Below.refl _ _).alloc (Nat.le_refl _) _
        have Y1 := cell_below y1 hbx
        have Y2 := cell_below y2 hbx
        clear hbx
        go_wp2_with fail
        go_quiet (fail)
        go_wp2_with fail
        have HS2 := box_put HSo.out (.int .i64 pb1) (.int .i64 pb2) nq
        have HB2 := box_below HBe.out (.int .i64 pb1) (.int .i64 pb2) nq
        have k0 := box_c0 wr (.int .i64 pb1) (.int .i64 pb2) nq
        have k1 := box_c1 wr (.int .i64 pb1) (.int .i64 pb2) nq
        have hsz := box_size wr (.int .i64 pb1) (.int .i64 pb2) nq
        generalize ((((wr.alloc (.cells #[.int .i64 0, .int .i64 0] 40)).drewN nq).setCell ⟨wr.heap.size, 0, none⟩ (.int .i64 pb1)).setCell ⟨wr.heap.size, 1, none⟩ (.int .i64 pb2)) = W2 at HS2 HB2 k0 k1 hsz ⊢
        by_cases hout : out = []
        · subst hout
          simp only [List.length_nil] at *
          have HSx : Hid (∀ n, (W2.drewN n).ownsRow w.heap.size 40 2 (.slice ao 0 co) 0 []) := fun n => HS2
          have HBx : Hid (∀ n, Below w.heap.size w (W2.drewN n)) := fun n => below_drewN HB2 n
          rw [jo_nil] at HMg2
          clear HS2 HB2 HSo HBe
          go_quiet (fail)
          go_wp2_with (at_builtin; refine wpList_append_own_at _ rfl _ _ 26 rfl w.heap.size 40 i0 (.agg #[.int .i64 0, .int .i64 0]) 2 16 Tryd.underlying26 hi hz0 hz1 hz2 rfl (by decide) _ _ _ rfl ((HSx.out _).alloc _) ⟨wr.heap.size + 1, 0, none⟩ 1 1 [.int .i64 pb1, .int .i64 pb2] rfl rfl ?c1 ?c2 ?c3 ?c4 ?c5 ?_)
          case c1 => exact cell_two_at _ _ _ _ _ hsz.symm
          case c2 => intro u hu; simp at hu; rcases hu with rfl | rfl <;> rfl
          case c3 => unfold maxLen; omega
          case c4 => omega
          case c5 => simp; omega
          intro v' w5 hown5 hgrow5 _ _
          have HS5 : Hid (SOwn w5 w.heap.size v' [(pb1, pb2)]) := hown5
          have HB5 : Hid (Below w.heap.size w w5) := (((HBx.out _).alloc (by simp; omega) _).grown hgrow5 (by simp; omega) (fun j hj => ((HSx.out 0).lt j hj).1))
          obtain ⟨a5, c5, hv5⟩ := HS5.out.shape
          subst hv5
          clear hown5 hgrow5 HSx HBx k0 k1
          go_wp2
          go_roundw
          case rel => exact ⟨i, k + 1, _, a5, c5, by omega, by omega, by go_num, by go_num, rfl, HS5.out, HMg2.out, HB5.out⟩
          case measure => simp [intOf]; omega
        · obtain ⟨ol, ou, hou⟩ : ∃ ol ou, out = ol ++ [ou] := ⟨out.dropLast, out.getLast hout, (List.dropLast_concat_getLast hout).symm⟩
          subst hou
          obtain ⟨u1, u2⟩ := ou
          obtain ⟨g, cap, hv, hg1, hg2, q1, q2, q3, q4⟩ := HS2.last
          simp only [Value.slice.injEq] at hv
          obtain ⟨rfl, hlen, rfl⟩ := hv
          have HLn : Hid ((ol ++ [(u1, u2)]).length = ol.length + 1) := hlen
          have hol2 : ol.length ≤ 4000 := by omega
          simp only at q1 q2 q4
          have hown2 : W2.ownsRow w.heap.size 40 2 (.slice (some ⟨g, 0, none⟩) (ol.length + 1) co) (ol.length + 1) ((ol ++ [(u1, u2)]).flatMap spc) := by have := HS2; unfold SOwn at this; rw [hlen] at this; exact this
          have q5 := q4 (max u2 pb2)
          have f5 := q3 (ol.length * 2 + 1)
          have hwm : IntKind.i64.wrap (((ol.length + 1 : Nat) : Int) - 1) = ol.length := by rw [IntKind.wrap_i64]; omega
          have hlt9 : (ol.length : Int) < ((ol.length + 1 : Nat) : Int) := by omega
          have hn0 : (0 : Int) < ((ol.length + 1 : Nat) : Int) := by omega
          have hnd : decide (0 < ol.length + 1) = true := decide_eq_true (by omega)
          have hn1 : ol.length + 1 ≤ 4001 := by omega
          have hgne : g ≠ wr.heap.size := by have := (HSo.out.lt g rfl).2; omega
          rw [hlen] at HSo HS2 q5 ⊢
          clear hlen q4 q3 HSo HBe HS2 hol hout
          by_cases hfar : u2 < pb1
          · rw [jo_far _ _ _ hfar] at HMg2
            have HSx : Hid (∀ n, (W2.drewN n).ownsRow w.heap.size 40 2 (.slice (some ⟨g, 0, none⟩) (ol.length + 1) co) (ol.length + 1) ((ol ++ [(u1, u2)]).flatMap spc)) := fun n => hown2
            have HBx : Hid (∀ n, Below w.heap.size w (W2.drewN n)) := fun n => below_drewN HB2 n
            have HXf : Hid ((ol ++ [(u1, u2)] ++ [(pb1, pb2)]).flatMap spc = (ol ++ [(u1, u2)]).flatMap spc ++ [.int .i64 pb1, .int .i64 pb2]) := by unfold Hid; rw [List.flatMap_append]; rfl
            have HXl : Hid ((ol ++ [(u1, u2)] ++ [(pb1, pb2)]).length = ol.length + 1 + 1) := by unfold Hid; simp
            have hdf : decide (pb1 ≤ u2) = false := decide_eq_false (by omega)
            clear q5 HB2 hown2
            generalize (ol ++ [(u1, u2)]).flatMap spc = X at *
            generalize ol.length + 1 = n at *
            go_quiet (fail)
            go_wp2_with (at_builtin; refine wpList_append_own_at _ rfl _ _ 26 rfl w.heap.size 40 i0 (.agg #[.int .i64 0, .int .i64 0]) 2 16 Tryd.underlying26 hi hz0 hz1 hz2 rfl (by decide) _ _ _ rfl ((HSx.out _).alloc _) ⟨wr.heap.size + 1, 0, none⟩ 1 1 [.int .i64 pb1, .int .i64 pb2] rfl rfl ?c1 ?c2 ?c3 ?c4 ?c5 ?_)
            case c1 => exact cell_two_at _ _ _ _ _ hsz.symm
            case c2 => intro u hu; simp at hu; rcases hu with rfl | rfl <;> rfl
            case c3 => unfold maxLen; omega
            case c4 => omega
            case c5 => simp; omega
            intro v' w5 hown5 hgrow5 _ _
            have HS5 : Hid (SOwn w5 w.heap.size v' (ol ++ [(u1, u2)] ++ [(pb1, pb2)])) := by unfold Hid SOwn; rw [HXl.out, HXf.out]; exact hown5
            have HB5 : Hid (Below w.heap.size w w5) := (((HBx.out _).alloc (by simp; omega) _).grown hgrow5 (by simp; omega) (fun j hj => ((HSx.out 0).lt j hj).1))
            obtain ⟨a5, c5, hv5⟩ := HS5.out.shape
            subst hv5
            clear hown5 hgrow5 HSx HBx k0 k1 HXf
            go_wp2
            go_roundw
            case rel => exact ⟨i, k + 1, _, a5, c5, by omega, by omega, by go_num, by go_num, rfl, HS5.out, HMg2.out, HB5.out⟩
            case measure => simp [intOf]; omega
          · rw [jo_near _ _ _ (by show pb1 ≤ u2; omega)] at HMg2
            have HS5 : Hid (SOwn (W2.setCell ⟨g, ol.length * 2 + 1, none⟩ (.int .i64 (max u2 pb2))) w.heap.size (.slice (some ⟨g, 0, none⟩) (ol.length + 1) co) (ol ++ [(u1, max u2 pb2)])) := q5
            have HB5 : Hid (∀ n x, Below w.heap.size w ((W2.drewN n).setCell ⟨g, ol.length * 2 + 1, none⟩ x)) := fun n x => (below_drewN HB2 n).setCell (p := ⟨g, ol.length * 2 + 1, none⟩) hg1 x
            have HXl : Hid ((ol ++ [(u1, max u2 pb2)]).length = ol.length + 1) := by unfold Hid; simp
            have hdf : decide (pb1 ≤ u2) = true := decide_eq_true (by omega)
            clear q5 HB2 hown2
            simp only at HMg2 HS5
            generalize ol.length + 1 = n at *
            go_quiet (fail)
            rcases Int.lt_or_le u2 pb2 with hmx | hmx
            · rw [show max u2 pb2 = pb2 from by omega] at HS5 HMg2 HXl
              go_wp2
              go_region
              all_goals go_wp2
              go_roundw
              case rel => exact ⟨i, k + 1, _, _, _, by omega, by omega, by go_num, by go_num, by rw [HXl.out], HS5.out, HMg2.out, HB5.out _ _⟩
              case measure => simp [intOf]; omega
            · rw [show max u2 pb2 = u2 from by omega] at HS5 HMg2 HXl
              go_wp2
              go_region
              all_goals go_wp2
              go_roundw
              case rel => exact ⟨i, k + 1, _, _, _, by omega, by omega, by go_num, by go_num, by rw [HXl.out], HS5.out, HMg2.out, HB5.out _ _⟩
              case measure => simp [intOf]; omega
      · have hkm1 : k = m.length := by omega
        subst hkm1
        rw [List.drop_length, HDr.out] at HMg
        have hU := HMg.out.done
        have HU : Hid (Uni l m out) := hU
        clear hU HMg
        by_cases hle : out.length ≤ 2000
        · have hle' : ¬ (2000 : Int) < (out.length : Int) := by omega
          go_wp2
          go_ret2
          exact ⟨_, out, 0, rfl, HSo.out, .inr ⟨HSl.out, HSm.out, out, HU.out, .inl ⟨hle, rfl, rfl⟩⟩, HBe.out⟩
        · have hle' : (2000 : Int) < (out.length : Int) := by omega
          go_wp2
          go_ret2
          exact ⟨_, [], 3, rfl, SOwn.nil _ _, .inr ⟨HSl.out, HSm.out, out, HU.out, .inr ⟨by omega, rfl, rfl⟩⟩, HBe.out⟩

end Go.Proofs.YtpdafcchldenpaaDoor.C
