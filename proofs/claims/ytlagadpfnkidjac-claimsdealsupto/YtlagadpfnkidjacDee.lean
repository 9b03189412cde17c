import Derived.Test.YtlagadpfnkidjacDed
import Derived.Test.YtlagadpfnkidjacStp
namespace Go.Proofs.Ytlagadpfnkidjac
open Go.RowKit

theorem DR.split {m : Nat} : ∀ {a : List (List Sp)} {x : List Sp}, DR m (a ++ [x]) → DR m a ∧ (∀ y ∈ a, y.length = m) ∧ 1 ≤ x.length ∧ x.length ≤ m
  | [], x, h => ⟨trivial, (fun _ h => by cases h), h.1, h.2.1⟩
  | y :: a, x, h => by
    obtain ⟨h1, h2, h3, h4⟩ := DR.split (a := a) (x := x) h.2.2.2
    have hy := h.2.2.1 (by simp)
    refine ⟨⟨h.1, h.2.1, fun _ => hy, h1⟩, fun z hz => ?_, h3, h4⟩
    rcases List.mem_cons.mp hz with rfl | hz
    · exact hy
    · exact h2 z hz
theorem Dl.fz {W : World} {base L n cap : Nat} {cs : List Rw} (h : Dl W base (.slice (some ⟨L, 0, none⟩) n cap) cs) (j : Nat) : W.frozen? ⟨L, j, none⟩ = false := by
  have hr := h.row
  obtain ⟨_, ⟨e, _⟩ | ⟨g, cap', cur, e, _, hg, _⟩⟩ := hr
  · cases e
  · cases e
    exact frozen_of_row _ _ _ _ _ hg
theorem Dl.lastOf {W : World} {base L n cap : Nat} {cs0 : List Rw} {ov : Value} {x : List Sp} (h : Dl W base (.slice (some ⟨L, 0, none⟩) n cap) (cs0 ++ [(ov, x)])) : n = cs0.length + 1 ∧ W.cell? ⟨L, cs0.length, none⟩ = some ov := by
  have hn : n = cs0.length + 1 := by
    obtain ⟨_, ⟨e, _⟩ | ⟨g, cap', cur, e, _⟩⟩ := h.row
    · cases e
    · cases e; simp
  subst hn
  exact ⟨rfl, h.lastAt⟩
theorem Rg.grow {W W' : World} {base m i : Nat} {l : List Sp} {v v' ov ov' : Value} {cs0 : List Rw} {x : List Sp} {p : Sp} (h : Rg W base m i l v (cs0 ++ [(ov, x)])) (hp : l[i]? = some p) (hx : x.length ≠ m) (hD : Dl W' base v' (cs0 ++ [(ov', x ++ [p])])) : Rg W' base m (i + 1) l v' (cs0 ++ [(ov', x ++ [p])]) := by
  have hd := h.dr
  have ha := h.all
  simp only [List.map_append, List.map_cons, List.map_nil] at hd ha
  obtain ⟨h1, h2, h3, h4⟩ := DR.split hd
  refine ⟨hD, ?_, ?_⟩
  · simp only [List.map_append, List.map_cons, List.map_nil]
    rw [List.take_add_one, hp, ← ha]
    simp
  · simp only [List.map_append, List.map_cons, List.map_nil]
    exact DR.snoc h1 h2 (by simp) (by simp; omega)
theorem Rg.fresh {W W' : World} {base m i : Nat} {l : List Sp} {v v' ov' : Value} {cs : List Rw} {p : Sp} (h : Rg W base m i l v cs) (hp : l[i]? = some p) (hm : 1 ≤ m) (hf : ∀ y ∈ cs.map (·.2), y.length = m) (hD : Dl W' base v' (cs ++ [(ov', [p])])) : Rg W' base m (i + 1) l v' (cs ++ [(ov', [p])]) := by
  refine ⟨hD, ?_, ?_⟩
  · simp only [List.map_append, List.map_cons, List.map_nil]
    rw [List.take_add_one, hp, ← h.all]
    simp
  · simp only [List.map_append, List.map_cons, List.map_nil]
    exact DR.snoc h.dr hf (by simp) (by simp; omega)

set_option maxHeartbeats 8000000 in
set_option maxRecDepth 100000 in
theorem refdeal_in (a : Option Addr) (c : Nat) (l : List Sp) (w : World) (most : Int) (h : Ls w (.slice a l.length c) l) (sl : IsSet l) (hm : 1 ≤ most) :
    Calls Try.prog 18 #[.slice a l.length c, .int .i64 most] w (DealPost w l most) := by
  obtain ⟨i0, hi, hz0, hz1, hz2⟩ := info_parts Try.info_span
  obtain ⟨i1, hi', hz0', hz1', hz2'⟩ := info_parts Try.info_spans
  have hR := refright_ls h
  rw [show setB l = true from setB_iff.mpr sl] at hR
  have HSp : Hid (∀ W, Below w.heap.size w W → Spa W a l) := fun W hW => by obtain ⟨b, d, hv, hs, _⟩ := (h.below hW).shape; simp only [Value.slice.injEq] at hv; obtain ⟨rfl, _, _⟩ := hv; exact hs
  have SL : Hid (IsSet l) := sl
  have hl2 := sl.1
  clear h sl
  go_enter Try.func18, Try.ntmps18
  go_wp2_with fail
  refine hR.mono ?_
  rintro e w1 ⟨rfl, hb1⟩
  have HB1 : Hid (Below w.heap.size w w1) := hb1
  clear hb1 hR
  obtain ⟨m, rfl⟩ : ∃ m : Nat, most = (m : Int) := ⟨most.toNat, by omega⟩
  go_wp2_with fail
  -- the loop
  go_loopw [7, 8] (fun v x wr => ∃ (i : Nat) (cs : List Rw), i ≤ l.length ∧ x = .int .i64 i ∧ Rg wr w.heap.size m i l v cs ∧ Below w.heap.size w wr) (fun _ x _ => l.length - (intOf x).toNat)
  case atStart => exact ⟨0, [], by omega, rfl, ⟨Dl.nil _ _, by simp, trivial⟩, HB1.out⟩
  case round =>
    obtain ⟨i, cs, hil, rfl, hrg, hbe⟩ := hrel
    have HBe : Hid (Below w.heap.size w wr) := hbe
    have HG : Hid (Rg wr w.heap.size m i l _ cs) := hrg
    obtain ⟨la, lc, hlv⟩ := own_shape hrg.row.row
    subst hlv
    clear hrg hbe
    by_cases hi1 : i < l.length
    · have hi1' : (i : Int) < (l.length : Int) := by omega
      obtain ⟨⟨p1, p2⟩, hp⟩ := get_some l i hi1
      have HTk : Hid (l.take (i + 1) = l.take i ++ [(p1, p2)]) := by unfold Hid; rw [List.take_add_one, hp]; rfl
      have hlo : w.heap.size ≤ wr.heap.size := HBe.out.size
      have hcl : cs.length ≤ 2000 := by
        have h1 := HG.out.dr.many
        rw [HG.out.all, List.length_map, List.length_take] at h1
        omega
      rcases List.eq_nil_or_concat cs with hcs | ⟨cs0, ⟨ov, x⟩, hcs⟩
      · subst hcs
        have HROW : Hid (wr.ownsRow w.heap.size 22 1 (.slice la 0 lc) 0 []) := HG.out.row.row
        simp only [List.length_nil] at *
        go_wp2_with (at_builtin; refine wpList_append_own_at _ rfl _ _ 28 rfl w.heap.size 22 i1 (.slice none 0 0) 1 24 Try.underlying28 hi' hz0' hz1' hz2' rfl (by decide) _ _ _ rfl (World.ownsRow.alloc HROW.out _) ⟨wr.heap.size, 0, none⟩ 1 1 [.slice none 0 0] rfl rfl ?c1 ?c2 ?c3 ?c4 ?c5 ?_)
        case c1 => intro j u hj; match j, hj with | 0, hj => (simp at hj; subst hj; simp [Addr.add])
        case c2 => intro u hu; simp at hu; subst hu; rfl
        case c3 => unfold maxLen; omega
        case c4 => omega
        case c5 => simp; omega
        intro v5 w5 hown5 hgrow5 _ hat5
        have hD5 : Dl w5 w.heap.size v5 (([] : List Rw) ++ [(.slice none 0 0, [])]) := Dl.push HG.out.row (SOwn.nil _ _) (fun g e => by cases e) (fun j y _ g e => by cases e) (by simpa using hown5) hgrow5 (hat5.imp id (fun e => ⟨_, e, by simp⟩))
        have hb5 : Below w.heap.size w w5 := (HBe.out.alloc hlo _).grown hgrow5 (by simp; omega) (fun k e => (World.ownsRow.lt HROW.out k e).1)
        obtain ⟨L5, lc5, hv5⟩ := own_some hD5.row (by simp)
        have HD5 : Hid (Dl w5 w.heap.size v5 (([] : List Rw) ++ [(.slice none 0 0, [])])) := hD5
        have HB5 : Hid (Below w.heap.size w w5) := hb5
        obtain ⟨K, hK⟩ : ∃ K, K = (([] : List Rw)).length + 1 := ⟨_, rfl⟩
        obtain ⟨q, hq⟩ : ∃ q, q = (([] : List Rw)).length := ⟨_, rfl⟩
        have hv5' : v5 = .slice (some ⟨L5, 0, none⟩) K lc5 := by rw [hv5, hK, List.length_append, List.length_singleton]
        clear hv5
        subst hv5'
        have hD5' := HD5.out
        have c1 := hD5'.lastOf.2
        rw [← hq] at c1
        have hKq : K = q + 1 := by rw [hq]; exact hD5'.lastOf.1
        have hqb : q ≤ 2001 := by rw [hq]; simp; try omega
        have hwm : IntKind.i64.wrap ((K : Int) - 1) = (q : Int) := by rw [IntKind.wrap_i64]; omega
        have hq1 : (q : Int) < (K : Int) := by omega
        have hq0 : (0 : Int) ≤ (q : Int) := by omega
        have hLw : L5 < w5.heap.size := (World.ownsRow.lt hD5'.row L5 rfl).2
        have HK : Hid (K = (([] : List Rw)).length + 1 ∧ q = (([] : List Rw)).length) := ⟨hK, hq⟩
        have HFz : Hid (w5.frozen? ⟨L5, q, none⟩ = false) := hD5'.fz q
        obtain ⟨g, off, rfl, x1, x2⟩ := (HSp.out w5 HB5.out).at hp
        simp only at x1 x2
        have HO : Hid (SOwn w5 w.heap.size (.slice none 0 0) []) := SOwn.nil _ _
        have hbs := HB5.out.size
        have hKn : ((([] : List Rw)).length : Int) + 1 = (K : Int) := by omega
        have HKq : Hid (K = q + 1) := hKq
        have e0 : q = 0 := by rw [hq]; rfl
        have e1 : K = 1 := by omega
        clear hD5 hb5 hD5' hown5 hgrow5 hat5 HROW hK hq hKq hKn hqb hwm hq1 hq0
        subst e0 e1
        have hw0 : IntKind.i64.wrap 0 = 0 := by decide
        have hw1 : IntKind.i64.wrap (1 - 1) = 0 := by decide

        have HFL : Hid (∀ y ∈ (([] : List Rw)).map (·.2), y.length = m) := fun y hy => by simp at hy
        have HD5' : Hid (Dl w5 w.heap.size (.slice (some ⟨L5, 0, none⟩) ((([] : List Rw)).length + 1) lc5) (([] : List Rw) ++ [(.slice none 0 0, [])])) := by have := HD5.out; rw [HK.out.1] at this; exact this
        go_wp2_with fail
        go_region_law (first
          | (refine step_append_at rfl (.tmp 48) (.tmp 53) 22 rfl w.heap.size 24 i0 (.agg #[.int .i64 0, .int .i64 0]) 2 16 Try.underlying22 hi hz0 hz1 hz2 rfl (by decide) (.slice none 0 0) 0 [] (by simp [Act.eval]) (World.ownsRow.alloc (HO.out.drewN 1) _) ⟨w5.heap.size, 0, none⟩ 1 1 [.int .i64 p1, .int .i64 p2] (by simp [Act.eval]) rfl (cell_two_at _ _ _ _ _ (by first | rfl | simp)) (by simp [Value.oneCell']) (by unfold maxLen; omega) (by omega) (by simp; omega) ?_
             intro v6 w6 hown6 hgrow6 hat6
             simp only [Nat.zero_add, List.nil_append] at hown6
             obtain ⟨g6, cap6, hv6⟩ := own_some hown6 (by omega)
             subst hv6
             have hbl : w6.heap[L5]? = w5.heap[L5]? := (hgrow6.block L5 (Nat.lt_of_lt_of_le hLw (by simp)) (fun e => by cases e)).trans (Below.heap_alloc _ _ L5 hLw)
             have c6 : w6.cell? ⟨L5, 0, none⟩ = some (.slice none 0 0) := (World.cell?_of_block (a := ⟨L5, 0, none⟩) hbl).trans c1
             have f6 : w6.frozen? ⟨L5, 0, none⟩ = false := (World.frozen?_of_block (a := ⟨L5, 0, none⟩) hbl).trans HFz.out
             have HW6 : Hid (SOwn w6 w.heap.size (.slice (some ⟨g6, 0, none⟩) 1 cap6) [(p1, p2)] ∧ w5.grownBy w6 (Value.slice none 0 0).ownBlock ∧ ((Value.slice (some ⟨g6, 0, none⟩) 1 cap6).ownBlock = (Value.slice none 0 0).ownBlock ∨ ∃ g', (Value.slice (some ⟨g6, 0, none⟩) 1 cap6).ownBlock = some g' ∧ w5.heap.size ≤ g')) := ⟨hown6, grown_trans (grown_trans (grown_drewN w5 1 _) (grown_alloc _ _ _)) hgrow6, hat6.imp id (fun e => ⟨_, e, by simp⟩)⟩
             clear hown6 hgrow6 hat6 hbl))
        all_goals (
          have hD6 := Dl.tail HD5'.out HW6.out.1 HW6.out.2.1 HW6.out.2.2
          simp only [List.length_nil, Nat.zero_add] at hD6
          have HR6 : Hid (Rg (w6.setCell ⟨L5, 0, none⟩ (.slice (some ⟨g6, 0, none⟩) 1 cap6)) w.heap.size m (i + 1) l (.slice (some ⟨L5, 0, none⟩) 1 lc5) (([] : List Rw) ++ [(.slice (some ⟨g6, 0, none⟩) 1 cap6, [(p1, p2)])])) := HG.out.fresh hp (by omega) HFL.out hD6
          have HB6 : Hid (Below w.heap.size w (w6.setCell ⟨L5, 0, none⟩ (.slice (some ⟨g6, 0, none⟩) 1 cap6))) := (HB5.out.grown HW6.out.2.1 hbs (fun k e => by cases e)).setCell (World.ownsRow.lt HD5.out.row L5 rfl).1 _
          clear hD6 HW6 HO HFz c6 f6 c1 x1 x2
          go_wp2
          go_roundw
          case rel => exact ⟨i + 1, _, by omega, by go_num, HR6.out, HB6.out⟩
          case measure => simp [intOf]; omega)
      · subst hcs
        rw [List.concat_eq_append] at *
        have hD : Dl wr w.heap.size (.slice la (cs0 ++ [(ov, x)]).length lc) (cs0 ++ [(ov, x)]) := HG.out.row
        rw [List.length_append, List.length_singleton] at hD
        obtain ⟨L, lcap, hL⟩ := own_some hD.row (by simp)
        simp only [List.length_append, List.length_singleton, Value.slice.injEq, true_and] at hL
        obtain ⟨rfl, rfl⟩ := hL
        have HD : Hid (Dl wr w.heap.size (.slice (some ⟨L, 0, none⟩) (cs0.length + 1) lc) (cs0 ++ [(ov, x)])) := hD
        obtain ⟨oa, oc, hov⟩ := (hD.cl.own cs0.length (ov, x) (by simp)).shape
        simp only at hov
        subst hov
        clear hD
        simp only [List.length_append, List.length_singleton] at *
        have c0 := HD.out.lastAt
        have hx2 : x.length ≤ 2000 := by
          have h1 := congrArg List.length HG.out.all
          simp only [List.map_append, List.map_cons, List.map_nil, List.flatten_append, List.length_append, List.flatten_cons, List.flatten_nil, List.length_take, List.length_nil] at h1
          omega
        by_cases hxm : x.length = m
        · have hxb : ((x.length : Int) == (m : Int)) = true := by simp; omega
          have hnb : ((cs0.length : Int) + 1 == 0) = false := by simp; omega
          have HROW : Hid (wr.ownsRow w.heap.size 22 1 (.slice (some ⟨L, 0, none⟩) (cs0.length + 1) lc) (cs0.length + 1) ((cs0 ++ [(Value.slice oa x.length oc, x)]).map (·.1))) := by have := HD.out.row; rwa [List.length_append, List.length_singleton] at this
          go_wp2_with (at_builtin; refine wpList_append_own_at _ rfl _ _ 28 rfl w.heap.size 22 i1 (.slice none 0 0) 1 24 Try.underlying28 hi' hz0' hz1' hz2' rfl (by decide) _ _ _ rfl (World.ownsRow.alloc HROW.out _) ⟨wr.heap.size, 0, none⟩ 1 1 [.slice none 0 0] rfl rfl ?c1 ?c2 ?c3 ?c4 ?c5 ?_)
          case c1 => intro j u hj; match j, hj with | 0, hj => (simp at hj; subst hj; simp [Addr.add])
          case c2 => intro u hu; simp at hu; subst hu; rfl
          case c3 => unfold maxLen; omega
          case c4 => omega
          case c5 => simp; omega
          intro v5 w5 hown5 hgrow5 _ hat5
          have hD5 : Dl w5 w.heap.size v5 (cs0 ++ [(Value.slice oa x.length oc, x)] ++ [(.slice none 0 0, [])]) := Dl.push HG.out.row (SOwn.nil _ _) (fun g e => by cases e) (fun j y _ g e => by cases e) (by simpa [hxm] using hown5) hgrow5 (hat5.imp id (fun e => ⟨_, e, by simp⟩))
          have hb5 : Below w.heap.size w w5 := (HBe.out.alloc hlo _).grown hgrow5 (by simp; omega) (fun k e => (World.ownsRow.lt HROW.out k e).1)
          obtain ⟨L5, lc5, hv5⟩ := own_some hD5.row (by simp)
          have HD5 : Hid (Dl w5 w.heap.size v5 (cs0 ++ [(Value.slice oa x.length oc, x)] ++ [(.slice none 0 0, [])])) := hD5
          have HB5 : Hid (Below w.heap.size w w5) := hb5
          obtain ⟨K, hK⟩ : ∃ K, K = (cs0 ++ [(Value.slice oa x.length oc, x)]).length + 1 := ⟨_, rfl⟩
          obtain ⟨q, hq⟩ : ∃ q, q = (cs0 ++ [(Value.slice oa x.length oc, x)]).length := ⟨_, rfl⟩
          have hv5' : v5 = .slice (some ⟨L5, 0, none⟩) K lc5 := by rw [hv5, hK, List.length_append, List.length_singleton]
          clear hv5
          subst hv5'
          have hD5' := HD5.out
          have c1 := hD5'.lastOf.2
          rw [← hq] at c1
          have hKq : K = q + 1 := by rw [hq]; exact hD5'.lastOf.1
          have hqb : q ≤ 2001 := by rw [hq]; simp; try omega
          have hwm : IntKind.i64.wrap ((K : Int) - 1) = (q : Int) := by rw [IntKind.wrap_i64]; omega
          have hq1 : (q : Int) < (K : Int) := by omega
          have hq0 : (0 : Int) ≤ (q : Int) := by omega
          have hLw : L5 < w5.heap.size := (World.ownsRow.lt hD5'.row L5 rfl).2
          have HK : Hid (K = (cs0 ++ [(Value.slice oa x.length oc, x)]).length + 1 ∧ q = (cs0 ++ [(Value.slice oa x.length oc, x)]).length) := ⟨hK, hq⟩
          have HFz : Hid (w5.frozen? ⟨L5, q, none⟩ = false) := hD5'.fz q
          obtain ⟨g, off, rfl, x1, x2⟩ := (HSp.out w5 HB5.out).at hp
          simp only at x1 x2
          have HO : Hid (SOwn w5 w.heap.size (.slice none 0 0) []) := SOwn.nil _ _
          have hbs := HB5.out.size
          have hKn : ((cs0 ++ [(Value.slice oa x.length oc, x)]).length : Int) + 1 = (K : Int) := by omega
          have HKq : Hid (K = q + 1) := hKq
          have hKn' : ((cs0.length : Int) + 1 + 1) = (K : Int) := by rw [hK]; simp
          clear hD5 hb5 hD5' hown5 hgrow5 hat5 HROW hK hq hKq hKn hqb
          clear hxb hnb c0
          have HFL : Hid (∀ y ∈ ((cs0 ++ [(Value.slice oa x.length oc, x)])).map (·.2), y.length = m) := by
            have hd := HG.out.dr
            simp only [List.map_append, List.map_cons, List.map_nil] at hd
            obtain ⟨_, h2, _, _⟩ := DR.split hd
            intro y hy
            simp only [List.map_append, List.map_cons, List.map_nil, List.mem_append, List.mem_singleton] at hy
            rcases hy with hy | hy
            · exact h2 y hy
            · rw [hy]; exact hxm
          have HD5' : Hid (Dl w5 w.heap.size (.slice (some ⟨L5, 0, none⟩) (((cs0 ++ [(Value.slice oa x.length oc, x)])).length + 1) lc5) ((cs0 ++ [(Value.slice oa x.length oc, x)]) ++ [(.slice none 0 0, [])])) := by have := HD5.out; rw [HK.out.1] at this; exact this
          go_wp2_with fail
          go_region_law (first
            | (refine step_append_at rfl (.tmp 48) (.tmp 53) 22 rfl w.heap.size 24 i0 (.agg #[.int .i64 0, .int .i64 0]) 2 16 Try.underlying22 hi hz0 hz1 hz2 rfl (by decide) (.slice none 0 0) 0 [] (by simp [Act.eval]) (World.ownsRow.alloc (HO.out.drewN 1) _) ⟨w5.heap.size, 0, none⟩ 1 1 [.int .i64 p1, .int .i64 p2] (by simp [Act.eval]) rfl (cell_two_at _ _ _ _ _ (by first | rfl | simp)) (by simp [Value.oneCell']) (by unfold maxLen; omega) (by omega) (by simp; omega) ?_
               intro v6 w6 hown6 hgrow6 hat6
               simp only [Nat.zero_add, List.nil_append] at hown6
               obtain ⟨g6, cap6, hv6⟩ := own_some hown6 (by omega)
               subst hv6
               have hbl : w6.heap[L5]? = w5.heap[L5]? := (hgrow6.block L5 (Nat.lt_of_lt_of_le hLw (by simp)) (fun e => by cases e)).trans (Below.heap_alloc _ _ L5 hLw)
               have c6 : w6.cell? ⟨L5, q, none⟩ = some (.slice none 0 0) := (World.cell?_of_block (a := ⟨L5, q, none⟩) hbl).trans c1
               have f6 : w6.frozen? ⟨L5, q, none⟩ = false := (World.frozen?_of_block (a := ⟨L5, q, none⟩) hbl).trans HFz.out
               have HW6 : Hid (SOwn w6 w.heap.size (.slice (some ⟨g6, 0, none⟩) 1 cap6) [(p1, p2)] ∧ w5.grownBy w6 (Value.slice none 0 0).ownBlock ∧ ((Value.slice (some ⟨g6, 0, none⟩) 1 cap6).ownBlock = (Value.slice none 0 0).ownBlock ∨ ∃ g', (Value.slice (some ⟨g6, 0, none⟩) 1 cap6).ownBlock = some g' ∧ w5.heap.size ≤ g')) := ⟨hown6, grown_trans (grown_trans (grown_drewN w5 1 _) (grown_alloc _ _ _)) hgrow6, hat6.imp id (fun e => ⟨_, e, by simp⟩)⟩
               clear hown6 hgrow6 hat6 hbl))
          all_goals (
            have hD6 := Dl.tail HD5'.out HW6.out.1 HW6.out.2.1 HW6.out.2.2
            rw [← HK.out.1, ← HK.out.2] at hD6
            have HR6 : Hid (Rg (w6.setCell ⟨L5, q, none⟩ (.slice (some ⟨g6, 0, none⟩) 1 cap6)) w.heap.size m (i + 1) l (.slice (some ⟨L5, 0, none⟩) K lc5) ((cs0 ++ [(Value.slice oa x.length oc, x)]) ++ [(.slice (some ⟨g6, 0, none⟩) 1 cap6, [(p1, p2)])])) := HG.out.fresh hp (by omega) HFL.out hD6
            have HB6 : Hid (Below w.heap.size w (w6.setCell ⟨L5, q, none⟩ (.slice (some ⟨g6, 0, none⟩) 1 cap6))) := (HB5.out.grown HW6.out.2.1 hbs (fun k e => by cases e)).setCell (World.ownsRow.lt HD5.out.row L5 rfl).1 _
            clear hD6 HW6 HO HFz c6 f6 c1 x1 x2
            go_wp2
            go_roundw
            case rel => exact ⟨i + 1, _, by omega, by go_num, HR6.out, HB6.out⟩
            case measure => simp [intOf]; omega)
        · have hxm' : ¬ (x.length : Int) = (m : Int) := by omega
          have hxb : ((x.length : Int) == (m : Int)) = false := by simp; omega
          have hnb : ((cs0.length : Int) + 1 == 0) = false := by simp; omega
          go_wp2_with fail
          have c1 := HD.out.lastAt
          obtain ⟨g, off, rfl, x1, x2⟩ := (HSp.out wr HBe.out).at hp
          simp only at x1 x2
          have HO : Hid (SOwn wr w.heap.size (.slice oa x.length oc) (x)) := HD.out.cl.own cs0.length (.slice oa x.length oc, x) (by simp)
          have hbs := HBe.out.size
          have hlt1 : (cs0.length : Int) < (cs0.length : Int) + 1 := by omega
          have hge1 : (0 : Int) ≤ (cs0.length : Int) := by omega
          obtain ⟨K, hK⟩ : ∃ K, K = cs0.length + 1 := ⟨_, rfl⟩
          obtain ⟨q, hq⟩ : ∃ q, q = cs0.length := ⟨_, rfl⟩
          have hK1 : ((cs0.length : Int) + 1) = (K : Int) := by omega
          have HD' : Hid (Dl wr w.heap.size (.slice (some ⟨L, 0, none⟩) (cs0.length + 1) lc) (cs0 ++ [(.slice oa x.length oc, x)])) := HD
          rw [hK1, ← hK]
          rw [← hq] at c1
          have hwm : IntKind.i64.wrap ((K : Int) - 1) = (q : Int) := by rw [IntKind.wrap_i64]; omega
          have hq1 : (q : Int) < (K : Int) := by omega
          have hq0 : (0 : Int) ≤ (q : Int) := by omega
          have hLw : L < wr.heap.size := (World.ownsRow.lt HD.out.row L rfl).2
          have HK : Hid (K = cs0.length + 1 ∧ q = cs0.length) := ⟨hK, hq⟩
          have hxl : x.length ≤ 2000 := hx2
          have HOs : Hid (∀ g', (Value.slice oa x.length oc).ownBlock = some g' → L ≠ g') := fun g' hg' e => HD.out.cl.off cs0.length (.slice oa x.length oc, x) (by simp) g' hg' (by rw [← e]; rfl)
          have HFz : Hid (wr.frozen? ⟨L, q, none⟩ = false) := by
            have hr := HD.out.row
            rw [List.length_append, List.length_singleton] at hr
            exact World.ownsRow.frozenAt hr q
          clear hK hq hK1 hlt1 hge1 hxb hnb hxm' c0
          go_region_law (first
            | (refine step_append_at rfl (.tmp 48) (.tmp 53) 22 rfl w.heap.size 24 i0 (.agg #[.int .i64 0, .int .i64 0]) 2 16 Try.underlying22 hi hz0 hz1 hz2 rfl (by decide) (.slice oa x.length oc) x.length (x.flatMap spc) (by simp [Act.eval]) (World.ownsRow.alloc (HO.out.drewN 1) _) ⟨wr.heap.size, 0, none⟩ 1 1 [.int .i64 p1, .int .i64 p2] (by simp [Act.eval]) rfl (cell_two_at _ _ _ _ _ (by first | rfl | simp)) (by simp [Value.oneCell']) (by unfold maxLen; omega) (by omega) (by simp; omega) ?_
               intro v6 w6 hown6 hgrow6 hat6
               obtain ⟨g6, cap6, hv6⟩ := own_some hown6 (by omega)
               subst hv6
               have hbl : w6.heap[L]? = wr.heap[L]? := (hgrow6.block L (Nat.lt_of_lt_of_le hLw (by simp)) (fun e => HOs.out L e.symm rfl)).trans (Below.heap_alloc _ _ L hLw)
               have c6 : w6.cell? ⟨L, q, none⟩ = some (.slice oa x.length oc) := (World.cell?_of_block (a := ⟨L, q, none⟩) hbl).trans c1
               have f6 : w6.frozen? ⟨L, q, none⟩ = false := (World.frozen?_of_block (a := ⟨L, q, none⟩) hbl).trans HFz.out
               have HW6 : Hid (w6.ownsRow w.heap.size 24 2 (.slice (some ⟨g6, 0, none⟩) (x.length + 1) cap6) (x.length + 1) (x.flatMap spc ++ [.int .i64 p1, .int .i64 p2]) ∧ wr.grownBy w6 (Value.slice oa x.length oc).ownBlock ∧ ((Value.slice (some ⟨g6, 0, none⟩) (x.length + 1) cap6).ownBlock = (Value.slice oa x.length oc).ownBlock ∨ ∃ g', (Value.slice (some ⟨g6, 0, none⟩) (x.length + 1) cap6).ownBlock = some g' ∧ wr.heap.size ≤ g')) := ⟨hown6, grown_trans (grown_trans (grown_drewN wr 1 _) (grown_alloc _ _ _)) hgrow6, hat6.imp id (fun e => ⟨_, e, by simp⟩)⟩
               clear hown6 hgrow6 hat6 hbl))
          all_goals (
            have hSy : SOwn w6 w.heap.size (.slice (some ⟨g6, 0, none⟩) (x.length + 1) cap6) (x ++ [(p1, p2)]) := by
              unfold SOwn; rw [List.flatMap_append, List.length_append]; exact HW6.out.1
            have hD6 := Dl.tail HD.out hSy HW6.out.2.1 HW6.out.2.2
            rw [← HK.out.1, ← HK.out.2] at hD6
            have HR6 : Hid (Rg (w6.setCell ⟨L, q, none⟩ (.slice (some ⟨g6, 0, none⟩) (x.length + 1) cap6)) w.heap.size m (i + 1) l (.slice (some ⟨L, 0, none⟩) K lc) (cs0 ++ [(.slice (some ⟨g6, 0, none⟩) (x.length + 1) cap6, x ++ [(p1, p2)])])) := HG.out.grow hp hxm hD6
            have HB6 : Hid (Below w.heap.size w (w6.setCell ⟨L, q, none⟩ (.slice (some ⟨g6, 0, none⟩) (x.length + 1) cap6))) := (HBe.out.grown HW6.out.2.1 hbs (fun k e => (World.ownsRow.lt HO.out k e).1)).setCell (World.ownsRow.lt HD.out.row L rfl).1 _
            clear hSy hD6 HW6 HO HOs HFz c6 f6 c1 x1 x2
            go_wp2
            go_roundw
            case rel => exact ⟨i + 1, _, by omega, by go_num, HR6.out, HB6.out⟩
            case measure => simp [intOf]; omega)

    · have hie : i = l.length := by omega
      have HP : Hid (DealPost w l (m : Int) (.returned (.tuple #[.slice la cs.length lc, .int .i64 0])) wr) := by
        have ha := HG.out.all
        rw [hie, List.take_length] at ha
        exact ⟨_, cs, 0, rfl, HG.out.row, .inr (.inr ⟨SL.out, hm, rfl, by simpa using HG.out.dr, ha⟩), HBe.out⟩
      clear HG
      go_wp2
      go_ret2
      exact HP.out

end Go.Proofs.Ytlagadpfnkidjac
