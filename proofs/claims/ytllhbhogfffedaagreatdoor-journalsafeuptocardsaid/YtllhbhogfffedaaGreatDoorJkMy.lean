import Derived.Test.YtllhbhogfffedaaGreatDoorJkBa
namespace Go.Proofs.YtllhbhogfffedaaGreatDoor.K
open Go.RowKit
set_option linter.unusedVariables false
set_option linter.unusedSimpArgs false

theorem RLin.drop {w : World} {g off : Nat} {l : List Rc} (h : RLin w (some ⟨g, off, none⟩) l) (k : Nat) : RLin w (some ⟨g, off + k * 11, none⟩) (l.drop k) := by
  rcases h with rfl | ⟨g', off', e, h⟩
  · left; simp
  · cases e
    refine .inr ⟨g, off + k * 11, rfl, fun i r hr => ?_⟩
    rw [List.getElem?_drop] at hr
    obtain ⟨sa, da, sc, dc, h1, h2⟩ := h (k + i) r hr
    refine ⟨sa, da, sc, dc, fun j u hj => ?_, h2⟩
    have := h1 j u hj
    rw [show off + k * 11 + i * 11 + j = off + (k + i) * 11 + j by omega]
    exact this
/-- What an Open may tell. -/
def Told (S M : List Ro) (A : List Rc) (dead an : Bool) (t : List Rc) : Prop := (∃ K, S.length ≤ K ∧ K ≤ S.length + M.length ∧ t = (rcs S ++ rcs M).take K) ∨ (dead = true ∧ an = true ∧ t = A)
theorem told_take {S M : List Ro} {t : List Rc} {K : Nat} (h1 : S.length ≤ K) (h2 : K ≤ S.length + M.length) (ht : t = (rcs S ++ rcs M).take K) : t.length = K ∧ t.take S.length = rcs S ∧ t.drop S.length = (rcs M).take (K - S.length) := by
  subst ht
  refine ⟨by rw [List.length_take, List.length_append, List.length_map, List.length_map]; omega, ?_, ?_⟩
  · rw [List.take_take, Nat.min_eq_left h1, List.take_append_of_le_length (by simp), List.take_of_length_le (by simp)]
  · rw [List.drop_take, List.drop_append_of_le_length (by simp), List.drop_eq_nil_of_le (by simp), List.nil_append]
set_option maxHeartbeats 16000000 in
set_option maxRecDepth 100000 in
/-- MAY: what is told may be. -/
theorem may_any (W w : World) (X : Nat → Prop) (kb : Nat) (S M : List Ro) (A : List Rc) (dead an : Bool) (h : Kn W w X kb S M A dead an) (hb : Below W.heap.size W w) (a : Option Addr) (n c : Nat) (t : List Rc) (ht : t.length = n) (ha : RLin w a t) (hsp : ∀ r ∈ t, r.spans.length ≤ 4611686018427387903) (hsh : (a = none ∧ n = 0 ∧ c = 0) ∨ ∃ g, a = some ⟨g, 0, none⟩) (hnc : n ≤ c) (hcm : c ≤ 9223372036854775807) (hn : n ≤ 1048576) (hS : S.length + M.length ≤ 1048576) (hT : Told S M A dead an t) :
    Calls Tryz.prog 22 #[.pointer (some ⟨kb, 0, none⟩), .slice a n c] w fun e w' => e = .returned (.bool true) ∧ Below w.heap.size w w' := by
  obtain ⟨sv, mv, a0, n0, c0, q1, q2, q3, q4, q5, q6, q7, q8⟩ := h.mem
  obtain ⟨sa, sca, hsl, hrs⟩ := Rr.lin q2 (fun o ho => (h.ins o (List.mem_append.mpr (.inl ho))).below hb)
  obtain ⟨ma, mca, hml, hrm⟩ := Rr.lin q3 (fun o ho => (h.ins o (List.mem_append.mpr (.inr ho))).below hb)
  have g0 : w.cell? ⟨kb, 0, none⟩ = some sv := cell_of_row _ _ 0 _ _ _ q1
  have g1 : w.cell? ⟨kb, 1, none⟩ = some mv := cell_of_row _ _ 1 _ _ _ q1
  have g2 : w.cell? ⟨kb, 2, none⟩ = some (.slice a0 n0 c0) := cell_of_row _ _ 2 _ _ _ q1
  have g3 : w.cell? ⟨kb, 3, none⟩ = some (.bool dead) := cell_of_row _ _ 3 _ _ _ q1
  have g4 : w.cell? ⟨kb, 4, none⟩ = some (.bool an) := cell_of_row _ _ 4 _ _ _ q1
  have hmc : M.length ≤ mca := by
    rw [hml] at q3
    obtain ⟨_, ⟨e, e0⟩ | ⟨g, cap, cur, e, _, _, e1, _⟩⟩ := id q3
    · obtain ⟨_, e2, e3⟩ := Value.slice.inj e; omega
    · obtain ⟨_, e2, e3⟩ := Value.slice.inj e; omega
  have hmn : ma = none → M.length = 0 ∧ mca = 0 := by rw [hml] at q3; exact Rr.none q3
  have hmg : ma = none ∨ ∃ g, ma = some ⟨g, 0, none⟩ := by
    rw [hml] at q3
    obtain ⟨_, ⟨e, e0⟩ | ⟨g, cap, cur, e, _⟩⟩ := id q3
    · obtain ⟨e1, _⟩ := Value.slice.inj e; exact .inl e1
    · obtain ⟨e1, _⟩ := Value.slice.inj e; exact .inr ⟨g, e1⟩
  rw [hsl] at g0
  rw [hml] at g1
  have hkl := h.lt
  have HA : Hid (RLin w a t ∧ RLin w sa (rcs S) ∧ RLin w ma (rcs M) ∧ RLin w a0 A ∧ t.length = n ∧ A.length = n0 ∧ Told S M A dead an t ∧ (∀ r ∈ t, r.spans.length ≤ 4611686018427387903)) := ⟨ha, hrs, hrm, q8.below hb, ht, q7, hT, hsp⟩
  clear q1 q2 q3 q4 q5 q6 q7 q8 h hb ht ha hsl hml hrs hrm hT hsp
  have hs1 : S.length ≤ 1048576 := by omega
  have HSM : Hid (S.length = S.length) := rfl
  obtain ⟨ns, hSl⟩ : ∃ ns, S.length = ns := ⟨_, rfl⟩
  obtain ⟨nm, hMl⟩ : ∃ nm, M.length = nm := ⟨_, rfl⟩
  rw [hSl] at g0 hs1
  rw [hMl] at g1 hmc hmn
  have HL : Hid (S.length = ns ∧ M.length = nm) := ⟨hSl, hMl⟩
  rw [hSl, hMl] at hS
  clear hSl hMl
  by_cases hda : dead = true ∧ an = true
  · obtain ⟨rfl, rfl⟩ := hda
    have HSA := same7_any t A a a0 n n0 c c0 w HA.out.2.2.2.2.1 HA.out.2.2.2.2.2.1 (by omega) HA.out.1 HA.out.2.2.2.1 HA.out.2.2.2.2.2.2.2
    go_enter Tryz.func22, Tryz.ntmps22
    go_wp2_with fail
    refine HSA.mono ?_
    clear HSA
    rintro e V ⟨q, rfl, hq, hbV⟩
    have HBV : Hid (Below w.heap.size w V) := hbV
    have HQ : Hid (t = A → q = true) := hq
    replace g0 := bel_cell hbV g0
    replace g1 := bel_cell hbV g1
    clear hbV hq g2 g3 g4
    cases q with
    | true =>
      go_wp2
      go_ret
      exact ⟨rfl, HBV.out⟩
    | false =>
      obtain ⟨K, hK1, hK2, hK3⟩ : ∃ K, S.length ≤ K ∧ K ≤ S.length + M.length ∧ t = (rcs S ++ rcs M).take K := by
        rcases HA.out.2.2.2.2.2.2.1 with q | ⟨_, _, q⟩
        · exact q
        · cases HQ.out q
      obtain ⟨t1, t2, t3⟩ := told_take hK1 hK2 hK3
      rw [HL.out.1] at t2 t3 hK1 hK2
      rw [HL.out.2] at hK2
      obtain rfl : K = n := by rw [← t1]; exact HA.out.2.2.2.2.1
      have hSs : ∀ r ∈ rcs S, r.spans.length ≤ 4611686018427387903 := fun r hr => HA.out.2.2.2.2.2.2.2 r (by rw [← t2] at hr; exact List.mem_of_mem_take hr)
      have hMs : ∀ r ∈ (rcs M).take (K - ns), r.spans.length ≤ 4611686018427387903 := fun r hr => HA.out.2.2.2.2.2.2.2 r (by rw [← t3] at hr; exact List.mem_of_mem_drop hr)
      have hr1 : RLin V.drew a (rcs S) := by rw [← t2]; exact (HA.out.1.below (bel_drew HBV.out)).take ns
      have HM1 := same7_eq (rcs S) a sa ns c sca V.drew (by rw [List.length_map]; exact HL.out.1) (by omega) hr1 (HA.out.2.1.below (bel_drew HBV.out)) hSs
      have hml : ((rcs M).take (K - ns)).length = K - ns := by rw [List.length_take, List.length_map, HL.out.2]; omega
      have HR2 : Hid (RLin w a t ∧ RLin w ma (rcs M) ∧ t.drop ns = (rcs M).take (K - ns) ∧ ((rcs M).take (K - ns)).length = K - ns ∧ ∀ r ∈ (rcs M).take (K - ns), r.spans.length ≤ 4611686018427387903) := ⟨HA.out.1, HA.out.2.2.1, t3, hml, hMs⟩
      have HG : Hid (V.cell? ⟨kb, 0, none⟩ = some (.slice sa ns sca) ∧ V.cell? ⟨kb, 1, none⟩ = some (.slice ma nm mca)) := ⟨g0, g1⟩
      have i1 : (ns : Int) ≤ (K : Int) := by omega
      have i2 : (K : Int) - (ns : Int) ≤ (nm : Int) := by omega
      have i3 : ¬ (K : Int) < (ns : Int) := by omega
      have i3' : ¬ K < ns := by omega
      have i4 : ¬ (nm : Int) < (K : Int) - (ns : Int) := by omega
      have i5 : IntKind.i64.wrap ((K : Int) - (ns : Int)) = (K : Int) - (ns : Int) := by rw [IntKind.wrap_i64]; omega
      have i0 : IntKind.i64.wrap 0 = 0 := by rw [IntKind.wrap_i64]; omega
      have i6 : (ns : Int) ≤ (c : Int) := by omega
      have i7 : (K : Int) ≤ (c : Int) := by omega
      have i8 : (K : Int) - (ns : Int) ≤ (mca : Int) := by omega
      have i9 : (0 : Int) ≤ (K : Int) - (ns : Int) := by omega
      have HM1' : Hid (Calls Tryz.prog 24 #[.slice a ns c, .slice sa ns sca] V.drew fun e w' => e = .returned (.bool true) ∧ Below V.drew.heap.size V.drew w') := HM1
      clear t1 t2 t3 hK1 hK2 hK3 hSs hMs hr1 hml HA HM1
      go_upto_region 8 with fail
      clear g0 g1
      rcases hsh with ⟨rfl, h2, h3⟩ | ⟨g, rfl⟩
      · have HZ : Hid (K = 0 ∧ c = 0) := ⟨h2, h3⟩
        rcases hmg with rfl | ⟨gm, rfl⟩
        · obtain ⟨rfl, rfl⟩ := hmn rfl
          have hns : ns = 0 := by omega
          subst h2
          subst h3
          subst hns
          go_region_held3 (fun U => U.cell? ⟨kb, 0, none⟩ = some (.slice sa 0 sca))
            (first | exact HG.out.1 | exact HG3.out.1)
            (first
              | (go_at_call 24
                 refine HM1'.out.mono ?_
                 rintro e w3 ⟨rfl, hb3⟩
                 have HG3 : Hid (w3.cell? ⟨kb, 0, none⟩ = some (.slice sa 0 sca) ∧ w3.cell? ⟨kb, 1, none⟩ = some (.slice none 0 0)) := ⟨bel_cell (w := V.drew) hb3 HG.out.1, bel_cell (w := V.drew) hb3 HG.out.2⟩
                 have HB3 : Hid (Below w.heap.size w w3) := (bel_drew HBV.out).trans (hb3.mono HBV.out.size)
                 clear hb3))
          all_goals (
            have HM2 := same7_eq ((rcs M).take (0 - 0)) none none 0 0 0 w3.drew (by rw [HR2.out.2.2.2.1] <;> omega) (by omega) (by rw [← HR2.out.2.2.1]; exact (show RLin _ _ _ from .inl (by rw [HR2.out.2.2.1]; exact List.eq_nil_of_length_eq_zero (by rw [HR2.out.2.2.2.1] <;> omega)))) ((HR2.out.2.1.below (bel_drew HB3.out)).take _) HR2.out.2.2.2.2
            have HM2' : Hid (Calls Tryz.prog 24 #[.slice none 0 0, .slice none 0 0] w3.drew fun e w' => e = .returned (.bool true) ∧ Below w3.drew.heap.size w3.drew w') := HM2
            clear HM2
            go_upto_region 9 with fail
            go_region_held3 (fun U => U.cell? ⟨kb, 1, none⟩ = some (.slice none 0 0))
              (first | exact HG3.out.2 | exact HG4.out)
              (first
                | (go_at_call 24
                   refine HM2'.out.mono ?_
                   rintro e w4 ⟨rfl, hb4⟩
                   have HG4 : Hid (w4.cell? ⟨kb, 1, none⟩ = some (.slice none 0 0)) := bel_cell (w := w3.drew) hb4 HG3.out.2
                   have HB4 : Hid (Below w.heap.size w w4) := (bel_drew HB3.out).trans (hb4.mono HB3.out.size)
                   clear hb4))
            all_goals (
              go_wp2
              go_ret
              exact ⟨rfl, HB4.out⟩))
        · clear h2 h3
          go_region_held3 (fun U => U.cell? ⟨kb, 0, none⟩ = some (.slice sa ns sca))
            (first | exact HG.out.1 | exact HG3.out.1)
            (first
              | (go_at_call 24
                 refine HM1'.out.mono ?_
                 rintro e w3 ⟨rfl, hb3⟩
                 have HG3 : Hid (w3.cell? ⟨kb, 0, none⟩ = some (.slice sa ns sca) ∧ w3.cell? ⟨kb, 1, none⟩ = some (.slice (some ⟨gm, 0, none⟩) nm mca)) := ⟨bel_cell (w := V.drew) hb3 HG.out.1, bel_cell (w := V.drew) hb3 HG.out.2⟩
                 have HB3 : Hid (Below w.heap.size w w3) := (bel_drew HBV.out).trans (hb3.mono HBV.out.size)
                 clear hb3))
          all_goals (
            have HM2 := same7_eq ((rcs M).take (K - ns)) none (some ⟨gm, 0, none⟩) (K - ns) (c - ns) mca w3.drew (by rw [HR2.out.2.2.2.1]) (by omega) (by rw [← HR2.out.2.2.1]; exact (show RLin _ _ _ from .inl (by rw [HR2.out.2.2.1]; exact List.eq_nil_of_length_eq_zero (by rw [HR2.out.2.2.2.1]; have := HZ.out.1; omega)))) ((HR2.out.2.1.below (bel_drew HB3.out)).take _) HR2.out.2.2.2.2
            have HM2' : Hid (Calls Tryz.prog 24 #[.slice none (K - ns) (c - ns), .slice (some ⟨gm, 0, none⟩) (K - ns) mca] w3.drew fun e w' => e = .returned (.bool true) ∧ Below w3.drew.heap.size w3.drew w') := HM2
            clear HM2
            go_upto_region 9 with fail
            go_region_held3 (fun U => U.cell? ⟨kb, 1, none⟩ = some (.slice (some ⟨gm, 0, none⟩) nm mca))
              (first | exact HG3.out.2 | exact HG4.out)
              (first
                | (go_at_call 24
                   refine HM2'.out.mono ?_
                   rintro e w4 ⟨rfl, hb4⟩
                   have HG4 : Hid (w4.cell? ⟨kb, 1, none⟩ = some (.slice (some ⟨gm, 0, none⟩) nm mca)) := bel_cell (w := w3.drew) hb4 HG3.out.2
                   have HB4 : Hid (Below w.heap.size w w4) := (bel_drew HB3.out).trans (hb4.mono HB3.out.size)
                   clear hb4))
            all_goals (
              go_wp2
              go_ret
              exact ⟨rfl, HB4.out⟩))
      · by_cases hce : c = ns
        · rcases hmg with rfl | ⟨gm, rfl⟩
          · obtain ⟨rfl, rfl⟩ := hmn rfl
            have hKn : K = ns := by omega
            subst hce
            subst hKn
            go_region_held3 (fun U => U.cell? ⟨kb, 0, none⟩ = some (.slice sa K sca))
              (first | exact HG.out.1 | exact HG3.out.1)
              (first
                | (go_at_call 24
                   refine HM1'.out.mono ?_
                   rintro e w3 ⟨rfl, hb3⟩
                   have HG3 : Hid (w3.cell? ⟨kb, 0, none⟩ = some (.slice sa K sca) ∧ w3.cell? ⟨kb, 1, none⟩ = some (.slice none 0 0)) := ⟨bel_cell (w := V.drew) hb3 HG.out.1, bel_cell (w := V.drew) hb3 HG.out.2⟩
                   have HB3 : Hid (Below w.heap.size w w3) := (bel_drew HBV.out).trans (hb3.mono HBV.out.size)
                   clear hb3))
            all_goals (
              have HM2 := same7_eq ((rcs M).take (K - K)) (some ⟨g, 0, none⟩) none 0 0 0 w3.drew (by rw [HR2.out.2.2.2.1] <;> omega) (by omega) (by rw [← HR2.out.2.2.1]; exact (show RLin _ _ _ from .inl (by rw [HR2.out.2.2.1]; exact List.eq_nil_of_length_eq_zero (by rw [HR2.out.2.2.2.1] <;> omega)))) ((HR2.out.2.1.below (bel_drew HB3.out)).take _) HR2.out.2.2.2.2
              have HM2' : Hid (Calls Tryz.prog 24 #[.slice (some ⟨g, 0, none⟩) 0 0, .slice none 0 0] w3.drew fun e w' => e = .returned (.bool true) ∧ Below w3.drew.heap.size w3.drew w') := HM2
              clear HM2
              go_upto_region 9 with fail
              go_region_held3 (fun U => U.cell? ⟨kb, 1, none⟩ = some (.slice none 0 0))
                (first | exact HG3.out.2 | exact HG4.out)
                (first
                  | (go_at_call 24
                     refine HM2'.out.mono ?_
                     rintro e w4 ⟨rfl, hb4⟩
                     have HG4 : Hid (w4.cell? ⟨kb, 1, none⟩ = some (.slice none 0 0)) := bel_cell (w := w3.drew) hb4 HG3.out.2
                     have HB4 : Hid (Below w.heap.size w w4) := (bel_drew HB3.out).trans (hb4.mono HB3.out.size)
                     clear hb4))
              all_goals (
                go_wp2
                go_ret
                exact ⟨rfl, HB4.out⟩))
          · have HZ : Hid (K ≤ c) := hnc
            subst hce
            go_region_held3 (fun U => U.cell? ⟨kb, 0, none⟩ = some (.slice sa c sca))
              (first | exact HG.out.1 | exact HG3.out.1)
              (first
                | (go_at_call 24
                   refine HM1'.out.mono ?_
                   rintro e w3 ⟨rfl, hb3⟩
                   have HG3 : Hid (w3.cell? ⟨kb, 0, none⟩ = some (.slice sa c sca) ∧ w3.cell? ⟨kb, 1, none⟩ = some (.slice (some ⟨gm, 0, none⟩) nm mca)) := ⟨bel_cell (w := V.drew) hb3 HG.out.1, bel_cell (w := V.drew) hb3 HG.out.2⟩
                   have HB3 : Hid (Below w.heap.size w w3) := (bel_drew HBV.out).trans (hb3.mono HBV.out.size)
                   clear hb3))
            all_goals (
              have HM2 := same7_eq ((rcs M).take (K - c)) (some ⟨g, 0, none⟩) (some ⟨gm, 0, none⟩) 0 0 mca w3.drew (by rw [HR2.out.2.2.2.1] <;> omega) (by omega) (by rw [← HR2.out.2.2.1]; exact (show RLin _ _ _ from .inl (by rw [HR2.out.2.2.1]; exact List.eq_nil_of_length_eq_zero (by rw [HR2.out.2.2.2.1]; have := HZ.out; omega)))) ((HR2.out.2.1.below (bel_drew HB3.out)).take _) HR2.out.2.2.2.2
              have HM2' : Hid (Calls Tryz.prog 24 #[.slice (some ⟨g, 0, none⟩) 0 0, .slice (some ⟨gm, 0, none⟩) 0 mca] w3.drew fun e w' => e = .returned (.bool true) ∧ Below w3.drew.heap.size w3.drew w') := HM2
              clear HM2
              go_upto_region 9 with fail
              go_region_held3 (fun U => U.cell? ⟨kb, 1, none⟩ = some (.slice (some ⟨gm, 0, none⟩) nm mca))
                (first | exact HG3.out.2 | exact HG4.out)
                (first
                  | (go_at_call 24
                     refine HM2'.out.mono ?_
                     rintro e w4 ⟨rfl, hb4⟩
                     have HG4 : Hid (w4.cell? ⟨kb, 1, none⟩ = some (.slice (some ⟨gm, 0, none⟩) nm mca)) := bel_cell (w := w3.drew) hb4 HG3.out.2
                     have HB4 : Hid (Below w.heap.size w w4) := (bel_drew HB3.out).trans (hb4.mono HB3.out.size)
                     clear hb4))
              all_goals (
                go_wp2
                go_ret
                exact ⟨rfl, HB4.out⟩))
        · rcases hmg with rfl | ⟨gm, rfl⟩
          · obtain ⟨rfl, rfl⟩ := hmn rfl
            have hKn : K = ns := by omega
            subst hKn
            go_region_held3 (fun U => U.cell? ⟨kb, 0, none⟩ = some (.slice sa K sca))
              (first | exact HG.out.1 | exact HG3.out.1)
              (first
                | (go_at_call 24
                   refine HM1'.out.mono ?_
                   rintro e w3 ⟨rfl, hb3⟩
                   have HG3 : Hid (w3.cell? ⟨kb, 0, none⟩ = some (.slice sa K sca) ∧ w3.cell? ⟨kb, 1, none⟩ = some (.slice none 0 0)) := ⟨bel_cell (w := V.drew) hb3 HG.out.1, bel_cell (w := V.drew) hb3 HG.out.2⟩
                   have HB3 : Hid (Below w.heap.size w w3) := (bel_drew HBV.out).trans (hb3.mono HBV.out.size)
                   clear hb3))
            all_goals (
              have HM2 := same7_eq ((rcs M).take (K - K)) (some ⟨g, K * 11, none⟩) none 0 (c - K) 0 w3.drew (by rw [HR2.out.2.2.2.1] <;> omega) (by omega) (by rw [← HR2.out.2.2.1]; exact (by have := RLin.drop (HR2.out.1.below (bel_drew HB3.out)) K; rw [Nat.zero_add] at this; exact this)) ((HR2.out.2.1.below (bel_drew HB3.out)).take _) HR2.out.2.2.2.2
              have HM2' : Hid (Calls Tryz.prog 24 #[.slice (some ⟨g, K * 11, none⟩) 0 (c - K), .slice none 0 0] w3.drew fun e w' => e = .returned (.bool true) ∧ Below w3.drew.heap.size w3.drew w') := HM2
              clear HM2
              go_upto_region 9 with fail
              go_region_held3 (fun U => U.cell? ⟨kb, 1, none⟩ = some (.slice none 0 0))
                (first | exact HG3.out.2 | exact HG4.out)
                (first
                  | (go_at_call 24
                     refine HM2'.out.mono ?_
                     rintro e w4 ⟨rfl, hb4⟩
                     have HG4 : Hid (w4.cell? ⟨kb, 1, none⟩ = some (.slice none 0 0)) := bel_cell (w := w3.drew) hb4 HG3.out.2
                     have HB4 : Hid (Below w.heap.size w w4) := (bel_drew HB3.out).trans (hb4.mono HB3.out.size)
                     clear hb4))
              all_goals (
                go_wp2
                go_ret
                exact ⟨rfl, HB4.out⟩))
          · skip
            go_region_held3 (fun U => U.cell? ⟨kb, 0, none⟩ = some (.slice sa ns sca))
              (first | exact HG.out.1 | exact HG3.out.1)
              (first
                | (go_at_call 24
                   refine HM1'.out.mono ?_
                   rintro e w3 ⟨rfl, hb3⟩
                   have HG3 : Hid (w3.cell? ⟨kb, 0, none⟩ = some (.slice sa ns sca) ∧ w3.cell? ⟨kb, 1, none⟩ = some (.slice (some ⟨gm, 0, none⟩) nm mca)) := ⟨bel_cell (w := V.drew) hb3 HG.out.1, bel_cell (w := V.drew) hb3 HG.out.2⟩
                   have HB3 : Hid (Below w.heap.size w w3) := (bel_drew HBV.out).trans (hb3.mono HBV.out.size)
                   clear hb3))
            all_goals (
              have HM2 := same7_eq ((rcs M).take (K - ns)) (some ⟨g, ns * 11, none⟩) (some ⟨gm, 0, none⟩) (K - ns) (c - ns) mca w3.drew (by rw [HR2.out.2.2.2.1]) (by omega) (by rw [← HR2.out.2.2.1]; exact (by have := RLin.drop (HR2.out.1.below (bel_drew HB3.out)) ns; rw [Nat.zero_add] at this; exact this)) ((HR2.out.2.1.below (bel_drew HB3.out)).take _) HR2.out.2.2.2.2
              have HM2' : Hid (Calls Tryz.prog 24 #[.slice (some ⟨g, ns * 11, none⟩) (K - ns) (c - ns), .slice (some ⟨gm, 0, none⟩) (K - ns) mca] w3.drew fun e w' => e = .returned (.bool true) ∧ Below w3.drew.heap.size w3.drew w') := HM2
              clear HM2
              go_upto_region 9 with fail
              go_region_held3 (fun U => U.cell? ⟨kb, 1, none⟩ = some (.slice (some ⟨gm, 0, none⟩) nm mca))
                (first | exact HG3.out.2 | exact HG4.out)
                (first
                  | (go_at_call 24
                     refine HM2'.out.mono ?_
                     rintro e w4 ⟨rfl, hb4⟩
                     have HG4 : Hid (w4.cell? ⟨kb, 1, none⟩ = some (.slice (some ⟨gm, 0, none⟩) nm mca)) := bel_cell (w := w3.drew) hb4 HG3.out.2
                     have HB4 : Hid (Below w.heap.size w w4) := (bel_drew HB3.out).trans (hb4.mono HB3.out.size)
                     clear hb4))
              all_goals (
                go_wp2
                go_ret
                exact ⟨rfl, HB4.out⟩))
  · obtain ⟨K, hK1, hK2, hK3⟩ : ∃ K, S.length ≤ K ∧ K ≤ S.length + M.length ∧ t = (rcs S ++ rcs M).take K := by
      rcases HA.out.2.2.2.2.2.2.1 with q | ⟨q1, q2, _⟩
      · exact q
      · exact absurd ⟨q1, q2⟩ hda
    have HBV : Hid (Below w.heap.size w w) := Below.refl _ _
    have hb0 : (dead && an) = false := by cases dead <;> cases an <;> simp_all
    go_enter Tryz.func22, Tryz.ntmps22
    cases dead with
    | false =>
      obtain ⟨t1, t2, t3⟩ := told_take hK1 hK2 hK3
      rw [HL.out.1] at t2 t3 hK1 hK2
      rw [HL.out.2] at hK2
      obtain rfl : K = n := by rw [← t1]; exact HA.out.2.2.2.2.1
      have hSs : ∀ r ∈ rcs S, r.spans.length ≤ 4611686018427387903 := fun r hr => HA.out.2.2.2.2.2.2.2 r (by rw [← t2] at hr; exact List.mem_of_mem_take hr)
      have hMs : ∀ r ∈ (rcs M).take (K - ns), r.spans.length ≤ 4611686018427387903 := fun r hr => HA.out.2.2.2.2.2.2.2 r (by rw [← t3] at hr; exact List.mem_of_mem_drop hr)
      have hr1 : RLin w.drew a (rcs S) := by rw [← t2]; exact (HA.out.1.below (bel_drew HBV.out)).take ns
      have HM1 := same7_eq (rcs S) a sa ns c sca w.drew (by rw [List.length_map]; exact HL.out.1) (by omega) hr1 (HA.out.2.1.below (bel_drew HBV.out)) hSs
      have hml : ((rcs M).take (K - ns)).length = K - ns := by rw [List.length_take, List.length_map, HL.out.2]; omega
      have HR2 : Hid (RLin w a t ∧ RLin w ma (rcs M) ∧ t.drop ns = (rcs M).take (K - ns) ∧ ((rcs M).take (K - ns)).length = K - ns ∧ ∀ r ∈ (rcs M).take (K - ns), r.spans.length ≤ 4611686018427387903) := ⟨HA.out.1, HA.out.2.2.1, t3, hml, hMs⟩
      have HG : Hid (w.cell? ⟨kb, 0, none⟩ = some (.slice sa ns sca) ∧ w.cell? ⟨kb, 1, none⟩ = some (.slice ma nm mca)) := ⟨g0, g1⟩
      have i1 : (ns : Int) ≤ (K : Int) := by omega
      have i2 : (K : Int) - (ns : Int) ≤ (nm : Int) := by omega
      have i3 : ¬ (K : Int) < (ns : Int) := by omega
      have i3' : ¬ K < ns := by omega
      have i4 : ¬ (nm : Int) < (K : Int) - (ns : Int) := by omega
      have i5 : IntKind.i64.wrap ((K : Int) - (ns : Int)) = (K : Int) - (ns : Int) := by rw [IntKind.wrap_i64]; omega
      have i0 : IntKind.i64.wrap 0 = 0 := by rw [IntKind.wrap_i64]; omega
      have i6 : (ns : Int) ≤ (c : Int) := by omega
      have i7 : (K : Int) ≤ (c : Int) := by omega
      have i8 : (K : Int) - (ns : Int) ≤ (mca : Int) := by omega
      have i9 : (0 : Int) ≤ (K : Int) - (ns : Int) := by omega
      have HM1' : Hid (Calls Tryz.prog 24 #[.slice a ns c, .slice sa ns sca] w.drew fun e w' => e = .returned (.bool true) ∧ Below w.drew.heap.size w.drew w') := HM1
      clear t1 t2 t3 hK1 hK2 hK3 hSs hMs hr1 hml HA HM1
      go_upto_region 8 with fail
      clear g0 g1
      rcases hsh with ⟨rfl, h2, h3⟩ | ⟨g, rfl⟩
      · have HZ : Hid (K = 0 ∧ c = 0) := ⟨h2, h3⟩
        rcases hmg with rfl | ⟨gm, rfl⟩
        · obtain ⟨rfl, rfl⟩ := hmn rfl
          have hns : ns = 0 := by omega
          subst h2
          subst h3
          subst hns
          go_region_held3 (fun U => U.cell? ⟨kb, 0, none⟩ = some (.slice sa 0 sca))
            (first | exact HG.out.1 | exact HG3.out.1)
            (first
              | (go_at_call 24
                 refine HM1'.out.mono ?_
                 rintro e w3 ⟨rfl, hb3⟩
                 have HG3 : Hid (w3.cell? ⟨kb, 0, none⟩ = some (.slice sa 0 sca) ∧ w3.cell? ⟨kb, 1, none⟩ = some (.slice none 0 0)) := ⟨bel_cell (w := w.drew) hb3 HG.out.1, bel_cell (w := w.drew) hb3 HG.out.2⟩
                 have HB3 : Hid (Below w.heap.size w w3) := (bel_drew HBV.out).trans (hb3.mono HBV.out.size)
                 clear hb3))
          all_goals (
            have HM2 := same7_eq ((rcs M).take (0 - 0)) none none 0 0 0 w3.drew (by rw [HR2.out.2.2.2.1] <;> omega) (by omega) (by rw [← HR2.out.2.2.1]; exact (show RLin _ _ _ from .inl (by rw [HR2.out.2.2.1]; exact List.eq_nil_of_length_eq_zero (by rw [HR2.out.2.2.2.1] <;> omega)))) ((HR2.out.2.1.below (bel_drew HB3.out)).take _) HR2.out.2.2.2.2
            have HM2' : Hid (Calls Tryz.prog 24 #[.slice none 0 0, .slice none 0 0] w3.drew fun e w' => e = .returned (.bool true) ∧ Below w3.drew.heap.size w3.drew w') := HM2
            clear HM2
            go_upto_region 9 with fail
            go_region_held3 (fun U => U.cell? ⟨kb, 1, none⟩ = some (.slice none 0 0))
              (first | exact HG3.out.2 | exact HG4.out)
              (first
                | (go_at_call 24
                   refine HM2'.out.mono ?_
                   rintro e w4 ⟨rfl, hb4⟩
                   have HG4 : Hid (w4.cell? ⟨kb, 1, none⟩ = some (.slice none 0 0)) := bel_cell (w := w3.drew) hb4 HG3.out.2
                   have HB4 : Hid (Below w.heap.size w w4) := (bel_drew HB3.out).trans (hb4.mono HB3.out.size)
                   clear hb4))
            all_goals (
              go_wp2
              go_ret
              exact ⟨rfl, HB4.out⟩))
        · clear h2 h3
          go_region_held3 (fun U => U.cell? ⟨kb, 0, none⟩ = some (.slice sa ns sca))
            (first | exact HG.out.1 | exact HG3.out.1)
            (first
              | (go_at_call 24
                 refine HM1'.out.mono ?_
                 rintro e w3 ⟨rfl, hb3⟩
                 have HG3 : Hid (w3.cell? ⟨kb, 0, none⟩ = some (.slice sa ns sca) ∧ w3.cell? ⟨kb, 1, none⟩ = some (.slice (some ⟨gm, 0, none⟩) nm mca)) := ⟨bel_cell (w := w.drew) hb3 HG.out.1, bel_cell (w := w.drew) hb3 HG.out.2⟩
                 have HB3 : Hid (Below w.heap.size w w3) := (bel_drew HBV.out).trans (hb3.mono HBV.out.size)
                 clear hb3))
          all_goals (
            have HM2 := same7_eq ((rcs M).take (K - ns)) none (some ⟨gm, 0, none⟩) (K - ns) (c - ns) mca w3.drew (by rw [HR2.out.2.2.2.1]) (by omega) (by rw [← HR2.out.2.2.1]; exact (show RLin _ _ _ from .inl (by rw [HR2.out.2.2.1]; exact List.eq_nil_of_length_eq_zero (by rw [HR2.out.2.2.2.1]; have := HZ.out.1; omega)))) ((HR2.out.2.1.below (bel_drew HB3.out)).take _) HR2.out.2.2.2.2
            have HM2' : Hid (Calls Tryz.prog 24 #[.slice none (K - ns) (c - ns), .slice (some ⟨gm, 0, none⟩) (K - ns) mca] w3.drew fun e w' => e = .returned (.bool true) ∧ Below w3.drew.heap.size w3.drew w') := HM2
            clear HM2
            go_upto_region 9 with fail
            go_region_held3 (fun U => U.cell? ⟨kb, 1, none⟩ = some (.slice (some ⟨gm, 0, none⟩) nm mca))
              (first | exact HG3.out.2 | exact HG4.out)
              (first
                | (go_at_call 24
                   refine HM2'.out.mono ?_
                   rintro e w4 ⟨rfl, hb4⟩
                   have HG4 : Hid (w4.cell? ⟨kb, 1, none⟩ = some (.slice (some ⟨gm, 0, none⟩) nm mca)) := bel_cell (w := w3.drew) hb4 HG3.out.2
                   have HB4 : Hid (Below w.heap.size w w4) := (bel_drew HB3.out).trans (hb4.mono HB3.out.size)
                   clear hb4))
            all_goals (
              go_wp2
              go_ret
              exact ⟨rfl, HB4.out⟩))
      · by_cases hce : c = ns
        · rcases hmg with rfl | ⟨gm, rfl⟩
          · obtain ⟨rfl, rfl⟩ := hmn rfl
            have hKn : K = ns := by omega
            subst hce
            subst hKn
            go_region_held3 (fun U => U.cell? ⟨kb, 0, none⟩ = some (.slice sa K sca))
              (first | exact HG.out.1 | exact HG3.out.1)
              (first
                | (go_at_call 24
                   refine HM1'.out.mono ?_
                   rintro e w3 ⟨rfl, hb3⟩
                   have HG3 : Hid (w3.cell? ⟨kb, 0, none⟩ = some (.slice sa K sca) ∧ w3.cell? ⟨kb, 1, none⟩ = some (.slice none 0 0)) := ⟨bel_cell (w := w.drew) hb3 HG.out.1, bel_cell (w := w.drew) hb3 HG.out.2⟩
                   have HB3 : Hid (Below w.heap.size w w3) := (bel_drew HBV.out).trans (hb3.mono HBV.out.size)
                   clear hb3))
            all_goals (
              have HM2 := same7_eq ((rcs M).take (K - K)) (some ⟨g, 0, none⟩) none 0 0 0 w3.drew (by rw [HR2.out.2.2.2.1] <;> omega) (by omega) (by rw [← HR2.out.2.2.1]; exact (show RLin _ _ _ from .inl (by rw [HR2.out.2.2.1]; exact List.eq_nil_of_length_eq_zero (by rw [HR2.out.2.2.2.1] <;> omega)))) ((HR2.out.2.1.below (bel_drew HB3.out)).take _) HR2.out.2.2.2.2
              have HM2' : Hid (Calls Tryz.prog 24 #[.slice (some ⟨g, 0, none⟩) 0 0, .slice none 0 0] w3.drew fun e w' => e = .returned (.bool true) ∧ Below w3.drew.heap.size w3.drew w') := HM2
              clear HM2
              go_upto_region 9 with fail
              go_region_held3 (fun U => U.cell? ⟨kb, 1, none⟩ = some (.slice none 0 0))
                (first | exact HG3.out.2 | exact HG4.out)
                (first
                  | (go_at_call 24
                     refine HM2'.out.mono ?_
                     rintro e w4 ⟨rfl, hb4⟩
                     have HG4 : Hid (w4.cell? ⟨kb, 1, none⟩ = some (.slice none 0 0)) := bel_cell (w := w3.drew) hb4 HG3.out.2
                     have HB4 : Hid (Below w.heap.size w w4) := (bel_drew HB3.out).trans (hb4.mono HB3.out.size)
                     clear hb4))
              all_goals (
                go_wp2
                go_ret
                exact ⟨rfl, HB4.out⟩))
          · have HZ : Hid (K ≤ c) := hnc
            subst hce
            go_region_held3 (fun U => U.cell? ⟨kb, 0, none⟩ = some (.slice sa c sca))
              (first | exact HG.out.1 | exact HG3.out.1)
              (first
                | (go_at_call 24
                   refine HM1'.out.mono ?_
                   rintro e w3 ⟨rfl, hb3⟩
                   have HG3 : Hid (w3.cell? ⟨kb, 0, none⟩ = some (.slice sa c sca) ∧ w3.cell? ⟨kb, 1, none⟩ = some (.slice (some ⟨gm, 0, none⟩) nm mca)) := ⟨bel_cell (w := w.drew) hb3 HG.out.1, bel_cell (w := w.drew) hb3 HG.out.2⟩
                   have HB3 : Hid (Below w.heap.size w w3) := (bel_drew HBV.out).trans (hb3.mono HBV.out.size)
                   clear hb3))
            all_goals (
              have HM2 := same7_eq ((rcs M).take (K - c)) (some ⟨g, 0, none⟩) (some ⟨gm, 0, none⟩) 0 0 mca w3.drew (by rw [HR2.out.2.2.2.1] <;> omega) (by omega) (by rw [← HR2.out.2.2.1]; exact (show RLin _ _ _ from .inl (by rw [HR2.out.2.2.1]; exact List.eq_nil_of_length_eq_zero (by rw [HR2.out.2.2.2.1]; have := HZ.out; omega)))) ((HR2.out.2.1.below (bel_drew HB3.out)).take _) HR2.out.2.2.2.2
              have HM2' : Hid (Calls Tryz.prog 24 #[.slice (some ⟨g, 0, none⟩) 0 0, .slice (some ⟨gm, 0, none⟩) 0 mca] w3.drew fun e w' => e = .returned (.bool true) ∧ Below w3.drew.heap.size w3.drew w') := HM2
              clear HM2
              go_upto_region 9 with fail
              go_region_held3 (fun U => U.cell? ⟨kb, 1, none⟩ = some (.slice (some ⟨gm, 0, none⟩) nm mca))
                (first | exact HG3.out.2 | exact HG4.out)
                (first
                  | (go_at_call 24
                     refine HM2'.out.mono ?_
                     rintro e w4 ⟨rfl, hb4⟩
                     have HG4 : Hid (w4.cell? ⟨kb, 1, none⟩ = some (.slice (some ⟨gm, 0, none⟩) nm mca)) := bel_cell (w := w3.drew) hb4 HG3.out.2
                     have HB4 : Hid (Below w.heap.size w w4) := (bel_drew HB3.out).trans (hb4.mono HB3.out.size)
                     clear hb4))
              all_goals (
                go_wp2
                go_ret
                exact ⟨rfl, HB4.out⟩))
        · rcases hmg with rfl | ⟨gm, rfl⟩
          · obtain ⟨rfl, rfl⟩ := hmn rfl
            have hKn : K = ns := by omega
            subst hKn
            go_region_held3 (fun U => U.cell? ⟨kb, 0, none⟩ = some (.slice sa K sca))
              (first | exact HG.out.1 | exact HG3.out.1)
              (first
                | (go_at_call 24
                   refine HM1'.out.mono ?_
                   rintro e w3 ⟨rfl, hb3⟩
                   have HG3 : Hid (w3.cell? ⟨kb, 0, none⟩ = some (.slice sa K sca) ∧ w3.cell? ⟨kb, 1, none⟩ = some (.slice none 0 0)) := ⟨bel_cell (w := w.drew) hb3 HG.out.1, bel_cell (w := w.drew) hb3 HG.out.2⟩
                   have HB3 : Hid (Below w.heap.size w w3) := (bel_drew HBV.out).trans (hb3.mono HBV.out.size)
                   clear hb3))
            all_goals (
              have HM2 := same7_eq ((rcs M).take (K - K)) (some ⟨g, K * 11, none⟩) none 0 (c - K) 0 w3.drew (by rw [HR2.out.2.2.2.1] <;> omega) (by omega) (by rw [← HR2.out.2.2.1]; exact (by have := RLin.drop (HR2.out.1.below (bel_drew HB3.out)) K; rw [Nat.zero_add] at this; exact this)) ((HR2.out.2.1.below (bel_drew HB3.out)).take _) HR2.out.2.2.2.2
              have HM2' : Hid (Calls Tryz.prog 24 #[.slice (some ⟨g, K * 11, none⟩) 0 (c - K), .slice none 0 0] w3.drew fun e w' => e = .returned (.bool true) ∧ Below w3.drew.heap.size w3.drew w') := HM2
              clear HM2
              go_upto_region 9 with fail
              go_region_held3 (fun U => U.cell? ⟨kb, 1, none⟩ = some (.slice none 0 0))
                (first | exact HG3.out.2 | exact HG4.out)
                (first
                  | (go_at_call 24
                     refine HM2'.out.mono ?_
                     rintro e w4 ⟨rfl, hb4⟩
                     have HG4 : Hid (w4.cell? ⟨kb, 1, none⟩ = some (.slice none 0 0)) := bel_cell (w := w3.drew) hb4 HG3.out.2
                     have HB4 : Hid (Below w.heap.size w w4) := (bel_drew HB3.out).trans (hb4.mono HB3.out.size)
                     clear hb4))
              all_goals (
                go_wp2
                go_ret
                exact ⟨rfl, HB4.out⟩))
          · skip
            go_region_held3 (fun U => U.cell? ⟨kb, 0, none⟩ = some (.slice sa ns sca))
              (first | exact HG.out.1 | exact HG3.out.1)
              (first
                | (go_at_call 24
                   refine HM1'.out.mono ?_
                   rintro e w3 ⟨rfl, hb3⟩
                   have HG3 : Hid (w3.cell? ⟨kb, 0, none⟩ = some (.slice sa ns sca) ∧ w3.cell? ⟨kb, 1, none⟩ = some (.slice (some ⟨gm, 0, none⟩) nm mca)) := ⟨bel_cell (w := w.drew) hb3 HG.out.1, bel_cell (w := w.drew) hb3 HG.out.2⟩
                   have HB3 : Hid (Below w.heap.size w w3) := (bel_drew HBV.out).trans (hb3.mono HBV.out.size)
                   clear hb3))
            all_goals (
              have HM2 := same7_eq ((rcs M).take (K - ns)) (some ⟨g, ns * 11, none⟩) (some ⟨gm, 0, none⟩) (K - ns) (c - ns) mca w3.drew (by rw [HR2.out.2.2.2.1]) (by omega) (by rw [← HR2.out.2.2.1]; exact (by have := RLin.drop (HR2.out.1.below (bel_drew HB3.out)) ns; rw [Nat.zero_add] at this; exact this)) ((HR2.out.2.1.below (bel_drew HB3.out)).take _) HR2.out.2.2.2.2
              have HM2' : Hid (Calls Tryz.prog 24 #[.slice (some ⟨g, ns * 11, none⟩) (K - ns) (c - ns), .slice (some ⟨gm, 0, none⟩) (K - ns) mca] w3.drew fun e w' => e = .returned (.bool true) ∧ Below w3.drew.heap.size w3.drew w') := HM2
              clear HM2
              go_upto_region 9 with fail
              go_region_held3 (fun U => U.cell? ⟨kb, 1, none⟩ = some (.slice (some ⟨gm, 0, none⟩) nm mca))
                (first | exact HG3.out.2 | exact HG4.out)
                (first
                  | (go_at_call 24
                     refine HM2'.out.mono ?_
                     rintro e w4 ⟨rfl, hb4⟩
                     have HG4 : Hid (w4.cell? ⟨kb, 1, none⟩ = some (.slice (some ⟨gm, 0, none⟩) nm mca)) := bel_cell (w := w3.drew) hb4 HG3.out.2
                     have HB4 : Hid (Below w.heap.size w w4) := (bel_drew HB3.out).trans (hb4.mono HB3.out.size)
                     clear hb4))
              all_goals (
                go_wp2
                go_ret
                exact ⟨rfl, HB4.out⟩))
    | true =>
      cases an with
      | true => exact absurd ⟨rfl, rfl⟩ hda
      | false =>
        obtain ⟨t1, t2, t3⟩ := told_take hK1 hK2 hK3
        rw [HL.out.1] at t2 t3 hK1 hK2
        rw [HL.out.2] at hK2
        obtain rfl : K = n := by rw [← t1]; exact HA.out.2.2.2.2.1
        have hSs : ∀ r ∈ rcs S, r.spans.length ≤ 4611686018427387903 := fun r hr => HA.out.2.2.2.2.2.2.2 r (by rw [← t2] at hr; exact List.mem_of_mem_take hr)
        have hMs : ∀ r ∈ (rcs M).take (K - ns), r.spans.length ≤ 4611686018427387903 := fun r hr => HA.out.2.2.2.2.2.2.2 r (by rw [← t3] at hr; exact List.mem_of_mem_drop hr)
        have hr1 : RLin w.drew a (rcs S) := by rw [← t2]; exact (HA.out.1.below (bel_drew HBV.out)).take ns
        have HM1 := same7_eq (rcs S) a sa ns c sca w.drew (by rw [List.length_map]; exact HL.out.1) (by omega) hr1 (HA.out.2.1.below (bel_drew HBV.out)) hSs
        have hml : ((rcs M).take (K - ns)).length = K - ns := by rw [List.length_take, List.length_map, HL.out.2]; omega
        have HR2 : Hid (RLin w a t ∧ RLin w ma (rcs M) ∧ t.drop ns = (rcs M).take (K - ns) ∧ ((rcs M).take (K - ns)).length = K - ns ∧ ∀ r ∈ (rcs M).take (K - ns), r.spans.length ≤ 4611686018427387903) := ⟨HA.out.1, HA.out.2.2.1, t3, hml, hMs⟩
        have HG : Hid (w.cell? ⟨kb, 0, none⟩ = some (.slice sa ns sca) ∧ w.cell? ⟨kb, 1, none⟩ = some (.slice ma nm mca)) := ⟨g0, g1⟩
        have i1 : (ns : Int) ≤ (K : Int) := by omega
        have i2 : (K : Int) - (ns : Int) ≤ (nm : Int) := by omega
        have i3 : ¬ (K : Int) < (ns : Int) := by omega
        have i3' : ¬ K < ns := by omega
        have i4 : ¬ (nm : Int) < (K : Int) - (ns : Int) := by omega
        have i5 : IntKind.i64.wrap ((K : Int) - (ns : Int)) = (K : Int) - (ns : Int) := by rw [IntKind.wrap_i64]; omega
        have i0 : IntKind.i64.wrap 0 = 0 := by rw [IntKind.wrap_i64]; omega
        have i6 : (ns : Int) ≤ (c : Int) := by omega
        have i7 : (K : Int) ≤ (c : Int) := by omega
        have i8 : (K : Int) - (ns : Int) ≤ (mca : Int) := by omega
        have i9 : (0 : Int) ≤ (K : Int) - (ns : Int) := by omega
        have HM1' : Hid (Calls Tryz.prog 24 #[.slice a ns c, .slice sa ns sca] w.drew fun e w' => e = .returned (.bool true) ∧ Below w.drew.heap.size w.drew w') := HM1
        clear t1 t2 t3 hK1 hK2 hK3 hSs hMs hr1 hml HA HM1
        go_upto_region 8 with fail
        clear g0 g1
        rcases hsh with ⟨rfl, h2, h3⟩ | ⟨g, rfl⟩
        · have HZ : Hid (K = 0 ∧ c = 0) := ⟨h2, h3⟩
          rcases hmg with rfl | ⟨gm, rfl⟩
          · obtain ⟨rfl, rfl⟩ := hmn rfl
            have hns : ns = 0 := by omega
            subst h2
            subst h3
            subst hns
            go_region_held3 (fun U => U.cell? ⟨kb, 0, none⟩ = some (.slice sa 0 sca))
              (first | exact HG.out.1 | exact HG3.out.1)
              (first
                | (go_at_call 24
                   refine HM1'.out.mono ?_
                   rintro e w3 ⟨rfl, hb3⟩
                   have HG3 : Hid (w3.cell? ⟨kb, 0, none⟩ = some (.slice sa 0 sca) ∧ w3.cell? ⟨kb, 1, none⟩ = some (.slice none 0 0)) := ⟨bel_cell (w := w.drew) hb3 HG.out.1, bel_cell (w := w.drew) hb3 HG.out.2⟩
                   have HB3 : Hid (Below w.heap.size w w3) := (bel_drew HBV.out).trans (hb3.mono HBV.out.size)
                   clear hb3))
            all_goals (
              have HM2 := same7_eq ((rcs M).take (0 - 0)) none none 0 0 0 w3.drew (by rw [HR2.out.2.2.2.1] <;> omega) (by omega) (by rw [← HR2.out.2.2.1]; exact (show RLin _ _ _ from .inl (by rw [HR2.out.2.2.1]; exact List.eq_nil_of_length_eq_zero (by rw [HR2.out.2.2.2.1] <;> omega)))) ((HR2.out.2.1.below (bel_drew HB3.out)).take _) HR2.out.2.2.2.2
              have HM2' : Hid (Calls Tryz.prog 24 #[.slice none 0 0, .slice none 0 0] w3.drew fun e w' => e = .returned (.bool true) ∧ Below w3.drew.heap.size w3.drew w') := HM2
              clear HM2
              go_upto_region 9 with fail
              go_region_held3 (fun U => U.cell? ⟨kb, 1, none⟩ = some (.slice none 0 0))
                (first | exact HG3.out.2 | exact HG4.out)
                (first
                  | (go_at_call 24
                     refine HM2'.out.mono ?_
                     rintro e w4 ⟨rfl, hb4⟩
                     have HG4 : Hid (w4.cell? ⟨kb, 1, none⟩ = some (.slice none 0 0)) := bel_cell (w := w3.drew) hb4 HG3.out.2
                     have HB4 : Hid (Below w.heap.size w w4) := (bel_drew HB3.out).trans (hb4.mono HB3.out.size)
                     clear hb4))
              all_goals (
                go_wp2
                go_ret
                exact ⟨rfl, HB4.out⟩))
          · clear h2 h3
            go_region_held3 (fun U => U.cell? ⟨kb, 0, none⟩ = some (.slice sa ns sca))
              (first | exact HG.out.1 | exact HG3.out.1)
              (first
                | (go_at_call 24
                   refine HM1'.out.mono ?_
                   rintro e w3 ⟨rfl, hb3⟩
                   have HG3 : Hid (w3.cell? ⟨kb, 0, none⟩ = some (.slice sa ns sca) ∧ w3.cell? ⟨kb, 1, none⟩ = some (.slice (some ⟨gm, 0, none⟩) nm mca)) := ⟨bel_cell (w := w.drew) hb3 HG.out.1, bel_cell (w := w.drew) hb3 HG.out.2⟩
                   have HB3 : Hid (Below w.heap.size w w3) := (bel_drew HBV.out).trans (hb3.mono HBV.out.size)
                   clear hb3))
            all_goals (
              have HM2 := same7_eq ((rcs M).take (K - ns)) none (some ⟨gm, 0, none⟩) (K - ns) (c - ns) mca w3.drew (by rw [HR2.out.2.2.2.1]) (by omega) (by rw [← HR2.out.2.2.1]; exact (show RLin _ _ _ from .inl (by rw [HR2.out.2.2.1]; exact List.eq_nil_of_length_eq_zero (by rw [HR2.out.2.2.2.1]; have := HZ.out.1; omega)))) ((HR2.out.2.1.below (bel_drew HB3.out)).take _) HR2.out.2.2.2.2
              have HM2' : Hid (Calls Tryz.prog 24 #[.slice none (K - ns) (c - ns), .slice (some ⟨gm, 0, none⟩) (K - ns) mca] w3.drew fun e w' => e = .returned (.bool true) ∧ Below w3.drew.heap.size w3.drew w') := HM2
              clear HM2
              go_upto_region 9 with fail
              go_region_held3 (fun U => U.cell? ⟨kb, 1, none⟩ = some (.slice (some ⟨gm, 0, none⟩) nm mca))
                (first | exact HG3.out.2 | exact HG4.out)
                (first
                  | (go_at_call 24
                     refine HM2'.out.mono ?_
                     rintro e w4 ⟨rfl, hb4⟩
                     have HG4 : Hid (w4.cell? ⟨kb, 1, none⟩ = some (.slice (some ⟨gm, 0, none⟩) nm mca)) := bel_cell (w := w3.drew) hb4 HG3.out.2
                     have HB4 : Hid (Below w.heap.size w w4) := (bel_drew HB3.out).trans (hb4.mono HB3.out.size)
                     clear hb4))
              all_goals (
                go_wp2
                go_ret
                exact ⟨rfl, HB4.out⟩))
        · by_cases hce : c = ns
          · rcases hmg with rfl | ⟨gm, rfl⟩
            · obtain ⟨rfl, rfl⟩ := hmn rfl
              have hKn : K = ns := by omega
              subst hce
              subst hKn
              go_region_held3 (fun U => U.cell? ⟨kb, 0, none⟩ = some (.slice sa K sca))
                (first | exact HG.out.1 | exact HG3.out.1)
                (first
                  | (go_at_call 24
                     refine HM1'.out.mono ?_
                     rintro e w3 ⟨rfl, hb3⟩
                     have HG3 : Hid (w3.cell? ⟨kb, 0, none⟩ = some (.slice sa K sca) ∧ w3.cell? ⟨kb, 1, none⟩ = some (.slice none 0 0)) := ⟨bel_cell (w := w.drew) hb3 HG.out.1, bel_cell (w := w.drew) hb3 HG.out.2⟩
                     have HB3 : Hid (Below w.heap.size w w3) := (bel_drew HBV.out).trans (hb3.mono HBV.out.size)
                     clear hb3))
              all_goals (
                have HM2 := same7_eq ((rcs M).take (K - K)) (some ⟨g, 0, none⟩) none 0 0 0 w3.drew (by rw [HR2.out.2.2.2.1] <;> omega) (by omega) (by rw [← HR2.out.2.2.1]; exact (show RLin _ _ _ from .inl (by rw [HR2.out.2.2.1]; exact List.eq_nil_of_length_eq_zero (by rw [HR2.out.2.2.2.1] <;> omega)))) ((HR2.out.2.1.below (bel_drew HB3.out)).take _) HR2.out.2.2.2.2
                have HM2' : Hid (Calls Tryz.prog 24 #[.slice (some ⟨g, 0, none⟩) 0 0, .slice none 0 0] w3.drew fun e w' => e = .returned (.bool true) ∧ Below w3.drew.heap.size w3.drew w') := HM2
                clear HM2
                go_upto_region 9 with fail
                go_region_held3 (fun U => U.cell? ⟨kb, 1, none⟩ = some (.slice none 0 0))
                  (first | exact HG3.out.2 | exact HG4.out)
                  (first
                    | (go_at_call 24
                       refine HM2'.out.mono ?_
                       rintro e w4 ⟨rfl, hb4⟩
                       have HG4 : Hid (w4.cell? ⟨kb, 1, none⟩ = some (.slice none 0 0)) := bel_cell (w := w3.drew) hb4 HG3.out.2
                       have HB4 : Hid (Below w.heap.size w w4) := (bel_drew HB3.out).trans (hb4.mono HB3.out.size)
                       clear hb4))
                all_goals (
                  go_wp2
                  go_ret
                  exact ⟨rfl, HB4.out⟩))
            · have HZ : Hid (K ≤ c) := hnc
              subst hce
              go_region_held3 (fun U => U.cell? ⟨kb, 0, none⟩ = some (.slice sa c sca))
                (first | exact HG.out.1 | exact HG3.out.1)
                (first
                  | (go_at_call 24
                     refine HM1'.out.mono ?_
                     rintro e w3 ⟨rfl, hb3⟩
                     have HG3 : Hid (w3.cell? ⟨kb, 0, none⟩ = some (.slice sa c sca) ∧ w3.cell? ⟨kb, 1, none⟩ = some (.slice (some ⟨gm, 0, none⟩) nm mca)) := ⟨bel_cell (w := w.drew) hb3 HG.out.1, bel_cell (w := w.drew) hb3 HG.out.2⟩
                     have HB3 : Hid (Below w.heap.size w w3) := (bel_drew HBV.out).trans (hb3.mono HBV.out.size)
                     clear hb3))
              all_goals (
                have HM2 := same7_eq ((rcs M).take (K - c)) (some ⟨g, 0, none⟩) (some ⟨gm, 0, none⟩) 0 0 mca w3.drew (by rw [HR2.out.2.2.2.1] <;> omega) (by omega) (by rw [← HR2.out.2.2.1]; exact (show RLin _ _ _ from .inl (by rw [HR2.out.2.2.1]; exact List.eq_nil_of_length_eq_zero (by rw [HR2.out.2.2.2.1]; have := HZ.out; omega)))) ((HR2.out.2.1.below (bel_drew HB3.out)).take _) HR2.out.2.2.2.2
                have HM2' : Hid (Calls Tryz.prog 24 #[.slice (some ⟨g, 0, none⟩) 0 0, .slice (some ⟨gm, 0, none⟩) 0 mca] w3.drew fun e w' => e = .returned (.bool true) ∧ Below w3.drew.heap.size w3.drew w') := HM2
                clear HM2
                go_upto_region 9 with fail
                go_region_held3 (fun U => U.cell? ⟨kb, 1, none⟩ = some (.slice (some ⟨gm, 0, none⟩) nm mca))
                  (first | exact HG3.out.2 | exact HG4.out)
                  (first
                    | (go_at_call 24
                       refine HM2'.out.mono ?_
                       rintro e w4 ⟨rfl, hb4⟩
                       have HG4 : Hid (w4.cell? ⟨kb, 1, none⟩ = some (.slice (some ⟨gm, 0, none⟩) nm mca)) := bel_cell (w := w3.drew) hb4 HG3.out.2
                       have HB4 : Hid (Below w.heap.size w w4) := (bel_drew HB3.out).trans (hb4.mono HB3.out.size)
                       clear hb4))
                all_goals (
                  go_wp2
                  go_ret
                  exact ⟨rfl, HB4.out⟩))
          · rcases hmg with rfl | ⟨gm, rfl⟩
            · obtain ⟨rfl, rfl⟩ := hmn rfl
              have hKn : K = ns := by omega
              subst hKn
              go_region_held3 (fun U => U.cell? ⟨kb, 0, none⟩ = some (.slice sa K sca))
                (first | exact HG.out.1 | exact HG3.out.1)
                (first
                  | (go_at_call 24
                     refine HM1'.out.mono ?_
                     rintro e w3 ⟨rfl, hb3⟩
                     have HG3 : Hid (w3.cell? ⟨kb, 0, none⟩ = some (.slice sa K sca) ∧ w3.cell? ⟨kb, 1, none⟩ = some (.slice none 0 0)) := ⟨bel_cell (w := w.drew) hb3 HG.out.1, bel_cell (w := w.drew) hb3 HG.out.2⟩
                     have HB3 : Hid (Below w.heap.size w w3) := (bel_drew HBV.out).trans (hb3.mono HBV.out.size)
                     clear hb3))
              all_goals (
                have HM2 := same7_eq ((rcs M).take (K - K)) (some ⟨g, K * 11, none⟩) none 0 (c - K) 0 w3.drew (by rw [HR2.out.2.2.2.1] <;> omega) (by omega) (by rw [← HR2.out.2.2.1]; exact (by have := RLin.drop (HR2.out.1.below (bel_drew HB3.out)) K; rw [Nat.zero_add] at this; exact this)) ((HR2.out.2.1.below (bel_drew HB3.out)).take _) HR2.out.2.2.2.2
                have HM2' : Hid (Calls Tryz.prog 24 #[.slice (some ⟨g, K * 11, none⟩) 0 (c - K), .slice none 0 0] w3.drew fun e w' => e = .returned (.bool true) ∧ Below w3.drew.heap.size w3.drew w') := HM2
                clear HM2
                go_upto_region 9 with fail
                go_region_held3 (fun U => U.cell? ⟨kb, 1, none⟩ = some (.slice none 0 0))
                  (first | exact HG3.out.2 | exact HG4.out)
                  (first
                    | (go_at_call 24
                       refine HM2'.out.mono ?_
                       rintro e w4 ⟨rfl, hb4⟩
                       have HG4 : Hid (w4.cell? ⟨kb, 1, none⟩ = some (.slice none 0 0)) := bel_cell (w := w3.drew) hb4 HG3.out.2
                       have HB4 : Hid (Below w.heap.size w w4) := (bel_drew HB3.out).trans (hb4.mono HB3.out.size)
                       clear hb4))
                all_goals (
                  go_wp2
                  go_ret
                  exact ⟨rfl, HB4.out⟩))
            · skip
              go_region_held3 (fun U => U.cell? ⟨kb, 0, none⟩ = some (.slice sa ns sca))
                (first | exact HG.out.1 | exact HG3.out.1)
                (first
                  | (go_at_call 24
                     refine HM1'.out.mono ?_
                     rintro e w3 ⟨rfl, hb3⟩
                     have HG3 : Hid (w3.cell? ⟨kb, 0, none⟩ = some (.slice sa ns sca) ∧ w3.cell? ⟨kb, 1, none⟩ = some (.slice (some ⟨gm, 0, none⟩) nm mca)) := ⟨bel_cell (w := w.drew) hb3 HG.out.1, bel_cell (w := w.drew) hb3 HG.out.2⟩
                     have HB3 : Hid (Below w.heap.size w w3) := (bel_drew HBV.out).trans (hb3.mono HBV.out.size)
                     clear hb3))
              all_goals (
                have HM2 := same7_eq ((rcs M).take (K - ns)) (some ⟨g, ns * 11, none⟩) (some ⟨gm, 0, none⟩) (K - ns) (c - ns) mca w3.drew (by rw [HR2.out.2.2.2.1]) (by omega) (by rw [← HR2.out.2.2.1]; exact (by have := RLin.drop (HR2.out.1.below (bel_drew HB3.out)) ns; rw [Nat.zero_add] at this; exact this)) ((HR2.out.2.1.below (bel_drew HB3.out)).take _) HR2.out.2.2.2.2
                have HM2' : Hid (Calls Tryz.prog 24 #[.slice (some ⟨g, ns * 11, none⟩) (K - ns) (c - ns), .slice (some ⟨gm, 0, none⟩) (K - ns) mca] w3.drew fun e w' => e = .returned (.bool true) ∧ Below w3.drew.heap.size w3.drew w') := HM2
                clear HM2
                go_upto_region 9 with fail
                go_region_held3 (fun U => U.cell? ⟨kb, 1, none⟩ = some (.slice (some ⟨gm, 0, none⟩) nm mca))
                  (first | exact HG3.out.2 | exact HG4.out)
                  (first
                    | (go_at_call 24
                       refine HM2'.out.mono ?_
                       rintro e w4 ⟨rfl, hb4⟩
                       have HG4 : Hid (w4.cell? ⟨kb, 1, none⟩ = some (.slice (some ⟨gm, 0, none⟩) nm mca)) := bel_cell (w := w3.drew) hb4 HG3.out.2
                       have HB4 : Hid (Below w.heap.size w w4) := (bel_drew HB3.out).trans (hb4.mono HB3.out.size)
                       clear hb4))
                all_goals (
                  go_wp2
                  go_ret
                  exact ⟨rfl, HB4.out⟩))
end Go.Proofs.YtllhbhogfffedaaGreatDoor.K
