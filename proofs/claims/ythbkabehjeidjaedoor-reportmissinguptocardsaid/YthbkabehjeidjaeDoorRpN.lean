import Derived.Test.YthbkabehjeidjaeDoorRpM
namespace Go.Proofs.YthbkabehjeidjaeDoor.C
open Go.RowKit Go.Shelf
set_option linter.unusedVariables false

/-! ## The reference's Missing -/
theorem miss_step {L : List Pz} {j : Nat} {x : Pz} (hx : L[j]? = some x) : pick false (L.take (j + 1)) = pick false (L.take j) ++ (if x.2 = false then [x.1] else []) := by
  rw [List.take_add_one, hx, pick_append]
  cases e : x.2 <;> simp [pick, e]
theorem pick_le (L : List Pz) (j : Nat) : (pick false (L.take j)).length ≤ j := Nat.le_trans (pick_len false _) (by rw [List.length_take]; exact Nat.min_le_left _ _)
theorem SOwn.app2 {w : World} {base : Nat} {v : Value} {l : List Sp} {p : Sp} (h : w.ownsRow base 36 2 v (l.length + 1) (l.flatMap spc ++ [.int .i64 p.1, .int .i64 p.2])) : SOwn w base v (l ++ [p]) := by
  unfold SOwn
  rw [List.length_append, List.flatMap_append]
  exact h
theorem below_app {w2 wr w9 : World} {v : Value} {l : List Sp} {o : Obj} (hb : Below w2.heap.size w2 wr) (hs : SOwn wr w2.heap.size v l) (hg : (wr.alloc o).grownBy w9 v.ownBlock) : Below w2.heap.size w2 w9 :=
  (hb.alloc hb.size o).grown hg (by have := hb.size; simp; omega) (fun k hk => (hs.lt k hk).1)
/-- Where two thousand are reached nothing more is taken. -/
theorem pick_more {L : List Pz} {j : Nat} (h : (pick false (L.take j)).length = 2000) : (pick false L).take 2000 = pick false (L.take j) := by
  have e : pick false L = pick false (L.take j) ++ pick false (L.drop j) := by rw [← pick_append, List.take_append_drop]
  rw [e, List.take_append_of_le_length (by omega), List.take_of_length_le (by omega)]

set_option maxRecDepth 100000 in
set_option maxHeartbeats 4000000 in
theorem refmissing_in {a : Option Addr} {c : Nat} {l : List Sp} {w : World} (f t : Int) (h : Ls w (.slice a l.length c) l) (hq : IsSet l) (hf : inB f t) (hft : f < t) :
    Calls Tryd.prog 31 #[.slice a l.length c, .int .i64 f, .int .i64 t] w (MsPost l f t w) := by
  have hR := refright_ls h
  rw [setB_iff.mpr hq] at hR
  have HMr : Hid (MR l f t ((pick false (pc t f l)).take 2000) 0) := .inr (.inr ⟨hq, hf, rfl, rfl⟩)
  have HL : Hid (Ls w (.slice a l.length c) l) := h
  have hP := fun (W : World) (hb : Below w.heap.size w W) => refpieces_in a c l W f t (h.below hb) hq ⟨hf.1.1, Int.le_of_lt hft, by have := hf.2.2; simp only; omega⟩
  have HP : Hid (∀ (W : World), Below w.heap.size w W → Calls Tryd.prog 83 #[.slice a l.length c, .agg #[.int .i64 f, .int .i64 t]] W (PcPost W (pc t f l))) := hP
  obtain ⟨⟨b1, b2⟩, ⟨b3, b4⟩⟩ := hf
  have d1 : ¬ f < 0 := by omega
  have d2 : ¬ 65536 < f := by omega
  have d3 : ¬ t < 0 := by omega
  have d4 : ¬ 65536 < t := by omega
  have d5 : ¬ t ≤ f := by omega
  have hpl : (pc t f l).length ≤ 4001 := by
    have : (pc t f l).length ≤ 2 * l.length + 1 := len_pc
    have := hq.1
    omega
  obtain ⟨i0, hi0, hz0, hz1, hz2⟩ := info_parts Tryd.info_span
  clear h hq hP b1 b2 b3 b4
  obtain ⟨L, hLe⟩ : ∃ L, pc t f l = L := ⟨_, rfl⟩
  rw [hLe] at HMr HP hpl
  clear hLe
  go_enter Tryd.func31, Tryd.ntmps31
  go_wp2_with fail
  refine hR.mono ?_
  rintro e w1 ⟨rfl, hb1⟩
  have hPc := HP.out w1 hb1
  have HB1 : Hid (Below w.heap.size w w1) := hb1
  clear hR hb1 HP
  go_wp2_with fail
  refine hPc.mono ?_
  rintro e w2 ⟨vp, rfl, hpo, hb2⟩
  obtain ⟨ap, cp, rfl⟩ := hpo.shape
  obtain ⟨m, hm⟩ : ∃ m, L.length = m := ⟨_, rfl⟩
  have HM : Hid (L.length = m) := hm
  rw [hm] at hpo hpl
  have HPo : Hid (POwn w2 w1.heap.size (.slice ap m cp) L) := by have := hpo; exact this
  have HB2 : Hid (Below w.heap.size w w2) := HB1.out.trans (hb2.mono HB1.out.size)
  rw [hm]
  clear hPc hpo hb2 HB1 hm
  go_wp2
  go_loopw [10, 11] (fun u v wr => ∃ j : Nat, v = .int .i64 j ∧ j ≤ m ∧ SOwn wr w2.heap.size u (pick false (L.take j)) ∧ (pick false (L.take j)).length ≤ 2000 ∧ Below w2.heap.size w2 wr) (fun _ v _ => m - (intOf v).toNat)
  case atStart => exact ⟨0, rfl, by omega, SOwn.nil _ _, by simp [pick], Below.refl _ _⟩
  case round =>
    obtain ⟨j, rfl, hj, hso, hle, hbr⟩ := hrel
    obtain ⟨au, cu, hu⟩ := hso.shape
    obtain ⟨nu, hnu⟩ : ∃ n, (pick false (L.take j)).length = n := ⟨_, rfl⟩
    rw [hnu] at hu hle
    subst hu
    have HNu : Hid ((pick false (L.take j)).length = nu) := hnu
    have HSo : Hid (SOwn wr w2.heap.size (.slice au nu cu) (pick false (L.take j))) := hso
    have HBr : Hid (Below w2.heap.size w2 wr) := hbr
    have HBw : Hid (Below w.heap.size w wr) := HB2.out.trans (hbr.mono HB2.out.size)
    have hbs : w2.heap.size ≤ wr.heap.size := hbr.size
    clear hso hbr hnu
    by_cases hjm : j = m
    · subst hjm
      have hz : ¬ (j : Int) < (j : Int) := by omega
      have HEnd : Hid ((pick false L).take 2000 = pick false (L.take j)) := by
        have e9 : L.take j = L := by rw [← HM.out, List.take_length]
        show _ = _
        rw [e9] at HNu ⊢
        exact List.take_of_length_le (by have := HNu.out; omega)
      go_wp2
      refine bodyPost_ret (v := .tuple #[.slice au nu cu, .int .i64 0]) (by simp [results, Tryd.results31, go_sem]) rfl ?_
      exact ⟨_, _, _, rfl, SOwn.base HSo.out HB2.out.size, by rw [← HEnd.out]; exact HMr.out, HBw.out⟩
    · have hz : (j : Int) < (m : Int) := by omega
      have hwj : IntKind.i64.wrap ((j : Int) + 1) = (j : Int) + 1 := by rw [IntKind.wrap_i64]; omega
      by_cases hfull : nu = 2000
      · have hy2 : ¬ (nu : Int) < 2000 := by omega
        have HEnd : Hid ((pick false L).take 2000 = pick false (L.take j)) := pick_more (HNu.out.trans hfull)
        clear hfull
        go_wp2
        refine bodyPost_ret (v := .tuple #[.slice au nu cu, .int .i64 0]) (by simp [results, Tryd.results31, go_sem]) rfl ?_
        exact ⟨_, _, _, rfl, SOwn.base HSo.out HB2.out.size, by rw [← HEnd.out]; exact HMr.out, HBw.out⟩
      · have hy2 : (nu : Int) < 2000 := by omega
        obtain ⟨⟨⟨x1, x2⟩, xb⟩, hx⟩ : ∃ x, L[j]? = some x := ⟨_, List.getElem?_eq_getElem (by rw [HM.out]; omega)⟩
        have hst := miss_step hx
        obtain ⟨gp, hap, q0, q1, q2⟩ := (HPo.out.below HBr.out).cells hx
        subst hap
        simp only at q0 q1 q2 hst
        cases xb with
        | true =>
          have HSt : Hid (pick false (L.take (j + 1)) = pick false (L.take j)) := by show _ = _; rw [hst]; simp
          clear hst hx hfull
          go_wp2
          refine ⟨⟨j + 1, by simp, by omega, ?_, ?_, HBr.out⟩, by simp [intOf]; omega⟩
          · rw [HSt.out]; exact HSo.out
          · rw [HSt.out, HNu.out]; exact hle
        | false =>
          have HSt : Hid (pick false (L.take (j + 1)) = pick false (L.take j) ++ [(x1, x2)]) := by show _ = _; rw [hst]; simp
          clear hst hx hfull
          go_wp2_with (first
            | (at_builtin; refine wpList_append_own _ rfl _ _ 26 rfl w2.heap.size 36 i0 (.agg #[.int .i64 0, .int .i64 0]) 2 16 Tryd.underlying26 hi0 hz0 hz1 hz2 rfl (by decide) (.slice au nu cu) (pick false (L.take j)).length ((pick false (L.take j)).flatMap spc) rfl (World.ownsRow.alloc HSo.out _) ⟨wr.heap.size, 0, none⟩ 1 1 [.int .i64 x1, .int .i64 x2] rfl rfl (cell_two_new _ _ _ _) (by simp [Value.oneCell']) (by unfold maxLen; have := HNu.out; omega) (by have := HNu.out; omega) (by simp; omega) ?_
               intro v9 w9 hown9 hgrow9 hnil9; clear hnil9
               have HO9 : Hid (SOwn w9 w2.heap.size v9 (pick false (L.take j) ++ [(x1, x2)])) := SOwn.app2 (p := (x1, x2)) hown9
               have HB9 : Hid (Below w2.heap.size w2 w9) := below_app HBr.out HSo.out hgrow9
               clear hown9 hgrow9)
            | go_in)
          refine ⟨⟨j + 1, by simp, by omega, ?_, ?_, HB9.out⟩, by simp [intOf]; omega⟩
          · rw [HSt.out]; exact HO9.out
          · rw [HSt.out, List.length_append, HNu.out]; simp; omega


set_option maxRecDepth 100000 in
set_option maxHeartbeats 4000000 in
theorem refmissing_any {v : Value} {l : List Sp} {w : World} (f t : Int) (h : Ls w v l) : Calls Tryd.prog 31 #[v, .int .i64 f, .int .i64 t] w (MsPost l f t w) := by
  obtain ⟨a, c, rfl, _⟩ := h.shape
  have hR := refright_ls h
  by_cases hq : IsSet l
  · rw [setB_iff.mpr hq] at hR
    by_cases hf : inB f t
    · by_cases hft : f < t
      · exact refmissing_in f t h hq hf hft
      · have HMr : Hid (MR l f t [] 0) := .inr (.inr ⟨hq, hf, rfl, by rw [pc_none (by omega)]; rfl⟩)
        obtain ⟨⟨b1, b2⟩, ⟨b3, b4⟩⟩ := hf
        have d1 : ¬ f < 0 := by omega
        have d2 : ¬ 65536 < f := by omega
        have d3 : ¬ t < 0 := by omega
        have d4 : ¬ 65536 < t := by omega
        have d5 : t ≤ f := by omega
        clear h hq b1 b2 b3 b4 hft
        go_enter Tryd.func31, Tryd.ntmps31
        go_wp2_with fail
        refine hR.mono ?_
        rintro e w1 ⟨rfl, hb1⟩
        have HB1 : Hid (Below w.heap.size w w1) := hb1
        clear hR hb1
        go_wp2
        refine bodyPost_ret (v := .tuple #[.slice none 0 0, .int .i64 0]) (by simp [results, Tryd.results31, go_sem]) rfl ?_
        exact ⟨_, _, _, rfl, SOwn.nil _ _, HMr.out, HB1.out⟩
    · have HMr : Hid (MR l f t [] 50) := .inr (.inl ⟨hq, hf, rfl, rfl⟩)
      have hcs : f < 0 ∨ (¬ f < 0 ∧ 65536 < f) ∨ (¬ f < 0 ∧ ¬ 65536 < f ∧ t < 0) ∨ (¬ f < 0 ∧ ¬ 65536 < f ∧ ¬ t < 0 ∧ 65536 < t) := by
        unfold inB at hf
        omega
      clear h hq hf
      rcases hcs with d1 | ⟨d1, d2⟩ | ⟨d1, d2, d3⟩ | ⟨d1, d2, d3, d4⟩ <;>
      · go_enter Tryd.func31, Tryd.ntmps31
        go_wp2_with fail
        refine hR.mono ?_
        rintro e w1 ⟨rfl, hb1⟩
        have HB1 : Hid (Below w.heap.size w w1) := hb1
        clear hb1
        go_wp2
        refine bodyPost_ret (v := .tuple #[.slice none 0 0, .int .i64 50]) (by simp [results, Tryd.results31, go_sem]) rfl ?_
        exact ⟨_, _, _, rfl, SOwn.nil _ _, HMr.out, HB1.out⟩
  · have hs : setB l = false := by
      cases e : setB l
      · rfl
      · exact absurd (setB_iff.mp e) hq
    rw [hs] at hR
    have HMr : Hid (MR l f t [] 30) := .inl ⟨hq, rfl, rfl⟩
    clear hq h hs
    go_enter Tryd.func31, Tryd.ntmps31
    go_wp2_with fail
    refine hR.mono ?_
    rintro e w1 ⟨rfl, hb1⟩
    have HB1 : Hid (Below w.heap.size w w1) := hb1
    clear hR hb1
    go_wp2
    refine bodyPost_ret (v := .tuple #[.slice none 0 0, .int .i64 30]) (by simp [results, Tryd.results31, go_sem]) rfl ?_
    exact ⟨_, _, _, rfl, SOwn.nil _ _, HMr.out, HB1.out⟩

end Go.Proofs.YthbkabehjeidjaeDoor.C
