import Derived.Test.YtillgoegiplmkaaGreatDoorTbFd
namespace Go.Proofs.YtillgoegiplmkaaGreatDoor.B
open C
open Go.RowKit Go.Maps
set_option linter.unusedVariables false
set_option linter.unusedSimpArgs false

theorem few_st {T : T8} (h : T.Few 1048576) : T.ex.length ≤ 1099511627776 ∧ T.im.length ≤ 1099511627776 ∧ T.tb.length ≤ 1099511627776 := ⟨by have := h.ex; omega, by have := h.im; omega, by have := h.tb; omega⟩
/-- Same of two states of one table. -/
theorem same_st {w : World} {T : T8} (hok : T.Ok) (hf : T.Few 1048576) {lo lo2 : Nat} {vo vi vt vp vj vu : Value} {P P2 : List (Og × Value)} {Q Q2 : List (Ic × Value × Value)} {R R2 : List (Tm × Value)} (h : StR lo vo vi vt P Q R w) (h2 : StR lo2 vp vj vu P2 Q2 R2 w) (e1 : P.map Prod.fst = T.ex) (e2 : Q.map Prod.fst = T.im) (e3 : R.map Prod.fst = T.tb) (f1 : P2.map Prod.fst = T.ex) (f2 : Q2.map Prod.fst = T.im) (f3 : R2.map Prod.fst = T.tb) :
    Calls Tryz.prog 27 #[.agg #[.int .i64 T.id, .int .i64 T.boots, .int .i64 T.next, vo, vi, vt], .agg #[.int .i64 T.id, .int .i64 T.boots, .int .i64 T.next, vp, vj, vu]] w fun e w' => e = .returned (.bool true) ∧ Below w.heap.size w w' := by
  have l1 := congrArg List.length e1
  have l2 := congrArg List.length e2
  have l3 := congrArg List.length e3
  rw [List.length_map] at l1 l2 l3
  have g1 := hf.ex
  have g2 := hf.im
  have g3 := hf.tb
  refine same8_any w lo lo2 _ _ _ _ _ _ _ _ _ P P2 Q Q2 R R2 h h2 (e1.trans f1.symm) (e2.trans f2.symm) (e3.trans f3.symm) (fun p hp => ?_) (fun q hq => ?_) (fun r hr => ?_) (by omega) (by omega) (by omega)
  · exact (hok.ex p.1 (by rw [← e1]; exact List.mem_map.mpr ⟨p, hp, rfl⟩)).sw hok.id
  · have a := hok.im q.1 (by rw [← e2]; exact List.mem_map.mpr ⟨q, hq, rfl⟩)
    exact ⟨a.sw, by have := a.few; omega⟩
  · have a := (hok.tb r.1 (by rw [← e3]; exact List.mem_map.mpr ⟨r, hr, rfl⟩)).2.2.2.2.1
    omega
/-- SameRecords of two rows that are one snapshot. -/
theorem same_sn {w : World} {T : T8} (hok : T.Ok) (hf : T.Few 1048576) {lo lo2 : Nat} {va vb : Value} {X Y : List Rv} (hX : RrR w lo va X) (hY : RrR w lo2 vb Y) (eX : Els lo X w) (eY : Els lo2 Y w) (e1 : X.map Prod.fst = T.snap) (e2 : Y.map Prod.fst = T.snap) :
    Calls Tryz.prog 28 #[va, vb] w fun e w' => e = .returned (.bool true) ∧ Below w.heap.size w w' := by
  have hl := congrArg List.length e1
  rw [List.length_map] at hl
  have hs := snap_len T
  have hh := havs_le (l := T.im) (fun i hi => (hok.im i hi).few)
  have g1 := hf.ex
  have g2 := hf.im
  have g3 := hf.tb
  have nc : ∀ x ∈ X, Nc x.1 := fun x hx => snap_nc hok x.1 (by rw [← e1]; exact List.mem_map.mpr ⟨x, hx, rfl⟩)
  exact sameRecords8_eq w lo lo2 va vb X Y hX hY eX eY (e1.trans e2.symm) (fun x hx => (nc x hx).sw) (fun x hx => (nc x hx).sp) X.length rfl (by omega)
theorem havs_take {l : List Ic} {k : Nat} {i : Ic} (h : l[k]? = some i) : havs (l.take (k + 1)) = havs (l.take k) + i.hv.length := by
  rw [take_one h]
  unfold havs
  rw [List.map_append, List.sum_append]
  simp
set_option maxRecDepth 8000 in
set_option maxHeartbeats 16000000 in
/-- THE LAW'S WALK: TableEnough. -/
theorem enough_walk {w : World} (hT : Tab6 w) (a : Option Addr) (n c : Nat) (l : List Rc) (hl : RLx w a l) (hn : l.length = n) (hby : ∀ r ∈ l, Bytey r.data) (hbig : n ≤ 1048576) : Calls Tryz.prog 5 #[.slice a n c] w fun e w' => e = .returned (.bool true) ∧ Below w.heap.size w w' := by
  have hkl := kinds_lt hT
  have HH : Hid (Tab6 w ∧ 0 < w.heap.size) := ⟨hT, hkl⟩
  have HAw := awake8_any hT
  have HLd : Hid (∀ U, Below w.heap.size w U → Calls Tryz.prog 25 #[.slice a n c] U (LddP n U)) := fun U hU => loaded_any (hT.below hU hkl) a n c l (hl.below hU) hn hby (by omega)
  have HAw : Hid (Calls Tryz.prog 8 #[] w fun e w' => e = .returned (.bool true) ∧ Below w.heap.size w w') := HAw
  clear hT hl hn hby hkl
  go_enter Tryz.func5, Tryz.ntmps5
  go_upto_region 2 with (go_at_call 8; refine HAw.out.mono ?_; rintro e w1 ⟨rfl, hb1⟩; have HB1 : Hid (Below w.heap.size w w1) := hb1; clear hb1)
  go_upto_region 3 with (go_at_call 25; refine (HLd.out w1 HB1.out).mono ?_; rintro e w2 ⟨z, T, rfl, tn, fw⟩; have H2 : Hid (Tn w1 z T w2 ∧ T.Few 1048576 ∧ Below w.heap.size w w2) := ⟨tn, fw.mono hbig, HB1.out.trans (tn.low.mono HB1.out.size)⟩; clear tn fw)
  clear HAw HLd HB1
  have HSn : Hid (Calls Tryz.prog 17 #[tP z] w2 (SnP T w2)) := snapshot_any H2.out.1.tw H2.out.1.ok H2.out.2.1
  obtain ⟨X, hX⟩ : ∃ X, z.x = X := ⟨_, rfl⟩
  rw [show tP z = .pointer (some ⟨X, 0, none⟩) from by rw [← hX]] at HSn
  have HX : Hid (z.x = X) := hX
  have hzX : tP z = .pointer (some ⟨X, 0, none⟩) := by rw [← hX]
  first | rw [hzX] | rw [hX]
  clear hX hzX
  go_upto_region 6 with (go_at_call 17; refine HSn.out.mono ?_; rintro e w3 ⟨sa, sn, sc, L, rfl, eL, rj⟩; have H3 : Hid (L.map Prod.fst = T.snap ∧ RJ w2 L (.slice sa sn sc) w3) := ⟨eL, rj⟩; clear eL rj)
  clear HSn
  have HLo : Hid (Calls Tryz.prog 18 #[.slice sa sn sc] w3 fun e w' => ∃ z, e = .returned (.tuple #[tP z, .int .i64 0, .int .i64 0]) ∧ Tn w3 z T w') := by
    have hb := H2.out.2.2.trans (H3.out.2.low.mono H2.out.2.2.size)
    have hs := rr_len H3.out.2.row
    have hl := congrArg List.length H3.out.1
    rw [List.length_map] at hl
    have hq := snap_len T
    have hh := havs_le (l := T.im) (fun i hi => (H2.out.1.ok.im i hi).few)
    have g1 := H2.out.2.1.ex
    have g2 := H2.out.2.1.im
    have g3 := H2.out.2.1.tb
    exact load_ok (HH.out.1.below hb HH.out.2) sa sn sc T.snap (H3.out.2.rlx H2.out.1.ok H3.out.1) (by omega) (fun r hr => (snap_nc H2.out.1.ok r hr).by') (by omega) (snap_ld H2.out.1.ok)
  go_upto_region 7 with (go_at_call 18; refine HLo.out.mono ?_; rintro e w4 ⟨z2, rfl, tn⟩; have H4 : Hid (Tn w3 z2 T w4) := tn; clear tn)
  clear HLo
  obtain ⟨Y, hY⟩ : ∃ Y, z2.x = Y := ⟨_, rfl⟩
  have HY : Hid (z2.x = Y) := hY
  have hzY : tP z2 = .pointer (some ⟨Y, 0, none⟩) := by rw [← hY]
  first | rw [hzY] | rw [hY]
  clear hY hzY
  have HB4 : Hid (Below w2.heap.size w2 w4) := H3.out.2.low.trans (H4.out.low.mono H3.out.2.low.size)
  have HSt : Hid (Calls Tryz.prog 26 #[.pointer (some ⟨X, 0, none⟩)] w4 (StP T w4)) := by
    have h := state_any (H2.out.1.tw.below HB4.out) H2.out.1.ok (few_st H2.out.2.1).1 (few_st H2.out.2.1).2.1 (few_st H2.out.2.1).2.2
    rw [show tP z = .pointer (some ⟨X, 0, none⟩) from by rw [← HX.out]] at h
    exact h
  go_upto_region 10 with (go_at_call 26; refine HSt.out.mono ?_; rintro e w5 ⟨vo, vi, vt, P, Q, R, rfl, e1, e2, e3, st, b5⟩; obtain ⟨ao, no, co, rfl⟩ := own_sl8 st.ro; obtain ⟨ai, ni, ci, rfl⟩ := own_sl8 st.ri; obtain ⟨«at», nt, ct, rfl⟩ := own_sl8 st.rt; have H5 : Hid (P.map Prod.fst = T.ex ∧ Q.map Prod.fst = T.im ∧ R.map Prod.fst = T.tb ∧ StR w4.heap.size (.slice ao no co) (.slice ai ni ci) (.slice «at» nt ct) P Q R w5 ∧ Below w4.heap.size w4 w5) := ⟨e1, e2, e3, st, b5⟩; clear e1 e2 e3 st b5)
  clear HSt
  obtain ⟨x, hx⟩ : ∃ x, w5.heap.size = x := ⟨_, rfl⟩
  obtain ⟨V5, hV5⟩ : ∃ V5, w5.alloc (.cells #[.int .i64 T.id, .int .i64 T.boots, .int .i64 T.next, .slice ao no co, .slice ai ni ci, .slice «at» nt ct] 58) = V5 := ⟨_, rfl⟩
  rw [hV5, hx]
  have HV5 : Hid (V5.heap[x]? = some (.cells #[.int .i64 T.id, .int .i64 T.boots, .int .i64 T.next, .slice ao no co, .slice ai ni ci, .slice «at» nt ct] 58) ∧ Below w5.heap.size w5 V5) := ⟨by rw [← hV5, ← hx]; exact heap_alloc_new' w5 _, by rw [← hV5]; exact (Below.refl _ _).alloc (Nat.le_refl _) _⟩
  clear hV5 hx
  have HB5 : Hid (Below w4.heap.size w4 V5) := H5.out.2.2.2.2.trans (HV5.out.2.mono H5.out.2.2.2.2.size)
  have HSt : Hid (Calls Tryz.prog 26 #[.pointer (some ⟨Y, 0, none⟩)] V5 (StP T V5)) := by
    have h := state_any (H4.out.tw.below HB5.out) H2.out.1.ok (few_st H2.out.2.1).1 (few_st H2.out.2.1).2.1 (few_st H2.out.2.1).2.2
    rw [show tP z2 = .pointer (some ⟨Y, 0, none⟩) from by rw [← HY.out]] at h
    exact h
  go_upto_region 11 with (go_at_call 26; refine HSt.out.mono ?_; rintro e w6 ⟨vo, vi, vt, P2, Q2, R2, rfl, e1, e2, e3, st, b5⟩; obtain ⟨bo, mo, do9, rfl⟩ := own_sl8 st.ro; obtain ⟨bi, mi, di, rfl⟩ := own_sl8 st.ri; obtain ⟨bt, mt, dt, rfl⟩ := own_sl8 st.rt; have H6 : Hid (P2.map Prod.fst = T.ex ∧ Q2.map Prod.fst = T.im ∧ R2.map Prod.fst = T.tb ∧ StR V5.heap.size (.slice bo mo do9) (.slice bi mi di) (.slice bt mt dt) P2 Q2 R2 w6 ∧ Below V5.heap.size V5 w6) := ⟨e1, e2, e3, st, b5⟩; clear e1 e2 e3 st b5)
  clear HSt
  obtain ⟨y, hy⟩ : ∃ y, w6.heap.size = y := ⟨_, rfl⟩
  obtain ⟨V6, hV6⟩ : ∃ V6, w6.alloc (.cells #[.int .i64 T.id, .int .i64 T.boots, .int .i64 T.next, .slice bo mo do9, .slice bi mi di, .slice bt mt dt] 58) = V6 := ⟨_, rfl⟩
  rw [hV6, hy]
  have HV6 : Hid (V6.heap[y]? = some (.cells #[.int .i64 T.id, .int .i64 T.boots, .int .i64 T.next, .slice bo mo do9, .slice bi mi di, .slice bt mt dt] 58) ∧ Below w6.heap.size w6 V6) := ⟨by rw [← hV6, ← hy]; exact heap_alloc_new' w6 _, by rw [← hV6]; exact (Below.refl _ _).alloc (Nat.le_refl _) _⟩
  clear hV6 hy
  have HB6 : Hid (Below V5.heap.size V5 V6) := H6.out.2.2.2.2.trans (HV6.out.2.mono H6.out.2.2.2.2.size)
  have HSn : Hid (Calls Tryz.prog 17 #[.pointer (some ⟨Y, 0, none⟩)] V6 (SnP T V6)) := by
    have h := snapshot_any ((H4.out.tw.below HB5.out).below HB6.out) H2.out.1.ok H2.out.2.1
    rw [show tP z2 = .pointer (some ⟨Y, 0, none⟩) from by rw [← HY.out]] at h
    exact h
  go_upto_region 12 with (go_at_call 17; refine HSn.out.mono ?_; rintro e w7 ⟨ta, tn, tc, L2, rfl, eL, rj⟩; have H7 : Hid (L2.map Prod.fst = T.snap ∧ RJ V6 L2 (.slice ta tn tc) w7) := ⟨eL, rj⟩; clear eL rj)
  clear HSn
  have HC : Hid (∀ W : World, Below w7.heap.size w7 W → (W.cell? ⟨x, 0, none⟩ = some (.int .i64 T.id) ∧ W.cell? ⟨x, 1, none⟩ = some (.int .i64 T.boots) ∧ W.cell? ⟨x, 2, none⟩ = some (.int .i64 T.next) ∧ W.cell? ⟨x, 3, none⟩ = some (.slice ao no co) ∧ W.cell? ⟨x, 4, none⟩ = some (.slice ai ni ci) ∧ W.cell? ⟨x, 5, none⟩ = some (.slice «at» nt ct)) ∧ (W.cell? ⟨y, 0, none⟩ = some (.int .i64 T.id) ∧ W.cell? ⟨y, 1, none⟩ = some (.int .i64 T.boots) ∧ W.cell? ⟨y, 2, none⟩ = some (.int .i64 T.next) ∧ W.cell? ⟨y, 3, none⟩ = some (.slice bo mo do9) ∧ W.cell? ⟨y, 4, none⟩ = some (.slice bi mi di) ∧ W.cell? ⟨y, 5, none⟩ = some (.slice bt mt dt))) := fun W hW => by
    have hb := H7.out.2.low.trans (hW.mono H7.out.2.low.size)
    have g2 := (hb.block y (Array.getElem?_eq_some_iff.1 HV6.out.1).1).trans HV6.out.1
    have hc := HB6.out.trans (hb.mono HB6.out.size)
    have g1 := (hc.block x (Array.getElem?_eq_some_iff.1 HV5.out.1).1).trans HV5.out.1
    refine ⟨⟨?_, ?_, ?_, ?_, ?_, ?_⟩, ?_, ?_, ?_, ?_, ?_, ?_⟩ <;> first | exact (cell_of_row _ _ _ _ _ _ g1).trans rfl | exact (cell_of_row _ _ _ _ _ _ g2).trans rfl
  have HS1 : Hid (StR w4.heap.size (.slice ao no co) (.slice ai ni ci) (.slice «at» nt ct) P Q R w7) := by
    have h1 := H5.out.2.2.2.1.below HV5.out.2
    exact (h1.below HB6.out).below H7.out.2.low
  have HS2 : Hid (StR V5.heap.size (.slice bo mo do9) (.slice bi mi di) (.slice bt mt dt) P2 Q2 R2 w7) := (H6.out.2.2.2.1.below HV6.out.2).below H7.out.2.low
  have HSm : Hid (Calls Tryz.prog 27 #[.agg #[.int .i64 T.id, .int .i64 T.boots, .int .i64 T.next, .slice ao no co, .slice ai ni ci, .slice «at» nt ct], .agg #[.int .i64 T.id, .int .i64 T.boots, .int .i64 T.next, .slice bo mo do9, .slice bi mi di, .slice bt mt dt]] w7 fun e w' => e = .returned (.bool true) ∧ Below w7.heap.size w7 w') := same_st H2.out.1.ok H2.out.2.1 HS1.out HS2.out H5.out.1 H5.out.2.1 H5.out.2.2.1 H6.out.1 H6.out.2.1 H6.out.2.2.1
  obtain ⟨⟨a0, a1, a2, a3, a4, a5⟩, b0, b1, b2, b3, b4, b5⟩ := HC.out w7 (Below.refl _ _)
  go_upto_region 13 with (go_at_call 27; refine HSm.out.mono ?_; rintro e w8 ⟨rfl, b8⟩; have HB8 : Hid (Below w7.heap.size w7 w8) := b8; clear b8)
  clear HSm a0 a1 a2 a3 a4 a5 b0 b1 b2 b3 b4 b5
  have HB7 : Hid (Below w3.heap.size w3 w8) := by
    have h1 := H4.out.low.trans (HB5.out.mono H4.out.low.size)
    have h2 := h1.trans (HB6.out.mono h1.size)
    have h3 := h2.trans (H7.out.2.low.mono h2.size)
    exact h3.trans (HB8.out.mono h3.size)
  have HSr : Hid (Calls Tryz.prog 28 #[.slice sa sn sc, .slice ta tn tc] w8 fun e w' => e = .returned (.bool true) ∧ Below w8.heap.size w8 w') := by
    have r1 := H3.out.2.below HB7.out
    have r2 := H7.out.2.below HB8.out
    exact same_sn H2.out.1.ok H2.out.2.1 r1.row r2.row r1.el r2.el H3.out.1 H7.out.1
  go_upto_region 14 with (go_at_call 28; refine HSr.out.mono ?_; rintro e w9 ⟨rfl, b9⟩; have HB9 : Hid (Below w7.heap.size w7 w9) := HB8.out.trans (b9.mono HB8.out.size); have HBa : Hid (Below w.heap.size w w9) := (by
    have h1 := H2.out.2.2.trans (H3.out.2.low.mono H2.out.2.2.size)
    have h2 := h1.trans (HB7.out.mono h1.size)
    exact h2.trans (b9.mono h2.size)); clear b9)
  clear HSr
  have HNn : Hid (no = T.ex.length ∧ ni = T.im.length ∧ nt = T.tb.length ∧ Q.length = ni ∧ sn = T.snap.length) := by
    have c1 := own_len8 HS1.out.ro
    have c2 := own_len8 HS1.out.ri
    have c3 := own_len8 HS1.out.rt
    have d1 := congrArg List.length H5.out.1
    have d2 := congrArg List.length H5.out.2.1
    have d3 := congrArg List.length H5.out.2.2.1
    have d4 := congrArg List.length H3.out.1
    have d5 := rr_len H3.out.2.row
    rw [List.length_map] at d1 d2 d3 d4
    exact ⟨by omega, by omega, by omega, by omega, by omega⟩
  have ho : no ≤ 1048576 := by have a := HNn.out.1; have b := H2.out.2.1.ex; omega
  have hi : ni ≤ 1048576 := by have a := HNn.out.2.1; have b := H2.out.2.1.im; omega
  have ht : nt ≤ 1048576 := by have a := HNn.out.2.2.1; have b := H2.out.2.1.tb; omega
  obtain ⟨A1, hA1⟩ : ∃ A1 : Nat, A1 = 2 * no := ⟨_, rfl⟩
  obtain ⟨A2, hA2⟩ : ∃ A2 : Nat, A2 = 2 + A1 := ⟨_, rfl⟩
  obtain ⟨A3, hA3⟩ : ∃ A3 : Nat, A3 = 2 * ni := ⟨_, rfl⟩
  obtain ⟨A4, hA4⟩ : ∃ A4 : Nat, A4 = A2 + A3 := ⟨_, rfl⟩
  obtain ⟨A5, hA5⟩ : ∃ A5 : Nat, A5 = A4 + nt := ⟨_, rfl⟩
  have x1 : IntKind.i64.wrap (2 * (no : Int)) = (A1 : Int) := by rw [IntKind.wrap_i64]; omega
  have x2 : IntKind.i64.wrap (2 + (A1 : Int)) = (A2 : Int) := by rw [IntKind.wrap_i64]; omega
  have x3 : IntKind.i64.wrap (2 * (ni : Int)) = (A3 : Int) := by rw [IntKind.wrap_i64]; omega
  have x4 : IntKind.i64.wrap ((A2 : Int) + (A3 : Int)) = (A4 : Int) := by rw [IntKind.wrap_i64]; omega
  have x5 : IntKind.i64.wrap ((A4 : Int) + (nt : Int)) = (A5 : Int) := by rw [IntKind.wrap_i64]; omega
  have HA5 : Hid (A5 = 2 + 2 * T.ex.length + 2 * T.im.length + T.tb.length ∧ A5 ≤ 6000000) := ⟨by have := HNn.out; omega, by omega⟩
  obtain ⟨⟨_, _, _, a3, a4, a5⟩, _⟩ := HC.out w9 HB9.out
  clear hA1 hA2 hA3 hA4 hA5
  go_upto_region 15 with fail
  clear x1 x2 x3 x4 x5 a3 a5
  go_wp2_with fail
  clear a4
  go_loopw [14, 15] (fun m i wr => ∃ k M : Nat, i = .int .i64 k ∧ m = .int .i64 M ∧ Hid (k ≤ ni ∧ M = A5 + havs (T.im.take k) ∧ M ≤ 6000000 + 2000 * k ∧ wr = w9)) (fun _ i _ => ni - (intOf i).toNat)
  case atStart => exact ⟨0, A5, rfl, rfl, Nat.zero_le _, by simp [havs], by have := HA5.out.2; omega, rfl⟩
  case round =>
    obtain ⟨k, M, rfl, rfl, hh⟩ := hrel
    obtain ⟨⟨_, _, _, _, a4, _⟩, _⟩ := HC.out w9 HB9.out
    rw [← hh.out.2.2.2] at a4
    by_cases hlt : k < ni
    · have hlt' : (k : Int) < (ni : Int) := by omega
      have h0k : 0 ≤ (k : Int) := by omega
      obtain ⟨hk, hM, hMb, hw⟩ := hh.out
      obtain ⟨⟨i, zu, zv⟩, hQk⟩ := get_some Q k (by have := HNn.out.2.2.2.1; omega)
      have hri := (HS1.out.below HB9.out).ri
      rw [HNn.out.2.2.2.1] at hri
      rw [← hw] at hri
      obtain ⟨au, nu, cu, e1⟩ := own_sl8 ((HS1.out.pi _ (List.mem_of_getElem? hQk)).1)
      have e2 := own_len8 (e1 ▸ (HS1.out.pi _ (List.mem_of_getElem? hQk)).1)
      simp only at e1 e2
      subst e1
      obtain ⟨g, cp, e3, _, _⟩ := World.ownsRow.form hri (by omega)
      cases e3
      have p5 : wr.cell? ⟨g, k * 12 + 5, none⟩ = some (.slice au nu cu) := own_cell12 hri hQk (j := 5) (by decide) rfl
      have hiT : T.im[k]? = some i := by rw [← H5.out.2.1, List.getElem?_map, hQk]; rfl
      have hfew := (H2.out.1.ok.im i (List.mem_of_getElem? hiT)).few
      obtain ⟨M', hM'⟩ : ∃ M' : Nat, M' = M + nu := ⟨_, rfl⟩
      have x1 : IntKind.i64.wrap ((M : Int) + (nu : Int)) = (M' : Int) := by rw [IntKind.wrap_i64]; omega
      have HRel : Hid (k + 1 ≤ ni ∧ M' = A5 + havs (T.im.take (k + 1)) ∧ M' ≤ 6000000 + 2000 * (k + 1) ∧ wr = w9) := ⟨by omega, by rw [havs_take hiT]; omega, by omega, hw⟩
      clear hk hM hMb hw hQk hri e2 hiT hfew hM' hh
      go_wp2
      go_roundw
      case rel => exact ⟨k + 1, M', by go_num, rfl, HRel.out⟩
      case measure => simp [intOf]; omega
    · have hkn : k = ni := by have := hh.out.1; omega
      obtain ⟨hk, hM, hMb, hw⟩ := hh.out
      have hle : (sn : Int) ≤ (M : Int) := by
        have a1 := snap_len T
        have a2 := HNn.out
        have a3 : T.im.take k = T.im := by rw [hkn, a2.2.1]; exact List.take_length
        rw [a3] at hM
        have a4 := HA5.out.1
        omega
      have HBw : Hid (Below w.heap.size w wr) := by show Below w.heap.size w wr; rw [hw]; exact HBa.out
      have hlt' : ¬ (k : Int) < (ni : Int) := by omega
      clear hk hM hMb hw hh hkn
      go_wp2
      go_ret
      exact ⟨rfl, HBw.out⟩
end Go.Proofs.YtillgoegiplmkaaGreatDoor.B

namespace Go.Proofs.YtillgoegiplmkaaGreatDoor.B
open C
open Go.RowKit Go.Maps
set_option linter.unusedVariables false
set_option linter.unusedSimpArgs false

/-! ## Two tables -/
structure Tq (w : World) (z z2 : Tz) (T T2 : T8) (W : World) : Prop where
  a : Tw W z T
  b : Tw W z2 T2
  ok : T.Ok
  ok2 : T2.Ok
  low : Below w.heap.size w W
  na : ∀ g, z.F g → w.heap.size ≤ g
  nb : ∀ g, z2.F g → w.heap.size ≤ g
  ap : ∀ g, z.F g → ¬ z2.F g
theorem Tq.below {w W W' : World} {z z2 : Tz} {T T2 : T8} (h : Tq w z z2 T T2 W) (hb : Below W.heap.size W W') : Tq w z z2 T T2 W' :=
  ⟨h.a.below hb, h.b.below hb, h.ok, h.ok2, h.low.trans (hb.mono h.low.size), h.na, h.nb, h.ap⟩
theorem Tq.upa {w W W' : World} {z z2 z' : Tz} {T T2 T' : T8} (h : Tq w z z2 T T2 W) (ht : Tw W' z' T') (hu : Up z z' W W') (hok : T'.Ok) : Tq w z' z2 T' T2 W' :=
  ⟨ht, h.b.keep hu.k (fun g hg hz => h.ap g hz hg), hok, h.ok2, h.low.trans ⟨hu.k.os, hu.k.tape, hu.k.output, hu.k.size, fun g hg => hu.k.block g (Nat.lt_of_lt_of_le hg h.low.size) (fun e => by have := h.na g e; omega)⟩, fun g hg => (hu.f g hg).elim (h.na g) (fun e => Nat.le_trans h.low.size e), h.nb, fun g hg hz => (hu.f g hg).elim (fun e => h.ap g e hz) (fun e => by have := h.b.lt g hz; omega)⟩
theorem Tq.upb {w W W' : World} {z z2 z' : Tz} {T T2 T' : T8} (h : Tq w z z2 T T2 W) (ht : Tw W' z' T') (hu : Up z2 z' W W') (hok : T'.Ok) : Tq w z z' T T' W' :=
  ⟨h.a.keep hu.k (fun g hg hz => h.ap g hg hz), ht, h.ok, hok, h.low.trans ⟨hu.k.os, hu.k.tape, hu.k.output, hu.k.size, fun g hg => hu.k.block g (Nat.lt_of_lt_of_le hg h.low.size) (fun e => by have := h.nb g e; omega)⟩, h.na, fun g hg => (hu.f g hg).elim (h.nb g) (fun e => Nat.le_trans h.low.size e), fun g hg hz => (hu.f g hz).elim (fun e => h.ap g hg e) (fun e => by have := h.a.lt g hg; omega)⟩
/-- What TableShort's loop keeps. -/
def ShI (w : World) (X Y m : Nat) (W : World) : Prop := ∃ z z2 T, z.x = X ∧ z2.x = Y ∧ Tq w z z2 T T W ∧ T.Few m
set_option maxRecDepth 8000 in
set_option maxHeartbeats 16000000 in
/-- THE LAW'S WALK: TableShort. -/
theorem short_walk {w : World} (hT : Tab6 w) (a : Option Addr) (n c : Nat) (l : List Rc) (hl : RLx w a l) (hn : l.length = n) (hby : ∀ r ∈ l, Bytey r.data) (a2 : Option Addr) (n2 c2 : Nat) (l2 : List Rc) (hl2 : RLx w a2 l2) (hn2 : l2.length = n2) (hby2 : ∀ r ∈ l2, Bytey r.data) (hsw : ∀ r ∈ l2, sW (sR r)) (hbig : n + n2 ≤ 1048576) : Calls Tryz.prog 6 #[.slice a n c, .slice a2 n2 c2] w fun e w' => e = .returned (.bool true) ∧ Below w.heap.size w w' := by
  have hkl := kinds_lt hT
  have HH : Hid (Tab6 w ∧ 0 < w.heap.size ∧ n + n2 ≤ 1048576) := ⟨hT, hkl, hbig⟩
  have HM : Hid (RLx w a2 l2 ∧ l2.length = n2 ∧ (∀ r ∈ l2, Bytey r.data) ∧ (∀ r ∈ l2, sW (sR r))) := ⟨hl2, hn2, hby2, hsw⟩
  have HAw : Hid (Calls Tryz.prog 8 #[] w fun e w' => e = .returned (.bool true) ∧ Below w.heap.size w w') := awake8_any hT
  have HLd : Hid (∀ U, Below w.heap.size w U → Calls Tryz.prog 25 #[.slice a n c] U (LddP n U)) := fun U hU => loaded_any (hT.below hU hkl) a n c l (hl.below hU) hn hby (by omega)
  have hn2l : n2 ≤ 1048576 := by omega
  clear hT hl hn hby hkl hl2 hn2 hby2 hsw hbig
  go_enter Tryz.func6, Tryz.ntmps6
  go_upto_region 2 with (go_at_call 8; refine HAw.out.mono ?_; rintro e w1 ⟨rfl, hb1⟩; have HB1 : Hid (Below w.heap.size w w1) := hb1; clear hb1)
  go_upto_region 3 with (go_at_call 25; refine (HLd.out w1 HB1.out).mono ?_; rintro e w2 ⟨z, T, rfl, tn, fw⟩; have H2 : Hid (Tn w1 z T w2 ∧ T.Few n ∧ Below w.heap.size w w1) := ⟨tn, fw, HB1.out⟩; clear tn fw)
  clear HAw HLd HB1
  have HSn : Hid (Calls Tryz.prog 17 #[tP z] w2 (SnP T w2)) := snapshot_any H2.out.1.tw H2.out.1.ok (H2.out.2.1.mono (by have := HH.out.2.2; omega))
  obtain ⟨X, hX⟩ : ∃ X, z.x = X := ⟨_, rfl⟩
  rw [show tP z = .pointer (some ⟨X, 0, none⟩) from by rw [← hX]] at HSn
  have HX : Hid (z.x = X) := hX
  have hzX : tP z = .pointer (some ⟨X, 0, none⟩) := by rw [← hX]
  first | rw [hzX] | rw [hX]
  clear hX hzX
  have HLo : Hid (∀ (sa : Option Addr) (sn sc : Nat) (L : List Rv) (w3 : World), L.map Prod.fst = T.snap → RJ w2 L (.slice sa sn sc) w3 → Calls Tryz.prog 18 #[.slice sa sn sc] w3 fun e w' => ∃ z, e = .returned (.tuple #[tP z, .int .i64 0, .int .i64 0]) ∧ Tn w3 z T w') := fun sa sn sc L w3 eL rj => by
    have hb0 := H2.out.2.2.trans (H2.out.1.low.mono H2.out.2.2.size)
    have hb := hb0.trans (rj.low.mono hb0.size)
    have hs := rr_len rj.row
    have hl := congrArg List.length eL
    rw [List.length_map] at hl
    have hq := snap_len T
    have hh := havs_le (l := T.im) (fun i hi => (H2.out.1.ok.im i hi).few)
    have g1 := H2.out.2.1.ex
    have g2 := H2.out.2.1.im
    have g3 := H2.out.2.1.tb
    have hbg := HH.out.2.2
    exact load_ok (HH.out.1.below hb HH.out.2.1) sa sn sc T.snap (rj.rlx H2.out.1.ok eL) (by omega) (fun r hr => (snap_nc H2.out.1.ok r hr).by') (by omega) (snap_ld H2.out.1.ok)
  go_upto_region 6 with (first
    | (go_at_call 18; refine (HLo.out _ _ _ L w3 H3.out.1 H3.out.2).mono ?_; rintro e w4 ⟨z2, rfl, tn⟩; have H4 : Hid (Tn w3 z2 T w4) := tn; clear tn)
    | (go_at_call 17; refine HSn.out.mono ?_; rintro e w3 ⟨sa, sn, sc, L, rfl, eL, rj⟩; have H3 : Hid (L.map Prod.fst = T.snap ∧ RJ w2 L (.slice sa sn sc) w3) := ⟨eL, rj⟩; clear eL rj))
  clear HSn HLo
  obtain ⟨Y, hY⟩ : ∃ Y, z2.x = Y := ⟨_, rfl⟩
  have HI0 : Hid (ShI w X Y (n + 0) w4) := by
    have hb2 := H3.out.2.low.trans (H4.out.low.mono H3.out.2.low.size)
    have hlo := H2.out.2.2.trans (H2.out.1.low.mono H2.out.2.2.size)
    refine ⟨z, z2, T, HX.out, hY, ⟨H2.out.1.tw.below hb2, H4.out.tw, H2.out.1.ok, H2.out.1.ok, hlo.trans (hb2.mono hlo.size), fun g hg => Nat.le_trans H2.out.2.2.size (H2.out.1.new g hg), fun g hg => Nat.le_trans (Nat.le_trans hlo.size H3.out.2.low.size) (H4.out.new g hg), fun g hg hz => ?_⟩, H2.out.2.1⟩
    have e1 := H2.out.1.tw.lt g hg
    have e2 := H4.out.new g hz
    have e3 := H3.out.2.low.size
    omega
  have hzY : tP z2 = .pointer (some ⟨Y, 0, none⟩) := by rw [← hY]
  first | rw [hzY] | rw [hY]
  clear hY hzY H2 H3 H4 HX
  go_upto_region 9 with fail
  go_loopw [10] (fun i wr => ∃ k : Nat, i = .int .i64 k ∧ Hid (k ≤ n2 ∧ ShI w X Y (n + k) wr)) (fun i _ => n2 - (intOf i).toNat)
  case atStart => exact ⟨0, rfl, Nat.zero_le _, HI0.out⟩
  case round =>
    obtain ⟨k, rfl, hh⟩ := hrel
    clear HI0
    obtain ⟨hk, z, z2, T, hzx, hzy, hq, hfw⟩ := hh.out
    clear hh
    by_cases hlt : k < n2
    · have hlt' : (k : Int) < (n2 : Int) := by omega
      have h0k : 0 ≤ (k : Int) := by omega
      have hkl' : k < l2.length := by rw [HM.out.2.1]; exact hlt
      obtain ⟨r, hr⟩ : ∃ r, l2[k]? = some r := ⟨l2[k], List.getElem?_eq_getElem hkl'⟩
      have hmem : r ∈ l2 := List.mem_of_getElem? hr
      obtain ⟨g, off, sa, da, sc, dc, rfl, hc00, hri0, hro⟩ := HM.out.1.at hr
      have hbt := HM.out.2.2.1 r hmem
      have hss := HM.out.2.2.2 r hmem
      obtain ⟨ns, hns⟩ : ∃ ns, r.spans.length = ns := ⟨_, rfl⟩
      obtain ⟨nd, hnd⟩ : ∃ nd, r.data.length = nd := ⟨_, rfl⟩
      have HCl : Hid (∀ W : World, Below w.heap.size w W → W.cell? ⟨g, off + k * 11, none⟩ = some (.int .i64 r.kind) ∧ W.cell? ⟨g, off + k * 11 + 1, none⟩ = some (.int .i64 r.org) ∧ W.cell? ⟨g, off + k * 11 + 2, none⟩ = some (.int .i64 r.num) ∧ W.cell? ⟨g, off + k * 11 + 3, none⟩ = some (.int .i64 r.peer) ∧ W.cell? ⟨g, off + k * 11 + 4, none⟩ = some (.int .i64 r.srv) ∧ W.cell? ⟨g, off + k * 11 + 5, none⟩ = some (.int .i64 r.off) ∧ W.cell? ⟨g, off + k * 11 + 6, none⟩ = some (.int .i64 r.red) ∧ W.cell? ⟨g, off + k * 11 + 7, none⟩ = some (.int .i64 r.size) ∧ W.cell? ⟨g, off + k * 11 + 8, none⟩ = some (.int .i64 r.how) ∧ W.cell? ⟨g, off + k * 11 + 9, none⟩ = some (.slice sa ns sc) ∧ W.cell? ⟨g, off + k * 11 + 10, none⟩ = some (.slice da nd dc)) := fun W hW => by
        have hc : ∀ j u, (rcC r (.slice sa r.spans.length sc) (.slice da r.data.length dc))[j]? = some u → W.cell? ⟨g, off + k * 11 + j, none⟩ = some u := fun j u hj => C.cell_below (hc00 j u hj) hW
        rw [hns, hnd] at hc
        refine ⟨?_, hc 1 _ rfl, hc 2 _ rfl, hc 3 _ rfl, hc 4 _ rfl, hc 5 _ rfl, hc 6 _ rfl, hc 7 _ rfl, hc 8 _ rfl, hc 9 _ rfl, hc 10 _ rfl⟩
        have := hc 0 _ rfl
        rwa [Nat.add_zero] at this
      have hsrc : ∀ (z : Tz), (∀ g, z.F g → w.heap.size ≤ g) → 1 ≤ r.data.length → ∀ x, da = some x → ¬ z.F x.block := fun z hz h1 x hx e => by
        have e1 := hz _ e
        have e2 := lies_lt (hri0.lie) h1 x hx
        omega
      have HA : Hid (∀ (z z2 : Tz) (T T2 : T8) (W : World), Tq w z z2 T T2 W → Calls Tryz.prog 19 #[tP z, .agg #[.int .i64 r.kind, .int .i64 r.org, .int .i64 r.num, .int .i64 r.peer, .int .i64 r.srv, .int .i64 r.off, .int .i64 r.red, .int .i64 r.size, .int .i64 r.how, .slice sa ns sc, .slice da nd dc]] W fun e w' => e = .returned (.int .i64 (T.can r)) ∧ ∃ z', z'.x = z.x ∧ Tq w z' z2 (T.app r) T2 w') := fun z z2 T T2 W h => by
        have ha := apply_at h.a h.ok (HH.out.1.below h.low HH.out.2.1) r sa da sc dc (hri0.below h.low) hro (hsrc z h.na)
        rw [hns, hnd] at ha
        refine ha.mono fun e w' q => ?_
        obtain ⟨q1, z', q2, q3⟩ := q
        exact ⟨q1, z', q3.x, h.upa q2 q3 (app_ok h.ok hbt)⟩
      have HB : Hid (∀ (z z2 : Tz) (T T2 : T8) (W : World), Tq w z z2 T T2 W → Calls Tryz.prog 19 #[tP z2, .agg #[.int .i64 r.kind, .int .i64 r.org, .int .i64 r.num, .int .i64 r.peer, .int .i64 r.srv, .int .i64 r.off, .int .i64 r.red, .int .i64 r.size, .int .i64 r.how, .slice sa ns sc, .slice da nd dc]] W fun e w' => e = .returned (.int .i64 (T2.can r)) ∧ ∃ z', z'.x = z2.x ∧ Tq w z z' T (T2.app r) w') := fun z z2 T T2 W h => by
        have ha := apply_at h.b h.ok2 (HH.out.1.below h.low HH.out.2.1) r sa da sc dc (hri0.below h.low) hro (hsrc z2 h.nb)
        rw [hns, hnd] at ha
        refine ha.mono fun e w' q => ?_
        obtain ⟨q1, z', q2, q3⟩ := q
        exact ⟨q1, z', q3.x, h.upb q2 q3 (app_ok h.ok2 hbt)⟩
      have HSw : Hid (sW (r.org, r.num)) := hss
      clear hc00 hri0 hro hbt hss hsrc hns hnd hmem hr hkl'
      have HQ : Hid (Tq w z z2 T T wr ∧ z.x = X ∧ z2.x = Y ∧ T.Few (n + k)) := ⟨hq, hzx, hzy, hfw⟩
      obtain ⟨E, hE⟩ : ∃ E, T.can r = E := ⟨_, rfl⟩
      have HA1 : Hid (Calls Tryz.prog 19 #[.pointer (some ⟨X, 0, none⟩), .agg #[.int .i64 r.kind, .int .i64 r.org, .int .i64 r.num, .int .i64 r.peer, .int .i64 r.srv, .int .i64 r.off, .int .i64 r.red, .int .i64 r.size, .int .i64 r.how, .slice sa ns sc, .slice da nd dc]] wr fun e w' => e = .returned (.int .i64 E) ∧ ∃ z', z'.x = X ∧ Tq w z' z2 (T.app r) T w') := by
        have h := HA.out z z2 T T wr hq
        rw [hE, show tP z = .pointer (some ⟨X, 0, none⟩) from by rw [← hzx]] at h
        rw [hzx] at h
        exact h
      have HE : Hid (T.can r = E) := hE
      obtain ⟨c0, c1, c2, c3, c4, c5, c6, c7, c8, c9, c10⟩ := HCl.out wr hq.low
      clear hq hzx hzy hfw hE
      go_upto_region 12 with (go_at_call 19; refine HA1.out.mono ?_; rintro e w2 ⟨rfl, z', hx', hq⟩; have HQ2 : Hid (z'.x = X ∧ Tq w z' z2 (T.app r) T w2) := ⟨hx', hq⟩; clear hx' hq)
      clear c0 c1 c2 c3 c4 c5 c6 c7 c8 c9 c10 HA1
      have HB1 : Hid (Calls Tryz.prog 19 #[.pointer (some ⟨Y, 0, none⟩), .agg #[.int .i64 r.kind, .int .i64 r.org, .int .i64 r.num, .int .i64 r.peer, .int .i64 r.srv, .int .i64 r.off, .int .i64 r.red, .int .i64 r.size, .int .i64 r.how, .slice sa ns sc, .slice da nd dc]] w2 fun e w' => e = .returned (.int .i64 E) ∧ ∃ z3, z3.x = Y ∧ Tq w z' z3 (T.app r) (T.app r) w') := by
        have h := HB.out z' z2 _ _ w2 HQ2.out.2
        rw [HE.out, show tP z2 = .pointer (some ⟨Y, 0, none⟩) from by rw [← HQ.out.2.2.1]] at h
        rw [HQ.out.2.2.1] at h
        exact h
      obtain ⟨c0, c1, c2, c3, c4, c5, c6, c7, c8, c9, c10⟩ := HCl.out w2 HQ2.out.2.low
      go_upto_region 13 with (go_at_call 19; refine HB1.out.mono ?_; rintro e w3 ⟨rfl, z3, hy', hq⟩; have HQ3 : Hid (z'.x = X ∧ z3.x = Y ∧ Tq w z' z3 (T.app r) (T.app r) w3) := ⟨HQ2.out.1, hy', hq⟩; clear hy' hq)
      clear c0 c1 c2 c3 c4 c5 c6 c7 c8 c9 c10 HB1
      obtain ⟨D, hD⟩ : ∃ D, (T.app r).closed (r.org, r.num) = D := ⟨_, rfl⟩
      have HC1 : Hid (∀ U, Below w3.heap.size w3 U → Calls Tryz.prog 15 #[.pointer (some ⟨X, 0, none⟩), .agg #[.int .i64 r.org, .int .i64 r.num]] U fun e w' => e = .returned (.bool D) ∧ Below U.heap.size U w') := fun U hU => by
        have h := closed_any (HQ3.out.2.2.a.below hU) HQ3.out.2.2.ok r.org r.num HSw.out
        rw [hD, show tP z' = .pointer (some ⟨X, 0, none⟩) from by rw [← HQ3.out.1]] at h
        exact h
      have HC2 : Hid (∀ U, Below w3.heap.size w3 U → Calls Tryz.prog 15 #[.pointer (some ⟨Y, 0, none⟩), .agg #[.int .i64 r.org, .int .i64 r.num]] U fun e w' => e = .returned (.bool D) ∧ Below U.heap.size U w') := fun U hU => by
        have h := closed_any (HQ3.out.2.2.b.below hU) HQ3.out.2.2.ok2 r.org r.num HSw.out
        rw [hD, show tP z3 = .pointer (some ⟨Y, 0, none⟩) from by rw [← HQ3.out.2.1]] at h
        exact h
      clear hD
      obtain ⟨c0, c1, c2, c3, c4, c5, c6, c7, c8, c9, c10⟩ := HCl.out w3 HQ3.out.2.2.low
      go_upto_region 14 with (go_at_call 15; refine (HC1.out w3 (Below.refl _ _)).mono ?_; rintro e w4 ⟨rfl, hb⟩; have HB4 : Hid (Below w3.heap.size w3 w4) := hb; clear hb)
      clear c0 c1 c2 c3 c4 c5 c6 c7 c8 c9 c10
      obtain ⟨c0, c1, c2, c3, c4, c5, c6, c7, c8, c9, c10⟩ := HCl.out w4 (HQ3.out.2.2.low.trans (HB4.out.mono HQ3.out.2.2.low.size))
      go_upto_region 15 with (go_at_call 15; refine (HC2.out w4 HB4.out).mono ?_; rintro e w5 ⟨rfl, hb⟩; have HB5 : Hid (Below w3.heap.size w3 w5) := HB4.out.trans (hb.mono HB4.out.size); clear hb)
      clear c0 c1 c2 c3 c4 c5 c6 c7 c8 c9 c10
      have HRel : Hid (k + 1 ≤ n2 ∧ ShI w X Y (n + (k + 1)) w5) := ⟨hlt, z', z3, T.app r, HQ3.out.1, HQ3.out.2.1, HQ3.out.2.2.below HB5.out, few_app HQ.out.2.2.2 r⟩
      clear HA HB HC1 HC2 HQ HQ2 HQ3 HB4 HB5 HSw HCl hk
      go_wp2
      go_roundw
      case rel => exact ⟨k + 1, by go_num, HRel.out⟩
      case measure => simp [intOf]; omega
    · have hkn : k = n2 := by omega
      have hlt' : ¬ (k : Int) < (n2 : Int) := by omega
      have hf2 : T.Few 1048576 := hfw.mono (by have := HH.out.2.2; omega)
      have HQ : Hid (Tq w z z2 T T wr ∧ z2.x = Y ∧ T.Few 1048576) := ⟨hq, hzy, hf2⟩
      have HSt : Hid (Calls Tryz.prog 26 #[.pointer (some ⟨X, 0, none⟩)] wr (StP T wr)) := by
        have h := state_any hq.a hq.ok (few_st hf2).1 (few_st hf2).2.1 (few_st hf2).2.2
        rw [show tP z = .pointer (some ⟨X, 0, none⟩) from by rw [← hzx]] at h
        exact h
      clear hq hzx hzy hfw hf2 hk hkn
      go_upto_region 18 with (go_at_call 26; refine HSt.out.mono ?_; rintro e w5 ⟨vo, vi, vt, P, Q, R, rfl, e1, e2, e3, st, b5⟩; obtain ⟨ao, no, co, rfl⟩ := own_sl8 st.ro; obtain ⟨ai, ni, ci, rfl⟩ := own_sl8 st.ri; obtain ⟨«at», nt, ct, rfl⟩ := own_sl8 st.rt; have H5 : Hid (P.map Prod.fst = T.ex ∧ Q.map Prod.fst = T.im ∧ R.map Prod.fst = T.tb ∧ StR wr.heap.size (.slice ao no co) (.slice ai ni ci) (.slice «at» nt ct) P Q R w5 ∧ Below wr.heap.size wr w5) := ⟨e1, e2, e3, st, b5⟩; clear e1 e2 e3 st b5)
      clear HSt
      obtain ⟨x, hx⟩ : ∃ x, w5.heap.size = x := ⟨_, rfl⟩
      obtain ⟨V5, hV5⟩ : ∃ V5, w5.alloc (.cells #[.int .i64 T.id, .int .i64 T.boots, .int .i64 T.next, .slice ao no co, .slice ai ni ci, .slice «at» nt ct] 58) = V5 := ⟨_, rfl⟩
      rw [hV5, hx]
      have HV5 : Hid (V5.heap[x]? = some (.cells #[.int .i64 T.id, .int .i64 T.boots, .int .i64 T.next, .slice ao no co, .slice ai ni ci, .slice «at» nt ct] 58) ∧ Below w5.heap.size w5 V5) := ⟨by rw [← hV5, ← hx]; exact heap_alloc_new' w5 _, by rw [← hV5]; exact (Below.refl _ _).alloc (Nat.le_refl _) _⟩
      clear hV5 hx
      have HB5 : Hid (Below wr.heap.size wr V5) := H5.out.2.2.2.2.trans (HV5.out.2.mono H5.out.2.2.2.2.size)
      have HSt : Hid (Calls Tryz.prog 26 #[.pointer (some ⟨Y, 0, none⟩)] V5 (StP T V5)) := by
        have h := state_any (HQ.out.1.b.below HB5.out) HQ.out.1.ok2 (few_st HQ.out.2.2).1 (few_st HQ.out.2.2).2.1 (few_st HQ.out.2.2).2.2
        rw [show tP z2 = .pointer (some ⟨Y, 0, none⟩) from by rw [← HQ.out.2.1]] at h
        exact h
      go_upto_region 19 with (go_at_call 26; refine HSt.out.mono ?_; rintro e w6 ⟨vo, vi, vt, P2, Q2, R2, rfl, e1, e2, e3, st, b5⟩; obtain ⟨bo, mo, do9, rfl⟩ := own_sl8 st.ro; obtain ⟨bi, mi, di, rfl⟩ := own_sl8 st.ri; obtain ⟨bt, mt, dt, rfl⟩ := own_sl8 st.rt; have H6 : Hid (P2.map Prod.fst = T.ex ∧ Q2.map Prod.fst = T.im ∧ R2.map Prod.fst = T.tb ∧ StR V5.heap.size (.slice bo mo do9) (.slice bi mi di) (.slice bt mt dt) P2 Q2 R2 w6 ∧ Below V5.heap.size V5 w6) := ⟨e1, e2, e3, st, b5⟩; clear e1 e2 e3 st b5)
      clear HSt
      obtain ⟨y, hy⟩ : ∃ y, w6.heap.size = y := ⟨_, rfl⟩
      obtain ⟨V6, hV6⟩ : ∃ V6, w6.alloc (.cells #[.int .i64 T.id, .int .i64 T.boots, .int .i64 T.next, .slice bo mo do9, .slice bi mi di, .slice bt mt dt] 58) = V6 := ⟨_, rfl⟩
      rw [hV6, hy]
      have HV6 : Hid (V6.heap[y]? = some (.cells #[.int .i64 T.id, .int .i64 T.boots, .int .i64 T.next, .slice bo mo do9, .slice bi mi di, .slice bt mt dt] 58) ∧ Below w6.heap.size w6 V6) := ⟨by rw [← hV6, ← hy]; exact heap_alloc_new' w6 _, by rw [← hV6]; exact (Below.refl _ _).alloc (Nat.le_refl _) _⟩
      clear hV6 hy
      have HB6 : Hid (Below V5.heap.size V5 V6) := H6.out.2.2.2.2.trans (HV6.out.2.mono H6.out.2.2.2.2.size)
      have HC : (V6.cell? ⟨x, 0, none⟩ = some (.int .i64 T.id) ∧ V6.cell? ⟨x, 1, none⟩ = some (.int .i64 T.boots) ∧ V6.cell? ⟨x, 2, none⟩ = some (.int .i64 T.next) ∧ V6.cell? ⟨x, 3, none⟩ = some (.slice ao no co) ∧ V6.cell? ⟨x, 4, none⟩ = some (.slice ai ni ci) ∧ V6.cell? ⟨x, 5, none⟩ = some (.slice «at» nt ct)) ∧ (V6.cell? ⟨y, 0, none⟩ = some (.int .i64 T.id) ∧ V6.cell? ⟨y, 1, none⟩ = some (.int .i64 T.boots) ∧ V6.cell? ⟨y, 2, none⟩ = some (.int .i64 T.next) ∧ V6.cell? ⟨y, 3, none⟩ = some (.slice bo mo do9) ∧ V6.cell? ⟨y, 4, none⟩ = some (.slice bi mi di) ∧ V6.cell? ⟨y, 5, none⟩ = some (.slice bt mt dt)) := by
        have g2 := HV6.out.1
        have g1 := (HB6.out.block x (Array.getElem?_eq_some_iff.1 HV5.out.1).1).trans HV5.out.1
        refine ⟨⟨?_, ?_, ?_, ?_, ?_, ?_⟩, ?_, ?_, ?_, ?_, ?_, ?_⟩ <;> first | exact (cell_of_row _ _ _ _ _ _ g1).trans rfl | exact (cell_of_row _ _ _ _ _ _ g2).trans rfl
      have HSm : Hid (Calls Tryz.prog 27 #[.agg #[.int .i64 T.id, .int .i64 T.boots, .int .i64 T.next, .slice ao no co, .slice ai ni ci, .slice «at» nt ct], .agg #[.int .i64 T.id, .int .i64 T.boots, .int .i64 T.next, .slice bo mo do9, .slice bi mi di, .slice bt mt dt]] V6 fun e w' => e = .returned (.bool true) ∧ Below V6.heap.size V6 w') := same_st HQ.out.1.ok HQ.out.2.2 ((H5.out.2.2.2.1.below HV5.out.2).below HB6.out) (H6.out.2.2.2.1.below HV6.out.2) H5.out.1 H5.out.2.1 H5.out.2.2.1 H6.out.1 H6.out.2.1 H6.out.2.2.1
      obtain ⟨⟨a0, a1, a2, a3, a4, a5⟩, b0, b1, b2, b3, b4, b5⟩ := HC
      go_wp2_with (go_at_call 27; refine HSm.out.mono ?_; rintro e w8 ⟨rfl, b8⟩; have HB8 : Hid (Below V6.heap.size V6 w8) := b8; clear b8)
      go_ret
      have h1 := HQ.out.1.low.trans (HB5.out.mono HQ.out.1.low.size)
      have h2 := h1.trans (HB6.out.mono h1.size)
      exact ⟨rfl, h2.trans (HB8.out.mono h2.size)⟩
end Go.Proofs.YtillgoegiplmkaaGreatDoor.B
