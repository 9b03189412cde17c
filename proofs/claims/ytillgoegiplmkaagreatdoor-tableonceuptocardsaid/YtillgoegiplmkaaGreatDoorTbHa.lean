import Derived.Test.YtillgoegiplmkaaGreatDoorTbFd
namespace Go.Proofs.YtillgoegiplmkaaGreatDoor.B
open C
open Go.RowKit Go.Maps
set_option linter.unusedVariables false
set_option linter.unusedSimpArgs false

theorem lst_get {l : List Sp} (h : l ≠ []) : ∃ p, l[l.length - 1]? = some p ∧ p.2 = lst l := by
  have e : l.getLast? = l[l.length - 1]? := List.getLast?_eq_getElem?
  cases q : l.getLast? with
  | none => exact absurd (List.getLast?_eq_none_iff.mp q) h
  | some p => exact ⟨p, by rw [← e]; exact q, by unfold lst; rw [q]⟩
theorem srt_at {κ α : Type} {lt : κ → κ → Bool} {key : α → κ} {l : List α} (h : Srt lt key l) {j k : Nat} {x y : α} (hx : l[j]? = some x) (hy : l[k]? = some y) (hjk : j < k) : lt (key x) (key y) = true := by
  obtain ⟨hj, ex⟩ := List.getElem?_eq_some_iff.mp hx
  obtain ⟨hk, ey⟩ := List.getElem?_eq_some_iff.mp hy
  have := List.pairwise_iff_getElem.mp h j k hj hk hjk
  rw [ex, ey] at this
  exact this
theorem right_set {w : World} {lo : Nat} {a : Option Addr} {n c : Nat} {l : List Sp} (h : SOwn w lo (.slice a n c) l) (hs : IsSet l) : Calls Tryz.prog 69 #[.slice a n c] w fun e w' => e = .returned (.bool true) ∧ Below w.heap.size w w' := by
  have s := so_spa h
  have e := refright_any a c l w s.1 (by have := hs.1; omega)
  rw [s.2, setB_iff.mpr hs] at e
  exact e
set_option maxRecDepth 100000 in
set_option maxHeartbeats 16000000 in
/-- TOGETHER, of any table's state. -/
theorem together_any {w : World} {T : T8} (hok : T.Ok) (hf : T.Few 1048576) {lo : Nat} {vo vi vt : Value} {P : List (Og × Value)} {Q : List (Ic × Value × Value)} {R : List (Tm × Value)} (h : StR lo vo vi vt P Q R w) (e1 : P.map Prod.fst = T.ex) (e2 : Q.map Prod.fst = T.im) (e3 : R.map Prod.fst = T.tb) :
    Calls Tryz.prog 29 #[.agg #[.int .i64 T.id, .int .i64 T.boots, .int .i64 T.next, vo, vi, vt]] w fun e w' => e = .returned (.bool true) ∧ Below w.heap.size w w' := by
  obtain ⟨ao, no, co, rfl⟩ := own_sl8 h.ro
  obtain ⟨ai, ni, ci, rfl⟩ := own_sl8 h.ri
  obtain ⟨«at», nt, ct, rfl⟩ := own_sl8 h.rt
  have HT : Hid (T.Ok ∧ (P.map Prod.fst = T.ex ∧ Q.map Prod.fst = T.im ∧ R.map Prod.fst = T.tb) ∧ StR lo (.slice ao no co) (.slice ai ni ci) (.slice «at» nt ct) P Q R w) := ⟨hok, ⟨e1, e2, e3⟩, h⟩
  have HN : Hid (no = P.length ∧ ni = Q.length ∧ nt = R.length) := ⟨own_len8 h.ro, own_len8 h.ri, own_len8 h.rt⟩
  have ho : no ≤ 1048576 := by have a := own_len8 h.ro; have b := congrArg List.length e1; have c := hf.ex; simp at b; omega
  have hi : ni ≤ 1048576 := by have a := own_len8 h.ri; have b := congrArg List.length e2; have c := hf.im; simp at b; omega
  have ht : nt ≤ 1048576 := by have a := own_len8 h.rt; have b := congrArg List.length e3; have c := hf.tb; simp at b; omega
  obtain ⟨V, hV⟩ : ∃ V, w.alloc (.cells #[.int .i64 T.id, .int .i64 T.boots, .int .i64 T.next, .slice ao no co, .slice ai ni ci, .slice «at» nt ct] 58) = V := ⟨_, rfl⟩
  have HV : Hid (w.alloc (.cells #[.int .i64 T.id, .int .i64 T.boots, .int .i64 T.next, .slice ao no co, .slice ai ni ci, .slice «at» nt ct] 58) = V) := hV
  have HB0 : Hid (Below w.heap.size w V) := by show Below w.heap.size w V; rw [← hV]; exact (Below.refl _ _).alloc (Nat.le_refl _) _
  have hx1 : V.heap[w.heap.size]? = some (.cells #[.int .i64 T.id, .int .i64 T.boots, .int .i64 T.next, .slice ao no co, .slice ai ni ci, .slice «at» nt ct] 58) := by rw [← hV]; exact heap_alloc_new' w _
  obtain ⟨x, hx⟩ : ∃ x, w.heap.size = x := ⟨_, rfl⟩
  have HC : Hid (∀ W : World, Below V.heap.size V W → W.cell? ⟨x, 0, none⟩ = some (.int .i64 T.id) ∧ W.cell? ⟨x, 1, none⟩ = some (.int .i64 T.boots) ∧ W.cell? ⟨x, 2, none⟩ = some (.int .i64 T.next) ∧ W.cell? ⟨x, 3, none⟩ = some (.slice ao no co) ∧ W.cell? ⟨x, 4, none⟩ = some (.slice ai ni ci) ∧ W.cell? ⟨x, 5, none⟩ = some (.slice «at» nt ct)) := fun W hW => by
    have g1 := (hW.block _ (Array.getElem?_eq_some_iff.1 hx1).1).trans hx1
    rw [← hx]
    refine ⟨?_, ?_, ?_, ?_, ?_, ?_⟩ <;> exact (cell_of_row _ _ _ _ _ _ g1).trans rfl
  clear hok hf h e1 e2 e3 hV hx1
  go_enter Tryz.func29, Tryz.ntmps29
  go_upto_region 1 with fail
  rw [HV.out]
  try rw [hx]
  clear hx
  go_wp2_with fail
  go_loopw [3] (fun i wr => ∃ k : Nat, i = .int .i64 k ∧ Hid (k ≤ no ∧ Below V.heap.size V wr)) (fun i _ => no - (intOf i).toNat)
  case atStart => exact ⟨0, rfl, Nat.zero_le _, Below.refl _ _⟩
  case round =>
    obtain ⟨k, rfl, hh⟩ := hrel
    obtain ⟨hk, hB⟩ := hh.out
    have HB : Hid (Below V.heap.size V wr) := hB
    clear hh
    by_cases hlt : k < no
    · have hlt' : (k : Int) < (no : Int) := by omega
      have h0k : 0 ≤ (k : Int) := by omega
      have hbw := HB0.out.trans (hB.mono HB0.out.size)
      have st := HT.out.2.2.below hbw
      obtain ⟨⟨o, v⟩, hy⟩ := get_some P k (by have := HN.out.1; omega)
      have hmem := List.mem_of_getElem? hy
      have hoT : T.ex[k]? = some o := by rw [← HT.out.2.1.1, List.getElem?_map, hy]; rfl
      have hox := HT.out.1.ex o (List.mem_of_getElem? hoT)
      obtain ⟨av, nv, cv, e9⟩ := own_sl8 (st.po _ hmem)
      simp only at e9
      subst e9
      have hnv := (byo_lies (st.po _ hmem)).2
      simp only at hnv
      have hrd : o.red = (nv : Int) := by have := hox.data; omega
      have hro := st.ro
      rw [← own_len8 st.ro] at hro
      obtain ⟨g, cp, eg, _, _⟩ := World.ownsRow.form hro (by omega)
      cases eg
      have p0 : wr.cell? ⟨g, k * 9, none⟩ = some (.int .i64 T.id) := by rw [← hox.org]; exact own_cell9 hro hy (j := 0) (by decide) rfl
      have p1 : wr.cell? ⟨g, k * 9 + 1, none⟩ = some (.int .i64 o.num) := own_cell9 hro hy (j := 1) (by decide) rfl
      have p2 : wr.cell? ⟨g, k * 9 + 2, none⟩ = some (.int .i64 o.peer) := own_cell9 hro hy (j := 2) (by decide) rfl
      have p3 : wr.cell? ⟨g, k * 9 + 3, none⟩ = some (.int .i64 o.srv) := own_cell9 hro hy (j := 3) (by decide) rfl
      have p4 : wr.cell? ⟨g, k * 9 + 4, none⟩ = some (.int .i64 nv) := by rw [← hrd]; exact own_cell9 hro hy (j := 4) (by decide) rfl
      have p5 : wr.cell? ⟨g, k * 9 + 5, none⟩ = some (.int .i64 o.size) := own_cell9 hro hy (j := 5) (by decide) rfl
      have p6 : wr.cell? ⟨g, k * 9 + 6, none⟩ = some (.slice av nv cv) := own_cell9 hro hy (j := 6) (by decide) rfl
      have p7 : wr.cell? ⟨g, k * 9 + 7, none⟩ = some (.bool o.ended) := own_cell9 hro hy (j := 7) (by decide) rfl
      have p8 : wr.cell? ⟨g, k * 9 + 8, none⟩ = some (.int .i64 o.how) := own_cell9 hro hy (j := 8) (by decide) rfl
      obtain ⟨V2, hV2⟩ : ∃ V2, wr.alloc (.cells #[.int .i64 T.id, .int .i64 o.num, .int .i64 o.peer, .int .i64 o.srv, .int .i64 nv, .int .i64 o.size, .slice av nv cv, .bool o.ended, .int .i64 o.how] 110) = V2 := ⟨_, rfl⟩
      have HV2 : Hid (wr.alloc (.cells #[.int .i64 T.id, .int .i64 o.num, .int .i64 o.peer, .int .i64 o.srv, .int .i64 nv, .int .i64 o.size, .slice av nv cv, .bool o.ended, .int .i64 o.how] 110) = V2) := hV2
      have hb2 : Below wr.heap.size wr V2 := by rw [← hV2]; exact (Below.refl _ _).alloc (Nat.le_refl _) _
      have hx2 : V2.heap[wr.heap.size]? = some (.cells #[.int .i64 T.id, .int .i64 o.num, .int .i64 o.peer, .int .i64 o.srv, .int .i64 nv, .int .i64 o.size, .slice av nv cv, .bool o.ended, .int .i64 o.how] 110) := by rw [← hV2]; exact heap_alloc_new' wr _
      have HB2 : Hid (Below V.heap.size V V2) := HB.out.trans (hb2.mono HB.out.size)
      have g1 : decide (o.num ≥ T.next) = false := by have := hox.num.2.1; simp; omega
      have HPr : Hid (k = 0 ∨ ∃ j : Nat, k = j + 1 ∧ ∃ m : Int, V2.cell? ⟨g, j * 9 + 1, none⟩ = some (.int .i64 m) ∧ m < o.num) := by
        by_cases h0 : k = 0
        · exact .inl h0
        · refine .inr ⟨k - 1, by omega, ?_⟩
          obtain ⟨⟨o', v'⟩, hy'⟩ := get_some P (k - 1) (by have := HN.out.1; omega)
          have hoT' : T.ex[k - 1]? = some o' := by rw [← HT.out.2.1.1, List.getElem?_map, hy']; rfl
          have hl : o'.org < o.org ∨ o'.org = o.org ∧ o'.num < o.num := of_decide_eq_true (srt_at HT.out.1.exs hoT' hoT (by omega))
          have hor := (HT.out.1.ex o' (List.mem_of_getElem? hoT')).org
          have hor2 := hox.org
          exact ⟨o'.num, (C.cell_below (own_cell9 hro hy' (j := 1) (by decide) rfl) hb2), by omega⟩
      have y0 : V2.cell? ⟨wr.heap.size, 0, none⟩ = some (.int .i64 T.id) := (cell_of_row _ _ _ _ _ _ hx2).trans rfl
      have y1 : V2.cell? ⟨wr.heap.size, 1, none⟩ = some (.int .i64 o.num) := (cell_of_row _ _ _ _ _ _ hx2).trans rfl
      have y2 : V2.cell? ⟨wr.heap.size, 2, none⟩ = some (.int .i64 o.peer) := (cell_of_row _ _ _ _ _ _ hx2).trans rfl
      have y3 : V2.cell? ⟨wr.heap.size, 3, none⟩ = some (.int .i64 o.srv) := (cell_of_row _ _ _ _ _ _ hx2).trans rfl
      have y4 : V2.cell? ⟨wr.heap.size, 4, none⟩ = some (.int .i64 nv) := (cell_of_row _ _ _ _ _ _ hx2).trans rfl
      have y5 : V2.cell? ⟨wr.heap.size, 5, none⟩ = some (.int .i64 o.size) := (cell_of_row _ _ _ _ _ _ hx2).trans rfl
      have y6 : V2.cell? ⟨wr.heap.size, 6, none⟩ = some (.slice av nv cv) := (cell_of_row _ _ _ _ _ _ hx2).trans rfl
      have y7 : V2.cell? ⟨wr.heap.size, 7, none⟩ = some (.bool o.ended) := (cell_of_row _ _ _ _ _ _ hx2).trans rfl
      have y8 : V2.cell? ⟨wr.heap.size, 8, none⟩ = some (.int .i64 o.how) := (cell_of_row _ _ _ _ _ _ hx2).trans rfl
      obtain ⟨a0, _, a2, a3, _, _⟩ := HC.out wr HB.out
      clear hb2 hx2 hV2 hro hrd hnv hox hoT hmem hy st hbw hB hk
      go_upto_region 5 with fail
      rw [HV2.out]
      clear p0 p1 p2 p3 p4 p5 p6 p7 p8 a0 a2 a3
      obtain ⟨a0, _, a2, a3, _, _⟩ := HC.out V2 HB2.out
      rcases HPr.out with hk0 | ⟨j, hkj, m, hm, hml⟩
      · have g2 : decide (0 < k) = false := by simp; omega
        have HK0 : Hid (k = 0) := hk0
        clear hk0 HPr
        go_quiet (fail)
        go_wp2
        go_roundw
        case rel => exact ⟨k + 1, by go_num, by omega, ⟨HB2.out.os, HB2.out.tape, HB2.out.output, HB2.out.size, HB2.out.block⟩⟩
        case measure => simp [intOf]; omega
      · have g2 : decide (0 < k) = true := by simp; omega
        have g3 : decide (m ≥ o.num) = false := by simp; omega
        have wj : IntKind.i64.wrap ((k : Int) - 1) = (j : Int) := by rw [IntKind.wrap_i64]; omega
        have j0 : 0 ≤ (j : Int) := by omega
        have j1 : (j : Int) < (no : Int) := by omega
        have HKJ : Hid (k = j + 1) := hkj
        clear hkj HPr hml
        go_quiet (fail)
        go_wp2
        go_roundw
        case rel => exact ⟨k + 1, by go_num, by omega, ⟨HB2.out.os, HB2.out.tape, HB2.out.output, HB2.out.size, HB2.out.block⟩⟩
        case measure => simp [intOf]; omega
    · have hlt' : ¬ (k : Int) < (no : Int) := by omega
      clear hB hk
      obtain ⟨_, _, _, a3, _, _⟩ := HC.out wr HB.out
      go_upto_region 8 with fail
      clear a3
      go_loopw [5] (fun i wr => ∃ k : Nat, i = .int .i64 k ∧ Hid (k ≤ ni ∧ Below V.heap.size V wr)) (fun i _ => ni - (intOf i).toNat)
      case atStart => exact ⟨0, rfl, Nat.zero_le _, HB.out⟩
      case round =>
        obtain ⟨k, rfl, hh⟩ := hrel
        obtain ⟨hk, hB⟩ := hh.out
        clear HB
        have HB : Hid (Below V.heap.size V wr) := hB
        clear hh
        by_cases hlt : k < ni
        · have hlt' : (k : Int) < (ni : Int) := by omega
          have h0k : 0 ≤ (k : Int) := by omega
          have hbw := HB0.out.trans (hB.mono HB0.out.size)
          have st := HT.out.2.2.below hbw
          obtain ⟨⟨i, zu, zv⟩, hy⟩ := get_some Q k (by have := HN.out.2.1; omega)
          have hmem := List.mem_of_getElem? hy
          have hiT : T.im[k]? = some i := by rw [← HT.out.2.1.2.1, List.getElem?_map, hy]; rfl
          have hix := HT.out.1.im i (List.mem_of_getElem? hiT)
          obtain ⟨au, nu, cu, e8⟩ := own_sl8 (st.pi _ hmem).1
          obtain ⟨av, nv, cv, e9⟩ := own_sl8 (st.pi _ hmem).2
          simp only at e8 e9
          subst e8
          subst e9
          have hS := (st.pi _ hmem).1
          have hnv := (byo_lies (st.pi _ hmem).2).2
          have hnu := (so_spa hS).2
          simp only at hnv hnu
          obtain ⟨dn, hdn⟩ : ∃ d, i.done = d := ⟨_, rfl⟩
          obtain ⟨gn, hgn⟩ : ∃ d, i.gone = d := ⟨_, rfl⟩
          obtain ⟨hd, hhd⟩ : ∃ d, i.heard = d := ⟨_, rfl⟩
          have hro := st.ri
          rw [← own_len8 st.ri] at hro
          obtain ⟨g, cp, eg, _, _⟩ := World.ownsRow.form hro (by omega)
          cases eg
          have p0 : wr.cell? ⟨g, k * 12, none⟩ = some (.int .i64 i.org) := own_cell12 hro hy (j := 0) (by decide) rfl
          have p1 : wr.cell? ⟨g, k * 12 + 1, none⟩ = some (.int .i64 i.num) := own_cell12 hro hy (j := 1) (by decide) rfl
          have p2 : wr.cell? ⟨g, k * 12 + 2, none⟩ = some (.int .i64 i.srv) := own_cell12 hro hy (j := 2) (by decide) rfl
          have p3 : wr.cell? ⟨g, k * 12 + 3, none⟩ = some (.int .i64 i.red) := own_cell12 hro hy (j := 3) (by decide) rfl
          have p4 : wr.cell? ⟨g, k * 12 + 4, none⟩ = some (.int .i64 i.size) := own_cell12 hro hy (j := 4) (by decide) rfl
          have p5 : wr.cell? ⟨g, k * 12 + 5, none⟩ = some (.slice au nu cu) := own_cell12 hro hy (j := 5) (by decide) rfl
          have p6 : wr.cell? ⟨g, k * 12 + 6, none⟩ = some (.slice av nv cv) := own_cell12 hro hy (j := 6) (by decide) rfl
          have p7 : wr.cell? ⟨g, k * 12 + 7, none⟩ = some (.bool dn) := by rw [← hdn]; exact own_cell12 hro hy (j := 7) (by decide) rfl
          have p8 : wr.cell? ⟨g, k * 12 + 8, none⟩ = some (.bool gn) := by rw [← hgn]; exact own_cell12 hro hy (j := 8) (by decide) rfl
          have p9 : wr.cell? ⟨g, k * 12 + 9, none⟩ = some (.bool hd) := by rw [← hhd]; exact own_cell12 hro hy (j := 9) (by decide) rfl
          have p10 : wr.cell? ⟨g, k * 12 + 10, none⟩ = some (.bool i.shut) := own_cell12 hro hy (j := 10) (by decide) rfl
          have p11 : wr.cell? ⟨g, k * 12 + 11, none⟩ = some (.int .i64 i.how) := own_cell12 hro hy (j := 11) (by decide) rfl
          obtain ⟨V2, hV2⟩ : ∃ V2, wr.alloc (.cells #[.int .i64 i.org, .int .i64 i.num, .int .i64 i.srv, .int .i64 i.red, .int .i64 i.size, .slice au nu cu, .slice av nv cv, .bool dn, .bool gn, .bool hd, .bool i.shut, .int .i64 i.how] 63) = V2 := ⟨_, rfl⟩
          have HV2 : Hid (wr.alloc (.cells #[.int .i64 i.org, .int .i64 i.num, .int .i64 i.srv, .int .i64 i.red, .int .i64 i.size, .slice au nu cu, .slice av nv cv, .bool dn, .bool gn, .bool hd, .bool i.shut, .int .i64 i.how] 63) = V2) := hV2
          have hb2 : Below wr.heap.size wr V2 := by rw [← hV2]; exact (Below.refl _ _).alloc (Nat.le_refl _) _
          have hx2 : V2.heap[wr.heap.size]? = some (.cells #[.int .i64 i.org, .int .i64 i.num, .int .i64 i.srv, .int .i64 i.red, .int .i64 i.size, .slice au nu cu, .slice av nv cv, .bool dn, .bool gn, .bool hd, .bool i.shut, .int .i64 i.how] 63) := by rw [← hV2]; exact heap_alloc_new' wr _
          have HB2 : Hid (Below V.heap.size V V2) := HB.out.trans (hb2.mono HB.out.size)
          obtain ⟨b, hbe⟩ : ∃ b, wr.heap.size = b := ⟨_, rfl⟩
          have HYc : Hid (∀ W : World, Below V2.heap.size V2 W → W.cell? ⟨b, 0, none⟩ = some (.int .i64 i.org) ∧ W.cell? ⟨b, 1, none⟩ = some (.int .i64 i.num) ∧ W.cell? ⟨b, 2, none⟩ = some (.int .i64 i.srv) ∧ W.cell? ⟨b, 3, none⟩ = some (.int .i64 i.red) ∧ W.cell? ⟨b, 4, none⟩ = some (.int .i64 i.size) ∧ W.cell? ⟨b, 5, none⟩ = some (.slice au nu cu) ∧ W.cell? ⟨b, 6, none⟩ = some (.slice av nv cv) ∧ W.cell? ⟨b, 7, none⟩ = some (.bool dn) ∧ W.cell? ⟨b, 8, none⟩ = some (.bool gn) ∧ W.cell? ⟨b, 9, none⟩ = some (.bool hd) ∧ W.cell? ⟨b, 10, none⟩ = some (.bool i.shut) ∧ W.cell? ⟨b, 11, none⟩ = some (.int .i64 i.how)) := fun W hW => by
            have q := (hW.block _ (Array.getElem?_eq_some_iff.1 hx2).1).trans hx2
            rw [← hbe]
            refine ⟨?_, ?_, ?_, ?_, ?_, ?_, ?_, ?_, ?_, ?_, ?_, ?_⟩ <;> exact (cell_of_row _ _ _ _ _ _ q).trans rfl
          have hS2 : SOwn V2 lo (.slice au nu cu) i.hv := own_at hS (fun g hg => hb2.block g (World.ownsRow.lt hS g hg).2)
          have HI : Hid (i.Ok T.id ∧ i.hv.length = nu ∧ i.data.length = nv ∧ i.done = dn ∧ i.gone = gn ∧ i.heard = hd ∧ SOwn V2 lo (.slice au nu cu) i.hv) := ⟨hix, hnu, hnv, hdn, hgn, hhd, hS2⟩
          have HRt : Hid (Calls Tryz.prog 69 #[.slice au nu cu] V2 fun e w' => e = .returned (.bool true) ∧ Below V2.heap.size V2 w') := right_set hS2 ⟨hix.few, hix.rt⟩
          have HPr : Hid (k = 0 ∨ ∃ j : Nat, k = j + 1 ∧ ∃ m1 m2 : Int, (∀ W : World, Below V2.heap.size V2 W → W.cell? ⟨g, j * 12, none⟩ = some (.int .i64 m1) ∧ W.cell? ⟨g, j * 12 + 1, none⟩ = some (.int .i64 m2)) ∧ (m1 < i.org ∨ m1 = i.org ∧ m2 < i.num)) := by
            by_cases h0 : k = 0
            · exact .inl h0
            · refine .inr ⟨k - 1, by omega, ?_⟩
              obtain ⟨⟨i', v1', v2'⟩, hy'⟩ := get_some Q (k - 1) (by have := HN.out.2.1; omega)
              have hiT' : T.im[k - 1]? = some i' := by rw [← HT.out.2.1.2.1, List.getElem?_map, hy']; rfl
              have hl : i'.org < i.org ∨ i'.org = i.org ∧ i'.num < i.num := of_decide_eq_true (srt_at HT.out.1.ims hiT' hiT (by omega))
              exact ⟨i'.org, i'.num, fun W hW => ⟨C.cell_below (C.cell_below (own_cell12 hro hy' (j := 0) (by decide) rfl) hb2) hW, C.cell_below (C.cell_below (own_cell12 hro hy' (j := 1) (by decide) rfl) hb2) hW⟩, hl⟩
          obtain ⟨_, _, _, _, a4, _⟩ := HC.out wr HB.out
          clear hb2 hx2 hV2 hro hnv hnu hix hiT hmem hy st hbw hB hk hdn hgn hhd hS hS2
          go_upto_region 11 with fail
          rw [HV2.out]
          try rw [hbe]
          clear p0 p1 p2 p3 p4 p5 p6 p7 p8 p9 p10 p11 a4 hbe
          obtain ⟨y0, y1, y2, y3, y4, y5, y6, y7, y8, y9, y10, y11⟩ := HYc.out V2 (Below.refl _ _)
          go_upto_region 12 with (go_at_call 69; refine HRt.out.mono ?_; rintro e w3 ⟨rfl, hb⟩; have HB3 : Hid (Below V2.heap.size V2 w3) := hb; clear hb)
          clear y0 y1 y2 y3 y4 y5 y6 y7 y8 y9 y10 y11 HRt
          obtain ⟨y0, y1, y2, y3, y4, y5, y6, y7, y8, y9, y10, y11⟩ := HYc.out w3 HB3.out
          obtain ⟨lp, hlpe⟩ : ∃ lp, lst i.hv = lp := ⟨_, rfl⟩
          have HLp : Hid (lst i.hv = lp) := hlpe
          clear hlpe
          go_upto_if 81 with fail
          go_cut [8] from 78 to 90 (fun q wx => q = .int .i64 lp ∧ Hid (wx = w3))
          case first =>
            by_cases h0 : nu = 0
            · have hv0 : i.hv = [] := List.eq_nil_of_length_eq_zero (by rw [HI.out.2.1]; exact h0)
              have HL0 : Hid (lp = 0) := by rw [← HLp.out, hv0]; rfl
              have hgt : ¬ (nu : Int) > 0 := by omega
              have hgn : ¬ 0 < nu := by omega
              clear hv0 h0
              go_wp2_with fail
              go_meet
              exact ⟨by rw [HL0.out], rfl⟩
            · have hne : i.hv ≠ [] := fun e => h0 (by rw [← HI.out.2.1, e]; rfl)
              obtain ⟨pp, hpp, hpl⟩ := lst_get hne
              rw [HI.out.2.1] at hpp
              obtain ⟨m, hm⟩ : ∃ m, nu - 1 = m := ⟨_, rfl⟩
              rw [hm] at hpp
              have hS3 := own_at HI.out.2.2.2.2.2.2 (fun g hg => HB3.out.block g (World.ownsRow.lt HI.out.2.2.2.2.2.2 g hg).2)
              obtain ⟨g5, o5, e5, _, q5⟩ := (so_spa hS3).1.at hpp
              rw [hpl, HLp.out] at q5
              have hgt : (nu : Int) > 0 := by omega
              have hgn : 0 < nu := by omega
              have wm : IntKind.i64.wrap ((nu : Int) - 1) = (m : Int) := by have := HI.out.1.few; have := HI.out.2.1; rw [IntKind.wrap_i64]; omega
              have m0 : 0 ≤ (m : Int) := by omega
              have m1 : (m : Int) < (nu : Int) := by omega
              subst e5
              clear hne hpp hm hS3 h0 hpl
              go_wp2_with fail
              go_meet
              exact ⟨rfl, rfl⟩
          case rest =>
          obtain ⟨rfl, HW⟩ := hcut
          rw [HW.out]
          clear HW
          go_upto_if 92 with fail
          go_cut [8] from 91 to 92 (fun q wx => q = .int .i64 (nv : Int) ∧ Hid (wx = w3))
          case first =>
            have hdat := HI.out.1.dat
            rw [HI.out.2.2.1, HI.out.2.2.2.2.2.1, HLp.out] at hdat
            have hlp := lst_pos HI.out.1.rt (Int.le_refl 0)
            rw [HLp.out] at hlp
            cases hd
            · have HNV : Hid (lp = (nv : Int)) := by rw [if_neg (by simp)] at hdat; show lp = (nv : Int); omega
              clear hdat hlp
              go_wp2_with fail
              go_meet
              exact ⟨by rw [HNV.out], rfl⟩
            · have HNV : Hid (nv = 0) := by rw [if_pos rfl] at hdat; exact hdat
              clear hdat hlp
              go_wp2_with fail
              go_meet
              exact ⟨by rw [HNV.out]; rfl, rfl⟩
          case rest =>
            obtain ⟨rfl, HW⟩ := hcut
            rw [HW.out]
            clear HW
            have HFin : Hid (∀ W : World, Below w3.heap.size w3 W → Below V.heap.size V W) := fun W hW => HB2.out.trans ((HB3.out.trans (hW.mono HB3.out.size)).mono HB2.out.size)
            have HDn : Hid (dn = true → nu = 1 ∧ gn = false ∧ ∃ g5 o5, au = some ⟨g5, o5, none⟩ ∧ w3.cell? ⟨g5, o5, none⟩ = some (.int .i64 0) ∧ w3.cell? ⟨g5, o5 + 1, none⟩ = some (.int .i64 i.red)) := fun e => by
              have hdn := HI.out.1.dn (by rw [HI.out.2.2.2.1]; exact e)
              have hS3 := own_at HI.out.2.2.2.2.2.2 (fun g hg => HB3.out.block g (World.ownsRow.lt HI.out.2.2.2.2.2.2 g hg).2)
              obtain ⟨g5, o5, e5, q4, q5⟩ := (so_spa hS3).1.at (k := 0) (p := (0, i.red)) (by rw [hdn.2]; rfl)
              refine ⟨by rw [← HI.out.2.1, hdn.2]; rfl, ?_, g5, o5, e5, by simpa using q4, by simpa using q5⟩
              cases hg : gn with
              | false => rfl
              | true =>
                have := HI.out.1.gn (by rw [HI.out.2.2.2.2.1]; exact hg)
                rw [this] at hdn
                have := hdn.2
                cases this
            obtain ⟨_, _, _, _, a4, _⟩ := HC.out w3 (HFin.out w3 (Below.refl _ _))
            go_wp2_with fail
            go_cut [137] from 93 to 137 (fun q wx => q = .bool false ∧ Hid (∃ n, wx = w3.drewN n))
            case first =>
              cases dn
              · go_wp2_with fail
                go_quiet (fail)
                go_wp2_with fail
                go_meet
                exact ⟨rfl, _, rfl⟩
              · obtain ⟨h1, h2, g5, o5, h3, q4, q5⟩ := HDn.out rfl
                subst h1
                subst h2
                subst h3
                clear HDn
                go_wp2_with fail
                go_quiet (fail)
                go_wp2_with fail
                go_meet
                exact ⟨rfl, _, rfl⟩
            case rest =>
              obtain ⟨rfl, HWc⟩ := hcut
              obtain ⟨W4, rfl⟩ : ∃ W4, W4 = wc := ⟨_, rfl⟩
              have HB4 : Hid (Below w3.heap.size w3 W4) := by
                obtain ⟨n, e⟩ := HWc.out
                show Below w3.heap.size w3 W4
                rw [e]
                exact below_dr n
              have hb24 := HB3.out.trans (HB4.out.mono HB3.out.size)
              have hbf := HFin.out W4 HB4.out
              clear HWc a4 y0 y1 y2 y3 y4 y5 y6 y7 y8 y9 y10 y11
              obtain ⟨_, _, _, _, a4, _⟩ := HC.out W4 hbf
              obtain ⟨y0, y1, y2, y3, y4, y5, y6, y7, y8, y9, y10, y11⟩ := HYc.out W4 hb24
              rcases HPr.out with hk0 | ⟨j, hkj, m1, m2, hm, hml⟩
              · have g2 : decide (0 < k) = false := by simp; omega
                have HK0 : Hid (k = 0) := hk0
                clear hk0 HPr
                go_wp2_with fail
                go_quiet (fail)
                go_wp2
                go_roundw
                case rel => exact ⟨k + 1, by go_num, by omega, ⟨hbf.os, hbf.tape, hbf.output, hbf.size, hbf.block⟩⟩
                case measure => simp [intOf]; omega
              · have g2 : decide (0 < k) = true := by simp; omega
                have wj : IntKind.i64.wrap ((k : Int) - 1) = (j : Int) := by rw [IntKind.wrap_i64]; omega
                have j0 : 0 ≤ (j : Int) := by omega
                have j1 : (j : Int) < (ni : Int) := by omega
                obtain ⟨z1, z2⟩ := hm W4 hb24
                have HKJ : Hid (k = j + 1) := hkj
                clear hkj HPr hm
                rcases hml with hA | ⟨hA, hA2⟩
                · have g3 : decide (m1 > i.org) = false := by simp; omega
                  have g4 : decide (m1 = i.org) = false := by simp; omega
                  have g5 : (m1 == i.org) = false := by simp; omega
                  clear hA
                  go_wp2_with fail
                  go_quiet (fail)
                  go_wp2
                  go_roundw
                  case rel => exact ⟨k + 1, by go_num, by omega, ⟨hbf.os, hbf.tape, hbf.output, hbf.size, hbf.block⟩⟩
                  case measure => simp [intOf]; omega
                · rw [hA] at z1
                  have g3 : decide (i.org > i.org) = false := by simp
                  have g5 : decide (m2 ≥ i.num) = false := by simp; omega
                  clear hA hA2
                  go_wp2_with fail
                  go_quiet (fail)
                  go_wp2
                  go_roundw
                  case rel => exact ⟨k + 1, by go_num, by omega, ⟨hbf.os, hbf.tape, hbf.output, hbf.size, hbf.block⟩⟩
                  case measure => simp [intOf]; omega
        · have hlt' : ¬ (k : Int) < (ni : Int) := by omega
          clear hB hk
          obtain ⟨_, _, _, _, _, a5⟩ := HC.out wr HB.out
          go_upto_region 22 with fail
          clear a5
          go_loopw [9] (fun i wr => ∃ k : Nat, i = .int .i64 k ∧ Hid (k ≤ nt ∧ Below V.heap.size V wr)) (fun i _ => nt - (intOf i).toNat)
          case atStart => exact ⟨0, rfl, Nat.zero_le _, HB.out⟩
          case round =>
            obtain ⟨k, rfl, hh⟩ := hrel
            obtain ⟨hk, hB⟩ := hh.out
            clear HB
            have HB : Hid (Below V.heap.size V wr) := hB
            clear hh
            by_cases hlt : k < nt
            · have hlt' : (k : Int) < (nt : Int) := by omega
              have h0k : 0 ≤ (k : Int) := by omega
              have hbw := HB0.out.trans (hB.mono HB0.out.size)
              have st := HT.out.2.2.below hbw
              obtain ⟨⟨t, zu⟩, hy⟩ := get_some R k (by have := HN.out.2.2; omega)
              have hmem := List.mem_of_getElem? hy
              have hiT : T.tb[k]? = some t := by rw [← HT.out.2.1.2.2, List.getElem?_map, hy]; rfl
              have htx := HT.out.1.tb t (List.mem_of_getElem? hiT)
              obtain ⟨au, nu, cu, e8⟩ := own_sl8 (st.pt _ hmem)
              simp only at e8
              subst e8
              have hS := st.pt _ hmem
              have hnu := (so_spa hS).2
              simp only at hnu
              have hro := st.rt
              rw [← own_len8 st.rt] at hro
              obtain ⟨g, cp, eg, _, _⟩ := World.ownsRow.form hro (by omega)
              cases eg
              have HRt : Hid (Calls Tryz.prog 69 #[.slice au nu cu] wr fun e w' => e = .returned (.bool true) ∧ Below wr.heap.size wr w') := right_set hS ⟨by have := htx.2.2.2.2.1; show t.2.length ≤ 2000; omega, htx.2.2.2.2.2.mono (by omega)⟩
              have HYc : Hid (∀ W : World, Below wr.heap.size wr W → W.cell? ⟨g, k * 2, none⟩ = some (.int .i64 t.1) ∧ W.cell? ⟨g, k * 2 + 1, none⟩ = some (.slice au nu cu)) := fun W hW => ⟨C.cell_below (own_cell2 hro hy (j := 0) (by decide) rfl) hW, C.cell_below (own_cell2 hro hy (j := 1) (by decide) rfl) hW⟩
              have HPr : Hid (k = 0 ∨ ∃ j : Nat, k = j + 1 ∧ ∃ m1 : Int, (∀ W : World, Below wr.heap.size wr W → W.cell? ⟨g, j * 2, none⟩ = some (.int .i64 m1)) ∧ m1 < t.1) := by
                by_cases h0 : k = 0
                · exact .inl h0
                · refine .inr ⟨k - 1, by omega, ?_⟩
                  obtain ⟨⟨t', v1'⟩, hy'⟩ := get_some R (k - 1) (by have := HN.out.2.2; omega)
                  have hiT' : T.tb[k - 1]? = some t' := by rw [← HT.out.2.1.2.2, List.getElem?_map, hy']; rfl
                  have hl : t'.1 < t.1 := of_decide_eq_true (srt_at HT.out.1.tbs hiT' hiT (by omega))
                  exact ⟨t'.1, fun W hW => C.cell_below (own_cell2 hro hy' (j := 0) (by decide) rfl) hW, hl⟩
              have hu0 : nu ≠ 0 := fun e => htx.2.2.2.1 (List.eq_nil_of_length_eq_zero (by rw [hnu]; exact e))
              have hu5 : nu ≤ 500 := by have := htx.2.2.2.2.1; omega
              obtain ⟨y0, y1⟩ := HYc.out wr (Below.refl _ _)
              obtain ⟨_, _, _, _, _, a5⟩ := HC.out wr HB.out
              clear hro hnu htx hiT hmem hy st hbw hB hk hS
              go_upto_region 25 with (go_at_call 69; refine HRt.out.mono ?_; rintro e w3 ⟨rfl, hb⟩; have HB3 : Hid (Below wr.heap.size wr w3) := hb; clear hb)
              clear y0 y1 a5 HRt
              have hbf := HB.out.trans (HB3.out.mono HB.out.size)
              obtain ⟨y0, y1⟩ := HYc.out w3 HB3.out
              obtain ⟨_, _, _, _, _, a5⟩ := HC.out w3 hbf
              have q1 : decide (nu = 0) = false := by simp; omega
              have q2 : (nu == 0) = false := by simp; omega
              have q3 : decide (500 < nu) = false := by simp; omega
              have q4 : decide ((nu : Int) > 500) = false := by simp; omega
              have q5 : decide ((nu : Int) = 0) = false := by simp; omega
              have q6 : ((nu : Int) == 0) = false := by simp; omega
              have HU : Hid (nu ≠ 0 ∧ nu ≤ 500) := ⟨hu0, hu5⟩
              clear hu0 hu5
              rcases HPr.out with hk0 | ⟨j, hkj, m1, hm, hml⟩
              · have g2 : decide (0 < k) = false := by simp; omega
                have HK0 : Hid (k = 0) := hk0
                clear hk0 HPr
                go_wp2_with fail
                go_quiet (fail)
                go_wp2
                go_roundw
                case rel => exact ⟨k + 1, by go_num, by omega, ⟨hbf.os, hbf.tape, hbf.output, hbf.size, hbf.block⟩⟩
                case measure => simp [intOf]; omega
              · have g2 : decide (0 < k) = true := by simp; omega
                have wj : IntKind.i64.wrap ((k : Int) - 1) = (j : Int) := by rw [IntKind.wrap_i64]; omega
                have j0 : 0 ≤ (j : Int) := by omega
                have j1 : (j : Int) < (nt : Int) := by omega
                have z1 := hm w3 HB3.out
                have HKJ : Hid (k = j + 1) := hkj
                have g3 : decide (m1 ≥ t.1) = false := by simp; omega
                clear hkj HPr hm hml
                go_wp2_with fail
                go_quiet (fail)
                go_wp2
                go_roundw
                case rel => exact ⟨k + 1, by go_num, by omega, ⟨hbf.os, hbf.tape, hbf.output, hbf.size, hbf.block⟩⟩
                case measure => simp [intOf]; omega
            · have hlt' : ¬ (k : Int) < (nt : Int) := by omega
              clear hB hk
              obtain ⟨_, _, _, _, _, a5⟩ := HC.out wr HB.out
              go_wp2
              go_ret
              exact ⟨rfl, HB0.out.trans (HB.out.mono HB0.out.size)⟩
end Go.Proofs.YtillgoegiplmkaaGreatDoor.B

namespace Go.Proofs.YtillgoegiplmkaaGreatDoor.B
open C
open Go.RowKit Go.Maps
set_option linter.unusedVariables false
set_option linter.unusedSimpArgs false

/-- What TableOnce's loop keeps, in memory. -/
structure On (w : World) (z : Tz) (T : T8) (k : Nat) (ve vc : Value) (E C : List Ss) (W : World) : Prop where
  tn : Tn w z T W
  few : T.Few k
  re : RoS W w.heap.size ve E
  rc : RoS W w.heap.size vc C
  ae : ∀ g, ve.ownBlock = some g → ¬ z.F g
  ac : ∀ g, vc.ownBlock = some g → ¬ z.F g
  ne : ∀ g, ve.ownBlock = some g → vc.ownBlock ≠ some g
  le : E.length ≤ k
  lc : C.length ≤ k
section
variable {w W : World} {z : Tz} {T : T8} {k : Nat} {ve vc : Value} {E C : List Ss}
theorem On.below {W' : World} (h : On w z T k ve vc E C W) (hb : Below W.heap.size W W') : On w z T k ve vc E C W' :=
  ⟨h.tn.below hb, h.few, own_at h.re (fun g hg => hb.block g (World.ownsRow.lt h.re g hg).2), own_at h.rc (fun g hg => hb.block g (World.ownsRow.lt h.rc g hg).2), h.ae, h.ac, h.ne, h.le, h.lc⟩
theorem On.up {W' : World} {z' : Tz} {r : Rc} (h : On w z T k ve vc E C W) (hT : Tw W' z' (T.app r)) (hu : Up z z' W W') (hok : (T.app r).Ok) : On w z' (T.app r) (k + 1) ve vc E C W' := by
  have nf : ∀ {v : Value} {L : List Ss}, RoS W w.heap.size v L → (∀ g, v.ownBlock = some g → ¬ z.F g) → ∀ g, v.ownBlock = some g → ¬ z'.F g := fun hr ha g hg hz => (hu.f g hz).elim (ha g hg) (fun e => by have := (World.ownsRow.lt hr g hg).2; omega)
  exact ⟨h.tn.up hT hu hok, few_app h.few r, own_at h.re (fun g hg => hu.k.block g (World.ownsRow.lt h.re g hg).2 (h.ae g hg)), own_at h.rc (fun g hg => hu.k.block g (World.ownsRow.lt h.rc g hg).2 (h.ac g hg)), nf h.re h.ae, nf h.rc h.ac, h.ne, by have := h.le; omega, by have := h.lc; omega⟩
theorem On.grown {w6 : World} (h : On w z T k ve vc E C W) {v : Value} {L : List Ss} (hr : RoS W w.heap.size v L) (ha : ∀ g, v.ownBlock = some g → ¬ z.F g) (hg : W.grownBy w6 v.ownBlock) : Tn w z T w6 := by
  have hk : Kl (fun g => v.ownBlock = some g) W w6 := ⟨hg.os, hg.tape, hg.output, hg.size, fun g hgl hne => hg.block g hgl (fun e => hne e.symm)⟩
  refine ⟨h.tn.tw.keep hk (fun g hz e => ha g e hz), h.tn.ok, h.tn.low.trans ⟨hg.os, hg.tape, hg.output, hg.size, fun g hgl => ?_⟩, h.tn.new⟩
  exact hg.block g (Nat.lt_of_lt_of_le hgl h.tn.low.size) (fun e => by have := (World.ownsRow.lt hr g e.symm).1; omega)
theorem On.pushE {w6 : World} (h : On w z T k ve vc E C W) {v6 : Value} {s : Ss} (hown : w6.ownsRow w.heap.size 31 2 v6 (E.length + 1) (E.flatMap ssc ++ ssc s)) (hg : W.grownBy w6 ve.ownBlock) (hat : v6.ownBlock = ve.ownBlock ∨ v6.ownBlock = some W.heap.size) (hl : E.length + 1 ≤ k) : On w z T k v6 vc (E ++ [s]) C w6 := by
  refine ⟨h.grown h.re h.ae hg, h.few, ?_, own_at h.rc (fun g hgg => hg.block g (World.ownsRow.lt h.rc g hgg).2 (fun e => h.ne g e.symm hgg)), fun g hgg => ?_, h.ac, fun g hgg e => ?_, by simpa using hl, h.lc⟩
  · show w6.ownsRow _ _ _ _ _ _
    rw [List.length_append, List.flatMap_append]
    simpa using hown
  · rcases hat with e | e
    · exact h.ae g (by rw [← e]; exact hgg)
    · rw [e] at hgg
      simp only [Option.some.injEq] at hgg
      exact fun hz => by have := h.tn.tw.lt g hz; omega
  · rcases hat with e2 | e2
    · exact h.ne g (by rw [← e2]; exact hgg) e
    · rw [e2] at hgg
      simp only [Option.some.injEq] at hgg
      have := (World.ownsRow.lt h.rc g e).2
      omega
theorem On.pushC {w6 : World} (h : On w z T k ve vc E C W) {v6 : Value} {s : Ss} (hown : w6.ownsRow w.heap.size 31 2 v6 (C.length + 1) (C.flatMap ssc ++ ssc s)) (hg : W.grownBy w6 vc.ownBlock) (hat : v6.ownBlock = vc.ownBlock ∨ v6.ownBlock = some W.heap.size) (hl : C.length + 1 ≤ k) : On w z T k ve v6 E (C ++ [s]) w6 := by
  refine ⟨h.grown h.rc h.ac hg, h.few, own_at h.re (fun g hgg => hg.block g (World.ownsRow.lt h.re g hgg).2 (fun e => h.ne g hgg e.symm)), ?_, h.ae, fun g hgg => ?_, fun g hgg e => ?_, h.le, by simpa using hl⟩
  · show w6.ownsRow _ _ _ _ _ _
    rw [List.length_append, List.flatMap_append]
    simpa using hown
  · rcases hat with e | e
    · exact h.ac g (by rw [← e]; exact hgg)
    · rw [e] at hgg
      simp only [Option.some.injEq] at hgg
      exact fun hz => by have := h.tn.tw.lt g hz; omega
  · rcases hat with e2 | e2
    · exact h.ne g hgg (by rw [← e2]; exact e)
    · rw [e2] at e
      simp only [Option.some.injEq] at e
      have := (World.ownsRow.lt h.re g hgg).2
      omega
end
def OnI (w : World) (X k : Nat) (ve vc : Value) (W : World) : Prop := ∃ z T E C, z.x = X ∧ On w z T k ve vc E C W ∧ (∀ s ∈ E, T.fin s = true ∧ sW s) ∧ (∀ s ∈ C, T.closed s = true ∧ sW s)
theorem bt_le {T : T8} (h : T.Ok) : 0 ≤ T.boots ∧ T.boots ≤ 1073741824 := Ok.bt h
theorem app_then {T : T8} {r : Rc} (h : T.can r = 0) : T.app r = T.then' r := by unfold T8.app; rw [if_pos h]
theorem app_same {T : T8} {r : Rc} (h : ¬ T.can r = 0) : T.app r = T := by unfold T8.app; rw [if_neg h]
theorem rr_len2 {w : World} {b : Nat} {a : Option Addr} {n c : Nat} {L : List Ss} (h : RoS w b (.slice a n c) L) : n = L.length := own_len8 h
/-- A state and its box. -/
theorem state_b {W : World} {w5 : World} {vo vi vt : Value} {P : List (Og × Value)} {Q : List (Ic × Value × Value)} {R : List (Tm × Value)} (st : StR W.heap.size vo vi vt P Q R w5) : ∃ ao no co ai ni ci at9 nt ct, vo = .slice ao no co ∧ vi = .slice ai ni ci ∧ vt = .slice at9 nt ct := by
  obtain ⟨ao, no, co, e1⟩ := own_sl8 st.ro
  obtain ⟨ai, ni, ci, e2⟩ := own_sl8 st.ri
  obtain ⟨at9, nt, ct, e3⟩ := own_sl8 st.rt
  exact ⟨_, _, _, _, _, _, _, _, _, e1, e2, e3⟩
end Go.Proofs.YtillgoegiplmkaaGreatDoor.B

namespace Go.Proofs.YtillgoegiplmkaaGreatDoor.B
open C
open Go.RowKit Go.Maps
set_option linter.unusedVariables false
set_option linter.unusedSimpArgs false

set_option maxRecDepth 100000 in
set_option maxHeartbeats 32000000 in
/-- THE LAW'S WALK: TableOnce. -/
theorem once_walk {w : World} (hT : Tab6 w) (a : Option Addr) (n c : Nat) (l : List Rc) (hl : RLx w a l) (hn : l.length = n) (hby : ∀ r ∈ l, Bytey r.data) (hsw : ∀ r ∈ l, sW (sR r)) (hbig : n ≤ 1048576) : Calls Tryz.prog 7 #[.slice a n c] w fun e w' => e = .returned (.bool true) ∧ Below w.heap.size w w' := by
  obtain ⟨i0, hi, hz0, hz1, hz2⟩ := info_parts Tryz.info_ses
  have hkl := kinds_lt hT
  have HH : Hid (Tab6 w ∧ 0 < w.heap.size) := ⟨hT, hkl⟩
  have HM : Hid (RLx w a l ∧ l.length = n ∧ (∀ r ∈ l, Bytey r.data) ∧ (∀ r ∈ l, sW (sR r))) := ⟨hl, hn, hby, hsw⟩
  have HAw : Hid (Calls Tryz.prog 8 #[] w fun e w' => e = .returned (.bool true) ∧ Below w.heap.size w w') := awake8_any hT
  clear hT hl hn hby hsw hkl
  go_enter Tryz.func7, Tryz.ntmps7
  go_upto_region 2 with (go_at_call 8; refine HAw.out.mono ?_; rintro e w1 ⟨rfl, hb1⟩; have HB1 : Hid (Below w.heap.size w w1) := hb1; clear hb1)
  clear HAw
  obtain ⟨X, hX⟩ : ∃ X, w1.heap.size + 3 = X := ⟨_, rfl⟩
  have HN : Hid (Calls Tryz.prog 9 #[] w1 fun e w' => e = .returned (.pointer (some ⟨X, 0, none⟩)) ∧ OnI w X 0 (.slice none 0 0) (.slice none 0 0) w') := (new8_any w1).mono fun e w' q => by
    refine ⟨by rw [← hX]; exact q.1, zNew w1.heap.size, t0, [], [], hX, ?_, fun s hs => (by cases hs), fun s hs => (by cases hs)⟩
    have ht := tn_new q.2.1 q.2.2
    exact ⟨⟨ht.tw, ht.ok, HB1.out.trans (ht.low.mono HB1.out.size), fun g hg => Nat.le_trans HB1.out.size (ht.new g hg)⟩, few_t0, World.ownsRow_nil _ _ _ _, World.ownsRow_nil _ _ _ _, fun g e => (by cases e), fun g e => (by cases e), fun g e => (by cases e), Nat.le_refl _, Nat.le_refl _⟩
  clear hX
  go_upto_region 3 with (go_at_call 9; refine HN.out.mono ?_; rintro e w2 ⟨rfl, hI⟩; have HI0 : Hid (OnI w X 0 (.slice none 0 0) (.slice none 0 0) w2) := hI; clear hI)
  clear HN HB1
  go_upto_region 8 with fail
  go_loopw [5, 6, 7] (fun qe qc i wr => ∃ k : Nat, i = .int .i64 k ∧ Hid (k ≤ n ∧ OnI w X k qe qc wr)) (fun _ _ i _ => n - (intOf i).toNat)
  case atStart => exact ⟨0, rfl, Nat.zero_le _, HI0.out⟩
  case round =>
    obtain ⟨k, rfl, hh⟩ := hrel
    clear HI0
    obtain ⟨hk, z, T, E, Fc, hzx, hOn, hE, hC⟩ := hh.out
    clear hh
    by_cases hlt : k < n
    · have hlt' : (k : Int) < (n : Int) := by omega
      have h0k : 0 ≤ (k : Int) := by omega
      have hkl' : k < l.length := by rw [HM.out.2.1]; exact hlt
      obtain ⟨r, hr⟩ : ∃ r, l[k]? = some r := ⟨l[k], List.getElem?_eq_getElem hkl'⟩
      have hmem : r ∈ l := List.mem_of_getElem? hr
      obtain ⟨g, off, sa, da, sc, dc, rfl, hc00, hri0, hro⟩ := HM.out.1.at hr
      have hbt := HM.out.2.2.1 r hmem
      have hss := HM.out.2.2.2 r hmem
      obtain ⟨ns, hns⟩ : ∃ ns, r.spans.length = ns := ⟨_, rfl⟩
      obtain ⟨nd, hnd⟩ : ∃ nd, r.data.length = nd := ⟨_, rfl⟩
      have HCl : Hid (∀ W : World, Below w.heap.size w W → W.cell? ⟨g, off + k * 11, none⟩ = some (.int .i64 r.kind) ∧ W.cell? ⟨g, off + k * 11 + 1, none⟩ = some (.int .i64 r.org) ∧ W.cell? ⟨g, off + k * 11 + 2, none⟩ = some (.int .i64 r.num) ∧ W.cell? ⟨g, off + k * 11 + 3, none⟩ = some (.int .i64 r.peer) ∧ W.cell? ⟨g, off + k * 11 + 4, none⟩ = some (.int .i64 r.srv) ∧ W.cell? ⟨g, off + k * 11 + 5, none⟩ = some (.int .i64 r.off) ∧ W.cell? ⟨g, off + k * 11 + 6, none⟩ = some (.int .i64 r.red) ∧ W.cell? ⟨g, off + k * 11 + 7, none⟩ = some (.int .i64 r.size) ∧ W.cell? ⟨g, off + k * 11 + 8, none⟩ = some (.int .i64 r.how) ∧ W.cell? ⟨g, off + k * 11 + 9, none⟩ = some (.slice sa ns sc) ∧ W.cell? ⟨g, off + k * 11 + 10, none⟩ = some (.slice da nd dc)) := fun W hW => by
        have hc : ∀ j u, (rcC r (.slice sa r.spans.length sc) (.slice da r.data.length dc))[j]? = some u → W.cell? ⟨g, off + k * 11 + j, none⟩ = some u := fun j u hj => C.cell_below (hc00 j u hj) hW
        rw [hns, hnd] at hc
        refine ⟨?_, hc 1 _ rfl, hc 2 _ rfl, hc 3 _ rfl, hc 4 _ rfl, hc 5 _ rfl, hc 6 _ rfl, hc 7 _ rfl, hc 8 _ rfl, hc 9 _ rfl, hc 10 _ rfl⟩
        have := hc 0 _ rfl
        rwa [Nat.add_zero] at this
      obtain ⟨ea, en, ec, e5⟩ := own_sl8 hOn.re
      obtain ⟨ca, cn, cc, e6⟩ := own_sl8 hOn.rc
      subst e5
      subst e6
      have hkb : k ≤ 1048576 := by have := hOn.le; omega
      have HSt : Hid (Calls Tryz.prog 26 #[.pointer (some ⟨X, 0, none⟩)] wr (StP T wr)) := by
        have hf2 := hOn.few.mono hkb
        have h := state_any hOn.tn.tw hOn.tn.ok (few_st hf2).1 (few_st hf2).2.1 (few_st hf2).2.2
        rw [show tP z = .pointer (some ⟨X, 0, none⟩) from by rw [← hzx]] at h
        exact h
      have HO : Hid (z.x = X ∧ On w z T k (.slice ea en ec) (.slice ca cn cc) E Fc wr ∧ (∀ s ∈ E, T.fin s = true ∧ sW s) ∧ (∀ s ∈ Fc, T.closed s = true ∧ sW s) ∧ k < n ∧ k ≤ 1048576) := ⟨hzx, hOn, hE, hC, hlt, hkb⟩
      have HR : Hid (Bytey r.data ∧ sW (r.org, r.num) ∧ RIn w r sa da r.spans.length r.data.length sc dc ∧ (1 ≤ r.data.length → r.data.length ≤ dc ∧ dc ≤ 9223372036854775807) ∧ r.spans.length = ns ∧ r.data.length = nd) := ⟨hbt, hss, hri0, hro, hns, hnd⟩
      clear hzx hOn hE hC hc00 hri0 hro hbt hss hns hnd hmem hr hkl' hk
      go_upto_region 11 with (go_at_call 26; refine HSt.out.mono ?_; rintro e w5 ⟨vo, vi, vt, P, Q, R, rfl, e1, e2, e3, st, b5⟩; obtain ⟨ao, no, co, ai, ni, ci, at9, nt, ct, rfl, rfl, rfl⟩ := state_b st; have H5 : Hid (Below wr.heap.size wr w5) := b5; clear e1 e2 e3 st b5)
      clear HSt
      obtain ⟨x, hx⟩ : ∃ x, w5.heap.size = x := ⟨_, rfl⟩
      obtain ⟨V1, hV1⟩ : ∃ V1, w5.alloc (.cells #[.int .i64 T.id, .int .i64 T.boots, .int .i64 T.next, .slice ao no co, .slice ai ni ci, .slice at9 nt ct] 58) = V1 := ⟨_, rfl⟩
      rw [hV1, hx]
      have hbx : V1.heap[x]? = some (.cells #[.int .i64 T.id, .int .i64 T.boots, .int .i64 T.next, .slice ao no co, .slice ai ni ci, .slice at9 nt ct] 58) := by rw [← hV1, ← hx]; exact heap_alloc_new' w5 _
      have hb51 : Below w5.heap.size w5 V1 := by rw [← hV1]; exact (Below.refl _ _).alloc (Nat.le_refl _) _
      have hOn1 := HO.out.2.1.below (H5.out.trans (hb51.mono H5.out.size))
      have hxnew : wr.heap.size ≤ x := by rw [← hx]; exact H5.out.size
      obtain ⟨E0, hE0⟩ : ∃ E0, T.can r = E0 := ⟨_, rfl⟩
      have HA : Hid (Calls Tryz.prog 19 #[.pointer (some ⟨X, 0, none⟩), .agg #[.int .i64 r.kind, .int .i64 r.org, .int .i64 r.num, .int .i64 r.peer, .int .i64 r.srv, .int .i64 r.off, .int .i64 r.red, .int .i64 r.size, .int .i64 r.how, .slice sa ns sc, .slice da nd dc]] V1 fun e w' => e = .returned (.int .i64 E0) ∧ ∃ z', z'.x = X ∧ On w z' (T.app r) (k + 1) (.slice ea en ec) (.slice ca cn cc) E Fc w' ∧ w'.heap[x]? = some (.cells #[.int .i64 T.id, .int .i64 T.boots, .int .i64 T.next, .slice ao no co, .slice ai ni ci, .slice at9 nt ct] 58)) := by
        have hkl2 := HH.out.2
        have ha := apply_at hOn1.tn.tw hOn1.tn.ok (HH.out.1.below hOn1.tn.low hkl2) r sa da sc dc (HR.out.2.2.1.below hOn1.tn.low) HR.out.2.2.2.1 (fun h1 y hy e => by have e1 := hOn1.tn.new _ e; have e2 := lies_lt HR.out.2.2.1.lie h1 y hy; omega)
        rw [HR.out.2.2.2.2.1, HR.out.2.2.2.2.2, show tP z = .pointer (some ⟨X, 0, none⟩) from by rw [← HO.out.1]] at ha
        refine ha.mono fun e w' q => ?_
        obtain ⟨q1, z', q2, q3⟩ := q
        refine ⟨by rw [← hE0]; exact q1, z', q3.x.trans HO.out.1, hOn1.up q2 q3 (app_ok hOn1.tn.ok HR.out.1), (q3.k.block x (Array.getElem?_eq_some_iff.1 hbx).1 (fun hz => ?_)).trans hbx⟩
        have := HO.out.2.1.tn.tw.lt x hz
        omega
      have HE0 : Hid (T.can r = E0) := hE0
      obtain ⟨c0, c1, c2, c3, c4, c5, c6, c7, c8, c9, c10⟩ := HCl.out V1 hOn1.tn.low
      clear hV1 hx hbx hb51 hOn1 hxnew hE0
      by_cases hz : E0 = 0
      · have hz' : (E0 != 0) = false := by simp [hz]
        have HZ : Hid (E0 = 0) := hz
        clear hz
        go_upto_region 12 with (go_at_call 19; refine HA.out.mono ?_; rintro e w2 ⟨rfl, z2, hz2, hq, hbx⟩; have HQ : Hid (z2.x = X ∧ On w z2 (T.app r) (k + 1) (.slice ea en ec) (.slice ca cn cc) E Fc w2 ∧ w2.heap[x]? = some (.cells #[.int .i64 T.id, .int .i64 T.boots, .int .i64 T.next, .slice ao no co, .slice ai ni ci, .slice at9 nt ct] 58)) := ⟨hz2, hq, hbx⟩; clear hz2 hq hbx)
        clear c0 c1 c2 c3 c4 c5 c6 c7 c8 c9 c10 HA
        obtain ⟨T2, hT2⟩ : ∃ T2, T.app r = T2 := ⟨_, rfl⟩
        have HT2 : Hid (T.then' r = T2 ∧ mayB6 r = true ∧ T.folw r = true ∧ T.Ok) := by
          have hz9 : T.can r = 0 := by rw [HE0.out, HZ.out]
          obtain ⟨q1, q2, q3⟩ := can_zero hz9
          exact ⟨by rw [← app_then hz9]; exact hT2, q1, q2, HO.out.2.1.tn.ok⟩
        rw [hT2] at HQ
        clear hT2
        have HSt : Hid (Calls Tryz.prog 26 #[.pointer (some ⟨X, 0, none⟩)] w2 (StP T2 w2)) := by
          have hf2 : T2.Few 1048576 := HQ.out.2.1.few.mono (by have := HO.out.2.2.2.2; omega)
          have h := state_any HQ.out.2.1.tn.tw HQ.out.2.1.tn.ok (few_st hf2).1 (few_st hf2).2.1 (few_st hf2).2.2
          rw [show tP z2 = .pointer (some ⟨X, 0, none⟩) from by rw [← HQ.out.1]] at h
          exact h
        go_upto_region 14 with (go_at_call 26; refine HSt.out.mono ?_; rintro e w6 ⟨vo, vi, vt, P2, Q2, R2, rfl, e1, e2, e3, st, b5⟩; obtain ⟨bo, mo, do9, bi, mi, di, bt, mt, dt, rfl, rfl, rfl⟩ := state_b st; have H6 : Hid (P2.map Prod.fst = T2.ex ∧ Q2.map Prod.fst = T2.im ∧ R2.map Prod.fst = T2.tb ∧ StR w2.heap.size (.slice bo mo do9) (.slice bi mi di) (.slice bt mt dt) P2 Q2 R2 w6 ∧ Below w2.heap.size w2 w6) := ⟨e1, e2, e3, st, b5⟩; clear e1 e2 e3 st b5)
        clear HSt
        obtain ⟨y, hy⟩ : ∃ y, w6.heap.size = y := ⟨_, rfl⟩
        obtain ⟨V6, hV6⟩ : ∃ V6, w6.alloc (.cells #[.int .i64 T2.id, .int .i64 T2.boots, .int .i64 T2.next, .slice bo mo do9, .slice bi mi di, .slice bt mt dt] 58) = V6 := ⟨_, rfl⟩
        rw [hV6, hy]
        have HV6 : Hid (V6.heap[y]? = some (.cells #[.int .i64 T2.id, .int .i64 T2.boots, .int .i64 T2.next, .slice bo mo do9, .slice bi mi di, .slice bt mt dt] 58) ∧ Below w6.heap.size w6 V6) := ⟨by rw [← hV6, ← hy]; exact heap_alloc_new' w6 _, by rw [← hV6]; exact (Below.refl _ _).alloc (Nat.le_refl _) _⟩
        clear hV6 hy
        have HB6 : Hid (Below w2.heap.size w2 V6) := H6.out.2.2.2.2.trans (HV6.out.2.mono H6.out.2.2.2.2.size)
        have HTg : Hid (Calls Tryz.prog 29 #[.agg #[.int .i64 T2.id, .int .i64 T2.boots, .int .i64 T2.next, .slice bo mo do9, .slice bi mi di, .slice bt mt dt]] V6 fun e w' => e = .returned (.bool true) ∧ Below V6.heap.size V6 w') := together_any HQ.out.2.1.tn.ok (HQ.out.2.1.few.mono (by have := HO.out.2.2.2.2; omega)) (H6.out.2.2.2.1.below HV6.out.2) H6.out.1 H6.out.2.1 H6.out.2.2.1
        have HCb : Hid (∀ W : World, Below V6.heap.size V6 W → (W.cell? ⟨x, 1, none⟩ = some (.int .i64 T.boots) ∧ W.cell? ⟨x, 2, none⟩ = some (.int .i64 T.next)) ∧ W.cell? ⟨y, 0, none⟩ = some (.int .i64 T2.id) ∧ W.cell? ⟨y, 1, none⟩ = some (.int .i64 T2.boots) ∧ W.cell? ⟨y, 2, none⟩ = some (.int .i64 T2.next) ∧ W.cell? ⟨y, 3, none⟩ = some (.slice bo mo do9) ∧ W.cell? ⟨y, 4, none⟩ = some (.slice bi mi di) ∧ W.cell? ⟨y, 5, none⟩ = some (.slice bt mt dt)) := fun W hW => by
          have g2 := (hW.block y (Array.getElem?_eq_some_iff.1 HV6.out.1).1).trans HV6.out.1
          have g1 := ((HB6.out.trans (hW.mono HB6.out.size)).block x (Array.getElem?_eq_some_iff.1 HQ.out.2.2).1).trans HQ.out.2.2
          refine ⟨⟨?_, ?_⟩, ?_, ?_, ?_, ?_, ?_, ?_⟩ <;> first | exact (cell_of_row _ _ _ _ _ _ g1).trans rfl | exact (cell_of_row _ _ _ _ _ _ g2).trans rfl
        obtain ⟨_, b0, b1, b2, b3, b4, b5⟩ := HCb.out V6 (Below.refl _ _)
        go_upto_region 15 with (go_at_call 29; refine HTg.out.mono ?_; rintro e w7 ⟨rfl, b8⟩; have HB7 : Hid (Below V6.heap.size V6 w7) := b8; clear b8)
        clear HTg b0 b1 b2 b3 b4 b5
        obtain ⟨⟨a1, a2⟩, b0, b1, b2, _, _, _⟩ := HCb.out w7 HB7.out
        have HOn7 : Hid (On w z2 T2 (k + 1) (.slice ea en ec) (.slice ca cn cc) E Fc w7) := HQ.out.2.1.below (HB6.out.trans (HB7.out.mono HB6.out.size))
        have hnum := num_then HT2.out.2.2.1
        rw [HT2.out.1] at hnum
        have hbo := bt_le HO.out.2.1.tn.ok
        obtain ⟨hn1, hn2⟩ := hnum
        obtain ⟨bb, hbb⟩ : ∃ bb, T.boots = bb := ⟨_, rfl⟩
        obtain ⟨b9, hb9⟩ : ∃ b9, T2.boots = b9 := ⟨_, rfl⟩
        rw [hbb] at a1 hn2 hbo
        rw [hb9] at b1 hn2
        have hnx : ¬ T2.next < T.next := by omega
        have HNm : Hid (b9 = bb ∨ bb = 0 ∨ b9 = bb + 1) := hn2
        have wb : IntKind.i64.wrap (bb + 1) = bb + 1 := by rw [IntKind.wrap_i64]; omega
        clear hn1 hn2 hbo hbb hb9
        go_cut [72] from 44 to 72 (fun q wx => q = .bool false ∧ Hid (wx = w7))
        case first =>
          by_cases q1 : b9 = bb
          · subst q1
            go_wp2_with fail
            go_meet
            exact ⟨rfl, rfl⟩
          · by_cases q2 : bb = 0
            · subst q2
              go_wp2_with fail
              go_meet
              exact ⟨rfl, rfl⟩
            · have q3 : b9 = bb + 1 := by have := HNm.out; omega
              subst q3
              go_wp2_with fail
              go_meet
              exact ⟨rfl, rfl⟩
        case rest =>
          obtain ⟨rfl, HW⟩ := hcut
          rw [HW.out]
          clear HW a1 a2 b0 b1 b2 HNm wb hnx HCb
          obtain ⟨b3, hb3⟩ : ∃ b3 : Bool, decide (r.kind = 7 ∨ r.kind = 8 ∨ r.kind = 12) = b3 := ⟨_, rfl⟩
          have HB3 : Hid (decide (r.kind = 7 ∨ r.kind = 8 ∨ r.kind = 12) = b3) := hb3
          obtain ⟨kd, hkd⟩ : ∃ kd, r.kind = kd := ⟨_, rfl⟩
          have HKd : Hid (r.kind = kd) := hkd
          obtain ⟨c0, c1, c2, c3, c4, c5, c6, c7, c8, c9, c10⟩ := HCl.out w7 HOn7.out.tn.low
          rw [hkd] at c0
          clear hb3 hkd
          have HFE : Hid (∀ s, T.fin s = true → T2.fin s = true) := fun s hs => by rw [← HT2.out.1]; exact fin_then HT2.out.2.2.2 (may_r HT2.out.2.1) HT2.out.2.2.1 hs
          have HFC : Hid (∀ s, T.closed s = true → T2.closed s = true) := fun s hs => by rw [← HT2.out.1]; exact closed_then HT2.out.2.2.2 (may_r HT2.out.2.1) HT2.out.2.2.1 hs
          go_upto_region 17 with fail
          go_cut [94] from 73 to 94 (fun q wx => q = .bool b3 ∧ Hid (wx = w7))
          case first =>
            by_cases k7 : kd = 7
            · subst k7
              go_wp2_with fail
              go_meet
              exact ⟨by rw [← HB3.out, HKd.out]; rfl, rfl⟩
            · by_cases k12 : kd = 12
              · subst k12
                go_wp2_with fail
                go_meet
                exact ⟨by rw [← HB3.out, HKd.out]; rfl, rfl⟩
              · by_cases k8 : kd = 8
                · subst k8
                  go_wp2_with fail
                  go_meet
                  exact ⟨by rw [← HB3.out, HKd.out]; rfl, rfl⟩
                · have HNo : Hid (¬ (kd = 7 ∨ kd = 8 ∨ kd = 12)) := by show ¬ (kd = 7 ∨ kd = 8 ∨ kd = 12); omega
                  go_wp2_with fail
                  go_meet
                  exact ⟨by rw [← HB3.out, HKd.out, decide_eq_false HNo.out]; have := HNo.out; simp; omega, rfl⟩
          case rest =>
          obtain ⟨rfl, HW⟩ := hcut
          rw [HW.out]
          clear HW c0 c1 c2 c3 c4 c5 c6 c7 c8 c9 c10
          go_upto_if 94 with fail
          go_cut [5, 12] from 94 to 118 (fun qe q12 wx => ∃ be ne ce, qe = .slice be ne ce ∧ Hid (∃ E2 : List Ss, On w z2 T2 (k + 1) (.slice be ne ce) (.slice ca cn cc) E2 Fc wx ∧ (∀ s ∈ E2, T2.fin s = true ∧ sW s)))
          case first =>
            cases b3
            · have HRel : Hid (∃ E2 : List Ss, On w z2 T2 (k + 1) (.slice ea en ec) (.slice ca cn cc) E2 Fc w7 ∧ (∀ s ∈ E2, T2.fin s = true ∧ sW s)) := ⟨E, HOn7.out, fun s hs => ⟨HFE.out s (HO.out.2.2.1 s hs).1, (HO.out.2.2.1 s hs).2⟩⟩
              go_wp2_with fail
              go_meet
              exact ⟨_, _, _, rfl, HRel⟩
            · have HK3 : Hid (r.kind = 7 ∨ r.kind = 8 ∨ r.kind = 12) := by show r.kind = 7 ∨ r.kind = 8 ∨ r.kind = 12; exact of_decide_eq_true HB3.out
              have HNf : Hid (T.fin (r.org, r.num) = false) := fin_no HT2.out.2.2.1 HK3.out
              have HEl : Hid (en = E.length ∧ en ≤ 1048576) := ⟨rr_len2 HOn7.out.re, by have a := rr_len2 HOn7.out.re; have b := HO.out.2.1.le; have c := HO.out.2.2.2.2.2; omega⟩
              have hen : en ≤ 1048576 := HEl.out.2
              go_upto_region 19 with fail
              go_loopw [12] (fun q wr => ∃ m : Nat, q = .int .i64 m ∧ Hid (m ≤ en ∧ ∃ nd, wr = w7.drewN nd)) (fun q _ => en - (intOf q).toNat)
              case atStart => exact ⟨0, rfl, Nat.zero_le _, 0, rfl⟩
              case round =>
                obtain ⟨m, rfl, hh⟩ := hrel
                have HMm : Hid (m ≤ en ∧ Below w7.heap.size w7 wr ∧ ∃ nd, wr = w7.drewN nd) := by
                  obtain ⟨h1, nd, h2⟩ := hh.out
                  exact ⟨h1, by rw [h2]; exact below_dr nd, nd, h2⟩
                clear hh
                have hO2 := HOn7.out.below HMm.out.2.1
                obtain ⟨c0, c1, c2, c3, c4, c5, c6, c7, c8, c9, c10⟩ := HCl.out wr hO2.tn.low
                by_cases hme : m < en
                · have hme' : (m : Int) < (en : Int) := by omega
                  have h0m : 0 ≤ (m : Int) := by omega
                  obtain ⟨s, hs⟩ : ∃ s, E[m]? = some s := ⟨E[m]'(by have := HEl.out.1; omega), List.getElem?_eq_getElem _⟩
                  obtain ⟨ge, e7, p0, p1⟩ := ky_cells hO2.re hs
                  have hsE := HO.out.2.2.1 s (List.mem_of_getElem? hs)
                  have hne : s ≠ (r.org, r.num) := fun e => by rw [e, HNf.out] at hsE; cases hsE.1
                  have heq : ∀ W, (binOp .eql 31 (.agg #[.int .i64 s.1, .int .i64 s.2]) (.agg #[.int .i64 r.org, .int .i64 r.num])).run Tryz.prog W = .ok (.bool false) W := fun W => by
                    have h := eql_s (x := s) (y := (r.org, r.num)) hsE.2 HR.out.2.1 W
                    rw [decide_eq_false hne] at h
                    exact h
                  have hgd := eqGuardS
                  subst e7
                  clear hO2 hs hsE hne
                  go_wp2_with fail
                  go_quiet (fail)
                  go_wp2
                  go_roundw
                  case rel => exact ⟨m + 1, by go_num, by omega, by obtain ⟨nd, e⟩ := HMm.out.2.2; rw [e, World.drewN_drewN]; exact ⟨_, rfl⟩⟩
                  case measure => simp [intOf]; omega
                · have hme' : ¬ (m : Int) < (en : Int) := by omega
                  have hO3 := hO2.below (W' := wr.alloc (.cells #[.int .i64 r.org, .int .i64 r.num] 31)) ((Below.refl _ _).alloc (Nat.le_refl _) _)
                  have hrow : (wr.alloc (.cells #[.int .i64 r.org, .int .i64 r.num] 31)).ownsRow w.heap.size 31 2 (.slice ea en ec) E.length (E.flatMap ssc) := hO3.re
                  have hsrc : (wr.alloc (.cells #[.int .i64 r.org, .int .i64 r.num] 31)).ownsRow 0 31 2 (.slice (some ⟨wr.heap.size, 0, none⟩) 1 1) 1 [.int .i64 r.org, .int .i64 r.num] := ⟨rfl, .inr ⟨_, 1, _, rfl, Nat.zero_le _, heap_alloc_new' wr _, Nat.le_refl _, by unfold maxLen; omega, rfl, rfl⟩⟩
                  have ho : ∀ u ∈ ([.int .i64 r.org, .int .i64 r.num] : List Value), u.oneCell' = true := fun u hu => by simp only [List.mem_cons, List.not_mem_nil, or_false] at hu; rcases hu with rfl | rfl <;> rfl
                  have hb1 : E.length + 1 ≤ maxLen := by have := HEl.out; unfold maxLen; omega
                  have hb2 : (E.length + 1) * 16 ≤ 140737488355328 := by have := HEl.out; omega
                  have hwl := hO3.tn.low.size
                  have HO3 : Hid (On w z2 T2 (k + 1) (.slice ea en ec) (.slice ca cn cc) E Fc (wr.alloc (.cells #[.int .i64 r.org, .int .i64 r.num] 31))) := hO3
                  clear hO2 hO3
                  go_wp2_with (at_builtin; refine wpl_row8 _ rfl _ _ 65 rfl w.heap.size 31 i0 _ 2 16 Tryz.underlying65 hi hz0 hz1 hz2 rfl (by decide) _ _ _ rfl hrow _ 1 _ rfl hsrc ho hb1 hb2 hwl ?_
                               intro v6 w6 hown6 hgrow6 hat6
                               have HP : Hid (On w z2 T2 (k + 1) v6 (.slice ca cn cc) (E ++ [(r.org, r.num)]) Fc w6) := HO3.out.pushE hown6 hgrow6 hat6 (by have := HO.out.2.1.le; omega)
                               obtain ⟨be, ne, ce, rfl⟩ := own_sl8 hown6
                               clear hown6 hgrow6 hat6 hrow hsrc ho hb1 hb2 hwl)
                  go_meet
                  exact ⟨_, _, _, rfl, E ++ [(r.org, r.num)], HP.out, fun s hs => by
                    rcases List.mem_append.mp hs with hs | hs
                    · exact ⟨HFE.out s (HO.out.2.2.1 s hs).1, (HO.out.2.2.1 s hs).2⟩
                    · simp only [List.mem_singleton] at hs
                      subst hs
                      exact ⟨by rw [← HT2.out.1]; exact fin_new HT2.out.2.2.2 HT2.out.2.2.1 HK3.out, HR.out.2.1⟩⟩
          case rest =>
          obtain ⟨be, ne, ce, rfl, HE2⟩ := hcut
          obtain ⟨w8, rfl⟩ : ∃ W4, W4 = wc := ⟨_, rfl⟩
          have HCn : Hid (cn = Fc.length ∧ cn ≤ 1048576) := ⟨rr_len2 HOn7.out.rc, by have a := rr_len2 HOn7.out.rc; have b := HO.out.2.1.lc; have c := HO.out.2.2.2.2.2; omega⟩
          have hcn : cn ≤ 1048576 := HCn.out.2
          have HCl2 : Hid (∀ (W : World) (s1 s2 : Int), Below w8.heap.size w8 W → sW (s1, s2) → Calls Tryz.prog 15 #[.pointer (some ⟨X, 0, none⟩), .agg #[.int .i64 s1, .int .i64 s2]] W fun e w' => e = .returned (.bool (T2.closed (s1, s2))) ∧ Below W.heap.size W w') := fun W s1 s2 hW hs => by
            obtain ⟨E2, h1, h2⟩ := HE2.out
            have h := closed_any (h1.tn.tw.below hW) h1.tn.ok s1 s2 hs
            rw [show tP z2 = .pointer (some ⟨X, 0, none⟩) from by rw [← HQ.out.1]] at h
            exact h
          clear HOn7 HB3 HKd HFE
          go_upto_region 25 with fail
          go_loopw [13] (fun q wr => ∃ m : Nat, q = .int .i64 m ∧ Hid (m ≤ cn ∧ Below w8.heap.size w8 wr)) (fun q _ => cn - (intOf q).toNat)
          case atStart => exact ⟨0, rfl, Nat.zero_le _, Below.refl _ _⟩
          case round =>
            obtain ⟨m, rfl, hh⟩ := hrel
            have HMm : Hid (m ≤ cn ∧ Below w8.heap.size w8 wr) := hh.out
            clear hh
            by_cases hme : m < cn
            · have hme' : (m : Int) < (cn : Int) := by omega
              have h0m : 0 ≤ (m : Int) := by omega
              obtain ⟨s, hs⟩ : ∃ s, Fc[m]? = some s := ⟨Fc[m]'(by have := HCn.out.1; omega), List.getElem?_eq_getElem _⟩
              have hrc : RoS wr w.heap.size (.slice ca cn cc) Fc := by obtain ⟨E2, h1, _⟩ := HE2.out; exact (h1.below HMm.out.2).rc
              obtain ⟨gc, e7, p0, p1⟩ := ky_cells hrc hs
              have hsC := HO.out.2.2.2.1 s (List.mem_of_getElem? hs)
              have HCs : Hid (Calls Tryz.prog 15 #[.pointer (some ⟨X, 0, none⟩), .agg #[.int .i64 s.1, .int .i64 s.2]] wr fun e w' => e = .returned (.bool true) ∧ Below wr.heap.size wr w') := by
                have h := HCl2.out wr s.1 s.2 HMm.out.2 hsC.2
                rw [HFC.out s hsC.1] at h
                exact h
              subst e7
              clear hrc hs hsC
              go_upto_region 28 with (go_at_call 15; refine HCs.out.mono ?_; rintro e w9 ⟨rfl, hb⟩; have HB9 : Hid (Below w8.heap.size w8 w9) := HMm.out.2.trans (hb.mono HMm.out.2.size); clear hb)
              clear p0 p1
              go_wp2
              go_roundw
              case rel => exact ⟨m + 1, by go_num, by omega, HB9.out⟩
              case measure => simp [intOf]; omega
            · have hme' : ¬ (m : Int) < (cn : Int) := by omega
              have hlow : Below w.heap.size w wr := by obtain ⟨E2, h1, _⟩ := HE2.out; exact (h1.below HMm.out.2).tn.low
              obtain ⟨c0, c1, c2, c3, c4, c5, c6, c7, c8, c9, c10⟩ := HCl.out wr hlow
              obtain ⟨D, hD⟩ : ∃ D, T2.closed (r.org, r.num) = D := ⟨_, rfl⟩
              have HCs : Hid (Calls Tryz.prog 15 #[.pointer (some ⟨X, 0, none⟩), .agg #[.int .i64 r.org, .int .i64 r.num]] wr fun e w' => e = .returned (.bool D) ∧ Below wr.heap.size wr w') := by
                have h := HCl2.out wr r.org r.num HMm.out.2 HR.out.2.1
                rw [hD] at h
                exact h
              have HD : Hid (T2.closed (r.org, r.num) = D) := hD
              clear hD hlow
              go_upto_region 31 with (go_at_call 15; refine HCs.out.mono ?_; rintro e w9 ⟨rfl, hb⟩; have HB9 : Hid (Below w8.heap.size w8 w9) := HMm.out.2.trans (hb.mono HMm.out.2.size); clear hb)
              clear c0 c1 c2 c3 c4 c5 c6 c7 c8 c9 c10
              have HO9 : Hid (∃ E2, On w z2 T2 (k + 1) (.slice be ne ce) (.slice ca cn cc) E2 Fc w9 ∧ (∀ s ∈ E2, T2.fin s = true ∧ sW s)) := by obtain ⟨E2, h1, h2⟩ := HE2.out; exact ⟨E2, h1.below HB9.out, h2⟩
              have HFc : Hid (∀ s ∈ Fc, T2.closed s = true ∧ sW s) := fun s hs => ⟨HFC.out s (HO.out.2.2.2.1 s hs).1, (HO.out.2.2.2.1 s hs).2⟩
              cases D
              · have HRel : Hid (k + 1 ≤ n ∧ OnI w X (k + 1) (.slice be ne ce) (.slice ca cn cc) w9) := by obtain ⟨E2, h1, h2⟩ := HO9.out; exact ⟨HO.out.2.2.2.2.1, z2, T2, E2, Fc, HQ.out.1, h1, h2, HFc.out⟩
                clear HCs HCl2 HE2 HMm HO9
                go_wp2
                go_roundw
                case rel => exact ⟨k + 1, by go_num, HRel.out⟩
                case measure => simp [intOf]; omega
              · obtain ⟨E2, h1, h2⟩ := HO9.out
                obtain ⟨c0, c1, c2, c3, c4, c5, c6, c7, c8, c9, c10⟩ := HCl.out w9 h1.tn.low
                have hO3 := h1.below (W' := w9.alloc (.cells #[.int .i64 r.org, .int .i64 r.num] 31)) ((Below.refl _ _).alloc (Nat.le_refl _) _)
                have hrow : (w9.alloc (.cells #[.int .i64 r.org, .int .i64 r.num] 31)).ownsRow w.heap.size 31 2 (.slice ca cn cc) Fc.length (Fc.flatMap ssc) := hO3.rc
                have hsrc : (w9.alloc (.cells #[.int .i64 r.org, .int .i64 r.num] 31)).ownsRow 0 31 2 (.slice (some ⟨w9.heap.size, 0, none⟩) 1 1) 1 [.int .i64 r.org, .int .i64 r.num] := ⟨rfl, .inr ⟨_, 1, _, rfl, Nat.zero_le _, heap_alloc_new' w9 _, Nat.le_refl _, by unfold maxLen; omega, rfl, rfl⟩⟩
                have ho : ∀ u ∈ ([.int .i64 r.org, .int .i64 r.num] : List Value), u.oneCell' = true := fun u hu => by simp only [List.mem_cons, List.not_mem_nil, or_false] at hu; rcases hu with rfl | rfl <;> rfl
                have hb1 : Fc.length + 1 ≤ maxLen := by have := HCn.out; unfold maxLen; omega
                have hb2 : (Fc.length + 1) * 16 ≤ 140737488355328 := by have := HCn.out; omega
                have hwl := hO3.tn.low.size
                have HO3 : Hid (On w z2 T2 (k + 1) (.slice be ne ce) (.slice ca cn cc) E2 Fc (w9.alloc (.cells #[.int .i64 r.org, .int .i64 r.num] 31)) ∧ (∀ s ∈ E2, T2.fin s = true ∧ sW s)) := ⟨hO3, h2⟩
                clear h1 h2 hO3 HO9
                go_upto_region 9 with (at_builtin; refine wpl_row8 _ rfl _ _ 65 rfl w.heap.size 31 i0 _ 2 16 Tryz.underlying65 hi hz0 hz1 hz2 rfl (by decide) _ _ _ rfl hrow _ 1 _ rfl hsrc ho hb1 hb2 hwl ?_
                                       intro v6 w6 hown6 hgrow6 hat6
                                       have HP : Hid (On w z2 T2 (k + 1) (.slice be ne ce) v6 E2 (Fc ++ [(r.org, r.num)]) w6) := HO3.out.1.pushC hown6 hgrow6 hat6 (by have := HO.out.2.1.lc; omega)
                                       obtain ⟨b6, n6, z6, rfl⟩ := own_sl8 hown6
                                       clear hown6 hgrow6 hat6 hrow hsrc ho hb1 hb2 hwl)
                have HRel : Hid (k + 1 ≤ n ∧ OnI w X (k + 1) (.slice be ne ce) (.slice b6 n6 z6) w6) := ⟨HO.out.2.2.2.2.1, z2, T2, E2, Fc ++ [(r.org, r.num)], HQ.out.1, HP.out, HO3.out.2, fun s hs => by
                  rcases List.mem_append.mp hs with hs | hs
                  · exact HFc.out s hs
                  · simp only [List.mem_singleton] at hs
                    subst hs
                    exact ⟨HD.out, HR.out.2.1⟩⟩
                clear HCs HCl2 HE2 HMm HP HO3 c0 c1 c2 c3 c4 c5 c6 c7 c8 c9 c10
                go_wp2
                go_roundw
                case rel => exact ⟨k + 1, by go_num, HRel.out⟩
                case measure => simp [intOf]; omega
      · have hz' : (E0 != 0) = true := by simp [hz]
        have HZ : Hid (¬ E0 = 0) := hz
        go_upto_region 12 with (go_at_call 19; refine HA.out.mono ?_; rintro e w2 ⟨rfl, z2, hz2, hq, hbx⟩; have HQ : Hid (z2.x = X ∧ On w z2 (T.app r) (k + 1) (.slice ea en ec) (.slice ca cn cc) E Fc w2) := ⟨hz2, hq⟩; clear hz2 hq hbx)
        have HRel : Hid (k + 1 ≤ n ∧ OnI w X (k + 1) (.slice ea en ec) (.slice ca cn cc) w2) := by
          have e9 := app_same (T := T) (r := r) (by rw [HE0.out]; exact HZ.out)
          have hq := HQ.out.2
          rw [e9] at hq
          exact ⟨HO.out.2.2.2.2.1, z2, T, E, Fc, HQ.out.1, hq, HO.out.2.2.1, HO.out.2.2.2.1⟩
        clear HA HQ c0 c1 c2 c3 c4 c5 c6 c7 c8 c9 c10 HO HR HCl HE0 H5
        go_wp2
        go_roundw
        case rel => exact ⟨k + 1, by go_num, HRel.out⟩
        case measure => simp [intOf]; omega
    · have HB : Hid (Below w.heap.size w wr) := hOn.tn.low
      have hlt' : ¬ (k : Int) < (n : Int) := by omega
      clear hzx hOn hE hC hk
      go_wp2
      go_ret
      exact ⟨rfl, HB.out⟩
end Go.Proofs.YtillgoegiplmkaaGreatDoor.B
