import Derived.Test.YtillgoegiplmkaaGreatDoorTbCa
import Derived.Test.YtillgoegiplmkaaGreatDoorTbSh
import Derived.Deep.RegionHeld3
import Derived.Deep.CutBlock
import Derived.Test.YtillgoegiplmkaaGreatDoorJoi
import Derived.Deep.RegionLaw
namespace Go.Proofs.YtillgoegiplmkaaGreatDoor.B
open C
open Go.RowKit Go.Maps Go.Shelf Go.Sort
set_option linter.unusedVariables false
set_option linter.unusedSimpArgs false

/-! ## An order's one sorted list -/
theorem sorted_keys {κ : Type} {lt : κ → κ → Bool} (o : Ord lt) {L ys : List κ} (hL : L.Pairwise (fun a b => lt a b = true)) (hp : ys.Perm L) : ys.mergeSort (fun x y => !lt y x) = L := by
  refine List.Perm.eq_of_pairwise (le := fun a b => (!lt b a) = true) (fun a b _ _ h1 h2 => ?_) (List.pairwise_mergeSort (fun a b c h1 h2 => ?_) (fun a b => ?_) ys) (hL.imp (fun {a b} h => ?_)) ((List.mergeSort_perm _ _).trans hp)
  · simp only [Bool.not_eq_true'] at h1 h2
    exact Classical.byContradiction fun hn => by have := o.tot h2 hn; rw [h1] at this; cases this
  · simp only [Bool.not_eq_true'] at h1 h2 ⊢
    cases hca : lt c a with
    | false => rfl
    | true =>
      have hac : a ≠ c := fun e => by subst e; rw [o.irr] at hca; cases hca
      by_cases hbc : b = c
      · subst hbc; rw [h1] at hca; cases hca
      · have := o.tot h2 (fun e => hbc e.symm)
        have := o.tr this hca
        rw [h1] at this; cases this
  · cases h1 : lt b a with
    | false => rfl
    | true =>
      cases h2 : lt a b with
      | false => rfl
      | true => have := o.tr h1 h2; rw [o.irr] at this; cases this
  · simp only [Bool.not_eq_true']
    cases h1 : lt b a with
    | false => rfl
    | true => have := o.tr h h1; rw [o.irr] at this; cases this
def cmpS (x y : Ss) : Int := if Lib.compareInt x.1 y.1 ≠ 0 then Lib.compareInt x.1 y.1 else Lib.compareInt x.2 y.2
theorem lt_cmpS (x y : Ss) : ltOf cmpS x y = ltS x y := by
  unfold ltOf cmpS ltS Lib.compareInt
  rw [decide_eq_decide]
  repeat' split
  all_goals omega
theorem swo_cmpS : SWO (ltOf cmpS) where
  irrefl x := by rw [lt_cmpS]; exact ordS.irr x
  trans x y z h1 h2 := by rw [lt_cmpS] at *; exact ordS.tr h1 h2
  ntrans x y z h1 h2 := by
    rw [lt_cmpS] at *
    unfold ltS at *
    simp only [decide_eq_false_iff_not] at *
    omega
theorem tot_cmpS (x y : Ss) (h1 : ltOf cmpS x y = false) (h2 : ltOf cmpS y x = false) : x = y := by
  rw [lt_cmpS] at *
  exact Classical.byContradiction fun hn => by have := ordS.tot h1 hn; rw [h2] at this; cases this

/-! ## cmp.Compare, cmp.Or -/
set_option maxHeartbeats 1000000 in
theorem isNaN_any (x : Int) (w : World) : Calls Tryz.prog 147 #[.int .i64 x] w fun e w' => e = .returned (.bool false) ∧ w' = w := by
  go_enter Tryz.func147, Tryz.ntmps147
  go_wp2
  go_ret
  exact ⟨by simp, rfl⟩
set_option maxHeartbeats 1000000 in
theorem cmpr_any (x y : Int) (w : World) : Calls Tryz.prog 120 #[.int .i64 x, .int .i64 y] w fun e w' => e = .returned (.int .i64 (Lib.compareInt x y)) ∧ w' = w := by
  have HN : Hid (∀ x w, Calls Tryz.prog 147 #[.int .i64 x] w fun e w' => e = .returned (.bool false) ∧ w' = w) := isNaN_any
  have HC : Hid (Lib.compareInt x y = if x < y then -1 else if y < x then 1 else 0) := rfl
  rw [HC.out]
  by_cases h1 : x < y
  · go_enter Tryz.func120, Tryz.ntmps120
    go_wp2_with (go_at_call 147; refine (HN.out _ _).mono ?_; rintro e w' ⟨rfl, rfl⟩)
    go_ret
    exact ⟨by simp [h1], rfl⟩
  · by_cases h2 : y < x
    · go_enter Tryz.func120, Tryz.ntmps120
      go_wp2_with (go_at_call 147; refine (HN.out _ _).mono ?_; rintro e w' ⟨rfl, rfl⟩)
      go_ret
      exact ⟨by simp [h1, h2], rfl⟩
    · go_enter Tryz.func120, Tryz.ntmps120
      go_wp2_with (go_at_call 147; refine (HN.out _ _).mono ?_; rintro e w' ⟨rfl, rfl⟩)
      go_ret
      exact ⟨by simp [h1, h2], rfl⟩
set_option maxHeartbeats 4000000 in
theorem or2_any (g : Nat) (a b : Int) (w : World) (c0 : w.cell? ⟨g, 0, none⟩ = some (.int .i64 a)) (c1 : w.cell? ⟨g, 1, none⟩ = some (.int .i64 b)) : Calls Tryz.prog 119 #[.slice (some ⟨g, 0, none⟩) 2 2] w fun e w' => e = .returned (.int .i64 (if a ≠ 0 then a else b)) ∧ w' = w := by
  obtain ⟨R, hR⟩ : ∃ R, (if a ≠ 0 then a else b) = R := ⟨_, rfl⟩
  have HR : Hid ((if a ≠ 0 then a else b) = R) := hR
  rw [hR]
  have HC : Hid (w.cell? ⟨g, 0, none⟩ = some (.int .i64 a) ∧ w.cell? ⟨g, 1, none⟩ = some (.int .i64 b)) := ⟨c0, c1⟩
  clear hR c0 c1
  go_enter Tryz.func119, Tryz.ntmps119
  go_wp2_with fail
  go_loopw [8] (fun i wr => ∃ k : Int, i = .int .i64 k ∧ Hid (wr = w ∧ ((k = 0) ∨ (k = 1 ∧ a = 0) ∨ (k = 2 ∧ a = 0 ∧ b = 0)))) (fun i _ => 2 - (intOf i).toNat)
  case atStart => exact ⟨0, rfl, rfl, .inl rfl⟩
  case round =>
    obtain ⟨k, rfl, hh⟩ := hrel
    obtain ⟨hwr, hk⟩ := hh.out
    clear hh
    subst hwr
    rcases hk with rfl | ⟨rfl, h1⟩ | ⟨rfl, h1, h2⟩
    · have d0 := HC.out.1
      by_cases h0 : a = 0
      · have h0' : (a != 0) = false := by simp [h0]
        have HA : Hid (a = 0) := h0
        clear h0
        go_wp2_with fail
        go_roundw
        case rel => refine ⟨1, rfl, ?_⟩; unfold Hid; simp [HA.out]
        case measure => simp [intOf]
      · have h0' : (a != 0) = true := by simp [h0]
        have HV : Hid (a = R) := by have := HR.out; rwa [if_pos h0] at this
        go_wp2
        go_ret
        exact ⟨by rw [HV.out]; rfl, rfl⟩
    · have d0 := HC.out.2
      have HA : Hid (a = 0) := h1
      clear h1
      by_cases h0 : b = 0
      · have h0' : (b != 0) = false := by simp [h0]
        have HB : Hid (b = 0) := h0
        clear h0
        go_wp2_with fail
        go_roundw
        case rel => refine ⟨2, rfl, ?_⟩; unfold Hid; simp [HA.out, HB.out]
        case measure => simp [intOf]
      · have h0' : (b != 0) = true := by simp [h0]
        have HV : Hid (b = R) := by have := HR.out; rwa [if_neg (by simp [HA.out])] at this
        go_wp2
        go_ret
        exact ⟨by rw [HV.out]; rfl, rfl⟩
    · have HV : Hid (0 = R) := by have := HR.out; rwa [if_neg (by simp [h1]), h2] at this
      clear h1 h2
      go_wp2
      go_ret
      exact ⟨by rw [HV.out]; rfl, rfl⟩

set_option maxRecDepth 8000 in
set_option maxHeartbeats 4000000 in
theorem cloX_any (x y : Ss) (W : World) : Calls Tryz.prog 118 #[.agg #[.int .i64 x.1, .int .i64 x.2], .agg #[.int .i64 y.1, .int .i64 y.2]] W fun e w' => e = .returned (.int .i64 (cmpS x y)) ∧ ∃ q os', w' = grow (W.drewN q) os' := by
  obtain ⟨x1, x2⟩ := x
  obtain ⟨y1, y2⟩ := y
  obtain ⟨c1, hc1⟩ : ∃ c, Lib.compareInt x1 y1 = c := ⟨_, rfl⟩
  obtain ⟨c2, hc2⟩ : ∃ c, Lib.compareInt x2 y2 = c := ⟨_, rfl⟩
  obtain ⟨R, hRR⟩ : ∃ R, (if c1 ≠ 0 then c1 else c2) = R := ⟨_, rfl⟩
  have HR : Hid (R = cmpS (x1, x2) (y1, y2)) := by unfold Hid cmpS; rw [← hRR, ← hc1, ← hc2]
  have HC1 : Hid (∀ V, Calls Tryz.prog 120 #[.int .i64 x1, .int .i64 y1] V fun e w' => e = .returned (.int .i64 c1) ∧ w' = V) := by rw [← hc1]; exact fun V => cmpr_any x1 y1 V
  have HC2 : Hid (∀ V, Calls Tryz.prog 120 #[.int .i64 x2, .int .i64 y2] V fun e w' => e = .returned (.int .i64 c2) ∧ w' = V) := by rw [← hc2]; exact fun V => cmpr_any x2 y2 V
  clear hc1 hc2
  obtain ⟨V, hV⟩ : ∃ V, (W.alloc (.cells #[.int .i64 x1, .int .i64 x2] 31)).alloc (.cells #[.int .i64 y1, .int .i64 y2] 31) = V := ⟨_, rfl⟩
  have HV : Hid ((W.alloc (.cells #[.int .i64 x1, .int .i64 x2] 31)).alloc (.cells #[.int .i64 y1, .int .i64 y2] 31) = V) := hV
  have hx : V.heap[W.heap.size]? = some (.cells #[.int .i64 x1, .int .i64 x2] 31) := by rw [← hV]; exact (Below.heap_alloc _ _ _ (by simp)).trans (heap_alloc_new' W _)
  have hy : V.heap[W.heap.size + 1]? = some (.cells #[.int .i64 y1, .int .i64 y2] 31) := by rw [← hV]; have := heap_alloc_new' (W.alloc (.cells #[.int .i64 x1, .int .i64 x2] 31)) (.cells #[.int .i64 y1, .int .i64 y2] 31); rwa [World.size_alloc] at this
  have HS : Hid (∀ U : World, U.heap[W.heap.size]? = V.heap[W.heap.size]? → U.heap[W.heap.size + 1]? = V.heap[W.heap.size + 1]? → U.cell? ⟨W.heap.size, 0, none⟩ = some (.int .i64 x1) ∧ U.cell? ⟨W.heap.size, 1, none⟩ = some (.int .i64 x2) ∧ U.cell? ⟨W.heap.size + 1, 0, none⟩ = some (.int .i64 y1) ∧ U.cell? ⟨W.heap.size + 1, 1, none⟩ = some (.int .i64 y2)) := fun U q1 q2 => ⟨(cell_of_row _ _ _ _ _ _ (q1.trans hx)).trans rfl, (cell_of_row _ _ _ _ _ _ (q1.trans hx)).trans rfl, (cell_of_row _ _ _ _ _ _ (q2.trans hy)).trans rfl, (cell_of_row _ _ _ _ _ _ (q2.trans hy)).trans rfl⟩
  have hsz : V.heap.size = W.heap.size + 2 := by rw [← hV]; simp
  have hA : (V.alloc (.cells #[.int .i64 c1, .int .i64 c2] 3)).drew.heap[V.heap.size]? = some (.cells #[.int .i64 c1, .int .i64 c2] 3) := heap_alloc_new' V _
  have HO : Hid (Calls Tryz.prog 119 #[.slice (some ⟨V.heap.size, 0, none⟩) 2 2] (V.alloc (.cells #[.int .i64 c1, .int .i64 c2] 3)).drew fun e w' => e = .returned (.int .i64 R) ∧ w' = (V.alloc (.cells #[.int .i64 c1, .int .i64 c2] 3)).drew) := by rw [← hRR]; exact or2_any V.heap.size c1 c2 _ ((cell_of_row _ _ _ _ _ _ hA).trans rfl) ((cell_of_row _ _ _ _ _ _ hA).trans rfl)
  have hS0 := HS.out V rfl rfl
  have hS1 := HS.out V.drew rfl rfl
  have hS2 := HS.out (V.alloc (.cells #[.int .i64 c1, .int .i64 c2] 3)).drew (Below.heap_alloc _ _ _ (by omega)) (Below.heap_alloc _ _ _ (by omega))
  have HE : Hid (∃ q os', (V.alloc (.cells #[.int .i64 c1, .int .i64 c2] 3)).drew = grow (W.drewN q) os') := by
    refine ⟨1, #[.cells #[.int .i64 x1, .int .i64 x2] 31, .cells #[.int .i64 y1, .int .i64 y2] 31, .cells #[.int .i64 c1, .int .i64 c2] 3], ?_⟩
    rw [← hV]
    rw [alloc_eq_grow, alloc_eq_grow, alloc_eq_grow, grow_grow, grow_grow]
    rfl
  clear hV hx hy HS hsz hA hRR
  go_enter Tryz.func118, Tryz.ntmps118
  go_upto_region 1 with fail
  rw [HV.out]
  go_region_held3 (fun U => U.cell? ⟨W.heap.size, 0, none⟩ = some (.int .i64 x1) ∧ U.cell? ⟨W.heap.size, 1, none⟩ = some (.int .i64 x2) ∧ U.cell? ⟨W.heap.size + 1, 0, none⟩ = some (.int .i64 y1) ∧ U.cell? ⟨W.heap.size + 1, 1, none⟩ = some (.int .i64 y2)) (first | exact hS0 | exact hS1 | exact hS2)
    (first
      | (go_at_call 120; refine (HC2b.out _).mono ?_; rintro e w1 ⟨rfl, rfl⟩)
      | (go_at_call 120; refine (HC1.out _).mono ?_; rintro e w1 ⟨rfl, rfl⟩; have HC2b := HC2)
      | (go_at_call 119; refine HO.out.mono ?_; rintro e w1 ⟨rfl, rfl⟩))
  all_goals go_wp2
  all_goals go_ret
  all_goals exact ⟨by rw [← HR.out]; rfl, HE.out⟩

set_option maxRecDepth 8000 in
set_option maxHeartbeats 4000000 in
theorem cloI_any (x y : Ss) (W : World) : Calls Tryz.prog 122 #[.agg #[.int .i64 x.1, .int .i64 x.2], .agg #[.int .i64 y.1, .int .i64 y.2]] W fun e w' => e = .returned (.int .i64 (cmpS x y)) ∧ ∃ q os', w' = grow (W.drewN q) os' := by
  obtain ⟨x1, x2⟩ := x
  obtain ⟨y1, y2⟩ := y
  obtain ⟨c1, hc1⟩ : ∃ c, Lib.compareInt x1 y1 = c := ⟨_, rfl⟩
  obtain ⟨c2, hc2⟩ : ∃ c, Lib.compareInt x2 y2 = c := ⟨_, rfl⟩
  obtain ⟨R, hRR⟩ : ∃ R, (if c1 ≠ 0 then c1 else c2) = R := ⟨_, rfl⟩
  have HR : Hid (R = cmpS (x1, x2) (y1, y2)) := by unfold Hid cmpS; rw [← hRR, ← hc1, ← hc2]
  have HC1 : Hid (∀ V, Calls Tryz.prog 120 #[.int .i64 x1, .int .i64 y1] V fun e w' => e = .returned (.int .i64 c1) ∧ w' = V) := by rw [← hc1]; exact fun V => cmpr_any x1 y1 V
  have HC2 : Hid (∀ V, Calls Tryz.prog 120 #[.int .i64 x2, .int .i64 y2] V fun e w' => e = .returned (.int .i64 c2) ∧ w' = V) := by rw [← hc2]; exact fun V => cmpr_any x2 y2 V
  clear hc1 hc2
  obtain ⟨V, hV⟩ : ∃ V, (W.alloc (.cells #[.int .i64 x1, .int .i64 x2] 31)).alloc (.cells #[.int .i64 y1, .int .i64 y2] 31) = V := ⟨_, rfl⟩
  have HV : Hid ((W.alloc (.cells #[.int .i64 x1, .int .i64 x2] 31)).alloc (.cells #[.int .i64 y1, .int .i64 y2] 31) = V) := hV
  have hx : V.heap[W.heap.size]? = some (.cells #[.int .i64 x1, .int .i64 x2] 31) := by rw [← hV]; exact (Below.heap_alloc _ _ _ (by simp)).trans (heap_alloc_new' W _)
  have hy : V.heap[W.heap.size + 1]? = some (.cells #[.int .i64 y1, .int .i64 y2] 31) := by rw [← hV]; have := heap_alloc_new' (W.alloc (.cells #[.int .i64 x1, .int .i64 x2] 31)) (.cells #[.int .i64 y1, .int .i64 y2] 31); rwa [World.size_alloc] at this
  have HS : Hid (∀ U : World, U.heap[W.heap.size]? = V.heap[W.heap.size]? → U.heap[W.heap.size + 1]? = V.heap[W.heap.size + 1]? → U.cell? ⟨W.heap.size, 0, none⟩ = some (.int .i64 x1) ∧ U.cell? ⟨W.heap.size, 1, none⟩ = some (.int .i64 x2) ∧ U.cell? ⟨W.heap.size + 1, 0, none⟩ = some (.int .i64 y1) ∧ U.cell? ⟨W.heap.size + 1, 1, none⟩ = some (.int .i64 y2)) := fun U q1 q2 => ⟨(cell_of_row _ _ _ _ _ _ (q1.trans hx)).trans rfl, (cell_of_row _ _ _ _ _ _ (q1.trans hx)).trans rfl, (cell_of_row _ _ _ _ _ _ (q2.trans hy)).trans rfl, (cell_of_row _ _ _ _ _ _ (q2.trans hy)).trans rfl⟩
  have hsz : V.heap.size = W.heap.size + 2 := by rw [← hV]; simp
  have hA : (V.alloc (.cells #[.int .i64 c1, .int .i64 c2] 3)).drew.heap[V.heap.size]? = some (.cells #[.int .i64 c1, .int .i64 c2] 3) := heap_alloc_new' V _
  have HO : Hid (Calls Tryz.prog 119 #[.slice (some ⟨V.heap.size, 0, none⟩) 2 2] (V.alloc (.cells #[.int .i64 c1, .int .i64 c2] 3)).drew fun e w' => e = .returned (.int .i64 R) ∧ w' = (V.alloc (.cells #[.int .i64 c1, .int .i64 c2] 3)).drew) := by rw [← hRR]; exact or2_any V.heap.size c1 c2 _ ((cell_of_row _ _ _ _ _ _ hA).trans rfl) ((cell_of_row _ _ _ _ _ _ hA).trans rfl)
  have hS0 := HS.out V rfl rfl
  have hS1 := HS.out V.drew rfl rfl
  have hS2 := HS.out (V.alloc (.cells #[.int .i64 c1, .int .i64 c2] 3)).drew (Below.heap_alloc _ _ _ (by omega)) (Below.heap_alloc _ _ _ (by omega))
  have HE : Hid (∃ q os', (V.alloc (.cells #[.int .i64 c1, .int .i64 c2] 3)).drew = grow (W.drewN q) os') := by
    refine ⟨1, #[.cells #[.int .i64 x1, .int .i64 x2] 31, .cells #[.int .i64 y1, .int .i64 y2] 31, .cells #[.int .i64 c1, .int .i64 c2] 3], ?_⟩
    rw [← hV]
    rw [alloc_eq_grow, alloc_eq_grow, alloc_eq_grow, grow_grow, grow_grow]
    rfl
  clear hV hx hy HS hsz hA hRR
  go_enter Tryz.func122, Tryz.ntmps122
  go_upto_region 1 with fail
  rw [HV.out]
  go_region_held3 (fun U => U.cell? ⟨W.heap.size, 0, none⟩ = some (.int .i64 x1) ∧ U.cell? ⟨W.heap.size, 1, none⟩ = some (.int .i64 x2) ∧ U.cell? ⟨W.heap.size + 1, 0, none⟩ = some (.int .i64 y1) ∧ U.cell? ⟨W.heap.size + 1, 1, none⟩ = some (.int .i64 y2)) (first | exact hS0 | exact hS1 | exact hS2)
    (first
      | (go_at_call 120; refine (HC2b.out _).mono ?_; rintro e w1 ⟨rfl, rfl⟩)
      | (go_at_call 120; refine (HC1.out _).mono ?_; rintro e w1 ⟨rfl, rfl⟩; have HC2b := HC2)
      | (go_at_call 119; refine HO.out.mono ?_; rintro e w1 ⟨rfl, rfl⟩))
  all_goals go_wp2
  all_goals go_ret
  all_goals exact ⟨by rw [← HR.out]; rfl, HE.out⟩
end Go.Proofs.YtillgoegiplmkaaGreatDoor.B

namespace Go.Proofs.YtillgoegiplmkaaGreatDoor.B
open C
open Go.RowKit Go.Maps
set_option linter.unusedVariables false
set_option linter.unusedSimpArgs false

/-! ## What a record comes to -/
theorem updX_kl {w w2 : World} {m c : Nat} {E : List Ent} {mt et : TypeId} (hu : Tryz.prog.underlying mt = some (.map 31 et)) (h : Mb w m c E) {k : Ss} (hk : sW k) {v : Value} (hr : (Instr.mapUpdate mt (.map (some m)) (sA k) v).run Tryz.prog w = .ok () w2) : Kl (fun g => g = m) w w2 := by
  by_cases q : ∀ e ∈ E, e.k ≠ k
  · rw [updB0 hu h hk q v] at hr
    cases hr
    exact Kl.setOb _ _ _
  · have : ∃ e ∈ E, e.k = k := Classical.byContradiction fun hn => q (fun e he e2 => hn ⟨e, he, e2⟩)
    obtain ⟨e, he, rfl⟩ := this
    rw [updB1 hu h he v] at hr
    cases hr
    exact Kl.setOb _ _ _
theorem Kl.set (w : World) (g k : Nat) (v : Value) : Kl (fun x => x = g) w (w.setCell ⟨g, k, none⟩ v) := Kl.setCell w ⟨g, k, none⟩ v
/-- What a call on a table leaves. -/
def ThP (z : Tz) (T' : T8) (w : World) (e : Ending) (w' : World) : Prop := e = .returned (.tuple #[]) ∧ ∃ z', Tw w' z' T' ∧ Up z z' w w'
theorem Tw.frz {w : World} {z : Tz} {T : T8} (h : Tw w z T) (k : Nat) : w.frozen? ⟨z.x, k, none⟩ = false := by simp [World.frozen?, h.box]
theorem Tw.set1 {w w1 : World} {z : Tz} {T T' : T8} (h : Tw w z T) (hb : Below w.heap.size w w1) {W : World} (hk : Kl (fun g => g = z.x) w1 W) (hW : W.heap[z.x]? = some (.cells #[.int .i64 T'.id, .int .i64 T'.boots, .int .i64 T'.next, .map (some z.m1), .map (some z.m2), .map (some z.m3)] 72 (0, 0))) (e1 : T'.ex = T.ex) (e2 : T'.im = T.im) (e3 : T'.tb = T.tb) : Tw W z T' ∧ Up z z w W := by
  obtain ⟨q1, q2⟩ := (h.below hb).boxed hk hW e1 e2 e3
  exact ⟨q1, (Up.below hb).trans q2⟩
set_option maxRecDepth 8000 in
set_option maxHeartbeats 4000000 in
theorem skip_then {w : World} {z : Tz} {T : T8} (h : Tw w z T) (r : Rc) (sv dv : Value) : Calls Tryz.prog 93 #[tP z, .agg (rcC r sv dv)] w (ThP z ({ T with next := r.size }) w) := by
  obtain ⟨W, hW⟩ : ∃ W, w.alloc (rcO r sv dv) = W := ⟨_, rfl⟩
  have HW : Hid (w.alloc (rcO r sv dv) = W) := hW
  have hbx : Below w.heap.size w W := by rw [← hW]; exact (Below.refl _ _).alloc (Nat.le_refl _) _
  have hbd : Below w.heap.size w W.drew := hbx.drew
  have hp : W.heap[w.heap.size]? = some (rcO r sv dv) := by rw [← hW]; exact heap_alloc_new' w _
  have hT := h.below hbx
  obtain ⟨c0, c1, c2, c3, c4, c5⟩ := hT.c
  obtain ⟨k0, k1, k2, k3, k4, k5, k6, k7, k8, k9, k10⟩ := rc_cells hp
  have f2 := hT.frz 2
  have HT : Hid (Tw (W.setCell ⟨z.x, 2, none⟩ (.int .i64 r.size)) z { T with next := r.size } ∧ Up z z w (W.setCell ⟨z.x, 2, none⟩ (.int .i64 r.size))) := h.set1 hbx (Kl.set _ _ _ _) ((heap_setCell_same _ _ _ _ _ _ hT.box).trans rfl) rfl rfl rfl
  clear h hT hW hbx hbd hp
  go_enter Tryz.func93, Tryz.ntmps93
  go_upto_region 1 with fail
  rw [HW.out]
  go_wp2
  go_end0
  exact ⟨rfl, z, HT.out⟩
set_option maxRecDepth 8000 in
set_option maxHeartbeats 4000000 in
theorem boot_then {w : World} {z : Tz} {T : T8} (h : Tw w z T) (r : Rc) (sv dv : Value) : Calls Tryz.prog 91 #[tP z, .agg (rcC r sv dv)] w (ThP z ({ T with id := r.org, boots := r.size }) w) := by
  obtain ⟨W, hW⟩ : ∃ W, w.alloc (rcO r sv dv) = W := ⟨_, rfl⟩
  have HW : Hid (w.alloc (rcO r sv dv) = W) := hW
  have hbx : Below w.heap.size w W := by rw [← hW]; exact (Below.refl _ _).alloc (Nat.le_refl _) _
  have hbd : Below w.heap.size w W.drew := hbx.drew
  have hp : W.heap[w.heap.size]? = some (rcO r sv dv) := by rw [← hW]; exact heap_alloc_new' w _
  have hT := h.below hbx
  obtain ⟨c0, c1, c2, c3, c4, c5⟩ := hT.c
  obtain ⟨k0, k1, k2, k3, k4, k5, k6, k7, k8, k9, k10⟩ := rc_cells hp
  have f0 := hT.frz 0
  have f1 := hT.frz 1
  have HT1 := h.set1 (T' := { T with id := r.org, boots := r.size }) hbx (((Kl.set W z.x 0 (.int .i64 r.org))).then (Kl.set _ z.x 1 (.int .i64 r.size)) (fun _ _ e => e)) ((heap_setCell_same _ _ _ _ _ _ ((heap_setCell_same _ _ _ _ _ _ hT.box).trans rfl)).trans rfl) rfl rfl rfl
  have HT : Hid (Tw (((W.setCell ⟨z.x, 0, none⟩ (.int .i64 r.org)).setCell ⟨z.x, 1, none⟩ (.int .i64 r.size)).drew) z { T with id := r.org, boots := r.size } ∧ Up z z w (((W.setCell ⟨z.x, 0, none⟩ (.int .i64 r.org)).setCell ⟨z.x, 1, none⟩ (.int .i64 r.size)).drew)) := ⟨HT1.1.below (Below.refl _ _).drew, HT1.2.trans (Up.below (Below.refl _ _).drew)⟩
  clear HT1
  clear h hT hW hbx hbd hp
  go_enter Tryz.func91, Tryz.ntmps91
  go_wp2
  rw [HW.out]
  go_region
  all_goals go_end0
  all_goals exact ⟨rfl, z, HT.out⟩
set_option maxRecDepth 8000 in
set_option maxHeartbeats 4000000 in
theorem forget_then {w : World} {z : Tz} {T : T8} (h : Tw w z T) (r : Rc) (hr : sW (sR r)) (sv dv : Value) : Calls Tryz.prog 99 #[tP z, .agg (rcC r sv dv)] w (ThP z ({ T with ex := rm Og.s (sR r) T.ex }) w) := by
  obtain ⟨W, hW⟩ : ∃ W, w.alloc (rcO r sv dv) = W := ⟨_, rfl⟩
  have HW : Hid (w.alloc (rcO r sv dv) = W) := hW
  have hbx : Below w.heap.size w W := by rw [← hW]; exact (Below.refl _ _).alloc (Nat.le_refl _) _
  have hbd : Below w.heap.size w W.drew := hbx.drew
  have hp : W.heap[w.heap.size]? = some (rcO r sv dv) := by rw [← hW]; exact heap_alloc_new' w _
  have hT := h.below hbx
  obtain ⟨c0, c1, c2, c3, c4, c5⟩ := hT.c
  obtain ⟨k0, k1, k2, k3, k4, k5, k6, k7, k8, k9, k10⟩ := rc_cells hp
  obtain ⟨w2, z', hrun, hT2, hU2⟩ := (h.below hbd).remX (s := sR r) hr 0
  have hrun : (Builtin.delete_ #[68, 31] 0 #[.map (some z.m1), .agg #[.int .i64 r.org, .int .i64 r.num]]).run Tryz.prog W.drew = .ok (.tuple #[]) w2 := hrun
  have HT : Hid (Tw w2 z' { T with ex := rm Og.s (sR r) T.ex } ∧ Up z z' w w2) := ⟨hT2, (Up.below hbd).trans hU2⟩
  clear h hT hW hbx hbd hp hT2 hU2
  go_enter Tryz.func99, Tryz.ntmps99
  go_wp2
  rw [HW.out]
  go_region
  all_goals go_wp2
  all_goals go_end0
  all_goals exact ⟨rfl, z', HT.out⟩
set_option maxRecDepth 8000 in
set_option maxHeartbeats 4000000 in
theorem cancel_then {w : World} {z : Tz} {T : T8} (h : Tw w z T) (r : Rc) (hr : sW (sR r)) (sv dv : Value) : Calls Tryz.prog 105 #[tP z, .agg (rcC r sv dv)] w (ThP z (T.putI ⟨r.org, r.num, 0, 0, 0, [], [], false, true, false, false, r.how⟩) w) := by
  obtain ⟨W, hW⟩ : ∃ W, w.alloc (rcO r sv dv) = W := ⟨_, rfl⟩
  have HW : Hid (w.alloc (rcO r sv dv) = W) := hW
  have hbx : Below w.heap.size w W := by rw [← hW]; exact (Below.refl _ _).alloc (Nat.le_refl _) _
  have hbd : Below w.heap.size w W.drew := hbx.drew
  have hp : W.heap[w.heap.size]? = some (rcO r sv dv) := by rw [← hW]; exact heap_alloc_new' w _
  have hT := h.below hbx
  obtain ⟨c0, c1, c2, c3, c4, c5⟩ := hT.c
  obtain ⟨k0, k1, k2, k3, k4, k5, k6, k7, k8, k9, k10⟩ := rc_cells hp
  obtain ⟨w2, z', hrun, hT2, hU2⟩ := h.putI (o := ⟨r.org, r.num, 0, 0, 0, [], [], false, true, false, false, r.how⟩) (hv := .slice none 0 0) (dv := .slice none 0 0) (Kl.of_below hbd) hr (World.ownsRow_nil _ _ _ _) (SOwn.nil _ _) (fun g q => by cases q) (fun g q => by cases q)
  have hrun : (Instr.mapUpdate 69 (.map (some z.m2)) (.agg #[.int .i64 r.org, .int .i64 r.num]) (.agg #[.int .i64 r.org, .int .i64 r.num, .int .i64 0, .int .i64 0, .int .i64 0, .slice none 0 0, .slice none 0 0, .bool false, .bool true, .bool false, .bool false, .int .i64 r.how])).run Tryz.prog W.drew = .ok () w2 := hrun
  have HT : Hid (Tw w2 z' (T.putI ⟨r.org, r.num, 0, 0, 0, [], [], false, true, false, false, r.how⟩) ∧ Up z z' w w2) := ⟨hT2, hU2⟩
  clear h hT hW hbx hbd hp hT2 hU2
  go_enter Tryz.func105, Tryz.ntmps105
  go_wp2
  rw [HW.out]
  go_region
  all_goals go_wp2
  all_goals go_end0
  all_goals exact ⟨rfl, z', HT.out⟩
end Go.Proofs.YtillgoegiplmkaaGreatDoor.B

namespace Go.Proofs.YtillgoegiplmkaaGreatDoor.B
open C
open Go.RowKit Go.Maps
set_option linter.unusedVariables false
set_option linter.unusedSimpArgs false

/-! ## A tomb's lowest spans become one -/
def zsp : Array Value := #[.int .i64 0, .int .i64 0]
def zro (n : Nat) : List Value := (Builtin.zeroCells zsp n).toList
theorem zro_len (n : Nat) : (zro n).length = n * 2 := by unfold zro Builtin.zeroCells; simp [zsp]
theorem zro_one (n : Nat) : ∀ v ∈ zro n, v.oneCell' = true := by
  intro v hv
  unfold zro Builtin.zeroCells at hv
  rw [Array.toList_map, List.mem_map] at hv
  obtain ⟨i, hi, rfl⟩ := hv
  have hlt : i % zsp.size < 2 := Nat.mod_lt _ (by decide)
  generalize i % zsp.size = k at hlt
  have : ∀ k : Fin 2, (zsp[k.val]!).oneCell' = true := by decide
  exact this ⟨k, hlt⟩
theorem clear8_run (w : World) (b o n c : Nat) (hn : 0 < n) (hc : ∀ j, j < n * 2 → (w.cell? ⟨b, o + j, none⟩).isSome = true) (hf : ∀ j, j < n * 2 → w.frozen? ⟨b, o + j, none⟩ = false) (ty : TypeId) :
    (Builtin.clear_ #[32] ty #[.slice (some ⟨b, o, none⟩) n c]).run Tryz.prog w = .ok (.tuple #[]) (w.setCells b o (zro n)) := by
  have hv : (zeroValue 90).run Tryz.prog w = .ok (.agg zsp) w := by
    first | exact Tryz.zeroValue90 w | exact Tryz.zeroValue90
  have hzc : (Builtin.zeroCells (Value.agg zsp).cells n).toList = zro n := rfl
  have hst := run_storeCells_cells (P := Tryz.prog) b o (zro n) 0 w (by rw [zro_len]; simpa using hc) (by rw [zro_len]; simpa using hf) (zro_one n)
  simp only [Nat.add_zero] at hst
  obtain ⟨m, rfl⟩ : ∃ m, n = m + 1 := ⟨n - 1, by omega⟩
  simp [Builtin.clear_, run_underlying Tryz.underlying32, hv, hzc, hst]
theorem own_far {base g N cap sz : Nat} {e : TypeId} : ∀ (zs xs : List Value) (o : Nat) (w : World), xs.length ≤ o → w.ownsRow base e sz (.slice (some ⟨g, 0, none⟩) N cap) N xs → (w.setCells g o zs).ownsRow base e sz (.slice (some ⟨g, 0, none⟩) N cap) N xs
  | [], xs, o, w, _, h => h
  | z :: r, xs, o, w, ho, h => by
    have h1 := (World.ownsRow.stored h o z).1
    rw [List.set_eq_of_length_le ho] at h1
    exact own_far r xs (o + 1) _ (by omega) h1
theorem setCells8_other (g : Nat) : ∀ (zs : List Value) (o : Nat) (w : World), (∀ k, k ≠ g → (w.setCells g o zs).heap[k]? = w.heap[k]?) ∧ (w.setCells g o zs).os = w.os ∧ (w.setCells g o zs).tape = w.tape ∧ (w.setCells g o zs).output = w.output ∧ (w.setCells g o zs).heap.size = w.heap.size
  | [], o, w => ⟨fun _ _ => rfl, rfl, rfl, rfl, rfl⟩
  | z :: r, o, w => by
    obtain ⟨h1, h2, h3, h4, h5⟩ := setCells8_other g r (o + 1) (w.setCell ⟨g, o, none⟩ z)
    exact ⟨fun k hk => (h1 k hk).trans (heap_setCell_other _ _ _ _ hk), h2, h3, h4, h5.trans (by simp [World.setCell])⟩
theorem grown_cells8 (g o : Nat) (zs : List Value) (w : World) : w.grownBy (w.setCells g o zs) (some g) := by
  obtain ⟨h1, h2, h3, h4, h5⟩ := setCells8_other g zs o w
  exact ⟨h2, h3, h4, by omega, fun k _ hk => h1 k (fun e => hk (by rw [e]))⟩
/-- A row's cells, as far as its room goes. -/
theorem own_room {base g N cap sz : Nat} {w : World} {e : TypeId} {xs : List Value} (h : w.ownsRow base e sz (.slice (some ⟨g, 0, none⟩) N cap) N xs) {j : Nat} (hj : j < cap * sz) : (w.cell? ⟨g, j, none⟩).isSome = true ∧ w.frozen? ⟨g, j, none⟩ = false := by
  obtain ⟨_, ⟨q, _⟩ | ⟨g', cap', cur, q, _, hg, _, _, hs, _⟩⟩ := h
  · cases q
  · cases q
    refine ⟨?_, by simp [World.frozen?, hg]⟩
    rw [cell_of_row _ _ _ _ _ _ hg]
    rw [Array.getElem?_eq_getElem (by omega)]
    rfl
theorem own_pre {base g N cap sz : Nat} {w : World} {e : TypeId} {xs : List Value} (h : w.ownsRow base e sz (.slice (some ⟨g, 0, none⟩) N cap) N xs) {k : Nat} (hk : k ≤ N) : w.ownsRow base e sz (.slice (some ⟨g, 0, none⟩) k cap) k (xs.take (k * sz)) := by
  have hl := h.1
  obtain ⟨_, ⟨q, _⟩ | ⟨g', cap', cur, q, hb, hg, hn, hm, hs, ht⟩⟩ := h
  · cases q
  · cases q
    have hks : k * sz ≤ N * sz := Nat.mul_le_mul_right _ hk
    refine ⟨by rw [List.length_take]; omega, .inr ⟨g, cap, cur, rfl, hb, hg, by omega, hm, hs, ?_⟩⟩
    rw [← ht, List.take_take, Nat.min_eq_left hks]
theorem own_cell {base g N cap sz : Nat} {w : World} {e : TypeId} {xs : List Value} (h : w.ownsRow base e sz (.slice (some ⟨g, 0, none⟩) N cap) N xs) {j : Nat} {u : Value} (hj : xs[j]? = some u) : w.cell? ⟨g, j, none⟩ = some u := by
  obtain ⟨_, ⟨q, _⟩ | ⟨g', cap', cur, q, _, hg, _, _, hs, ht⟩⟩ := h
  · cases q
  · cases q
    rw [cell_of_row _ _ _ _ _ _ hg, ← Array.getElem?_toList]
    rw [← ht] at hj
    rw [List.getElem?_take] at hj
    split at hj
    · exact hj
    · cases hj
theorem spc_drop : ∀ (l : List Sp) (k : Nat), (l.flatMap spc).drop (k * 2) = (l.drop k).flatMap spc
  | [], k => by simp
  | a :: r, 0 => by simp
  | a :: r, k + 1 => by
    rw [List.flatMap_cons, List.drop_succ_cons, ← spc_drop r k, show (k + 1) * 2 = (spc a).length + k * 2 by simp [spc]; omega, List.drop_append]
    simp
theorem spc_take : ∀ (l : List Sp) (k : Nat), (l.flatMap spc).take (k * 2) = (l.take k).flatMap spc
  | [], k => by simp
  | a :: r, 0 => by simp
  | a :: r, k + 1 => by
    rw [List.flatMap_cons, List.take_succ_cons, List.flatMap_cons, ← spc_take r k, show (k + 1) * 2 = (spc a).length + k * 2 by simp [spc]; omega, List.take_length_add_append]
theorem step_append_run {P : Program} {ops : Array Oper} {o : Oper} {a : Act} {w : World} {K : Act → World → Prop} {Q : Exit → Act → World → Prop} {E : Prop}
    (hg : o.guard = none) (s x : Operand) (t : TypeId) (hop : o.op = Op.call { callee := Callee.builtin Builtin.append, args := #[s, x], argTypes := #[t, t] })
    (vs vx : Value) (hs : a.eval s = vs) (hx : a.eval x = vx) (v' : Value) (w' : World) (hrun : (Builtin.append_ #[t, t] o.type #[vs, vx]).run P w = .ok v' w') (hK : K (a.put o.dst v') w') :
    if Region.wanted o (yielded ops a.tmps) = true then Oper.wp P o a w K Q else E := by
  have hw : Region.wanted o (yielded ops a.tmps) = true := by simp [Region.wanted, hg]
  rw [if_pos hw]
  unfold Oper.wp
  simp [execOp, hop, resolve, invoke, builtin, hs, hx, hrun, Result.andThen]
  exact hK
theorem spc_one (l : List Sp) : ∀ u ∈ l.flatMap spc, u.oneCell' = true := by
  intro u hu
  obtain ⟨p, _, hp⟩ := List.mem_flatMap.mp hu
  simp [spc] at hp
  rcases hp with rfl | rfl <;> rfl

set_option maxRecDepth 8000 in
set_option maxHeartbeats 4000000 in
theorem delete8_any {base g cap k : Nat} {l : List Sp} {w : World} (h : SOwn w base (.slice (some ⟨g, 0, none⟩) (k + 500) cap) l) (hl : l.length = k + 500) (hk : 1 ≤ k) : Calls Tryz.prog 183 #[.slice (some ⟨g, 0, none⟩) (k + 500 : Nat) cap, .int .i64 1, .int .i64 ((k : Int) + 1)] w fun e w' => e = .returned (.slice (some ⟨g, 0, none⟩) 500 cap) ∧ SOwn w' base (.slice (some ⟨g, 0, none⟩) 500 cap) (l.take 1 ++ l.drop (k + 1)) ∧ w.grownBy w' (some g) := by
  obtain ⟨i0, hi, hz0, hz1, hz2⟩ := info_parts Tryz.info_span
  unfold SOwn at h
  rw [hl] at h
  have hcap : k + 500 ≤ cap ∧ cap ≤ 9223372036854775807 := by
    obtain ⟨_, ⟨q, _⟩ | ⟨g', cap', cur, q, _, _, hn, hm, _, _⟩⟩ := h
    · cases q
    · cases q
      exact ⟨hn, by unfold maxLen at hm; omega⟩
  have hd : w.drew.ownsRow base 90 2 (.slice (some ⟨g, 0, none⟩) 1 cap) 1 ((l.take 1).flatMap spc) := by
    have := own_pre h (k := 1) (by omega)
    rw [spc_take] at this
    exact this
  obtain ⟨w2, hrun, hown, hg2⟩ := run_append_fits (P := Tryz.prog) (w := w.drew) base 32 32 90 i0 2 Tryz.underlying32 hi hz1 g 1 cap ((l.take 1).flatMap spc) hd ⟨g, (k + 1) * 2, none⟩ 499 (cap - (k + 1)) ((l.drop (k + 1)).flatMap spc) (by rw [spc_len, List.length_drop]; omega) (fun j u hj => by
    rw [← spc_drop, List.getElem?_drop] at hj
    have q := own_cell h hj
    by_cases q0 : j = 0
    · subst q0; simpa [Addr.add] using q
    · simpa [Addr.add, q0] using q) (spc_one _) (by omega)
  rw [← List.flatMap_append] at hown
  have hcl := fun ty => clear8_run w2 g 1000 k (cap - 500) (by omega) (fun j hj => (own_room hown (j := 1000 + j) (by omega)).1) (fun j hj => (own_room hown (j := 1000 + j) (by omega)).2) ty
  have hown3 := own_far (zro k) _ 1000 w2 (by rw [spc_len, List.length_append, List.length_take, List.length_drop]; omega) hown
  have hg3 : w.grownBy (w2.setCells g 1000 (zro k)) (some g) := grown_trans (show w.grownBy w2 (some g) from ⟨hg2.os, hg2.tape, hg2.output, hg2.size, hg2.block⟩) (grown_cells8 _ _ _ _)
  have HR : Hid (SOwn (w2.setCells g 1000 (zro k)) base (.slice (some ⟨g, 0, none⟩) 500 cap) (l.take 1 ++ l.drop (k + 1)) ∧ w.grownBy (w2.setCells g 1000 (zro k)) (some g)) := by
    refine ⟨?_, hg3⟩
    unfold SOwn
    have e : (l.take 1 ++ l.drop (k + 1)).length = 500 := by rw [List.length_append, List.length_take, List.length_drop]; omega
    rw [e]
    exact hown3
  generalize w2.setCells g 1000 (zro k) = w3 at *
  have n1 : ¬ cap = k + 1 := by omega
  have n2 : ¬ cap = 500 := by omega
  have n3 : ¬ (k + 500) = 1 := by omega
  have n4 : (k : Int) + 1 ≤ (cap : Int) := by omega
  have n5 : ((k + 500 : Nat) : Int) ≤ (cap : Int) := by omega
  have n6 : (cap : Int) ≤ 9223372036854775807 := by omega
  have n7 : (1 : Int) ≤ (k : Int) := by omega
  have n9 : (0 : Int) ≤ (k : Int) + 1 := by omega
  have n8 : (1 : Int) ≤ (cap : Int) := by omega
  clear h hl hd hown hown3 hg2 hg3 hi hz0 hz1 hz2
  go_enter Tryz.func183, Tryz.ntmps183
  go_wp2
  go_region_law (refine step_append_run rfl (.tmp 22) (.tmp 25) 32 rfl _ _ (by rfl) (by rfl) _ _ hrun ?_)
  all_goals go_wp2

  all_goals go_ret
  all_goals exact ⟨rfl, HR.out⟩
set_option maxRecDepth 8000 in
set_option maxHeartbeats 4000000 in
/-- narrowed: a set of its own, in its own block. -/
theorem narrowed_any {base : Nat} {v : Value} {l : List Sp} {w : World} (h : SOwn w base v l) (hm : l.length ≤ 1048576) : Calls Tryz.prog 165 #[v] w fun e w' => ∃ v', e = .returned v' ∧ SOwn w' base v' (nar l) ∧ w.grownBy w' v.ownBlock ∧ v'.ownBlock = v.ownBlock := by
  by_cases hs : l.length ≤ 500
  · obtain ⟨a, c, rfl⟩ := h.shape
    have HR : Hid (SOwn w base (.slice a l.length c) (nar l)) := by rw [nar_same hs]; exact h
    have hs' : (l.length : Int) - 500 ≤ 0 := by omega
    have hw : IntKind.i64.wrap ((l.length : Int) - 500) = (l.length : Int) - 500 := by rw [IntKind.wrap_i64]; omega
    clear h
    generalize l.length = n at *
    go_enter Tryz.func165, Tryz.ntmps165
    go_wp2
    go_ret
    exact ⟨_, rfl, HR.out, ⟨rfl, rfl, rfl, Nat.le_refl _, fun _ _ _ => rfl⟩, rfl⟩
  · obtain ⟨g, cap, rfl⟩ := own_some h (by omega)
    obtain ⟨k, hk⟩ : ∃ k, l.length = k + 500 := ⟨l.length - 500, by omega⟩
    rw [hk] at h ⊢
    obtain ⟨a0, r0, hl0⟩ : ∃ a r, l = a :: r := by
      cases l with
      | nil => simp at hk
      | cons a r => exact ⟨a, r, rfl⟩
    obtain ⟨p, hp⟩ := get_some l k (by omega)
    have hown : w.ownsRow base 90 2 (.slice (some ⟨g, 0, none⟩) (k + 500) cap) (k + 500) (l.flatMap spc) := by unfold SOwn at h; rw [hk] at h; exact h
    have hc1 : w.cell? ⟨g, k * 2 + 1, none⟩ = some (.int .i64 p.2) := own_cell hown (spc_get l k p hp).2
    have hc2 : w.cell? ⟨g, 1, none⟩ = some (.int .i64 a0.2) := own_cell hown (by rw [hl0]; rfl)
    have hf2 : w.frozen? ⟨g, 1, none⟩ = false := (own_room hown (j := 1) (by
      obtain ⟨_, ⟨q, _⟩ | ⟨g', cap', cur, q, _, _, hn, _, _, _⟩⟩ := hown
      · cases q
      · cases q; omega)).2
    have hcap : k + 500 ≤ cap := by
      obtain ⟨_, ⟨q, _⟩ | ⟨g', cap', cur, q, _, _, hn, _, _, _⟩⟩ := hown
      · cases q
      · cases q; exact hn
    have hst := World.ownsRow.stored hown 1 (.int .i64 p.2)
    have hso : SOwn (w.setCell ⟨g, 1, none⟩ (.int .i64 p.2)) base (.slice (some ⟨g, 0, none⟩) (k + 500) cap) ((a0.1, p.2) :: r0) := by
      unfold SOwn
      have e1 : ((a0.1, p.2) :: r0).length = k + 500 := by rw [← hk, hl0]; rfl
      rw [e1]
      have e2 : (l.flatMap spc).set 1 (.int .i64 p.2) = ((a0.1, p.2) :: r0).flatMap spc := by rw [hl0]; rfl
      rw [← e2]
      exact hst.1
    have hnar : ((a0.1, p.2) :: r0).take 1 ++ ((a0.1, p.2) :: r0).drop (k + 1) = nar l := by
      unfold nar
      rw [if_neg (by omega), hk, show k + 500 - 500 = k by omega]
      have e3 : l.getD k (0, 0) = p := by rw [List.getD_eq_getElem?_getD, hp]; rfl
      rw [e3, hl0]
      rfl
    by_cases hk0 : k = 0
    · omega
    have hD := delete8_any hso (by rw [← hk, hl0]; rfl) (by omega)
    rw [hnar] at hD
    have HD : Hid (Calls Tryz.prog 183 #[.slice (some ⟨g, 0, none⟩) (k + 500 : Nat) cap, .int .i64 1, .int .i64 ((k : Int) + 1)] (w.setCell ⟨g, 1, none⟩ (.int .i64 p.2)) fun e w' => e = .returned (.slice (some ⟨g, 0, none⟩) 500 cap) ∧ SOwn w' base (.slice (some ⟨g, 0, none⟩) 500 cap) (nar l) ∧ (w.setCell ⟨g, 1, none⟩ (.int .i64 p.2)).grownBy w' (some g)) := hD
    have n0 : (0 : Int) ≤ (k : Int) := by omega
    have n1 : (k : Int) < ((k + 500 : Nat) : Int) := by omega
    have n2 : ¬ (k : Int) ≤ 0 := by omega
    have n3 : (k : Int) ≤ 1048576 := by omega
    clear h hm hs hk hl0 hp hown hcap hst hso hnar hD hk0
    go_enter Tryz.func165, Tryz.ntmps165
    go_wp2_with (go_at_call 183; refine HD.out.mono ?_; rintro e w' ⟨rfl, hso, hgr⟩)
    go_ret
    exact ⟨_, rfl, hso, grown_trans (grown_set _ _ _ _) hgr, rfl⟩
end Go.Proofs.YtillgoegiplmkaaGreatDoor.B
