import Derived.Test.YtillgoegiplmkaaGreatDoorTbR
import Derived.Test.YtillgoegiplmkaaGreatDoorRcPrt
import Derived.Test.YtillgoegiplmkaaGreatDoorTbCb
import Derived.Test.YtillgoegiplmkaaGreatDoorGat
import Derived.Test.YtillgoegiplmkaaGreatDoorTbDb
namespace Go.Proofs.YtillgoegiplmkaaGreatDoor.B
open C
set_option linter.unusedVariables false
set_option linter.unusedSimpArgs false

/-! ## What records may be -/
theorem may_three {r : Rc} (h : mayB6 r = true) : kf r.kind ≠ 0 ∧ (∀ i, i < 8 → okN (kf r.kind) i (nmA r i) = true) ∧ suitB r = true := by
  unfold mayB6 at h
  simp only [Bool.and_eq_true] at h
  exact ⟨by simpa using h.1, fun i hi => okNs_at (allow_nums h.2.1) hi, h.2.2⟩
theorem may_num {r : Rc} (h : mayB6 r = true) (k : Int) (hk : r.kind = k) (i : Nat) (hi : i < 8) (hh : hasB (kf k) i = true) : numB i (nmA r i) = true := by
  have := (may_three h).2.1 i hi
  rw [hk] at this
  unfold okN at this
  rwa [if_pos hh] at this
theorem numB_zero {n : Int} (h : numB 0 n = true) : 1 ≤ n ∧ n ≤ mxN := by simpa [numB] using h
theorem numB_one {n : Int} (h : numB 1 n = true) : 1 ≤ n ∧ n < mxN := by
  have : 1 ≤ n ∧ n ≤ 4611686018427387902 := by simpa [numB] using h
  exact ⟨this.1, by show n < 4611686018427387903; omega⟩
theorem numB_two {n : Int} {i : Nat} (h : numB (i + 2) n = true) : 0 ≤ n ∧ n ≤ mxN := by
  unfold numB at h
  rw [if_neg (by omega), if_neg (by omega)] at h
  simpa using h
theorem suit_k {r : Rc} (h : mayB6 r = true) : suitB r = true := (may_three h).2.2
theorem lenB_or {n low : Int} (h : lenB n low = true) : n = 0 ∨ low ≤ n ∧ n ≤ 65536 := by simpa [lenB] using h
theorem rt_one {l : List Sp} (h : Rt 0 l) (h1 : 1 ≤ (l.head?.getD (0, 0)).1) : Rt 1 l := by
  cases l with
  | nil => trivial
  | cons a r =>
    obtain ⟨a1, a2, a3, a4⟩ := h
    exact ⟨h1, a2, a3, a4⟩
theorem may_ses {r : Rc} (h : mayB6 r = true) (k : Int) (hk : r.kind = k) (h0 : hasB (kf k) 0 = true) (h1 : hasB (kf k) 1 = true) : 1 ≤ r.org ∧ r.org ≤ mxN ∧ 1 ≤ r.num ∧ r.num < mxN :=
  ⟨(numB_zero (may_num h k hk 0 (by omega) h0)).1, (numB_zero (may_num h k hk 0 (by omega) h0)).2, (numB_one (may_num h k hk 1 (by omega) h1)).1, (numB_one (may_num h k hk 1 (by omega) h1)).2⟩
theorem may_r {r : Rc} (h : mayB6 r = true) : MayR r where
  k1 hk := by
    have a := numB_zero (may_num h 1 hk 0 (by omega) (by decide))
    have s := suit_k h
    unfold suitB at s
    rw [if_pos hk] at s
    simp at s
    exact ⟨a.1, a.2, s.1, s.2⟩
  k2 hk := by
    have a := numB_two (i := 4) (may_num h 2 hk 6 (by omega) (by decide))
    have s := suit_k h
    unfold suitB at s
    rw [hk, if_neg (by decide), if_pos rfl] at s
    simp at s
    exact ⟨s, a.2⟩
  ses h1 h2 h11 := by
    rcases kf_cases (may_three h).1 with hk | hk | hk | hk | hk | hk | hk | hk | hk | hk | hk | hk
    · exact absurd hk h1
    · exact absurd hk h2
    · exact may_ses h _ hk (by decide) (by decide)
    · exact may_ses h _ hk (by decide) (by decide)
    · exact may_ses h _ hk (by decide) (by decide)
    · exact may_ses h _ hk (by decide) (by decide)
    · exact may_ses h _ hk (by decide) (by decide)
    · exact may_ses h _ hk (by decide) (by decide)
    · exact may_ses h _ hk (by decide) (by decide)
    · exact may_ses h _ hk (by decide) (by decide)
    · exact absurd hk h11
    · exact may_ses h _ hk (by decide) (by decide)
  k3 hk := by
    have a := numB_two (i := 0) (may_num h 3 hk 2 (by omega) (by decide))
    have b := numB_two (i := 1) (may_num h 3 hk 3 (by omega) (by decide))
    have s := suit_k h
    unfold suitB at s
    rw [hk, if_neg (by decide), if_neg (by decide), if_pos rfl] at s
    simp at s
    exact ⟨⟨s.1, a.2⟩, b, ⟨s.2.1.1, s.2.1.2, s.2.2.1⟩, s.2.2.2⟩
  k4 hk := by
    have a := numB_two (i := 5) (may_num h 4 hk 7 (by omega) (by decide))
    have s := suit_k h
    unfold suitB at s
    rw [hk, if_neg (by decide), if_neg (by decide), if_neg (by decide), if_pos rfl] at s
    simp at s
    exact ⟨a.1, s⟩
  k6 hk := by
    have a := numB_two (i := 1) (may_num h 6 hk 3 (by omega) (by decide))
    have b := numB_two (i := 2) (may_num h 6 hk 4 (by omega) (by decide))
    have s := suit_k h
    unfold suitB at s
    rw [hk, if_neg (by decide), if_neg (by decide), if_neg (by decide), if_neg (by decide), if_pos rfl] at s
    simp only [Bool.and_eq_true, decide_eq_true_eq] at s
    exact ⟨a, b.1, s.1, s.2.1, lenB_or s.2.2.1, lenB_or s.2.2.2⟩
  k8 hk := by
    have a := numB_two (i := 5) (may_num h 8 hk 7 (by omega) (by decide))
    have s := suit_k h
    unfold suitB at s
    rw [hk, if_neg (by decide), if_neg (by decide), if_neg (by decide), if_neg (by decide), if_neg (by decide), if_pos rfl] at s
    simp at s
    exact ⟨a.1, s⟩
  k11 hk := by
    have a := numB_two (i := 4) (may_num h 11 hk 6 (by omega) (by decide))
    have s := suit_k h
    unfold suitB at s
    rw [hk, if_neg (by decide), if_neg (by decide), if_neg (by decide), if_neg (by decide), if_neg (by decide), if_neg (by decide), if_pos rfl] at s
    unfold tombB at s
    simp only [Bool.and_eq_true, decide_eq_true_eq] at s
    refine ⟨s.1, a.2, fun e => ?_, by omega, rt_one (C.setB_iff.mp s.2.2.1).2 s.2.2.2⟩
    have := s.2.1.1
    rw [e] at this
    simp at this
  k12 hk := by
    have a := numB_two (i := 1) (may_num h 12 hk 3 (by omega) (by decide))
    have s := suit_k h
    unfold suitB at s
    rw [hk, if_neg (by decide), if_neg (by decide), if_neg (by decide), if_neg (by decide), if_neg (by decide), if_neg (by decide), if_neg (by decide), if_pos rfl] at s
    simp only [Bool.and_eq_true, decide_eq_true_eq] at s
    exact ⟨a, s.1, lenB_or s.2⟩
  top := by rcases kf_cases (may_three h).1 with hk | hk | hk | hk | hk | hk | hk | hk | hk | hk | hk | hk <;> omega

theorem i8 {i : Nat} (h : i < 8) : i = 0 ∨ i = 1 ∨ i = 2 ∨ i = 3 ∨ i = 4 ∨ i = 5 ∨ i = 6 ∨ i = 7 := by omega
end Go.Proofs.YtillgoegiplmkaaGreatDoor.B

namespace Go.Proofs.YtillgoegiplmkaaGreatDoor.B
open C
open Go.RowKit Go.Maps
set_option linter.unusedVariables false
set_option linter.unusedSimpArgs false

/-! ## The program's table: what is closed, what can begin -/
theorem bt {n : Nat} {V W W1 : World} (h : Below n V W) (hn : n ≤ V.heap.size) (h1 : Below W.heap.size W W1) : Below n V W1 := h.trans (h1.mono (Nat.le_trans hn h.size))
theorem iW_iff {x : Int} : iW x = true ↔ -9223372036854775808 ≤ x ∧ x ≤ 9223372036854775807 := by
  unfold iW
  simp [Lit.wf]
  have : IntKind.i64.min = -9223372036854775808 := rfl
  rw [this]
  omega
theorem cv_has {l : List Sp} {n : Int} (hl : Rt 1 l) (hn : l.length ≤ 2000) (hw : iW n = true) : cvB l (n, wrap64 (n + 1)) = has l n := by
  have hl0 : Rt 0 l := hl.mono (by omega)
  have hs : setB l = true := setB_iff.mpr ⟨hn, hl0⟩
  have hw' := iW_iff.mp hw
  unfold cvB
  rw [hs]
  by_cases q : 0 ≤ n ∧ n < 4611686018427387903
  · have e : wrap64 (n + 1) = n + 1 := by unfold wrap64; omega
    rw [e]
    have ha : Asked (n, n + 1) := ⟨by simp only; omega, by simp only; omega, by simp only; omega⟩
    rw [askB_iff.mpr ha]
    simp only [Bool.true_and]
    rw [Bool.eq_iff_iff, decide_eq_true_iff]
    refine ⟨fun g => ?_, fun g => ?_⟩
    · have := gps_has (s := (n, n + 1)) hl0 n
      rw [g] at this
      have e2 : inn (n, n + 1) n = true := by simp [inn]; omega
      rw [e2] at this
      cases f : has l n with
      | true => rfl
      | false => rw [f] at this; simp [C.has] at this
    · refine cover_math hl0 ha (fun x hx => ?_)
      have : x = n := by simp [inn] at hx; omega
      rw [this]; exact g
  · have e1 : has l n = false := by
      cases f : has l n with
      | false => rfl
      | true =>
        have := hl.low f
        omega
    rw [e1]
    have e2 : askB (n, wrap64 (n + 1)) = false := by
      cases f : askB (n, wrap64 (n + 1)) with
      | false => rfl
      | true =>
        have := askB_iff.mp f
        obtain ⟨a1, a2, a3⟩ := this
        simp only at a1 a2 a3
        unfold wrap64 at a2 a3
        omega
    rw [e2]
    rfl

theorem Tw.lookBW {w : World} {z : Tz} {T : T8} (h : Tw w z T) (o : Int) : ∃ v, SO w v (T.ft o) ∧ (∀ W, Below w.heap.size w W → ∀ c, (Instr.lookup 70 (.map (some z.m3)) (.int .i64 o) c).run Tryz.prog W = .ok (if c then .tuple #[v, .bool (fnd (Prod.fst : Tm → Int) o T.tb).isSome] else v) W) ∧ ∀ g, v.ownBlock = some g → z.F g := by
  have hf := h.pB.f o
  cases hq : fnd Tp.o o z.B with
  | none =>
    rw [hq] at hf
    refine ⟨.slice none 0 0, ?_, fun W hW c => ?_, fun g hg => by cases hg⟩
    · unfold T8.ft
      rw [hf]
      exact SOwn.nil _ _
    · rw [hf]
      refine B.lookI0 (et := 32) Tryz.underlying70 (by first | exact Tryz.zeroValue32 W | exact Tryz.zeroValue32) (h.below hW).pB.mp (k := o) trivial (fun e he => ?_) c
      obtain ⟨a, ha, rfl⟩ := List.mem_map.mp he
      exact fnd_none.mp hq a ha
  | some e =>
    rw [hq] at hf
    obtain ⟨h3, h4⟩ := mem_entB hq
    refine ⟨e.v, ?_, fun W hW c => ?_, fun g hg => ?_⟩
    · unfold T8.ft
      rw [hf]
      exact (h.pB.r e h3).1
    · have hl := B.lookI1 (mt := 70) Tryz.underlying70 (h.below hW).pB.mp (List.mem_map.mpr ⟨e, h3, rfl⟩) c
      rw [show e.ent.k = o from h4] at hl
      rw [hf]
      exact hl
    · unfold Tz.F
      rw [(h.pB.r e h3).2 g hg]
      exact fun e => by cases e

set_option maxHeartbeats 1000000 in
theorem single_any (n : Int) (w : World) : Calls Tryz.prog 47 #[.int .i64 n] w fun e w' => e = .returned (.agg #[.int .i64 n, .int .i64 (wrap64 (n + 1))]) ∧ Below w.heap.size w w' := by
  go_enter Tryz.func47, Tryz.ntmps47
  go_wp2
  exact bodyPost_ret (v := .agg #[.int .i64 n, .int .i64 (wrap64 (n + 1))]) (by simp [results, Tryz.results47, go_sem]) rfl ⟨rfl, (Below.refl _ _).alloc (Nat.le_refl _) _⟩
set_option maxHeartbeats 1000000 in
theorem places8_any (r : Rc) (sv : Value) (da : Option Addr) (nd dc : Nat) (w : World) (h0 : 0 ≤ r.off ∧ r.off ≤ 65536) (hn : nd ≤ 65536) : Calls Tryz.prog 131 #[.agg (rcC r sv (.slice da nd dc))] w fun e w' => e = .returned (.agg #[.int .i64 r.off, .int .i64 (r.off + nd)]) ∧ Below w.heap.size w w' := by
  have hw : IntKind.i64.wrap (r.off + nd) = r.off + nd := by rw [IntKind.wrap_i64]; omega
  go_enter Tryz.func131, Tryz.ntmps131
  go_wp2
  exact bodyPost_ret (v := .agg #[.int .i64 r.off, .int .i64 (r.off + nd)]) (by simp [results, Tryz.results131, go_sem]) rfl ⟨rfl, ((Below.refl _ _).alloc (Nat.le_refl _) _).alloc (by simp) _⟩
set_option maxHeartbeats 1000000 in
theorem agree_any (known told : Int) (n : Nat) (w : World) : Calls Tryz.prog 139 #[.int .i64 known, .int .i64 told, .int .i64 n] w fun e w' => e = .returned (.bool (agr known told n)) ∧ w' = w := by
  have HA : Hid (agr known told n = ((known == 0 || told == known) && (told == 0 || decide ((n : Int) ≤ told)))) := rfl
  rw [HA.out]
  clear HA
  go_enter Tryz.func139, Tryz.ntmps139
  go_wp2
  all_goals go_ret
  all_goals exact ⟨by simp_all, rfl⟩

set_option maxRecDepth 8000 in
set_option maxHeartbeats 4000000 in
theorem closed_any {w : World} {z : Tz} {T : T8} (h : Tw w z T) (hok : T.Ok) (s1 s2 : Int) (hr : sW (s1, s2)) : Calls Tryz.prog 15 #[tP z, .agg #[.int .i64 s1, .int .i64 s2]] w fun e w' => e = .returned (.bool (T.closed (s1, s2))) ∧ Below w.heap.size w w' := by
  have hbx : Below w.heap.size w (w.alloc (.cells #[.int .i64 s1, .int .i64 s2] 31)) := (Below.refl _ _).alloc (Nat.le_refl _) _
  have HB : Hid (∀ V : World, Below (w.heap.size + 1) (w.alloc (.cells #[.int .i64 s1, .int .i64 s2] 31)) V → Below w.heap.size w V) := fun V hV => hbx.trans (hV.mono (by omega))
  unfold T8.closed
  cases hf : T.fi (s1, s2) with
  | none =>
    obtain ⟨tv, hts, htl, _⟩ := h.lookBW s1
    have HK : Hid (∀ V : World, Below (w.heap.size + 1) (w.alloc (.cells #[.int .i64 s1, .int .i64 s2] 31)) V → (Below (w.heap.size + 1) (w.alloc (.cells #[.int .i64 s1, .int .i64 s2] 31)) V ∧ V.cell? ⟨z.x, 4, none⟩ = some (.map (some z.m2)) ∧ V.cell? ⟨w.heap.size, 0, none⟩ = some (.int .i64 s1) ∧ V.cell? ⟨w.heap.size, 1, none⟩ = some (.int .i64 s2) ∧ (Instr.lookup 69 (.map (some z.m2)) (.agg #[.int .i64 s1, .int .i64 s2]) true).run Tryz.prog V = .ok (.tuple #[iV0, .bool false]) V)) := fun V hV => by
      have hb := hbx.trans (hV.mono (by omega))
      have hc := (h.below hb).c
      have hp : V.heap[w.heap.size]? = some (.cells #[.int .i64 s1, .int .i64 s2] 31) := (hV.block _ (by omega)).trans (heap_alloc_new' w _)
      exact ⟨hV, hc.2.2.2.2.1, (cell_of_row _ _ _ _ _ _ hp).trans rfl, (cell_of_row _ _ _ _ _ _ hp).trans rfl, (h.below hb).lookI0 hr hf true⟩
    have HK2 : Hid (∀ V : World, Below (w.heap.size + 1) (w.alloc (.cells #[.int .i64 s1, .int .i64 s2] 31)) V → (Below (w.heap.size + 1) (w.alloc (.cells #[.int .i64 s1, .int .i64 s2] 31)) V ∧ V.cell? ⟨z.x, 5, none⟩ = some (.map (some z.m3)) ∧ V.cell? ⟨w.heap.size, 0, none⟩ = some (.int .i64 s1) ∧ V.cell? ⟨w.heap.size, 1, none⟩ = some (.int .i64 s2) ∧ (Instr.lookup 70 (.map (some z.m3)) (.int .i64 s1) false).run Tryz.prog V = .ok tv V)) := fun V hV => by
      have hb := hbx.trans (hV.mono (by omega))
      have hc := (h.below hb).c
      have hp : V.heap[w.heap.size]? = some (.cells #[.int .i64 s1, .int .i64 s2] 31) := (hV.block _ (by omega)).trans (heap_alloc_new' w _)
      have hl : (Instr.lookup 70 (.map (some z.m3)) (.int .i64 s1) false).run Tryz.prog V = .ok tv V := htl V hb false
      exact ⟨hV, hc.2.2.2.2.2, (cell_of_row _ _ _ _ _ _ hp).trans rfl, (cell_of_row _ _ _ _ _ _ hp).trans rfl, hl⟩
    have hft := hok.ft s1
    have HL : Hid (∀ V : World, Below (w.heap.size + 1) (w.alloc (.cells #[.int .i64 s1, .int .i64 s2] 31)) V → Ls V tv (T.ft s1)) := fun V hV => (hts.ls (by have := hft.2; omega)).below (hbx.trans (hV.mono (by omega)))
    have HE : Hid (cvB (T.ft s1) (s2, wrap64 (s2 + 1)) = has (T.ft s1) s2) := cv_has hft.1 (by have := hft.2; omega) hr.2
    obtain ⟨ta, tn, tc, rfl⟩ := own_sl8 hts
    clear hts htl hft h hok hr hf hbx
    go_enter Tryz.func15, Tryz.ntmps15
    go_wp2
    have hS := HK.out _ (Below.refl _ _)
    go_region_held3 (fun V => (Below (w.heap.size + 1) (w.alloc (.cells #[.int .i64 s1, .int .i64 s2] 31)) V ∧ V.cell? ⟨z.x, 4, none⟩ = some (.map (some z.m2)) ∧ V.cell? ⟨w.heap.size, 0, none⟩ = some (.int .i64 s1) ∧ V.cell? ⟨w.heap.size, 1, none⟩ = some (.int .i64 s2) ∧ (Instr.lookup 69 (.map (some z.m2)) (.agg #[.int .i64 s1, .int .i64 s2]) true).run Tryz.prog V = .ok (.tuple #[iV0, .bool false]) V)) (first | exact HK.out _ (Below.drew (Below.refl _ _)) | exact HK.out _ (Below.drew (Below.alloc (Below.refl _ _) (by simp) _)) | exact HK.out _ (Below.alloc (Below.refl _ _) (by simp) _)) (fail)
    all_goals (rename_i hz; clear hz)
    clear hS
    all_goals go_wp2
    all_goals (
      have hS := HK2.out _ (Below.drew (Below.alloc (Below.refl _ _) (by simp) (.cells iC0 63)))
      go_region_held3 (fun V => (Below (w.heap.size + 1) (w.alloc (.cells #[.int .i64 s1, .int .i64 s2] 31)) V ∧ V.cell? ⟨z.x, 5, none⟩ = some (.map (some z.m3)) ∧ V.cell? ⟨w.heap.size, 0, none⟩ = some (.int .i64 s1) ∧ V.cell? ⟨w.heap.size, 1, none⟩ = some (.int .i64 s2) ∧ (Instr.lookup 70 (.map (some z.m3)) (.int .i64 s1) false).run Tryz.prog V = .ok (.slice ta tn tc) V)) (first | assumption | exact HK2.out _ (bt (h1 := hb2) (And.left (by assumption)) (by simp)) | exact HK2.out _ (bt (h1 := hb1) (And.left (by assumption)) (by simp)) | exact HK2.out _ (Below.drew (And.left (by assumption)))) (first
        | (go_at_call 47; refine (single_any _ _).mono ?_; rintro e w1 ⟨rfl, hb1⟩)
        | (go_at_call 46; refine (covers_any _ _ (HL.out _ (And.left (by assumption)))).mono ?_; rintro e w2 ⟨rfl, hb2⟩)))
    all_goals (rename_i hz; have HZ := HB.out _ hz.1; clear hz)
    clear hS
    all_goals go_wp2
    all_goals go_ret
    all_goals exact ⟨by rw [HE.out]; rfl, HZ⟩
  | some o =>
    obtain ⟨e, he, rfl, hes, _⟩ := h.lookI1 hf
    obtain ⟨av, nv, cv, ev⟩ := own_sl8 (h.pI.r e he).1.1
    obtain ⟨au, nu, cu, eu⟩ := own_sl8 (h.pI.r e he).2.1
    have HK : Hid (∀ V : World, Below (w.heap.size + 1) (w.alloc (.cells #[.int .i64 s1, .int .i64 s2] 31)) V → (Below (w.heap.size + 1) (w.alloc (.cells #[.int .i64 s1, .int .i64 s2] 31)) V ∧ V.cell? ⟨z.x, 4, none⟩ = some (.map (some z.m2)) ∧ V.cell? ⟨w.heap.size, 0, none⟩ = some (.int .i64 s1) ∧ V.cell? ⟨w.heap.size, 1, none⟩ = some (.int .i64 s2) ∧ (Instr.lookup 69 (.map (some z.m2)) (.agg #[.int .i64 s1, .int .i64 s2]) true).run Tryz.prog V = .ok (.tuple #[iV e.i (.slice au nu cu) (.slice av nv cv), .bool true]) V)) := fun V hV => by
      have hb := hbx.trans (hV.mono (by omega))
      have hc := (h.below hb).c
      have hp : V.heap[w.heap.size]? = some (.cells #[.int .i64 s1, .int .i64 s2] 31) := (hV.block _ (by omega)).trans (heap_alloc_new' w _)
      exact ⟨hV, hc.2.2.2.2.1, (cell_of_row _ _ _ _ _ _ hp).trans rfl, (cell_of_row _ _ _ _ _ _ hp).trans rfl, eu ▸ ev ▸ lookIE (s := (s1, s2)) (h.below hb) he hes true⟩
    clear h hok hr hf hbx hes he
    go_enter Tryz.func15, Tryz.ntmps15
    go_wp2
    have hS := HK.out _ (Below.refl _ _)
    go_region_held3 (fun V => (Below (w.heap.size + 1) (w.alloc (.cells #[.int .i64 s1, .int .i64 s2] 31)) V ∧ V.cell? ⟨z.x, 4, none⟩ = some (.map (some z.m2)) ∧ V.cell? ⟨w.heap.size, 0, none⟩ = some (.int .i64 s1) ∧ V.cell? ⟨w.heap.size, 1, none⟩ = some (.int .i64 s2) ∧ (Instr.lookup 69 (.map (some z.m2)) (.agg #[.int .i64 s1, .int .i64 s2]) true).run Tryz.prog V = .ok (.tuple #[iV e.i (.slice au nu cu) (.slice av nv cv), .bool true]) V)) (first | exact HK.out _ (Below.drew (Below.refl _ _)) | exact HK.out _ (Below.drew (Below.alloc (Below.refl _ _) (by simp) _)) | exact HK.out _ (Below.alloc (Below.refl _ _) (by simp) _)) (fail)
    all_goals (rename_i hz; clear hz)
    clear hS
    all_goals go_wp2
    all_goals go_ret
    all_goals exact ⟨by simp [*], HB.out _ (Below.drew (Below.alloc (Below.refl _ _) (by simp) _))⟩
end Go.Proofs.YtillgoegiplmkaaGreatDoor.B

namespace Go.Proofs.YtillgoegiplmkaaGreatDoor.B
open C
open Go.RowKit Go.Maps Go.Shelf Go.Sort
set_option linter.unusedVariables false
set_option linter.unusedSimpArgs false

/-- What State's loops keep. -/
structure SL (w : World) (z : Tz) (T : T8) (vo vi vt : Value) (P : List (Og × Value)) (Q : List (Ic × Value × Value)) (R : List (Tm × Value)) (W : World) : Prop where
  sj : SJ w (w.heap.size + 1) T vo vi vt P Q R W
  res : W.heap[w.heap.size]? = some (.cells #[.int .i64 0, .int .i64 0, .int .i64 0, .slice none 0 0, .slice none 0 0, .slice none 0 0] 58 (0, 0))
theorem own_len2 {w : World} {b n c : Nat} {a : Option Addr} {α : Type} {L : List α} {f : α → Ss} (h : RoS w b (.slice a n c) (L.map f)) : n = L.length := by
  rcases h.2 with ⟨e, h2⟩ | ⟨g, cap, cur, e, _⟩
  · injection e with _ e2 _
    rw [e2]
    simpa using h2.symm
  · injection e with _ e2 _
    rw [e2]; simp
theorem SL.below {w W W' : World} {z : Tz} {T : T8} {vo vi vt : Value} {P : List (Og × Value)} {Q : List (Ic × Value × Value)} {R : List (Tm × Value)} (h : SL w z T vo vi vt P Q R W) (hb : Below W.heap.size W W') : SL w z T vo vi vt P Q R W' :=
  ⟨h.sj.below hb, (hb.block _ (Array.getElem?_eq_some_iff.1 h.res).1).trans h.res⟩
theorem ky_cells {w : World} {b n c : Nat} {a : Option Addr} {L : List Ss} (h : RoS w b (.slice a n c) L) {k : Nat} {s : Ss} (hs : L[k]? = some s) : ∃ g, a = some ⟨g, 0, none⟩ ∧ w.cell? ⟨g, k * 2, none⟩ = some (.int .i64 s.1) ∧ w.cell? ⟨g, k * 2 + 1, none⟩ = some (.int .i64 s.2) := by
  obtain ⟨hk, hx⟩ := List.getElem?_eq_some_iff.mp hs
  have hn : n = L.length := own_len2 (f := id) (L := L) (by simpa using h)
  obtain ⟨g, c', e⟩ := own_some h (by omega)
  injection e with e1 _ _
  subst e1
  subst hn
  have q : ∀ j, j < 2 → (L.flatMap ssc)[k * 2 + j]? = some ((ssc s)[j]!) := fun j hj => by
    rw [ssc_get L (k * 2 + j) (by omega), show (k * 2 + j) / 2 = k by omega, show (k * 2 + j) % 2 = j by omega]
    simp [hk, hx]
  exact ⟨g, rfl, own_cell h (q 0 (by omega)), own_cell h (q 1 (by omega))⟩
/-- What a round of the exports stands on. -/
theorem st_o {w wr : World} {z : Tz} {T : T8} {vo vi vt : Value} {P : List (Og × Value)} {Q : List (Ic × Value × Value)} {R : List (Tm × Value)} (h : Tw w z T) (hok : T.Ok) (hs : SL w z T vo vi vt P Q R wr) {ak : Option Addr} {nk ck : Nat} (hK : RoS wr w.heap.size (.slice ak nk ck) (T.ex.map Og.s)) {k : Nat} {o : Og} (ho : T.ex[k]? = some o) (hn : T.ex.length ≤ 1099511627776) :
    ∃ gk e av nv cv, ak = some ⟨gk, 0, none⟩ ∧ (wr.cell? ⟨gk, k * 2, none⟩ = some (.int .i64 o.org) ∧ wr.cell? ⟨gk, k * 2 + 1, none⟩ = some (.int .i64 o.num)) ∧ (e ∈ z.X ∧ e.o = o ∧ e.v = .slice av nv cv) ∧
      (∀ V, Below w.heap.size w V → (Instr.lookup 68 (.map (some z.m1)) (.agg #[.int .i64 o.org, .int .i64 o.num]) false).run Tryz.prog V = .ok (oV o (.slice av nv cv)) V) ∧
      (∀ V, Below w.heap.size w V → Lies .u8 V av o.data) ∧ (o.data.length = nv ∧ nv ≤ 65536 ∧ (av = none → nv = 0 ∧ cv = 0)) := by
  obtain ⟨gk, e1, e2, e3⟩ := ky_cells hK (k := k) (s := o.s) (by rw [List.getElem?_map, ho]; rfl)
  have hmem : o ∈ T.ex := List.mem_of_getElem? ho
  have hfe : T.fe o.s = some o := fnd_mem ordS hok.exs hmem
  obtain ⟨e, he, heo, hes, _⟩ := h.lookX1 hfe
  obtain ⟨av, nv, cv, ev⟩ := own_sl8 (h.pX.r e he).1
  have hB : BO w (.slice av nv cv) o.data := by rw [← ev, ← heo]; exact (h.pX.r e he).1
  have hdl : o.data.length = nv := by
    obtain ⟨_, ⟨q, q2⟩ | ⟨g, c, cur, q, _⟩⟩ := hB
    · injection q with _ q3 _; rw [q3]; simpa using q2
    · injection q with _ q3 _; rw [q3]
  refine ⟨gk, e, av, nv, cv, e1, ⟨e2, e3⟩, ⟨he, heo, ev⟩, fun V hV => ?_, fun V hV => ?_, hdl, ?_, fun hq => ?_⟩
  · have := B.lookX_f (h.below hV) he (by rw [heo])
    rw [heo, ev] at this
    exact this
  · have hB2 : BO V (.slice av nv cv) o.data := own_at hB (fun g hg => hV.block g (World.ownsRow.lt hB g hg).2)
    have hB3 : V.ownsRow 0 5 1 (.slice av nv cv) nv (o.data.map (Value.int .u8)) := by rw [← hdl]; rw [← hdl] at hB2; exact hB2
    exact (own_lies hB3).1
  · have := (hok.ex o hmem).data
    have := (hok.ex o hmem).len
    omega
  · obtain ⟨_, ⟨q, q2⟩ | ⟨g, c, cur, q, _⟩⟩ := hB
    · injection q with _ q3 q4; exact ⟨q3, q4⟩
    · injection q with q3 _ _; rw [hq] at q3; cases q3

theorem SL.addo {w W w6 : World} {z : Tz} {T : T8} {vo vi vt : Value} {P : List (Og × Value)} {Q : List (Ic × Value × Value)} {R : List (Tm × Value)} (h : SL w z T vo vi vt P Q R W) {v6 : Value} {a : Og × Value} {tmp : Obj} (hown : w6.ownsRow w.heap.size 110 9 v6 (P.length + 1) (P.flatMap ogc ++ ogc a)) (hg : (W.alloc tmp).grownBy w6 vo.ownBlock) (ha : ByO W w.heap.size a.2 a.1.data) (hn : (sbl (P ++ [a]) Q R).Nodup) (hat : v6.ownBlock = vo.ownBlock ∨ v6.ownBlock = some (W.alloc tmp).heap.size) :
    SL w z T v6 vi vt (P ++ [a]) Q R (w6.setCell ⟨w.heap.size + 1, 3, none⟩ v6) ∧ Kl (fun g => g = w.heap.size + 1 ∨ vo.ownBlock = some g) W (w6.setCell ⟨w.heap.size + 1, 3, none⟩ v6) ∧ w6.cell? ⟨w.heap.size + 1, 3, none⟩ = some vo ∧ w6.frozen? ⟨w.heap.size + 1, 3, none⟩ = false := by
  have hxl := (Array.getElem?_eq_some_iff.1 h.sj.box).1
  have hrl := (Array.getElem?_eq_some_iff.1 h.res).1
  have hnx : vo.ownBlock ≠ some (w.heap.size + 1) := own_nb h.sj.st.ro h.sj.box (by decide)
  have hnr : vo.ownBlock ≠ some w.heap.size := own_nb h.sj.st.ro h.res (by decide)
  have kb : ∀ g, g < W.heap.size → vo.ownBlock ≠ some g → w6.heap[g]? = W.heap[g]? := fun g hgl hne => (hg.block g (by simp; omega) (fun e => hne e.symm)).trans (Below.heap_alloc _ _ _ hgl)
  have hbx6 := (kb _ hxl hnx).trans h.sj.box
  have hk : Kl (fun g => g = w.heap.size + 1 ∨ vo.ownBlock = some g) W (w6.setCell ⟨w.heap.size + 1, 3, none⟩ v6) := ⟨hg.os, hg.tape, hg.output, by have := hg.size; simp [World.setCell] at *; omega, fun g hgl hS => (heap_setCell_other _ _ _ _ (by simp only; exact fun e => hS (.inl e))).trans (kb g hgl (fun e => hS (.inr e)))⟩
  have hv6 : v6.ownBlock ≠ some (w.heap.size + 1) := by
    rcases hat with e | e
    · rw [e]; exact hnx
    · rw [e]; intro e2; simp at e2; omega
  refine ⟨⟨h.sj.addo hk ((heap_setCell_same _ _ _ _ _ _ hbx6).trans rfl) (own_at hown (fun g hgg => heap_setCell_other _ _ _ _ (by simp only; exact fun e => hv6 (by rw [← e]; exact hgg)))) ha hn, ?_⟩, hk, (cell_of_row _ _ _ _ _ _ hbx6).trans rfl, by simp [World.frozen?, hbx6]⟩
  refine (heap_setCell_other _ _ _ _ (by simp only; omega)).trans ((kb _ hrl hnr).trans h.res)
/-- A row of keys stays. -/
theorem Kl.keysaddo {w W W' : World} {z : Tz} {T : T8} {vo vi vt : Value} {P : List (Og × Value)} {Q : List (Ic × Value × Value)} {R : List (Tm × Value)} (h : SL w z T vo vi vt P Q R W) (hk : Kl (fun g => g = w.heap.size + 1 ∨ vo.ownBlock = some g) W W') {b n s : Nat} {e : TypeId} {v : Value} {xs : List Value} (hr : W.ownsRow b e s v n xs) (h1 : e ≠ 58) (h2 : e ≠ 110) : W'.ownsRow b e s v n xs :=
  own_at hr (fun g hg => hk.block g (World.ownsRow.lt hr g hg).2 (fun q => q.elim (fun q => own_nb hr h.sj.box h1 (by rw [← q]; exact hg)) (fun q => own_ne hr h.sj.st.ro h2 hg q)))

theorem SL.addi {w W w6 : World} {z : Tz} {T : T8} {vo vi vt : Value} {P : List (Og × Value)} {Q : List (Ic × Value × Value)} {R : List (Tm × Value)} (h : SL w z T vo vi vt P Q R W) {v6 : Value} {a : Ic × Value × Value} {tmp : Obj} (hown : w6.ownsRow w.heap.size 63 12 v6 (Q.length + 1) (Q.flatMap icc ++ icc a)) (hg : (W.alloc tmp).grownBy w6 vi.ownBlock) (ha : SOwn W w.heap.size a.2.1 a.1.hv ∧ ByO W w.heap.size a.2.2 a.1.data) (hn : (sbl P (Q ++ [a]) R).Nodup) (hat : v6.ownBlock = vi.ownBlock ∨ v6.ownBlock = some (W.alloc tmp).heap.size) :
    SL w z T vo v6 vt P (Q ++ [a]) R (w6.setCell ⟨w.heap.size + 1, 4, none⟩ v6) ∧ Kl (fun g => g = w.heap.size + 1 ∨ vi.ownBlock = some g) W (w6.setCell ⟨w.heap.size + 1, 4, none⟩ v6) ∧ w6.cell? ⟨w.heap.size + 1, 4, none⟩ = some vi ∧ w6.frozen? ⟨w.heap.size + 1, 4, none⟩ = false := by
  have hxl := (Array.getElem?_eq_some_iff.1 h.sj.box).1
  have hrl := (Array.getElem?_eq_some_iff.1 h.res).1
  have hnx : vi.ownBlock ≠ some (w.heap.size + 1) := own_nb h.sj.st.ri h.sj.box (by decide)
  have hnr : vi.ownBlock ≠ some w.heap.size := own_nb h.sj.st.ri h.res (by decide)
  have kb : ∀ g, g < W.heap.size → vi.ownBlock ≠ some g → w6.heap[g]? = W.heap[g]? := fun g hgl hne => (hg.block g (by simp; omega) (fun e => hne e.symm)).trans (Below.heap_alloc _ _ _ hgl)
  have hbx6 := (kb _ hxl hnx).trans h.sj.box
  have hk : Kl (fun g => g = w.heap.size + 1 ∨ vi.ownBlock = some g) W (w6.setCell ⟨w.heap.size + 1, 4, none⟩ v6) := ⟨hg.os, hg.tape, hg.output, by have := hg.size; simp [World.setCell] at *; omega, fun g hgl hS => (heap_setCell_other _ _ _ _ (by simp only; exact fun e => hS (.inl e))).trans (kb g hgl (fun e => hS (.inr e)))⟩
  have hv6 : v6.ownBlock ≠ some (w.heap.size + 1) := by
    rcases hat with e | e
    · rw [e]; exact hnx
    · rw [e]; intro e2; simp at e2; omega
  refine ⟨⟨h.sj.addi hk ((heap_setCell_same _ _ _ _ _ _ hbx6).trans rfl) (own_at hown (fun g hgg => heap_setCell_other _ _ _ _ (by simp only; exact fun e => hv6 (by rw [← e]; exact hgg)))) ha hn, ?_⟩, hk, (cell_of_row _ _ _ _ _ _ hbx6).trans rfl, by simp [World.frozen?, hbx6]⟩
  refine (heap_setCell_other _ _ _ _ (by simp only; omega)).trans ((kb _ hrl hnr).trans h.res)
/-- A row of keys stays. -/
theorem Kl.keysaddi {w W W' : World} {z : Tz} {T : T8} {vo vi vt : Value} {P : List (Og × Value)} {Q : List (Ic × Value × Value)} {R : List (Tm × Value)} (h : SL w z T vo vi vt P Q R W) (hk : Kl (fun g => g = w.heap.size + 1 ∨ vi.ownBlock = some g) W W') {b n s : Nat} {e : TypeId} {v : Value} {xs : List Value} (hr : W.ownsRow b e s v n xs) (h1 : e ≠ 58) (h2 : e ≠ 63) : W'.ownsRow b e s v n xs :=
  own_at hr (fun g hg => hk.block g (World.ownsRow.lt hr g hg).2 (fun q => q.elim (fun q => own_nb hr h.sj.box h1 (by rw [← q]; exact hg)) (fun q => own_ne hr h.sj.st.ri h2 hg q)))

theorem SL.addt {w W w6 : World} {z : Tz} {T : T8} {vo vi vt : Value} {P : List (Og × Value)} {Q : List (Ic × Value × Value)} {R : List (Tm × Value)} (h : SL w z T vo vi vt P Q R W) {v6 : Value} {a : Tm × Value} {tmp : Obj} (hown : w6.ownsRow w.heap.size 99 2 v6 (R.length + 1) (R.flatMap tmc ++ tmc a)) (hg : (W.alloc tmp).grownBy w6 vt.ownBlock) (ha : SOwn W w.heap.size a.2 a.1.2) (hn : (sbl P Q (R ++ [a])).Nodup) (hat : v6.ownBlock = vt.ownBlock ∨ v6.ownBlock = some (W.alloc tmp).heap.size) :
    SL w z T vo vi v6 P Q (R ++ [a]) (w6.setCell ⟨w.heap.size + 1, 5, none⟩ v6) ∧ Kl (fun g => g = w.heap.size + 1 ∨ vt.ownBlock = some g) W (w6.setCell ⟨w.heap.size + 1, 5, none⟩ v6) ∧ w6.cell? ⟨w.heap.size + 1, 5, none⟩ = some vt ∧ w6.frozen? ⟨w.heap.size + 1, 5, none⟩ = false := by
  have hxl := (Array.getElem?_eq_some_iff.1 h.sj.box).1
  have hrl := (Array.getElem?_eq_some_iff.1 h.res).1
  have hnx : vt.ownBlock ≠ some (w.heap.size + 1) := own_nb h.sj.st.rt h.sj.box (by decide)
  have hnr : vt.ownBlock ≠ some w.heap.size := own_nb h.sj.st.rt h.res (by decide)
  have kb : ∀ g, g < W.heap.size → vt.ownBlock ≠ some g → w6.heap[g]? = W.heap[g]? := fun g hgl hne => (hg.block g (by simp; omega) (fun e => hne e.symm)).trans (Below.heap_alloc _ _ _ hgl)
  have hbx6 := (kb _ hxl hnx).trans h.sj.box
  have hk : Kl (fun g => g = w.heap.size + 1 ∨ vt.ownBlock = some g) W (w6.setCell ⟨w.heap.size + 1, 5, none⟩ v6) := ⟨hg.os, hg.tape, hg.output, by have := hg.size; simp [World.setCell] at *; omega, fun g hgl hS => (heap_setCell_other _ _ _ _ (by simp only; exact fun e => hS (.inl e))).trans (kb g hgl (fun e => hS (.inr e)))⟩
  have hv6 : v6.ownBlock ≠ some (w.heap.size + 1) := by
    rcases hat with e | e
    · rw [e]; exact hnx
    · rw [e]; intro e2; simp at e2; omega
  refine ⟨⟨h.sj.addt hk ((heap_setCell_same _ _ _ _ _ _ hbx6).trans rfl) (own_at hown (fun g hgg => heap_setCell_other _ _ _ _ (by simp only; exact fun e => hv6 (by rw [← e]; exact hgg)))) ha hn, ?_⟩, hk, (cell_of_row _ _ _ _ _ _ hbx6).trans rfl, by simp [World.frozen?, hbx6]⟩
  refine (heap_setCell_other _ _ _ _ (by simp only; omega)).trans ((kb _ hrl hnr).trans h.res)
/-- A row of keys stays. -/
theorem Kl.keysaddt {w W W' : World} {z : Tz} {T : T8} {vo vi vt : Value} {P : List (Og × Value)} {Q : List (Ic × Value × Value)} {R : List (Tm × Value)} (h : SL w z T vo vi vt P Q R W) (hk : Kl (fun g => g = w.heap.size + 1 ∨ vt.ownBlock = some g) W W') {b n s : Nat} {e : TypeId} {v : Value} {xs : List Value} (hr : W.ownsRow b e s v n xs) (h1 : e ≠ 58) (h2 : e ≠ 99) : W'.ownsRow b e s v n xs :=
  own_at hr (fun g hg => hk.block g (World.ownsRow.lt hr g hg).2 (fun q => q.elim (fun q => own_nb hr h.sj.box h1 (by rw [← q]; exact hg)) (fun q => own_ne hr h.sj.st.rt h2 hg q)))

/-- What a round of the imports stands on. -/
theorem st_i {w wr : World} {z : Tz} {T : T8} {vo vi vt : Value} {P : List (Og × Value)} {Q : List (Ic × Value × Value)} {R : List (Tm × Value)} (h : Tw w z T) (hok : T.Ok) (hs : SL w z T vo vi vt P Q R wr) {ak : Option Addr} {nk ck : Nat} (hK : RoS wr w.heap.size (.slice ak nk ck) (T.im.map Ic.s)) {k : Nat} {o : Ic} (ho : T.im[k]? = some o) :
    ∃ gk au nu cu av nv cv, ak = some ⟨gk, 0, none⟩ ∧ (wr.cell? ⟨gk, k * 2, none⟩ = some (.int .i64 o.org) ∧ wr.cell? ⟨gk, k * 2 + 1, none⟩ = some (.int .i64 o.num)) ∧
      (∀ V, Below w.heap.size w V → (Instr.lookup 69 (.map (some z.m2)) (.agg #[.int .i64 o.org, .int .i64 o.num]) false).run Tryz.prog V = .ok (iV o (.slice au nu cu) (.slice av nv cv)) V) ∧
      (∀ V, Below w.heap.size w V → Spa V au o.hv) ∧ (o.hv.length = nu ∧ nu ≤ 2000 ∧ (au = none → nu = 0 ∧ cu = 0)) ∧
      (∀ V, Below w.heap.size w V → Lies .u8 V av o.data) ∧ (o.data.length = nv ∧ nv ≤ 65536 ∧ (av = none → nv = 0 ∧ cv = 0)) := by
  obtain ⟨gk, e1, e2, e3⟩ := ky_cells hK (k := k) (s := o.s) (by rw [List.getElem?_map, ho]; rfl)
  have hmem : o ∈ T.im := List.mem_of_getElem? ho
  have hio := hok.im o hmem
  have hfe : T.fi o.s = some o := fnd_mem ordS hok.ims hmem
  obtain ⟨e, he, heo, hes, _⟩ := h.lookI1 hfe
  obtain ⟨av, nv, cv, ev⟩ := own_sl8 (h.pI.r e he).1.1
  obtain ⟨au, nu, cu, eu⟩ := own_sl8 (h.pI.r e he).2.1
  have hB : BO w (.slice av nv cv) o.data := by rw [← ev, ← heo]; exact (h.pI.r e he).1.1
  have hS : SO w (.slice au nu cu) o.hv := by rw [← eu, ← heo]; exact (h.pI.r e he).2.1
  have hdl : o.data.length = nv := by
    obtain ⟨_, ⟨q, q2⟩ | ⟨g, c, cur, q, _⟩⟩ := hB
    · injection q with _ q3 _; rw [q3]; simpa using q2
    · injection q with _ q3 _; rw [q3]
  have hhl : o.hv.length = nu := by
    obtain ⟨_, ⟨q, q2⟩ | ⟨g, c, cur, q, _⟩⟩ := hS
    · injection q with _ q3 _; rw [q3]; simpa using q2
    · injection q with _ q3 _; rw [q3]
  refine ⟨gk, au, nu, cu, av, nv, cv, e1, ⟨e2, e3⟩, fun V hV => ?_, fun V hV => ?_, ⟨hhl, by have := hio.few; omega, fun hq => ?_⟩, fun V hV => ?_, hdl, ?_, fun hq => ?_⟩
  · have := lookIE (s := o.s) (h.below hV) he (by rw [heo]) false
    rw [heo, ev, eu] at this
    exact this
  · exact SOwn.spa (own_at hS (fun g hg => hV.block g (World.ownsRow.lt hS g hg).2))
  · obtain ⟨_, ⟨q, q2⟩ | ⟨g, c, cur, q, _⟩⟩ := hS
    · injection q with _ q3 q4; exact ⟨q3, q4⟩
    · injection q with q3 _ _; rw [hq] at q3; cases q3
  · have hB2 : BO V (.slice av nv cv) o.data := own_at hB (fun g hg => hV.block g (World.ownsRow.lt hB g hg).2)
    have hB3 : V.ownsRow 0 5 1 (.slice av nv cv) nv (o.data.map (Value.int .u8)) := by rw [← hdl]; rw [← hdl] at hB2; exact hB2
    exact (own_lies hB3).1
  · have a1 := hio.dat
    have a2 := hio.most
    split at a1 <;> omega
  · obtain ⟨_, ⟨q, q2⟩ | ⟨g, c, cur, q, _⟩⟩ := hB
    · injection q with _ q3 q4; exact ⟨q3, q4⟩
    · injection q with q3 _ _; rw [hq] at q3; cases q3

theorem own_len3 {w : World} {b n c : Nat} {a : Option Addr} {α : Type} {L : List α} {f : α → Int} (h : RoI w b (.slice a n c) (L.map f)) : n = L.length := by
  rcases h.2 with ⟨e, h2⟩ | ⟨g, cap, cur, e, _⟩
  · injection e with _ e2 _
    rw [e2]
    simpa using h2.symm
  · injection e with _ e2 _
    rw [e2]; simp
/-- What a round of the tombs stands on. -/
theorem st_t {w wr : World} {z : Tz} {T : T8} {vo vi vt : Value} {P : List (Og × Value)} {Q : List (Ic × Value × Value)} {R : List (Tm × Value)} (h : Tw w z T) (hok : T.Ok) (hs : SL w z T vo vi vt P Q R wr) {ak : Option Addr} {nk ck : Nat} (hK : RoI wr w.heap.size (.slice ak nk ck) (T.tb.map (Prod.fst : Tm → Int))) {k : Nat} {o : Tm} (ho : T.tb[k]? = some o) :
    ∃ gk au nu cu, ak = some ⟨gk, 0, none⟩ ∧ wr.cell? ⟨gk, k, none⟩ = some (.int .i64 o.1) ∧
      (∀ V, Below w.heap.size w V → (Instr.lookup 70 (.map (some z.m3)) (.int .i64 o.1) false).run Tryz.prog V = .ok (.slice au nu cu) V) ∧
      (∀ V, Below w.heap.size w V → Spa V au o.2) ∧ (o.2.length = nu ∧ nu ≤ 500 ∧ (au = none → nu = 0 ∧ cu = 0)) := by
  obtain ⟨hk, hx⟩ := List.getElem?_eq_some_iff.mp ho
  have hn := own_len3 hK
  have hmem : o ∈ T.tb := List.mem_of_getElem? ho
  have hft : T.ft o.1 = o.2 := by unfold T8.ft; rw [fnd_mem ordI hok.tbs hmem]
  obtain ⟨gk, c', e1⟩ := own_some hK (by simp; omega)
  injection e1 with e2 e3 _
  have hc : wr.cell? ⟨gk, k, none⟩ = some (.int .i64 o.1) := by
    rw [e2] at hK
    have hK2 : wr.ownsRow w.heap.size 3 1 (.slice (some ⟨gk, 0, none⟩) nk ck) nk ((T.tb.map (Prod.fst : Tm → Int)).flatMap isc) := by
      have : (T.tb.map (Prod.fst : Tm → Int)).length = nk := by rw [hn]; simp
      rw [← this]; rw [← this] at hK; exact hK
    refine own_cell hK2 (j := k) ?_
    rw [show ((T.tb.map (Prod.fst : Tm → Int)).flatMap isc) = (T.tb.map (Prod.fst : Tm → Int)).map (Value.int .i64) from isc_map _, List.getElem?_map, List.getElem?_map, ho]
    rfl
  obtain ⟨v, hv, hl, _⟩ := h.lookBW o.1
  rw [hft] at hv
  obtain ⟨au, nu, cu, rfl⟩ := own_sl8 hv
  have hhl : o.2.length = nu := by
    obtain ⟨_, ⟨q, q2⟩ | ⟨g, c, cur, q, _⟩⟩ := hv
    · injection q with _ q3 _; rw [q3]; simpa using q2
    · injection q with _ q3 _; rw [q3]
  refine ⟨gk, au, nu, cu, e2, hc, fun V hV => hl V hV false, fun V hV => SOwn.spa (own_at hv (fun g hg => hV.block g (World.ownsRow.lt hv g hg).2)), hhl, by have := (hok.tb o hmem).2.2.2.2.1; omega, fun hq => ?_⟩
  obtain ⟨_, ⟨q, q2⟩ | ⟨g, c, cur, q, _⟩⟩ := hv
  · injection q with _ q3 q4; exact ⟨q3, q4⟩
  · injection q with q3 _ _; rw [hq] at q3; cases q3
end Go.Proofs.YtillgoegiplmkaaGreatDoor.B
