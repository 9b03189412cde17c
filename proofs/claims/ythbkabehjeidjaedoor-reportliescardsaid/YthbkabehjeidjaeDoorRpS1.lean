import Derived.Test.YthbkabehjeidjaeDoorRq5
import Derived.BigQuiet
namespace Go.Proofs.YthbkabehjeidjaeDoor
open Go.RowKit
set_option linter.unusedVariables false
set_option linter.unusedSimpArgs false

/-! ## What reports lie side by side: numbers and lists alone -/
theorem cn5_nr (fit : Nat → Bool) (N : Nat) : ∀ (f i : Nat), i ≤ N → N ≤ f + i → (∀ q, q < i → fit (q + 1) = true) → NR fit N (cn5 fit N f i)
  | 0, i, h1, h2, h3 => ⟨h1, h3, fun h => by unfold cn5 at h; omega⟩
  | f + 1, i, h1, h2, h3 => by
    unfold cn5
    by_cases h : i < N ∧ fit (i + 1) = true
    · rw [if_pos h]
      exact cn5_nr fit N f (i + 1) (by omega) (by omega) (fun q hq => by
        by_cases e : q < i
        · exact h3 q e
        · obtain rfl : q = i := by omega
          exact h.2)
    · rw [if_neg h]
      refine ⟨h1, h3, fun hi => ?_⟩
      cases hf : fit (i + 1) with
      | false => rfl
      | true => exact absurd ⟨hi, hf⟩ h
theorem nm_nr (k : Qu) (lo sr : Int) (l : List (Int × Int)) : NR (fit5 k lo sr l) (min l.length 1000) (nm5 k lo sr l) := cn5_nr _ _ _ 0 (Nat.zero_le _) (by omega) (fun q hq => by omega)
/-- The reports one behind the other. -/
structure Ch (k : Qu) (lo sr : Int) (L : List (Int × Int)) (rs : List Rr) (LO : Nat → Int) (LL : Nat → List (Int × Int)) (NN : Nat → Nat) : Prop where
  lo0 : LO 0 = lo
  l0 : LL 0 = L
  one : ∀ i : Nat, i < rs.length → LL i ≠ [] ∧ sr + (i : Int) ≤ 4611686018427387903 ∧ NR (fit5 k (LO i) (sr + i) (LL i)) (min (LL i).length 1000) (NN i) ∧ rs[i]? = some (rep5 k (LO i) (sr + i) (LL i) (NN i)) ∧ LO (i + 1) = upA k.upp (LL i) (NN i) ∧ LL (i + 1) = (LL i).drop (NN i) ∧ Bg k (LO i) (sr + i) (LL i)
  fin : LL rs.length = []
theorem dl_chain {k : Qu} (ok : k.Ok) : ∀ (f : Nat) {lo sr : Int} {l : List (Int × Int)} {rs : List Rr}, dl5 k f lo sr l = some rs → Bg k lo sr l → ∃ LO LL NN, Ch k lo sr l rs LO LL NN
  | 0, lo, sr, l, rs, h, _ => by cases h
  | f + 1, lo, sr, l, rs, h, hb => by
    rw [dl5] at h
    split at h
    · rename_i e
      subst e
      cases h
      exact ⟨fun _ => lo, fun _ => [], fun _ => 0, rfl, rfl, fun i hi => by simp at hi, rfl⟩
    · rename_i hne
      split at h
      · cases h
      · rename_i hs
        obtain ⟨rs', h1, rfl⟩ := Option.map_eq_some_iff.mp h
        have hn := nm_nr k lo sr l
        have hno := nm_one ok hb (by omega) hne hn
        obtain ⟨LO, LL, NN, hc⟩ := dl_chain ok f h1 (hb.next hne hno.1)
        refine ⟨fun i => match i with | 0 => lo | j + 1 => LO j, fun i => match i with | 0 => l | j + 1 => LL j, fun i => match i with | 0 => nm5 k lo sr l | j + 1 => NN j, rfl, rfl, fun i hi => ?_, hc.fin⟩
        match i, hi with
        | 0, _ =>
          refine ⟨hne, by simp; omega, by simpa using hn, by simp, ?_, ?_, by simpa using hb⟩
          · exact hc.lo0
          · exact hc.l0
        | j + 1, hi =>
          have := hc.one j (by simpa using hi)
          have e : sr + 1 + (j : Int) = sr + ((j + 1 : Nat) : Int) := by omega
          rw [e] at this
          simpa using this
section
variable {k : Qu} {lo sr : Int} {L : List (Int × Int)} {rs : List Rr} {LO : Nat → Int} {LL : Nat → List (Int × Int)} {NN : Nat → Nat}
theorem Ch.num (ok : k.Ok) (h : Ch k lo sr L rs LO LL NN) {i : Nat} (hi : i < rs.length) : 1 ≤ NN i ∧ NN i ≤ (LL i).length ∧ NN i ≤ 1000 := by
  obtain ⟨h1, h2, h3, _, _, _, h7⟩ := h.one i hi
  exact nm_one ok h7 h2 h1 h3
theorem Ch.rep (ok : k.Ok) (h : Ch k lo sr L rs LO LL NN) {i : Nat} (hi : i < rs.length) : (rep5 k (LO i) (sr + i) (LL i) (NN i)).Ok ∧ (ln5 k (rep5 k (LO i) (sr + i) (LL i) (NN i)) : Int) ≤ k.mtu := by
  obtain ⟨h1, h2, h3, _, _, _, h7⟩ := h.one i hi
  obtain ⟨n1, n2, n3⟩ := h.num ok hi
  have hok := rep_ok ok h7 h2 n1 n2 n3
  have hf := h3.all (NN i - 1) (by omega)
  rw [show NN i - 1 + 1 = NN i by omega] at hf
  exact ⟨hok, (fit_iff ok hok).mp hf⟩
/-- A report with one claim more. -/
theorem Ch.more (ok : k.Ok) (h : Ch k lo sr L rs LO LL NN) {i : Nat} (hi : i + 1 < rs.length) (hn : NN i ≠ 1000) :
    (rep5 k (LO i) (sr + i) (LL i) (NN i + 1)).Ok ∧ k.mtu < (ln5 k (rep5 k (LO i) (sr + i) (LL i) (NN i + 1)) : Int) ∧ (LL i)[NN i]? = (LL (i + 1))[0]? ∧ (LL i).take (NN i + 1) = (LL i).take (NN i) ++ (LL (i + 1)).take 1 ∧ upA k.upp (LL i) (NN i + 1) = upA k.upp (LL (i + 1)) 1 ∧ LL (i + 1) ≠ [] := by
  obtain ⟨h1, h2, h3, _, h5, h6, h7⟩ := h.one i (by omega)
  obtain ⟨n1, n2, n3⟩ := h.num ok (show i < rs.length by omega)
  obtain ⟨g1, _⟩ := h.one (i + 1) hi
  have hlt : NN i < (LL i).length := by
    rcases Nat.lt_or_ge (NN i) (LL i).length with q | q
    · exact q
    · rw [h6, List.drop_eq_nil_of_le q] at g1
      exact absurd rfl g1
  have hst := h3.stop (by omega)
  have hok := rep_ok ok h7 h2 (show 1 ≤ NN i + 1 by omega) (by omega) (by omega)
  refine ⟨hok, ?_, ?_, ?_, ?_, g1⟩
  · have := mt (fit_iff ok hok).mpr (by show ¬ fit5 k (LO i) (sr + i) (LL i) (NN i + 1) = true; rw [hst]; decide)
    omega
  · rw [h6, List.getElem?_drop]; rfl
  · rw [h6, List.take_add_one, List.take_drop]
    obtain ⟨p, hp⟩ := get_one (LL i) (NN i) hlt
    have hl : ((LL i).take (NN i)).length = NN i := by rw [List.length_take]; omega
    rw [hp, List.take_add_one, hp]
    congr 1
    rw [List.drop_append, List.drop_of_length_le (by omega), hl, Nat.sub_self]
    rfl
  · rw [h6]
    simp [upA]
theorem Ch.last (h : Ch k lo sr L rs LO LL NN) {i : Nat} (hi : i + 1 = rs.length) : LO (i + 1) = k.upp := by
  obtain ⟨h1, h2, h3, _, h5, h6, h7⟩ := h.one i (by omega)
  have hf := h.fin
  rw [← hi, h6] at hf
  have hlen := congrArg List.length hf
  rw [List.length_drop, List.length_nil] at hlen
  rw [h5]
  unfold upA
  rw [List.getElem?_eq_none (by omega)]
  rfl
theorem Ch.flat (h : Ch k lo sr L rs LO LL NN) : ∀ i, i ≤ rs.length → (rs.take i).flatMap Rr.clm ++ LL i = L
  | 0, _ => by rw [h.l0]; rfl
  | i + 1, hi => by
    have ih := h.flat i (by omega)
    obtain ⟨_, _, _, h4, _, h6, _⟩ := h.one i (by omega)
    rw [List.take_add_one, h4, List.flatMap_append, h6, ← ih, List.append_assoc]
    congr 1
    simp [rep5]
end

end Go.Proofs.YthbkabehjeidjaeDoor

namespace Go.Proofs.YthbkabehjeidjaeDoor
open Go.RowKit
set_option linter.unusedVariables false
set_option linter.unusedSimpArgs false

/-! ## report.Segment and the reference's, of a report that may be -/
theorem rt_clOk : ∀ {l : List (Int × Int)} {up lo : Int}, clOk up lo l = true → up ≤ 65536 → C.Rt lo l
  | [], up, lo, _, _ => trivial
  | p :: r, up, lo, h, hu => by
    simp only [clOk, Bool.and_eq_true, decide_eq_true_eq] at h
    exact ⟨h.1, h.2.1, by omega, rt_clOk h.2.2.2 hu⟩
theorem set_clOk {l : List (Int × Int)} {up lo : Int} (h : clOk up lo l = true) (hu : up ≤ 65536) (h0 : 0 ≤ lo) (hl : l.length ≤ 1000) : C.setB l = true := C.setB_iff.mpr ⟨by omega, (rt_clOk h hu).mono h0⟩

theorem ext_al (w : World) (o : Obj) : w.alloc o = ext w ⟨[o], 0⟩ := rfl
theorem ext_al2 (w : World) (y : Xt) (o : Obj) : ∃ z, (ext w y).alloc o = ext w z := ⟨_, (ext_al (ext w y) o).trans (ext_ext w y _)⟩
theorem asked_x (f t : Int) (w : World) (h1 : 0 ≤ f) (h2 : f ≤ t) (h3 : t ≤ 4611686018427387903) : Calls Tryd.prog 115 #[.agg #[.int .i64 f, .int .i64 t]] w fun e w' => e = .returned (.bool true) ∧ ∃ y, w' = ext w y := by
  have HB : Hid (∃ y, w.alloc (.cells #[.int .i64 f, .int .i64 t] 36) = ext w y) := ⟨_, ext_al w _⟩
  go_enter Tryd.func115, Tryd.ntmps115
  go_wp2
  go_ret
  exact ⟨rfl, HB.out⟩
theorem may_x (f t : Int) (w : World) (h1 : 0 ≤ f) (h2 : f < t) (h3 : t ≤ 4611686018427387903) : Calls Tryd.prog 119 #[.agg #[.int .i64 f, .int .i64 t]] w fun e w' => e = .returned (.bool true) ∧ ∃ y, w' = ext w y := by
  have HA := asked_x f t (w.alloc (.cells #[.int .i64 f, .int .i64 t] 36)) h1 (by omega) h3
  have h0 : (w.alloc (.cells #[.int .i64 f, .int .i64 t] 36)).heap[w.heap.size]? = some (.cells #[.int .i64 f, .int .i64 t] 36 (0, 0)) := al_new _ _
  have HC : Hid (∀ y, (ext (w.alloc (.cells #[.int .i64 f, .int .i64 t] 36)) y).cell? ⟨w.heap.size, 0, none⟩ = some (.int .i64 f) ∧ (ext (w.alloc (.cells #[.int .i64 f, .int .i64 t] 36)) y).cell? ⟨w.heap.size, 1, none⟩ = some (.int .i64 t)) := fun y => by
    have h1 := ((ext_below _ y).block w.heap.size (Array.getElem?_eq_some_iff.1 h0).1).trans h0
    exact ⟨(cell_of_row _ _ _ _ _ _ h1).trans rfl, (cell_of_row _ _ _ _ _ _ h1).trans rfl⟩
  clear h0
  go_enter Tryd.func119, Tryd.ntmps119
  go_wp2_with fail
  refine HA.mono ?_
  rintro e w2 ⟨rfl, y, rfl⟩
  have HX : Hid (∃ z, ext (w.alloc (.cells #[.int .i64 f, .int .i64 t] 36)) y = ext w z) := ⟨_, by rw [ext_al w, ext_ext]⟩
  obtain ⟨c0, c1⟩ := HC.out y
  generalize ext (w.alloc (.cells #[.int .i64 f, .int .i64 t] 36)) y = w2 at *
  clear HA HC
  go_wp2
  go_ret
  exact ⟨rfl, HX.out⟩
set_option maxHeartbeats 2000000 in
/-- claims.Right of a set: it makes new blocks alone. -/
theorem right_x (a : Option Addr) (n c : Nat) (l : List (Int × Int)) (lo up : Int) (w : World) (h : CIn w (.slice a n c) l) (hn : l.length = n) (h2 : n ≤ 1000) (hk : clOk up lo l = true) (hu : up ≤ 65536) (h0 : 0 ≤ lo) :
    Calls Tryd.prog 76 #[.slice a n c] w fun e w' => e = .returned (.bool true) ∧ ∃ y, w' = ext w y := by
  have HS : Hid (CIn w (.slice a n c) l) := h
  have HN : Hid (l.length = n) := hn
  have HK : Hid (clOk up lo l = true) := hk
  have h2' : ¬ (2000 : Int) < (n : Int) := by omega
  clear h hn hk
  go_enter Tryd.func76, Tryd.ntmps76
  go_wp2_with fail
  go_loopw [3, 11] (fun q i wr => ∃ (k : Nat) (least : Int), k ≤ n ∧ i = .int .i64 k ∧ q = .int .i64 least ∧ 0 ≤ least ∧ least ≤ 65537 ∧ Hid ((∃ y, wr = ext w y) ∧ ∀ p, l[k]? = some p → least ≤ p.1)) (fun _ i _ => n - (intOf i).toNat)
  case atStart => exact ⟨0, 0, by omega, rfl, rfl, by omega, by omega, hid_and (p := ∃ y, w = ext w y) ⟨⟨[], 0⟩, rfl⟩ (show ∀ p, l[0]? = some p → (0 : Int) ≤ p.1 from fun p hp => by have := (clOk_at HK.out 0 p hp).1; omega)⟩
  case round =>
    obtain ⟨k, least, hk, rfl, rfl, hl0, hl1, HJ⟩ := hrel
    by_cases hlt : k < n
    · have hlt' : (k : Int) < (n : Int) := by omega
      obtain ⟨p, hp⟩ := get_one l k (by rw [HN.out]; exact hlt)
      obtain ⟨y, hy⟩ := HJ.out.1
      have hbe : Below w.heap.size w wr := by rw [hy]; exact ext_below w y
      obtain ⟨g, off, rfl, q1, q2⟩ := (HS.out.below hbe).at hp
      obtain ⟨b1, b2, b3, _⟩ := clOk_at HK.out k p hp
      have b0 := HJ.out.2 p hp
      have hA := may_x p.1 p.2 (wr.alloc (.cells #[.int .i64 p.1, .int .i64 p.2] 36)) (by omega) b2 (by omega)
      have h0 : (wr.alloc (.cells #[.int .i64 p.1, .int .i64 p.2] 36)).heap[wr.heap.size]? = some (.cells #[.int .i64 p.1, .int .i64 p.2] 36 (0, 0)) := al_new _ _
      have HC : Hid (∀ z, (ext (wr.alloc (.cells #[.int .i64 p.1, .int .i64 p.2] 36)) z).cell? ⟨wr.heap.size, 0, none⟩ = some (.int .i64 p.1) ∧ (ext (wr.alloc (.cells #[.int .i64 p.1, .int .i64 p.2] 36)) z).cell? ⟨wr.heap.size, 1, none⟩ = some (.int .i64 p.2)) := fun z => by
        have h1 := ((ext_below _ z).block wr.heap.size (Array.getElem?_eq_some_iff.1 h0).1).trans h0
        exact ⟨(cell_of_row _ _ _ _ _ _ h1).trans rfl, (cell_of_row _ _ _ _ _ _ h1).trans rfl⟩
      have HX : Hid (∀ z, ∃ z', ext (wr.alloc (.cells #[.int .i64 p.1, .int .i64 p.2] 36)) z = ext w z') := fun z => ⟨_, by rw [hy, ext_al (ext w y), ext_ext, ext_ext]⟩
      have HNx : Hid (∀ q, l[k + 1]? = some q → p.2 + 1 ≤ q.1) := fun q hq => by
        have := (clOk_at HK.out (k + 1) q hq).2.2.2 p (by simpa using hp) (by omega)
        omega
      have hwp : IntKind.i64.wrap (p.2 + 1) = p.2 + 1 := by rw [IntKind.wrap_i64]; omega
      have hnl : ¬ p.1 < least := by omega
      obtain ⟨p1, p2⟩ := p
      simp only at *
      clear hp hy hbe h0 HJ
      go_wp2_with fail
      refine hA.mono ?_
      rintro e w2 ⟨rfl, z, rfl⟩
      obtain ⟨c0, c1⟩ := HC.out z
      have HX2 := HX.out z
      have HX2 : Hid (∃ z', ext (wr.alloc (.cells #[.int .i64 p1, .int .i64 p2] 36)) z = ext w z') := HX2
      generalize ext (wr.alloc (.cells #[.int .i64 p1, .int .i64 p2] 36)) z = w2 at *
      clear hA HC HX
      go_wp2
      go_roundw
      case rel => exact ⟨k + 1, p2 + 1, by omega, by go_num, by go_num, by omega, by omega, hid_and HX2 HNx⟩
      case measure => simp [intOf]; omega
    · have hlt' : ¬ (k : Int) < (n : Int) := by omega
      have HX := HJ.out.1
      have HX : Hid (∃ y, wr = ext w y) := HX
      go_wp2
      go_ret
      exact ⟨rfl, HX.out⟩


end Go.Proofs.YthbkabehjeidjaeDoor

namespace Go.Proofs.YthbkabehjeidjaeDoor
open Go.RowKit
set_option linter.unusedVariables false
set_option linter.unusedSimpArgs false

set_option maxRecDepth 100000 in
set_option maxHeartbeats 8000000 in
theorem mayBe5_ok (r : Rr) (hr : r.Ok) (a : Option Addr) (n c : Nat) (hn : r.clm.length = n) (hnc : n ≤ c) (hcc : c ≤ 9223372036854775807) (w : World) (hC : CIn w (.slice a n c) r.clm) :
    Calls Tryd.prog 90 #[.agg (rpA r n a c)] w fun e w' => e = .returned (.bool true) ∧ Below w.heap.size w w' := by
  obtain ⟨W, hW⟩ : ∃ W, w.alloc (.cells (rpA r n a c) 75) = W := ⟨_, rfl⟩
  have HWe : Hid (w.alloc (.cells (rpA r n a c) 75) = W) := hW
  have hbW : Below w.heap.size w W := by rw [← hW]; exact (Below.refl _ _).alloc (Nat.le_refl _) _
  have HBW : Hid (Below w.heap.size w W) := hbW
  have HRo : Hid (∀ V, Below W.heap.size W V → V.heap[w.heap.size]? = some (.cells (rpA r n a c) 75 (0, 0))) := fun V hV => by
    have h1 : W.heap[w.heap.size]? = some (.cells (rpA r n a c) 75 (0, 0)) := by rw [← hW]; exact al_new _ _
    exact (hV.block _ (Array.getElem?_eq_some_iff.1 h1).1).trans h1
  have hs1 : 1 ≤ r.ser ∧ r.ser ≤ 4611686018427387903 := hr.ser
  have hs2 : 0 ≤ r.chk ∧ r.chk ≤ 4611686018427387903 := hr.chk
  have q3 := fun V => bounds5_any r.low r.upp V
  rw [decide_eq_true (⟨hr.low, hr.mid, hr.upp⟩ : 0 ≤ r.low ∧ r.low < r.upp ∧ r.upp ≤ 65536)] at q3
  have hn1 : 1 ≤ n := by rw [← hn]; exact hr.some
  have hn2 : n ≤ 1000 := by rw [← hn]; exact hr.few
  have HRi : Hid (∀ x, Calls Tryd.prog 76 #[.slice a n c] (ext W x) fun e w' => e = .returned (.bool true) ∧ ∃ y, w' = ext (ext W x) y) := fun x => right_x a n c r.clm r.low r.upp _ ((hC.below hbW).below (ext_below W x)) hn hn2 hr.cls hr.upp hr.low
  obtain ⟨p, hp⟩ := get_one r.clm 0 (by omega)
  obtain ⟨z, hz⟩ := get_one r.clm (n - 1) (by omega)
  obtain ⟨g, off, rfl, _⟩ := hC.at hp
  have HG : Hid (∀ V, Below w.heap.size w V → V.cell? ⟨g, off, none⟩ = some (.int .i64 p.1) ∧ V.cell? ⟨g, off + (n - 1) * 2 + 1, none⟩ = some (.int .i64 z.2)) := fun V hV => by
    obtain ⟨g1, o1, e1, x0, _⟩ := (hC.below hV).at hp
    cases e1
    obtain ⟨g2, o2, e2, _, x3⟩ := (hC.below hV).at hz
    cases e2
    exact ⟨by simpa using x0, x3⟩
  have b1 := (clOk_at hr.cls 0 p hp).1
  have b2 := (clOk_at hr.cls (n - 1) z hz).2.2.1
  obtain ⟨m, rfl⟩ : ∃ m, n = m + 1 := ⟨n - 1, by omega⟩
  rw [Nat.add_sub_cancel] at HG
  have hs4 : (1 : Int) ≤ (m : Int) + 1 ∧ (m : Int) + 1 ≤ 1000 := ⟨by omega, by omega⟩
  have hwm : IntKind.i64.wrap ((m : Int) + 1 - 1) = (m : Int) := by rw [IntKind.wrap_i64]; omega
  have hmm : (m : Int) < (m : Int) + 1 := by omega
  have hm0 : (0 : Int) < (m : Int) + 1 := by omega
  obtain ⟨y0, y1, y2, y3, y4⟩ := (show W.cell? ⟨w.heap.size, 0, none⟩ = some (.int .i64 r.ser) ∧ W.cell? ⟨w.heap.size, 1, none⟩ = some (.int .i64 r.chk) ∧ W.cell? ⟨w.heap.size, 2, none⟩ = some (.int .i64 r.upp) ∧ W.cell? ⟨w.heap.size, 3, none⟩ = some (.int .i64 r.low) ∧ W.cell? ⟨w.heap.size, 4, none⟩ = some (.slice (some ⟨g, off, none⟩) (m + 1) c) from ⟨(cell_of_row _ _ _ _ _ _ (HRo.out W (Below.refl _ _))).trans rfl, (cell_of_row _ _ _ _ _ _ (HRo.out W (Below.refl _ _))).trans rfl, (cell_of_row _ _ _ _ _ _ (HRo.out W (Below.refl _ _))).trans rfl, (cell_of_row _ _ _ _ _ _ (HRo.out W (Below.refl _ _))).trans rfl, (cell_of_row _ _ _ _ _ _ (HRo.out W (Below.refl _ _))).trans rfl⟩)
  clear hW hbW hC hr hn hp hz hn1
  go_enter Tryd.func90, Tryd.ntmps90
  have HRi2 : Hid (∀ x, Calls Tryd.prog 76 #[.slice (some ⟨g, off, none⟩) (m + 1) c] (ext W x) fun e w' => e = .returned (.bool true) ∧ ∃ y, w' = ext (ext W x) y) := HRi.out
  have HYs : Hid (∀ V, Below W.heap.size W V → (V.cell? ⟨w.heap.size, 0, none⟩ = some (.int .i64 r.ser) ∧ V.cell? ⟨w.heap.size, 1, none⟩ = some (.int .i64 r.chk) ∧ V.cell? ⟨w.heap.size, 2, none⟩ = some (.int .i64 r.upp) ∧ V.cell? ⟨w.heap.size, 3, none⟩ = some (.int .i64 r.low) ∧ V.cell? ⟨w.heap.size, 4, none⟩ = some (.slice (some ⟨g, off, none⟩) (m + 1) c)) ∧ V.cell? ⟨g, off, none⟩ = some (.int .i64 p.1) ∧ V.cell? ⟨g, off + m * 2 + 1, none⟩ = some (.int .i64 z.2)) := fun V hV => ⟨⟨(cell_of_row _ _ _ _ _ _ (HRo.out V hV)).trans rfl, (cell_of_row _ _ _ _ _ _ (HRo.out V hV)).trans rfl, (cell_of_row _ _ _ _ _ _ (HRo.out V hV)).trans rfl, (cell_of_row _ _ _ _ _ _ (HRo.out V hV)).trans rfl, (cell_of_row _ _ _ _ _ _ (HRo.out V hV)).trans rfl⟩, HG.out V (HBW.out.trans (hV.mono HBW.out.size))⟩
  obtain ⟨x0, x1⟩ := (HYs.out W (Below.refl _ _)).2
  have HQb : ∀ x (v lo hi : Int), lo ≤ v ∧ v ≤ hi → Calls Tryd.prog 75 #[.int .i64 v, .int .i64 lo, .int .i64 hi] (ext W x) fun e w'' => e = .returned (.bool true) ∧ ∃ y, w'' = ext W y := fun x v lo hi h => by
    have q := C.between5_any v lo hi (ext W x)
    rw [decide_eq_true h] at q
    exact ext_same q
  have HQ3 : ∀ x, Calls Tryd.prog 77 #[.int .i64 r.low, .int .i64 r.upp] (ext W x) fun e w'' => e = .returned (.bool true) ∧ ∃ y, w'' = ext W y := fun x => ext_same (q3 _)
  have HQ5 : ∀ x, Calls Tryd.prog 76 #[.slice (some ⟨g, off, none⟩) (m + 1) c] (ext W x) fun e w'' => e = .returned (.bool true) ∧ ∃ y, w'' = ext W y := fun x => ext_more (HRi2.out x)
  have p0 := fun y => (HYs.out _ (ext_below W y)).1.1
  have p1 := fun y => (HYs.out _ (ext_below W y)).1.2.1
  have p2 := fun y => (HYs.out _ (ext_below W y)).1.2.2.1
  have p3 := fun y => (HYs.out _ (ext_below W y)).1.2.2.2.1
  have p4 := fun y => (HYs.out _ (ext_below W y)).1.2.2.2.2
  have p5 := fun y => (HYs.out _ (ext_below W y)).2.1
  have p6 := fun y => (HYs.out _ (ext_below W y)).2.2
  have HBE : Hid (∀ y, Below w.heap.size w (ext W y)) := fun y => HBW.out.trans ((ext_below W y).mono HBW.out.size)
  have db1 : decide (r.low ≤ p.1) = true := decide_eq_true b1
  have db2 : decide (z.2 ≤ r.upp) = true := decide_eq_true b2
  clear q3 HRi HRi2 HRo HG y0 y1 y2 y3 y4 x0 x1
  go_wp2_with fail
  rw [HWe.out]
  refine wp_region_ext (by kernel_rfl) (by kernel_rfl) ?_
  repeat (go_big_quiet_step (first
    | (go_at_call 75; exact HQb _ _ _ _ (by first | exact hs1 | exact hs2 | exact hs4))
    | (go_at_call 77; exact HQ3 _)
    | (go_at_call 76; exact HQ5 _)))
  refine wpQuiet_nil ?_
  intro w' hw'
  obtain ⟨y, hw''⟩ := hw'
  subst hw''
  go_wp2
  go_ret
  exact ⟨rfl, HBE.out y⟩

end Go.Proofs.YthbkabehjeidjaeDoor

namespace Go.Proofs.YthbkabehjeidjaeDoor
open Go.RowKit
set_option linter.unusedVariables false
set_option linter.unusedSimpArgs false

theorem seg_cx {V : World} {b n c : Nat} {a : Option Addr} {k : Qu} {r : Rr} (h : V.heap[b]? = some (.cells (rsC k r a n c) 81 (0, 0))) : V.cell? ⟨b, 0, none⟩ = some (.int .i64 8) ∧ V.cell? ⟨b, 1, none⟩ = some (.int .i64 k.org) ∧ V.cell? ⟨b, 2, none⟩ = some (.int .i64 k.num) ∧ V.cell? ⟨b, 3, none⟩ = some (.slice none 0 0) ∧ V.cell? ⟨b, 4, none⟩ = some (.slice none 0 0) ∧ V.cell? ⟨b, 5, none⟩ = some (.int .i64 0) ∧ V.cell? ⟨b, 6, none⟩ = some (.int .i64 0) ∧ V.cell? ⟨b, 7, none⟩ = some (.slice none 0 0) ∧ V.cell? ⟨b, 8, none⟩ = some (.int .i64 r.chk) ∧ V.cell? ⟨b, 9, none⟩ = some (.int .i64 r.ser) ∧ V.cell? ⟨b, 10, none⟩ = some (.int .i64 r.upp) ∧ V.cell? ⟨b, 11, none⟩ = some (.int .i64 r.low) ∧ V.cell? ⟨b, 12, none⟩ = some (.slice a n c) ∧ V.cell? ⟨b, 13, none⟩ = some (.int .i64 0) ∧ V.frozen? ⟨b, 12, none⟩ = false :=
  ⟨(cell_of_row _ _ _ _ _ _ h).trans rfl, (cell_of_row _ _ _ _ _ _ h).trans rfl, (cell_of_row _ _ _ _ _ _ h).trans rfl, (cell_of_row _ _ _ _ _ _ h).trans rfl, (cell_of_row _ _ _ _ _ _ h).trans rfl, (cell_of_row _ _ _ _ _ _ h).trans rfl, (cell_of_row _ _ _ _ _ _ h).trans rfl, (cell_of_row _ _ _ _ _ _ h).trans rfl, (cell_of_row _ _ _ _ _ _ h).trans rfl, (cell_of_row _ _ _ _ _ _ h).trans rfl, (cell_of_row _ _ _ _ _ _ h).trans rfl, (cell_of_row _ _ _ _ _ _ h).trans rfl, (cell_of_row _ _ _ _ _ _ h).trans rfl, (cell_of_row _ _ _ _ _ _ h).trans rfl, frozen_of_row _ _ _ _ _ h⟩
theorem seg_cz {V : World} {b : Nat} (h : V.heap[b]? = some (.cells #[.int .i64 0, .int .i64 0, .int .i64 0, .slice none 0 0, .slice none 0 0, .int .i64 0, .int .i64 0, .slice none 0 0, .int .i64 0, .int .i64 0, .int .i64 0, .int .i64 0, .slice none 0 0, .int .i64 0] 81 (0, 0))) : V.cell? ⟨b, 0, none⟩ = some (.int .i64 0) ∧ V.cell? ⟨b, 1, none⟩ = some (.int .i64 0) ∧ V.cell? ⟨b, 2, none⟩ = some (.int .i64 0) ∧ V.cell? ⟨b, 3, none⟩ = some (.slice none 0 0) ∧ V.cell? ⟨b, 4, none⟩ = some (.slice none 0 0) ∧ V.cell? ⟨b, 5, none⟩ = some (.int .i64 0) ∧ V.cell? ⟨b, 6, none⟩ = some (.int .i64 0) ∧ V.cell? ⟨b, 7, none⟩ = some (.slice none 0 0) ∧ V.cell? ⟨b, 8, none⟩ = some (.int .i64 0) ∧ V.cell? ⟨b, 9, none⟩ = some (.int .i64 0) ∧ V.cell? ⟨b, 10, none⟩ = some (.int .i64 0) ∧ V.cell? ⟨b, 11, none⟩ = some (.int .i64 0) ∧ V.cell? ⟨b, 12, none⟩ = some (.slice none 0 0) ∧ V.cell? ⟨b, 13, none⟩ = some (.int .i64 0) ∧ V.frozen? ⟨b, 0, none⟩ = false ∧ V.frozen? ⟨b, 1, none⟩ = false ∧ V.frozen? ⟨b, 2, none⟩ = false ∧ V.frozen? ⟨b, 3, none⟩ = false ∧ V.frozen? ⟨b, 4, none⟩ = false ∧ V.frozen? ⟨b, 5, none⟩ = false ∧ V.frozen? ⟨b, 6, none⟩ = false ∧ V.frozen? ⟨b, 7, none⟩ = false ∧ V.frozen? ⟨b, 8, none⟩ = false ∧ V.frozen? ⟨b, 9, none⟩ = false ∧ V.frozen? ⟨b, 10, none⟩ = false ∧ V.frozen? ⟨b, 11, none⟩ = false ∧ V.frozen? ⟨b, 12, none⟩ = false ∧ V.frozen? ⟨b, 13, none⟩ = false :=
  ⟨(cell_of_row _ _ _ _ _ _ h).trans rfl, (cell_of_row _ _ _ _ _ _ h).trans rfl, (cell_of_row _ _ _ _ _ _ h).trans rfl, (cell_of_row _ _ _ _ _ _ h).trans rfl, (cell_of_row _ _ _ _ _ _ h).trans rfl, (cell_of_row _ _ _ _ _ _ h).trans rfl, (cell_of_row _ _ _ _ _ _ h).trans rfl, (cell_of_row _ _ _ _ _ _ h).trans rfl, (cell_of_row _ _ _ _ _ _ h).trans rfl, (cell_of_row _ _ _ _ _ _ h).trans rfl, (cell_of_row _ _ _ _ _ _ h).trans rfl, (cell_of_row _ _ _ _ _ _ h).trans rfl, (cell_of_row _ _ _ _ _ _ h).trans rfl, (cell_of_row _ _ _ _ _ _ h).trans rfl, frozen_of_row _ _ _ _ _ h, frozen_of_row _ _ _ _ _ h, frozen_of_row _ _ _ _ _ h, frozen_of_row _ _ _ _ _ h, frozen_of_row _ _ _ _ _ h, frozen_of_row _ _ _ _ _ h, frozen_of_row _ _ _ _ _ h, frozen_of_row _ _ _ _ _ h, frozen_of_row _ _ _ _ _ h, frozen_of_row _ _ _ _ _ h, frozen_of_row _ _ _ _ _ h, frozen_of_row _ _ _ _ _ h, frozen_of_row _ _ _ _ _ h, frozen_of_row _ _ _ _ _ h⟩
/-- Blocks from one on alone were written. -/
structure Kb (B : Nat) (w V : World) : Prop where
  os : V.os = w.os
  tape : V.tape = w.tape
  output : V.output = w.output
  size : V.heap.size = w.heap.size
  block : ∀ g, (∀ b, b = B → g ≠ b) → V.heap[g]? = w.heap[g]?
theorem Kb.refl (B : Nat) (w : World) : Kb B w w := ⟨rfl, rfl, rfl, rfl, fun _ _ => rfl⟩
theorem Kb.set {B : Nat} {w V : World} (h : Kb B w V) (i : Nat) (u : Value) : Kb B w (V.setCell ⟨B, i, none⟩ u) :=
  ⟨h.os, h.tape, h.output, by rw [← h.size]; simp, fun g hg => (Below.heap_setCell _ _ _ _ (by show g ≠ B; exact hg B rfl)).trans (h.block g hg)⟩
theorem Kb.below {B b0 : Nat} {w0 w V : World} (h : Kb B w V) (hb : Below b0 w0 w) (hB : b0 ≤ B) : Below b0 w0 V := ⟨h.os.trans hb.os, h.tape.trans hb.tape, h.output.trans hb.output, by rw [h.size]; exact hb.size, fun g hg => (h.block g (fun b e => by omega)).trans (hb.block g hg)⟩

theorem seg_end {w w3 V : World} {b2 n c : Nat} {a : Option Addr} {l : List (Int × Int)} (hb : Below w.heap.size w w3) (hs : C.SOwn w3 b2 (.slice a n c) l) (h2 : w.heap.size + 1 + 1 < b2) (hl : l.length ≤ 1048576) (hk : Kb (w.heap.size + 1 + 1) w3 V) : CIn V (.slice a n c) l ∧ Below w.heap.size w V :=
  ⟨cin_own (hs.blk2 fun g hg => hk.block g (fun b e => by have h1 := (hs.lt g hg).1; omega)) hl, hk.below hb (by omega)⟩

set_option maxRecDepth 100000 in
set_option maxHeartbeats 4000000 in
theorem rqMay_ok (r : Rr) (hr : r.Ok) (a : Option Addr) (n c : Nat) (hn : r.clm.length = n) (w : World) (hC : CIn w (.slice a n c) r.clm) :
    Calls Tryd.prog 85 #[.agg (rpA r n a c)] w fun e w' => e = .returned (.bool true) ∧ Below w.heap.size w w' := by
  obtain ⟨W, hW⟩ : ∃ W, w.alloc (.cells (rpA r n a c) 75) = W := ⟨_, rfl⟩
  have HWe : Hid (w.alloc (.cells (rpA r n a c) 75) = W) := hW
  have hbW : Below w.heap.size w W := by rw [← hW]; exact (Below.refl _ _).alloc (Nat.le_refl _) _
  have HBW : Hid (Below w.heap.size w W) := hbW
  have HRo : Hid (∀ V, Below W.heap.size W V → V.heap[w.heap.size]? = some (.cells (rpA r n a c) 75 (0, 0))) := fun V hV => by
    have h1 : W.heap[w.heap.size]? = some (.cells (rpA r n a c) 75 (0, 0)) := by rw [← hW]; exact al_new _ _
    exact (hV.block _ (Array.getElem?_eq_some_iff.1 h1).1).trans h1
  have hSc := rqScope_any r.low r.upp W
  rw [decide_eq_true (⟨hr.low, hr.mid, hr.upp⟩ : 0 ≤ r.low ∧ r.low < r.upp ∧ r.upp ≤ 65536)] at hSc
  have hCl := rqClaims_ok a n c r.clm r.low r.upp W (hC.below hbW) hn (by rw [← hn]; exact hr.some) (by rw [← hn]; exact hr.few) hr.cls
  have b1 := hr.ser.1; have b2 := hr.ser.2; have b3 := hr.chk.1; have b4 := hr.chk.2
  have y0 := (cell_of_row _ _ 0 _ _ _ (HRo.out W (Below.refl _ _))).trans (show (rpA r n a c)[0]? = some (.int .i64 r.ser) from rfl)
  have y1 := (cell_of_row _ _ 1 _ _ _ (HRo.out W (Below.refl _ _))).trans (show (rpA r n a c)[1]? = some (.int .i64 r.chk) from rfl)
  have y2 := (cell_of_row _ _ 2 _ _ _ (HRo.out W (Below.refl _ _))).trans (show (rpA r n a c)[2]? = some (.int .i64 r.upp) from rfl)
  have y3 := (cell_of_row _ _ 3 _ _ _ (HRo.out W (Below.refl _ _))).trans (show (rpA r n a c)[3]? = some (.int .i64 r.low) from rfl)
  have y4 := (cell_of_row _ _ 4 _ _ _ (HRo.out W (Below.refl _ _))).trans (show (rpA r n a c)[4]? = some (.slice a n c) from rfl)
  clear hW hbW hC hr hn
  go_enter Tryd.func85, Tryd.ntmps85
  go_wp2_with fail
  rw [HWe.out]
  refine hSc.mono ?_
  rintro e w1 ⟨rfl, hw1⟩
  subst hw1
  go_wp2_with fail
  refine hCl.mono ?_
  rintro e w2 ⟨rfl, hb2⟩
  have HB2 : Hid (Below W.heap.size W w2) := hb2
  clear y0 y1 y2 y3 y4 hSc hCl
  have y0 := (cell_of_row _ _ 0 _ _ _ (HRo.out w2 hb2)).trans (show (rpA r n a c)[0]? = some (.int .i64 r.ser) from rfl)
  have y1 := (cell_of_row _ _ 1 _ _ _ (HRo.out w2 hb2)).trans (show (rpA r n a c)[1]? = some (.int .i64 r.chk) from rfl)
  clear hb2
  go_wp2
  go_ret
  exact ⟨rfl, HBW.out.trans (HB2.out.mono HBW.out.size)⟩

set_option maxRecDepth 100000 in
set_option maxHeartbeats 8000000 in
/-- The reference's Segment, of a report that may be. -/
theorem rqSegment_ok (k : Qu) (ok : k.Ok) (r : Rr) (hr : r.Ok) (a : Option Addr) (n c : Nat) (hn : r.clm.length = n) (w : World) (hC : CIn w (.slice a n c) r.clm) :
    Calls Tryd.prog 34 #[.agg #[.int .i64 k.org, .int .i64 k.num], .agg (rpA r n a c)] w fun e w' => ∃ a' c', e = .returned (.tuple #[.agg (rsC k r a' n c'), .int .i64 0]) ∧ CIn w' (.slice a' n c') r.clm ∧ Below w.heap.size w w' := by
  obtain ⟨W, hW⟩ : ∃ W, ((w.alloc (.cells #[.int .i64 k.org, .int .i64 k.num] 23)).alloc (.cells (rpA r n a c) 75)).alloc (.cells #[.int .i64 0, .int .i64 0, .int .i64 0, .slice none 0 0, .slice none 0 0, .int .i64 0, .int .i64 0, .slice none 0 0, .int .i64 0, .int .i64 0, .int .i64 0, .int .i64 0, .slice none 0 0, .int .i64 0] 81) = W := ⟨_, rfl⟩
  have HWe : Hid (_ = W) := hW
  have hbW : Below w.heap.size w W := by rw [← hW]; exact (((Below.refl _ _).alloc (Nat.le_refl _) _).alloc (by simp) _).alloc (by simp; omega) _
  have HBW : Hid (Below w.heap.size w W) := hbW
  have hz : W.heap.size = w.heap.size + 3 := by rw [← hW]; simp
  have HZ : Hid (W.heap.size = w.heap.size + 3) := hz
  have r0 : W.heap[w.heap.size]? = some (.cells #[.int .i64 k.org, .int .i64 k.num] 23 (0, 0)) := by rw [← hW]; exact al_old (al_old (al_new _ _))
  have r1 : W.heap[w.heap.size + 1]? = some (.cells (rpA r n a c) 75 (0, 0)) := by
    rw [← hW]
    have := al_new (w.alloc (.cells #[.int .i64 k.org, .int .i64 k.num] 23)) (.cells (rpA r n a c) 75)
    rw [World.size_alloc] at this
    exact al_old this
  have r2 : W.heap[w.heap.size + 1 + 1]? = some (.cells #[.int .i64 0, .int .i64 0, .int .i64 0, .slice none 0 0, .slice none 0 0, .int .i64 0, .int .i64 0, .slice none 0 0, .int .i64 0, .int .i64 0, .int .i64 0, .int .i64 0, .slice none 0 0, .int .i64 0] 81 (0, 0)) := by
    rw [← hW]
    have := al_new ((w.alloc (.cells #[.int .i64 k.org, .int .i64 k.num] 23)).alloc (.cells (rpA r n a c) 75)) (.cells #[.int .i64 0, .int .i64 0, .int .i64 0, .slice none 0 0, .slice none 0 0, .int .i64 0, .int .i64 0, .slice none 0 0, .int .i64 0, .int .i64 0, .int .i64 0, .int .i64 0, .slice none 0 0, .int .i64 0] 81)
    rw [World.size_alloc, World.size_alloc] at this
    exact this
  have HRb : Hid (∀ V, Below W.heap.size W V → (V.cell? ⟨w.heap.size, 0, none⟩ = some (.int .i64 k.org) ∧ V.cell? ⟨w.heap.size, 1, none⟩ = some (.int .i64 k.num)) ∧ (V.cell? ⟨w.heap.size + 1, 0, none⟩ = some (.int .i64 r.ser) ∧ V.cell? ⟨w.heap.size + 1, 1, none⟩ = some (.int .i64 r.chk) ∧ V.cell? ⟨w.heap.size + 1, 2, none⟩ = some (.int .i64 r.upp) ∧ V.cell? ⟨w.heap.size + 1, 3, none⟩ = some (.int .i64 r.low) ∧ V.cell? ⟨w.heap.size + 1, 4, none⟩ = some (.slice a n c)) ∧ V.heap[w.heap.size + 1 + 1]? = some (.cells #[.int .i64 0, .int .i64 0, .int .i64 0, .slice none 0 0, .slice none 0 0, .int .i64 0, .int .i64 0, .slice none 0 0, .int .i64 0, .int .i64 0, .int .i64 0, .int .i64 0, .slice none 0 0, .int .i64 0] 81 (0, 0))) := fun V hV => by
    have s0 := (hV.block _ (Array.getElem?_eq_some_iff.1 r0).1).trans r0
    have s1 := (hV.block _ (Array.getElem?_eq_some_iff.1 r1).1).trans r1
    have s2 := (hV.block _ (Array.getElem?_eq_some_iff.1 r2).1).trans r2
    exact ⟨⟨(cell_of_row _ _ _ _ _ _ s0).trans rfl, (cell_of_row _ _ _ _ _ _ s0).trans rfl⟩, ⟨(cell_of_row _ _ _ _ _ _ s1).trans rfl, (cell_of_row _ _ _ _ _ _ s1).trans rfl, (cell_of_row _ _ _ _ _ _ s1).trans rfl, (cell_of_row _ _ _ _ _ _ s1).trans rfl, (cell_of_row _ _ _ _ _ _ s1).trans rfl⟩, s2⟩
  have hS := rqSession_any k.org k.num W
  rw [decide_eq_true ⟨ok.org, ok.num⟩] at hS
  have HMy : Hid (∀ V, Below W.heap.size W V → Calls Tryd.prog 85 #[.agg (rpA r n a c)] V fun e w' => e = .returned (.bool true) ∧ Below V.heap.size V w') := fun V hV => rqMay_ok r hr a n c hn V ((hC.below hbW).below hV)
  have HLd : Hid (∀ V, Below W.heap.size W V → Calls Tryd.prog 86 #[.agg #[.int .i64 k.org, .int .i64 k.num], .agg (rpA r n a c)] V fun e w' => ∃ a' c', e = .returned (.agg (rsC k r a' n c')) ∧ C.SOwn w' V.heap.size (.slice a' n c') r.clm ∧ Below V.heap.size V w') := fun V hV => rqLaid_any k r a n c hn (by rw [← hn]; exact hr.some) V ((hC.below hbW).below hV)
  have HSm : Hid (r.clm.length ≤ 1048576) := hC.small
  obtain ⟨⟨s0, s1⟩, ⟨y0, y1, y2, y3, y4⟩, _⟩ := HRb.out W (Below.refl _ _)
  clear hW hbW hC hr ok hn r0 r1 r2 hz
  go_enter Tryd.func34, Tryd.ntmps34
  go_wp2_with fail
  rw [HWe.out]
  refine hS.mono ?_
  rintro e w1 ⟨rfl, hb1⟩
  have HB1 : Hid (Below W.heap.size W w1) := hb1
  clear s0 s1 y0 y1 y2 y3 y4 hS
  obtain ⟨⟨s0, s1⟩, ⟨y0, y1, y2, y3, y4⟩, _⟩ := HRb.out w1 hb1
  have hMy := HMy.out w1 hb1
  clear hb1
  go_wp2_with fail
  refine hMy.mono ?_
  rintro e w2 ⟨rfl, hb2⟩
  have HB2 : Hid (Below W.heap.size W w2) := HB1.out.trans (hb2.mono HB1.out.size)
  clear s0 s1 y0 y1 y2 y3 y4 hMy hb2
  obtain ⟨⟨s0, s1⟩, ⟨y0, y1, y2, y3, y4⟩, _⟩ := HRb.out w2 HB2.out
  have hLd := HLd.out w2 HB2.out
  go_wp2_with fail
  refine hLd.mono ?_
  rintro e w3 ⟨a3, c3, rfl, hs3, hb3⟩
  have HB3 : Hid (Below W.heap.size W w3) := HB2.out.trans (hb3.mono HB2.out.size)
  have HS3 : Hid (C.SOwn w3 w2.heap.size (.slice a3 n c3) r.clm) := hs3
  have HW2 : Hid (W.heap.size ≤ w2.heap.size) := HB2.out.size
  clear s0 s1 y0 y1 y2 y3 y4 hLd hb3 hs3
  obtain ⟨d0, d1, d2, d3, d4, d5, d6, d7, d8, d9, d10, d11, d12, d13, z0, z1, z2, z3, z4, z5, z6, z7, z8, z9, z10, z11, z12, z13⟩ := seg_cz (HRb.out w3 HB3.out).2.2
  go_wp2
  refine bodyPost_ret (v := .tuple #[.agg (rsC k r a3 n c3), .int .i64 0]) (by simp [results, Tryd.results34, go_sem, d0, d1, d2, d3, d4, d5, d6, d7, d8, d9, d10, d11, d12, d13]) rfl ?_
  obtain ⟨q1, q2⟩ := seg_end (HBW.out.trans (HB3.out.mono HBW.out.size)) HS3.out (by have h2 := HW2.out; have h3 := HZ.out; omega) HSm.out ((((((((((((((((Kb.refl _ _).set _ _).set _ _).set _ _).set _ _).set _ _).set _ _).set _ _).set _ _).set _ _).set _ _).set _ _).set _ _).set _ _).set _ _))
  exact ⟨a3, c3, rfl, q1, q2⟩

end Go.Proofs.YthbkabehjeidjaeDoor
