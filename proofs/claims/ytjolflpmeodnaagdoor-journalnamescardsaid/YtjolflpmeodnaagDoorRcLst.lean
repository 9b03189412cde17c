import Derived.Test.YtjolflpmeodnaagDoorRcSme
import Derived.Test.YtjolflpmeodnaagDoorRcPr2
import Derived.Deep.RegionWith
namespace Go.Proofs.YtjolflpmeodnaagDoor
open Go.RowKit
set_option linter.unusedVariables false
set_option linter.unusedSimpArgs false

/-- A list of records that lies somewhere. -/
def RLin (w : World) (a : Option Addr) (l : List Rc) : Prop :=
  l = [] ∨ ∃ g off, a = some ⟨g, off, none⟩ ∧ ∀ i r, l[i]? = some r → ∃ sa da sc dc, (∀ j u, (rcC r (.slice sa r.spans.length sc) (.slice da r.data.length dc))[j]? = some u → w.cell? ⟨g, off + i * 11 + j, none⟩ = some u) ∧ RIn w r sa da r.spans.length r.data.length sc dc
theorem RLin.nil (w : World) (a : Option Addr) : RLin w a [] := .inl rfl
theorem RLin.below {w w' : World} {a : Option Addr} {l : List Rc} (h : RLin w a l) (hb : Below w.heap.size w w') : RLin w' a l := by
  rcases h with h | ⟨g, off, ha, h⟩
  · exact .inl h
  · refine .inr ⟨g, off, ha, fun i r hr => ?_⟩
    obtain ⟨sa, da, sc, dc, h1, h2⟩ := h i r hr
    exact ⟨sa, da, sc, dc, fun j u hj => C.cell_below (h1 j u hj) hb, h2.below hb⟩
theorem RLin.at {w : World} {a : Option Addr} {l : List Rc} (h : RLin w a l) {i : Nat} {r : Rc} (hr : l[i]? = some r) : ∃ g off sa da sc dc, a = some ⟨g, off, none⟩ ∧ (∀ j u, (rcC r (.slice sa r.spans.length sc) (.slice da r.data.length dc))[j]? = some u → w.cell? ⟨g, off + i * 11 + j, none⟩ = some u) ∧ RIn w r sa da r.spans.length r.data.length sc dc := by
  rcases h with rfl | ⟨g, off, ha, h⟩
  · simp at hr
  · obtain ⟨sa, da, sc, dc, h1, h2⟩ := h i r hr
    exact ⟨g, off, sa, da, sc, dc, ha, h1, h2⟩
theorem RLin.take {w : World} {a : Option Addr} {l : List Rc} (h : RLin w a l) (k : Nat) : RLin w a (l.take k) := by
  rcases h with rfl | ⟨g, off, ha, h⟩
  · left; simp
  · refine .inr ⟨g, off, ha, fun i r hr => h i r ?_⟩
    rw [List.getElem?_take] at hr
    split at hr
    · exact hr
    · cases hr

set_option maxRecDepth 100000 in
set_option maxHeartbeats 4000000 in
/-- Two lists that say the same: SameAll says so. -/
theorem sameAll_eq (l : List Rc) (a b : Option Addr) (n ca cb : Nat) (w : World) (hn : l.length = n) (hm : n ≤ 140737488355328) (ha : RLin w a l) (hb : RLin w b l) :
    Calls Tryd.prog 14 #[.slice a n ca, .slice b n cb] w fun e w' => e = .returned (.bool true) ∧ Below w.heap.size w w' := by
  have HA : Hid (RLin w a l) := ha
  have HB : Hid (RLin w b l) := hb
  have HN : Hid (l.length = n) := hn
  clear ha hb hn
  go_enter Tryd.func14, Tryd.ntmps14
  go_wp2_with fail
  go_loopw [5] (fun i wr => ∃ k : Nat, k ≤ n ∧ i = .int .i64 k ∧ Below w.heap.size w wr) (fun i _ => n - (intOf i).toNat)
  case atStart => exact ⟨0, Nat.zero_le _, rfl, Below.refl _ _⟩
  case round =>
    obtain ⟨k, hk, rfl, hbw⟩ := hrel
    have HBW : Hid (Below w.heap.size w wr) := hbw
    by_cases hlt : k < n
    · have hkl : k < l.length := by rw [HN.out]; exact hlt
      obtain ⟨r, hr⟩ : ∃ r, l[k]? = some r := ⟨l[k], List.getElem?_eq_getElem hkl⟩
      obtain ⟨g, off, sa, da, sc, dc, rfl, hc, hri⟩ := (HA.out.below hbw).at hr
      obtain ⟨g', off', sb, db, tc, ec, rfl, hc', hri'⟩ := (HB.out.below hbw).at hr
      have c0 := hc 0 _ rfl
      have c1 := hc 1 _ rfl
      have c2 := hc 2 _ rfl
      have c3 := hc 3 _ rfl
      have c4 := hc 4 _ rfl
      have c5 := hc 5 _ rfl
      have c6 := hc 6 _ rfl
      have c7 := hc 7 _ rfl
      have c8 := hc 8 _ rfl
      have c9 := hc 9 _ rfl
      have c10 := hc 10 _ rfl
      have d0 := hc' 0 _ rfl
      have d1 := hc' 1 _ rfl
      have d2 := hc' 2 _ rfl
      have d3 := hc' 3 _ rfl
      have d4 := hc' 4 _ rfl
      have d5 := hc' 5 _ rfl
      have d6 := hc' 6 _ rfl
      have d7 := hc' 7 _ rfl
      have d8 := hc' 8 _ rfl
      have d9 := hc' 9 _ rfl
      have d10 := hc' 10 _ rfl
      simp only [Nat.add_zero] at c0 d0
      have HS : Hid (∀ W, Below wr.heap.size wr W → Calls Tryd.prog 10 #[.agg (rcC r (.slice sa r.spans.length sc) (.slice da r.data.length dc)), .agg (rcC r (.slice sb r.spans.length tc) (.slice db r.data.length ec))] W fun e w' => e = .returned (.bool true) ∧ Below W.heap.size W w') := fun W hW => same6_eq r sa da sb db _ _ sc dc tc ec W (hri.below hW) (hri'.below hW)
      have HBN : Hid (∀ W W', Below wr.heap.size wr W → Below W.heap.size W W' → Below w.heap.size w W') := fun W W' h1 h2 => (HBW.out.trans (h1.mono HBW.out.size)).trans (h2.mono (by have := HBW.out.size; have := h1.size; omega))
      have hlt' : (k : Int) < (n : Int) := by omega
      clear hc hc' hri hri' hbw hr
      generalize r.spans.length = ns at *
      generalize r.data.length = nd at *
      go_upto_region 6 with fail
      go_region_with (go_at_call 10; refine (HS.out _ (by first | exact Below.refl _ _ | exact ⟨rfl, rfl, rfl, Nat.le_refl _, fun _ _ => rfl⟩)).mono ?_; rintro e w2 ⟨rfl, hb2⟩; have HB2 : Hid (Below w.heap.size w w2) := HBN.out _ _ (by first | exact Below.refl _ _ | exact ⟨rfl, rfl, rfl, Nat.le_refl _, fun _ _ => rfl⟩) hb2; clear hb2)
      all_goals
        clear c0 c1 c2 c3 c4 c5 c6 c7 c8 c9 c10 d0 d1 d2 d3 d4 d5 d6 d7 d8 d9 d10 HS HBN
        go_wp2
        go_roundw
        case rel => exact ⟨k + 1, by omega, by go_num, HB2.out⟩
        case measure => simp [intOf]; omega
    · have hlt' : ¬ (k : Int) < (n : Int) := by omega
      clear hbw
      go_wp2
      go_ret
      exact ⟨rfl, HBW.out⟩
end Go.Proofs.YtjolflpmeodnaagDoor
