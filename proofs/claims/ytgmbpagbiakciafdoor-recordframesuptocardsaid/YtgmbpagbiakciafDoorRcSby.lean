import Derived.Test.YtgmbpagbiakciafDoorRcNum
import Derived.Test.YtgmbpagbiakciafDoorRcRf8
import Derived.Deep.QuietTactic
import Derived.BigQuiet
import Derived.Test.YtgmbpagbiakciafDoorRcPr2
import Derived.Deep.RegionWith
namespace Go.Proofs.YtgmbpagbiakciafDoor
open Go.RowKit
set_option linter.unusedVariables false

/-- Two lists that say the same: sameBytes says so. -/
theorem sameBytes_eq (a b : Option Addr) (zs : List Int) (n ca cb : Nat) (w : World) (hn : zs.length = n) (hm : n ≤ 140737488355328) (ha : Lies .u8 w a zs) (hb : Lies .u8 w b zs) :
    Calls Tryd.prog 20 #[.slice a n ca, .slice b n cb] w fun e w' => e = .returned (.bool true) ∧ Below w.heap.size w w' := by
  by_cases h0 : n = 0
  · subst h0
    go_enter Tryd.func20, Tryd.ntmps20
    go_wp2_with fail
    refine wp_loop_rounds 1 ?_
    rw [rounds_succ]
    go_wp2
    go_ret
    exact ⟨rfl, Below.refl _ _⟩
  · rcases ha with h | ⟨ga, oa, rfl, ca'⟩
    · rw [h] at hn; simp at hn; omega
    rcases hb with h | ⟨gb, ob, rfl, cb'⟩
    · rw [h] at hn; simp at hn; omega
    have HA : Hid (∀ W, Below w.heap.size w W → ∀ i, i < n → W.cell? ⟨ga, oa + i, none⟩ = some (.int .u8 (zs.getD i 0))) := fun W hW i hi => C.cell_below (ca' i (by omega)) hW
    have HB : Hid (∀ W, Below w.heap.size w W → ∀ i, i < n → W.cell? ⟨gb, ob + i, none⟩ = some (.int .u8 (zs.getD i 0))) := fun W hW i hi => C.cell_below (cb' i (by omega)) hW
    clear ca' cb' hn
    go_enter Tryd.func20, Tryd.ntmps20
    go_wp2_with fail
    go_loopw [5] (fun i wr => ∃ k : Nat, k ≤ n ∧ i = .int .i64 k ∧ Below w.heap.size w wr) (fun i _ => n - (intOf i).toNat)
    case atStart => exact ⟨0, Nat.zero_le _, rfl, Below.refl _ _⟩
    case round =>
      obtain ⟨k, hk, rfl, hbw⟩ := hrel
      have HBW : Hid (Below w.heap.size w wr) := hbw
      clear hbw
      by_cases hlt : k < n
      · have c1 := HA.out wr HBW.out k hlt
        have c2 := HB.out wr HBW.out k hlt
        have hlt' : (k : Int) < (n : Int) := by omega
        generalize zs.getD k 0 = y at *
        go_upto_region 6 with fail
        go_quiet (fail)
        go_wp2
        go_roundw
        case rel => exact ⟨k + 1, by omega, by go_num, ⟨HBW.out.os, HBW.out.tape, HBW.out.output, HBW.out.size, HBW.out.block⟩⟩
        case measure => simp [intOf]; omega
      · have hlt' : ¬ (k : Int) < (n : Int) := by omega
        go_wp2
        go_ret
        exact ⟨rfl, HBW.out⟩
end Go.Proofs.YtgmbpagbiakciafDoor

namespace Go.Proofs.YtgmbpagbiakciafDoor
open Go.RowKit
set_option linter.unusedVariables false

set_option maxRecDepth 100000 in
set_option maxHeartbeats 4000000 in
/-- Two records that say the same: Same says so. -/
theorem same6_eq (r : Rc) (sa da sb db : Option Addr) (ns nd sc dc tc ec : Nat) (w : World) (ha : RIn w r sa da ns nd sc dc) (hb : RIn w r sb db ns nd tc ec) :
    Calls Tryd.prog 21 #[.agg (rcC r (.slice sa ns sc) (.slice da nd dc)), .agg (rcC r (.slice sb ns tc) (.slice db nd ec))] w fun e w' => e = .returned (.bool true) ∧ Below w.heap.size w w' := by
  obtain ⟨W0, hW0⟩ : ∃ W0, W0 = (w.alloc (rcO r (.slice sa ns sc) (.slice da nd dc))).alloc (rcO r (.slice sb ns tc) (.slice db nd ec)) := ⟨_, rfl⟩
  have HB : Hid (Below w.heap.size w ((w.alloc (rcO r (.slice sa ns sc) (.slice da nd dc))).alloc (rcO r (.slice sb ns tc) (.slice db nd ec)))) := ((Below.refl _ _).alloc (Nat.le_refl _) _).alloc (by simp) _
  have HX : Hid (((w.alloc (rcO r (.slice sa ns sc) (.slice da nd dc))).alloc (rcO r (.slice sb ns tc) (.slice db nd ec))).heap[w.heap.size]? = some (rcO r (.slice sa ns sc) (.slice da nd dc))) := (((Below.refl _ _).alloc (Nat.le_refl _) _).block _ (by simp)).trans (heap_new6 w _)
  have HY : Hid (((w.alloc (rcO r (.slice sa ns sc) (.slice da nd dc))).alloc (rcO r (.slice sb ns tc) (.slice db nd ec))).heap[w.heap.size + 1]? = some (rcO r (.slice sb ns tc) (.slice db nd ec))) := by
    unfold Hid
    have := heap_new6 (w.alloc (rcO r (.slice sa ns sc) (.slice da nd dc))) (rcO r (.slice sb ns tc) (.slice db nd ec))
    simpa using this
  have HRA : Hid (RIn w r sa da ns nd sc dc) := ha
  have HRB : Hid (RIn w r sb db ns nd tc ec) := hb
  have hnd := ha.big
  have hns : ns ≤ 9223372036854775807 := by have := ha.spa.small; rw [ha.spn] at this; exact this
  clear ha hb hW0
  go_enter Tryd.func21, Tryd.ntmps21
  go_wp2_with fail
  generalize (w.alloc (rcO r (.slice sa ns sc) (.slice da nd dc))).alloc (rcO r (.slice sb ns tc) (.slice db nd ec)) = w1 at *
  go_loopw [5] (fun i wr => ∃ k : Nat, k ≤ 8 ∧ i = .int .i64 k ∧ Below w.heap.size w wr ∧ wr.heap[w.heap.size]? = some (rcO r (.slice sa ns sc) (.slice da nd dc)) ∧ wr.heap[w.heap.size + 1]? = some (rcO r (.slice sb ns tc) (.slice db nd ec))) (fun i _ => 8 - (intOf i).toNat)
  case atStart => exact ⟨0, by omega, rfl, HB.out, HX.out, HY.out⟩
  case round =>
    obtain ⟨k, hk, rfl, hb, hx, hy⟩ := hrel
    have HBr : Hid (Below w.heap.size w wr) := hb
    have HXr : Hid (wr.heap[w.heap.size]? = some (rcO r (.slice sa ns sc) (.slice da nd dc))) := hx
    have HYr : Hid (wr.heap[w.heap.size + 1]? = some (rcO r (.slice sb ns tc) (.slice db nd ec))) := hy
    obtain ⟨c0, c1, c2, c3, c4, c5, c6, c7, c8, c9, c10⟩ := rc_cells hx
    obtain ⟨d0, d1, d2, d3, d4, d5, d6, d7, d8, d9, d10⟩ := rc_cells hy
    clear hb hx hy HB HX HY
    by_cases hlt : k < 8
    · have hlt' : (k : Int) < 8 := by omega
      have ik := index_lt k hlt
      have HGA : Hid (∀ W, Calls Tryd.prog 45 #[.agg (rcC r (.slice sa ns sc) (.slice da nd dc)), .int .u8 (ltL.getD k 0).toNat] W fun e w' => e = .returned (.int .i64 (nmA r k)) ∧ Below W.heap.size W w') := fun W => (get2_any r _ _ k hlt W).mono (fun e w' h => ⟨h.1, by rw [h.2]; exact (Below.refl _ _).alloc (Nat.le_refl _) _⟩)
      have HGB : Hid (∀ W, Calls Tryd.prog 45 #[.agg (rcC r (.slice sb ns tc) (.slice db nd ec)), .int .u8 (ltL.getD k 0).toNat] W fun e w' => e = .returned (.int .i64 (nmA r k)) ∧ Below W.heap.size W w') := fun W => (get2_any r _ _ k hlt W).mono (fun e w' h => ⟨h.1, by rw [h.2]; exact (Below.refl _ _).alloc (Nat.le_refl _) _⟩)
      have HLX : Hid (w.heap.size < wr.heap.size) := (Array.getElem?_eq_some_iff.mp HXr.out).1
      have HLY : Hid (w.heap.size + 1 < wr.heap.size) := (Array.getElem?_eq_some_iff.mp HYr.out).1
      generalize ((ltL.getD k 0).toNat : Int) = ch at *
      generalize nmA r k = n at *
      go_upto_region 4 with fail
      go_region_with (go_at_call 45; refine (HGA.out _).mono ?_; rintro e w2 ⟨rfl, hb2⟩)
      all_goals
        have HB2 : Hid (Below w.heap.size w w2) := HBr.out.drew.trans (hb2.mono HBr.out.size)
        have HX2 : Hid (w2.heap[w.heap.size]? = some (rcO r (.slice sa ns sc) (.slice da nd dc))) := (hb2.block _ HLX.out).trans HXr.out
        have HY2 : Hid (w2.heap[w.heap.size + 1]? = some (rcO r (.slice sb ns tc) (.slice db nd ec))) := (hb2.block _ HLY.out).trans HYr.out
        clear hb2 c0 c1 c2 c3 c4 c5 c6 c7 c8 c9 c10 d0 d1 d2 d3 d4 d5 d6 d7 d8 d9 d10
        obtain ⟨d0, d1, d2, d3, d4, d5, d6, d7, d8, d9, d10⟩ := rc_cells HY2.out
        go_upto_region 5 with fail
        go_region_with (go_at_call 45; refine (HGB.out _).mono ?_; rintro e w3 ⟨rfl, hb3⟩)
        all_goals
          have HB3 : Hid (Below w.heap.size w w3) := HB2.out.drew.trans (hb3.mono HB2.out.size)
          have HX3 : Hid (w3.heap[w.heap.size]? = some (rcO r (.slice sa ns sc) (.slice da nd dc))) := (hb3.block _ (Array.getElem?_eq_some_iff.mp HX2.out).1).trans HX2.out
          have HY3 : Hid (w3.heap[w.heap.size + 1]? = some (rcO r (.slice sb ns tc) (.slice db nd ec))) := (hb3.block _ (Array.getElem?_eq_some_iff.mp HY2.out).1).trans HY2.out
          clear hb3 d0 d1 d2 d3 d4 d5 d6 d7 d8 d9 d10 HGA HGB
          go_wp2
          go_roundw
          case rel => exact ⟨k + 1, by omega, by go_num, HB3.out, HX3.out, HY3.out⟩
          case measure => simp [intOf]; omega
    · have hk8 : ¬ (k : Int) < 8 := by omega
      go_upto_region 11 with fail
      clear c0 c1 c2 c3 c4 c5 c6 c7 c8 c9 c10 d0 d1 d2 d3 d4 d5 d6 d7 d8 d9 d10
      go_loopw [8] (fun i wx => ∃ m : Nat, m ≤ ns ∧ i = .int .i64 m ∧ Below w.heap.size w wx ∧ wx.heap[w.heap.size]? = some (rcO r (.slice sa ns sc) (.slice da nd dc)) ∧ wx.heap[w.heap.size + 1]? = some (rcO r (.slice sb ns tc) (.slice db nd ec))) (fun i _ => ns - (intOf i).toNat)
      case atStart => exact ⟨0, Nat.zero_le _, rfl, HBr.out, HXr.out, HYr.out⟩
      case round =>
        obtain ⟨m, hm, rfl, hb, hx, hy⟩ := hrel
        have HBx : Hid (Below w.heap.size w wr) := hb
        have HXx : Hid (wr.heap[w.heap.size]? = some (rcO r (.slice sa ns sc) (.slice da nd dc))) := hx
        have HYx : Hid (wr.heap[w.heap.size + 1]? = some (rcO r (.slice sb ns tc) (.slice db nd ec))) := hy
        obtain ⟨_, _, _, _, _, _, _, _, _, c9, c10⟩ := rc_cells hx
        obtain ⟨_, _, _, _, _, _, _, _, _, d9, d10⟩ := rc_cells hy
        clear hb hx hy HBr HXr HYr
        by_cases hmt : m < ns
        · have hmt' : (m : Int) < (ns : Int) := by omega
          have hml : m < r.spans.length := by rw [HRA.out.spn]; exact hmt
          have hex : ∃ p : Int × Int, r.spans[m]? = some p := C.get_some r.spans m hml
          obtain ⟨⟨f1, t1⟩, hp⟩ := hex
          have hsa := HRA.out.spin wr HBx.out
          have hsb := HRB.out.spin wr HBx.out
          obtain ⟨g, off, rfl, q1, q2⟩ := hsa.at hp
          obtain ⟨g', off', rfl, q3, q4⟩ := hsb.at hp
          simp only at q1 q2 q3 q4
          clear hsa hsb hp
          go_upto_region 13 with fail
          go_quiet (fail)
          go_wp2
          go_roundw
          case rel => exact ⟨m + 1, by omega, by go_num, ⟨HBx.out.os, HBx.out.tape, HBx.out.output, HBx.out.size, HBx.out.block⟩, HXx.out, HYx.out⟩
          case measure => simp [intOf]; omega
        · have hmt' : ¬ (m : Int) < (ns : Int) := by omega
          go_upto_region 16 with fail
          clear c9 c10 d9 d10
          go_loopw [9] (fun i wx => ∃ q : Nat, q ≤ nd ∧ i = .int .i64 q ∧ Below w.heap.size w wx ∧ wx.heap[w.heap.size]? = some (rcO r (.slice sa ns sc) (.slice da nd dc)) ∧ wx.heap[w.heap.size + 1]? = some (rcO r (.slice sb ns tc) (.slice db nd ec))) (fun i _ => nd - (intOf i).toNat)
          case atStart => exact ⟨0, Nat.zero_le _, rfl, HBx.out, HXx.out, HYx.out⟩
          case round =>
            obtain ⟨q, hq, rfl, hb, hx, hy⟩ := hrel
            have HBy : Hid (Below w.heap.size w wr) := hb
            have HXy : Hid (wr.heap[w.heap.size]? = some (rcO r (.slice sa ns sc) (.slice da nd dc))) := hx
            have HYy : Hid (wr.heap[w.heap.size + 1]? = some (rcO r (.slice sb ns tc) (.slice db nd ec))) := hy
            obtain ⟨_, _, _, _, _, _, _, _, _, c9, c10⟩ := rc_cells hx
            obtain ⟨_, _, _, _, _, _, _, _, _, d9, d10⟩ := rc_cells hy
            clear hb hx hy HBx HXx HYx
            by_cases hqt : q < nd
            · have hqt' : (q : Int) < (nd : Int) := by omega
              have hql : q < r.data.length := by rw [HRA.out.dat]; exact hqt
              have hla := HRA.out.lie.below HBy.out
              have hlb := HRB.out.lie.below HBy.out
              rcases hla with h0 | ⟨g, off, rfl, ha⟩
              · rw [h0] at hql; simp at hql
              rcases hlb with h0 | ⟨g', off', rfl, hb⟩
              · rw [h0] at hql; simp at hql
              have q1 := ha q hql
              have q2 := hb q hql
              clear ha hb
              generalize r.data.getD q 0 = y at *
              go_upto_region 18 with fail
              go_quiet (fail)
              go_wp2
              go_roundw
              case rel => exact ⟨q + 1, by omega, by go_num, ⟨HBy.out.os, HBy.out.tape, HBy.out.output, HBy.out.size, HBy.out.block⟩, HXy.out, HYy.out⟩
              case measure => simp [intOf]; omega
            · have hqt' : ¬ (q : Int) < (nd : Int) := by omega
              go_wp2
              go_ret
              exact ⟨rfl, HBy.out⟩
end Go.Proofs.YtgmbpagbiakciafDoor

namespace Go.Proofs.YtgmbpagbiakciafDoor
open Go.RowKit
set_option linter.unusedVariables false
set_option linter.unusedSimpArgs false

/-- A list of records that lies somewhere. -/
def RLin (w : World) (a : Option Addr) (l : List Rc) : Prop :=
  l = [] ∨ ∃ g off, a = some ⟨g, off, none⟩ ∧ ∀ i r, l[i]? = some r → ∃ sa da sc dc, (∀ j u, (rcC r (.slice sa r.spans.length sc) (.slice da r.data.length dc))[j]? = some u → w.cell? ⟨g, off + i * 11 + j, none⟩ = some u) ∧ RIn w r sa da r.spans.length r.data.length sc dc
theorem RLin.nil (w : World) (a : Option Addr) : RLin w a [] := .inl rfl
theorem RLin.below {w w' : World} {a : Option Addr} {l : List Rc} (h : RLin w a l) (hb : Below w.heap.size w w') : RLin w' a l := by
  rcases h with h | ⟨g, off, ha, h⟩
  · exact .inl h
  · refine .inr ⟨g, off, ha, fun i r hr => ?_⟩
    obtain ⟨sa, da, sc, dc, h1, h2⟩ := h i r hr
    exact ⟨sa, da, sc, dc, fun j u hj => C.cell_below (h1 j u hj) hb, h2.below hb⟩
theorem RLin.at {w : World} {a : Option Addr} {l : List Rc} (h : RLin w a l) {i : Nat} {r : Rc} (hr : l[i]? = some r) : ∃ g off sa da sc dc, a = some ⟨g, off, none⟩ ∧ (∀ j u, (rcC r (.slice sa r.spans.length sc) (.slice da r.data.length dc))[j]? = some u → w.cell? ⟨g, off + i * 11 + j, none⟩ = some u) ∧ RIn w r sa da r.spans.length r.data.length sc dc := by
  rcases h with rfl | ⟨g, off, ha, h⟩
  · simp at hr
  · obtain ⟨sa, da, sc, dc, h1, h2⟩ := h i r hr
    exact ⟨g, off, sa, da, sc, dc, ha, h1, h2⟩
theorem RLin.take {w : World} {a : Option Addr} {l : List Rc} (h : RLin w a l) (k : Nat) : RLin w a (l.take k) := by
  rcases h with rfl | ⟨g, off, ha, h⟩
  · left; simp
  · refine .inr ⟨g, off, ha, fun i r hr => h i r ?_⟩
    rw [List.getElem?_take] at hr
    split at hr
    · exact hr
    · cases hr

set_option maxRecDepth 100000 in
set_option maxHeartbeats 4000000 in
/-- Two lists that say the same: SameAll says so. -/
theorem sameAll_eq (l : List Rc) (a b : Option Addr) (n ca cb : Nat) (w : World) (hn : l.length = n) (hm : n ≤ 140737488355328) (ha : RLin w a l) (hb : RLin w b l) :
    Calls Tryd.prog 29 #[.slice a n ca, .slice b n cb] w fun e w' => e = .returned (.bool true) ∧ Below w.heap.size w w' := by
  have HA : Hid (RLin w a l) := ha
  have HB : Hid (RLin w b l) := hb
  have HN : Hid (l.length = n) := hn
  clear ha hb hn
  go_enter Tryd.func29, Tryd.ntmps29
  go_wp2_with fail
  go_loopw [5] (fun i wr => ∃ k : Nat, k ≤ n ∧ i = .int .i64 k ∧ Below w.heap.size w wr) (fun i _ => n - (intOf i).toNat)
  case atStart => exact ⟨0, Nat.zero_le _, rfl, Below.refl _ _⟩
  case round =>
    obtain ⟨k, hk, rfl, hbw⟩ := hrel
    have HBW : Hid (Below w.heap.size w wr) := hbw
    by_cases hlt : k < n
    · have hkl : k < l.length := by rw [HN.out]; exact hlt
      obtain ⟨r, hr⟩ : ∃ r, l[k]? = some r := ⟨l[k], List.getElem?_eq_getElem hkl⟩
      obtain ⟨g, off, sa, da, sc, dc, rfl, hc, hri⟩ := (HA.out.below hbw).at hr
      obtain ⟨g', off', sb, db, tc, ec, rfl, hc', hri'⟩ := (HB.out.below hbw).at hr
      have c0 := hc 0 _ rfl
      have c1 := hc 1 _ rfl
      have c2 := hc 2 _ rfl
      have c3 := hc 3 _ rfl
      have c4 := hc 4 _ rfl
      have c5 := hc 5 _ rfl
      have c6 := hc 6 _ rfl
      have c7 := hc 7 _ rfl
      have c8 := hc 8 _ rfl
      have c9 := hc 9 _ rfl
      have c10 := hc 10 _ rfl
      have d0 := hc' 0 _ rfl
      have d1 := hc' 1 _ rfl
      have d2 := hc' 2 _ rfl
      have d3 := hc' 3 _ rfl
      have d4 := hc' 4 _ rfl
      have d5 := hc' 5 _ rfl
      have d6 := hc' 6 _ rfl
      have d7 := hc' 7 _ rfl
      have d8 := hc' 8 _ rfl
      have d9 := hc' 9 _ rfl
      have d10 := hc' 10 _ rfl
      simp only [Nat.add_zero] at c0 d0
      have HS : Hid (∀ W, Below wr.heap.size wr W → Calls Tryd.prog 21 #[.agg (rcC r (.slice sa r.spans.length sc) (.slice da r.data.length dc)), .agg (rcC r (.slice sb r.spans.length tc) (.slice db r.data.length ec))] W fun e w' => e = .returned (.bool true) ∧ Below W.heap.size W w') := fun W hW => same6_eq r sa da sb db _ _ sc dc tc ec W (hri.below hW) (hri'.below hW)
      have HBN : Hid (∀ W W', Below wr.heap.size wr W → Below W.heap.size W W' → Below w.heap.size w W') := fun W W' h1 h2 => (HBW.out.trans (h1.mono HBW.out.size)).trans (h2.mono (by have := HBW.out.size; have := h1.size; omega))
      have hlt' : (k : Int) < (n : Int) := by omega
      clear hc hc' hri hri' hbw hr
      generalize r.spans.length = ns at *
      generalize r.data.length = nd at *
      go_upto_region 6 with fail
      go_region_with (go_at_call 21; refine (HS.out _ (by first | exact Below.refl _ _ | exact ⟨rfl, rfl, rfl, Nat.le_refl _, fun _ _ => rfl⟩)).mono ?_; rintro e w2 ⟨rfl, hb2⟩; have HB2 : Hid (Below w.heap.size w w2) := HBN.out _ _ (by first | exact Below.refl _ _ | exact ⟨rfl, rfl, rfl, Nat.le_refl _, fun _ _ => rfl⟩) hb2; clear hb2)
      all_goals
        clear c0 c1 c2 c3 c4 c5 c6 c7 c8 c9 c10 d0 d1 d2 d3 d4 d5 d6 d7 d8 d9 d10 HS HBN
        go_wp2
        go_roundw
        case rel => exact ⟨k + 1, by omega, by go_num, HB2.out⟩
        case measure => simp [intOf]; omega
    · have hlt' : ¬ (k : Int) < (n : Int) := by omega
      clear hbw
      go_wp2
      go_ret
      exact ⟨rfl, HBW.out⟩
end Go.Proofs.YtgmbpagbiakciafDoor
