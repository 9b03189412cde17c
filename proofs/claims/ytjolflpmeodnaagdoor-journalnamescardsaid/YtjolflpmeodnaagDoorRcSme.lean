import Derived.Test.YtjolflpmeodnaagDoorRcRf8
import Derived.Deep.QuietTactic
import Derived.BigQuiet
namespace Go.Proofs.YtjolflpmeodnaagDoor
open Go.RowKit
set_option linter.unusedVariables false

set_option maxRecDepth 100000 in
set_option maxHeartbeats 4000000 in
/-- Two records that say the same: Same says so. -/
theorem same6_eq (r : Rc) (sa da sb db : Option Addr) (ns nd sc dc tc ec : Nat) (w : World) (ha : RIn w r sa da ns nd sc dc) (hb : RIn w r sb db ns nd tc ec) :
    Calls Tryd.prog 10 #[.agg (rcC r (.slice sa ns sc) (.slice da nd dc)), .agg (rcC r (.slice sb ns tc) (.slice db nd ec))] w fun e w' => e = .returned (.bool true) ∧ Below w.heap.size w w' := by
  obtain ⟨W0, hW0⟩ : ∃ W0, W0 = (w.alloc (rcO r (.slice sa ns sc) (.slice da nd dc))).alloc (rcO r (.slice sb ns tc) (.slice db nd ec)) := ⟨_, rfl⟩
  have HB : Hid (Below w.heap.size w ((w.alloc (rcO r (.slice sa ns sc) (.slice da nd dc))).alloc (rcO r (.slice sb ns tc) (.slice db nd ec)))) := ((Below.refl _ _).alloc (Nat.le_refl _) _).alloc (by simp) _
  have HX : Hid (((w.alloc (rcO r (.slice sa ns sc) (.slice da nd dc))).alloc (rcO r (.slice sb ns tc) (.slice db nd ec))).heap[w.heap.size]? = some (rcO r (.slice sa ns sc) (.slice da nd dc))) := (((Below.refl _ _).alloc (Nat.le_refl _) _).block _ (by simp)).trans (heap_new6 w _)
  have HY : Hid (((w.alloc (rcO r (.slice sa ns sc) (.slice da nd dc))).alloc (rcO r (.slice sb ns tc) (.slice db nd ec))).heap[w.heap.size + 1]? = some (rcO r (.slice sb ns tc) (.slice db nd ec))) := by
    unfold Hid
    have := heap_new6 (w.alloc (rcO r (.slice sa ns sc) (.slice da nd dc))) (rcO r (.slice sb ns tc) (.slice db nd ec))
    simpa using this
  have HRA : Hid (RIn w r sa da ns nd sc dc) := ha
  have HRB : Hid (RIn w r sb db ns nd tc ec) := hb
  have hnd := ha.big
  have hns : ns ≤ 9223372036854775807 := by have := ha.spa.small; rw [ha.spn] at this; exact this
  clear ha hb hW0
  go_enter Tryd.func10, Tryd.ntmps10
  go_wp2_with fail
  generalize (w.alloc (rcO r (.slice sa ns sc) (.slice da nd dc))).alloc (rcO r (.slice sb ns tc) (.slice db nd ec)) = w1 at *
  go_loopw [5] (fun i wr => ∃ k : Nat, k ≤ 8 ∧ i = .int .i64 k ∧ Below w.heap.size w wr ∧ wr.heap[w.heap.size]? = some (rcO r (.slice sa ns sc) (.slice da nd dc)) ∧ wr.heap[w.heap.size + 1]? = some (rcO r (.slice sb ns tc) (.slice db nd ec))) (fun i _ => 8 - (intOf i).toNat)
  case atStart => exact ⟨0, by omega, rfl, HB.out, HX.out, HY.out⟩
  case round =>
    obtain ⟨k, hk, rfl, hb, hx, hy⟩ := hrel
    have HBr : Hid (Below w.heap.size w wr) := hb
    have HXr : Hid (wr.heap[w.heap.size]? = some (rcO r (.slice sa ns sc) (.slice da nd dc))) := hx
    have HYr : Hid (wr.heap[w.heap.size + 1]? = some (rcO r (.slice sb ns tc) (.slice db nd ec))) := hy
    obtain ⟨c0, c1, c2, c3, c4, c5, c6, c7, c8, c9, c10⟩ := rc_cells hx
    obtain ⟨d0, d1, d2, d3, d4, d5, d6, d7, d8, d9, d10⟩ := rc_cells hy
    clear hb hx hy HB HX HY
    by_cases hlt : k < 8
    · have hlt' : (k : Int) < 8 := by omega
      have ik := index_lt k hlt
      have HGA : Hid (∀ W, Calls Tryd.prog 22 #[.agg (rcC r (.slice sa ns sc) (.slice da nd dc)), .int .u8 (ltL.getD k 0).toNat] W fun e w' => e = .returned (.int .i64 (nmA r k)) ∧ Below W.heap.size W w') := fun W => (get2_any r _ _ k hlt W).mono (fun e w' h => ⟨h.1, by rw [h.2]; exact (Below.refl _ _).alloc (Nat.le_refl _) _⟩)
      have HGB : Hid (∀ W, Calls Tryd.prog 22 #[.agg (rcC r (.slice sb ns tc) (.slice db nd ec)), .int .u8 (ltL.getD k 0).toNat] W fun e w' => e = .returned (.int .i64 (nmA r k)) ∧ Below W.heap.size W w') := fun W => (get2_any r _ _ k hlt W).mono (fun e w' h => ⟨h.1, by rw [h.2]; exact (Below.refl _ _).alloc (Nat.le_refl _) _⟩)
      have HLX : Hid (w.heap.size < wr.heap.size) := (Array.getElem?_eq_some_iff.mp HXr.out).1
      have HLY : Hid (w.heap.size + 1 < wr.heap.size) := (Array.getElem?_eq_some_iff.mp HYr.out).1
      generalize ((ltL.getD k 0).toNat : Int) = ch at *
      generalize nmA r k = n at *
      go_upto_region 4 with fail
      go_region_with (go_at_call 22; refine (HGA.out _).mono ?_; rintro e w2 ⟨rfl, hb2⟩)
      all_goals
        have HB2 : Hid (Below w.heap.size w w2) := HBr.out.drew.trans (hb2.mono HBr.out.size)
        have HX2 : Hid (w2.heap[w.heap.size]? = some (rcO r (.slice sa ns sc) (.slice da nd dc))) := (hb2.block _ HLX.out).trans HXr.out
        have HY2 : Hid (w2.heap[w.heap.size + 1]? = some (rcO r (.slice sb ns tc) (.slice db nd ec))) := (hb2.block _ HLY.out).trans HYr.out
        clear hb2 c0 c1 c2 c3 c4 c5 c6 c7 c8 c9 c10 d0 d1 d2 d3 d4 d5 d6 d7 d8 d9 d10
        obtain ⟨d0, d1, d2, d3, d4, d5, d6, d7, d8, d9, d10⟩ := rc_cells HY2.out
        go_upto_region 5 with fail
        go_region_with (go_at_call 22; refine (HGB.out _).mono ?_; rintro e w3 ⟨rfl, hb3⟩)
        all_goals
          have HB3 : Hid (Below w.heap.size w w3) := HB2.out.drew.trans (hb3.mono HB2.out.size)
          have HX3 : Hid (w3.heap[w.heap.size]? = some (rcO r (.slice sa ns sc) (.slice da nd dc))) := (hb3.block _ (Array.getElem?_eq_some_iff.mp HX2.out).1).trans HX2.out
          have HY3 : Hid (w3.heap[w.heap.size + 1]? = some (rcO r (.slice sb ns tc) (.slice db nd ec))) := (hb3.block _ (Array.getElem?_eq_some_iff.mp HY2.out).1).trans HY2.out
          clear hb3 d0 d1 d2 d3 d4 d5 d6 d7 d8 d9 d10 HGA HGB
          go_wp2
          go_roundw
          case rel => exact ⟨k + 1, by omega, by go_num, HB3.out, HX3.out, HY3.out⟩
          case measure => simp [intOf]; omega
    · have hk8 : ¬ (k : Int) < 8 := by omega
      go_upto_region 11 with fail
      clear c0 c1 c2 c3 c4 c5 c6 c7 c8 c9 c10 d0 d1 d2 d3 d4 d5 d6 d7 d8 d9 d10
      go_loopw [8] (fun i wx => ∃ m : Nat, m ≤ ns ∧ i = .int .i64 m ∧ Below w.heap.size w wx ∧ wx.heap[w.heap.size]? = some (rcO r (.slice sa ns sc) (.slice da nd dc)) ∧ wx.heap[w.heap.size + 1]? = some (rcO r (.slice sb ns tc) (.slice db nd ec))) (fun i _ => ns - (intOf i).toNat)
      case atStart => exact ⟨0, Nat.zero_le _, rfl, HBr.out, HXr.out, HYr.out⟩
      case round =>
        obtain ⟨m, hm, rfl, hb, hx, hy⟩ := hrel
        have HBx : Hid (Below w.heap.size w wr) := hb
        have HXx : Hid (wr.heap[w.heap.size]? = some (rcO r (.slice sa ns sc) (.slice da nd dc))) := hx
        have HYx : Hid (wr.heap[w.heap.size + 1]? = some (rcO r (.slice sb ns tc) (.slice db nd ec))) := hy
        obtain ⟨_, _, _, _, _, _, _, _, _, c9, c10⟩ := rc_cells hx
        obtain ⟨_, _, _, _, _, _, _, _, _, d9, d10⟩ := rc_cells hy
        clear hb hx hy HBr HXr HYr
        by_cases hmt : m < ns
        · have hmt' : (m : Int) < (ns : Int) := by omega
          have hml : m < r.spans.length := by rw [HRA.out.spn]; exact hmt
          have hex : ∃ p : Int × Int, r.spans[m]? = some p := C.get_some r.spans m hml
          obtain ⟨⟨f1, t1⟩, hp⟩ := hex
          have hsa := HRA.out.spin wr HBx.out
          have hsb := HRB.out.spin wr HBx.out
          obtain ⟨g, off, rfl, q1, q2⟩ := hsa.at hp
          obtain ⟨g', off', rfl, q3, q4⟩ := hsb.at hp
          simp only at q1 q2 q3 q4
          clear hsa hsb hp
          go_upto_region 13 with fail
          go_quiet (fail)
          go_wp2
          go_roundw
          case rel => exact ⟨m + 1, by omega, by go_num, ⟨HBx.out.os, HBx.out.tape, HBx.out.output, HBx.out.size, HBx.out.block⟩, HXx.out, HYx.out⟩
          case measure => simp [intOf]; omega
        · have hmt' : ¬ (m : Int) < (ns : Int) := by omega
          go_upto_region 16 with fail
          clear c9 c10 d9 d10
          go_loopw [9] (fun i wx => ∃ q : Nat, q ≤ nd ∧ i = .int .i64 q ∧ Below w.heap.size w wx ∧ wx.heap[w.heap.size]? = some (rcO r (.slice sa ns sc) (.slice da nd dc)) ∧ wx.heap[w.heap.size + 1]? = some (rcO r (.slice sb ns tc) (.slice db nd ec))) (fun i _ => nd - (intOf i).toNat)
          case atStart => exact ⟨0, Nat.zero_le _, rfl, HBx.out, HXx.out, HYx.out⟩
          case round =>
            obtain ⟨q, hq, rfl, hb, hx, hy⟩ := hrel
            have HBy : Hid (Below w.heap.size w wr) := hb
            have HXy : Hid (wr.heap[w.heap.size]? = some (rcO r (.slice sa ns sc) (.slice da nd dc))) := hx
            have HYy : Hid (wr.heap[w.heap.size + 1]? = some (rcO r (.slice sb ns tc) (.slice db nd ec))) := hy
            obtain ⟨_, _, _, _, _, _, _, _, _, c9, c10⟩ := rc_cells hx
            obtain ⟨_, _, _, _, _, _, _, _, _, d9, d10⟩ := rc_cells hy
            clear hb hx hy HBx HXx HYx
            by_cases hqt : q < nd
            · have hqt' : (q : Int) < (nd : Int) := by omega
              have hql : q < r.data.length := by rw [HRA.out.dat]; exact hqt
              have hla := HRA.out.lie.below HBy.out
              have hlb := HRB.out.lie.below HBy.out
              rcases hla with h0 | ⟨g, off, rfl, ha⟩
              · rw [h0] at hql; simp at hql
              rcases hlb with h0 | ⟨g', off', rfl, hb⟩
              · rw [h0] at hql; simp at hql
              have q1 := ha q hql
              have q2 := hb q hql
              clear ha hb
              generalize r.data.getD q 0 = y at *
              go_upto_region 18 with fail
              go_quiet (fail)
              go_wp2
              go_roundw
              case rel => exact ⟨q + 1, by omega, by go_num, ⟨HBy.out.os, HBy.out.tape, HBy.out.output, HBy.out.size, HBy.out.block⟩, HXy.out, HYy.out⟩
              case measure => simp [intOf]; omega
            · have hqt' : ¬ (q : Int) < (nd : Int) := by omega
              go_wp2
              go_ret
              exact ⟨rfl, HBy.out⟩
end Go.Proofs.YtjolflpmeodnaagDoor
