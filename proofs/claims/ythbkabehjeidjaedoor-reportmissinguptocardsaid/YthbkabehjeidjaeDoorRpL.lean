import Derived.Test.YthbkabehjeidjaeDoorRpO
import Derived.Test.YthbkabehjeidjaeDoorLnt
import Derived.Deep.CutRange
namespace Go.Proofs.YthbkabehjeidjaeDoor.C
open Go.RowKit Go.Shelf
set_option linter.unusedVariables false

def mkL (l : List Sp) : List Sp := l ++ [(-7, -7), (-8, -8)]
theorem mkL_a (l : List Sp) : (l ++ (List.replicate (l.length + 2) ((0 : Int), (0 : Int))).drop l.length) = l ++ [(0, 0), (0, 0)] := by
  rw [List.drop_replicate, show l.length + 2 - l.length = 2 by omega]; rfl
theorem mkL_b (l : List Sp) : ((l ++ [((0 : Int), (0 : Int)), (0, 0)]).set l.length (-7, -7)).set (l.length + 1) (-8, -8) = mkL l := by
  rw [List.set_append_right _ _ (Nat.le_refl _), List.set_append_right _ _ (by omega)]
  simp [mkL]
theorem lent_made {w1 : World} {base g n : Nat} (h : w1.ownsRow base 36 2 (.slice (some ⟨g, 0, none⟩) n n) n (madeCells (Value.cells (.agg #[.int .i64 0, .int .i64 0])) (n * 2)).toList) : SOwn w1 base (.slice (some ⟨g, 0, none⟩) n n) (List.replicate n (0, 0)) := by
  rw [made_spans] at h
  unfold SOwn
  rw [List.length_replicate]
  exact h
theorem size_span5 : (Tryd.prog.info? 36).map (·.size) = some 2 := by kernel_rfl
set_option maxRecDepth 100000 in
set_option maxHeartbeats 4000000 in
theorem lentSpans_any {v : Value} {l : List Sp} {w : World} (h : Ls w v l) (hm : l.length ≤ 1048576) : Calls Tryd.prog 25 #[v] w fun e w' => e = .returned (.slice (some ⟨w.heap.size, 0, none⟩) l.length (l.length + 2)) ∧ SOwn w' w.heap.size (.slice (some ⟨w.heap.size, 0, none⟩) (l.length + 2) (l.length + 2)) (mkL l) ∧ Below w.heap.size w w' := by
  obtain ⟨i0, hi, hz0, hz1, hz2⟩ := info_parts Tryd.info_span
  have HLs : Hid (Ls w v l) := h
  obtain ⟨a, c, rfl, hs, _⟩ := h.shape
  obtain ⟨n, hn⟩ : ∃ n, l.length = n := ⟨_, rfl⟩
  have HN : Hid (l.length = n) := hn
  rw [hn] at hm ⊢
  have hw1 : IntKind.i64.wrap ((n : Int) + 2) = (n : Int) + 2 := by rw [IntKind.wrap_i64]; omega
  have hw2 : IntKind.i64.wrap ((n : Int) + 1) = (n : Int) + 1 := by rw [IntKind.wrap_i64]; omega
  have HLb : Hid (∀ X, Below w.heap.size w X → Ls X (.slice a n c) l) := fun X hX => by have := HLs.out.below hX; rw [hn] at this; exact this
  clear h hs hn
  go_enter Tryd.func25, Tryd.ntmps25
  go_upto_region 3 with (first
    | (at_make; refine wpList_make_full _ rfl _ _ 26 rfl w.heap.size 36 i0 (.agg #[.int .i64 0, .int .i64 0]) 2 Tryd.underlying26 hi hz0 hz1 .i64 .i64 _ _ (n + 2) rfl rfl (by simp) (by simp) (by rw [hz2]; omega) (by unfold maxLen; omega) (Nat.le_refl _) ?_
       intro w1 hown1 hgrow1
       have HB1 : Hid (Below w.heap.size w w1) := (Below.refl _ _).grown hgrow1 (Nat.le_refl _) (by intro j hj; cases hj)
       have HO1 : Hid (SOwn w1 w.heap.size (.slice (some ⟨w.heap.size, 0, none⟩) (n + 2) (n + 2)) (List.replicate (n + 2) (0, 0))) := lent_made hown1
       clear hown1 hgrow1)
    | (refine wpList_copy_spans rfl (.tmp 8) (.tmp 9) 26 26 rfl Tryd.underlying26 size_span5 w.heap.size (n + 2) (n + 2) w.heap.size _ l (.slice a n c) rfl rfl HO1.out (HLb.out _ HB1.out) (by have := HN.out; omega) ?_
       intro w2 hown2 hgrow2
       have HB2 : Hid (Below w.heap.size w w2) := HB1.out.trans ((Below.refl _ _).grown hgrow2 HB1.out.size (by intro j hj; cases hj; exact Nat.le_refl _))
       have HO2 : Hid (SOwn w2 w.heap.size (.slice (some ⟨w.heap.size, 0, none⟩) (n + 2) (n + 2)) (l ++ (List.replicate (n + 2) ((0 : Int), (0 : Int))).drop l.length)) := hown2
       clear hown2 hgrow2)
    | go_in)
  have HO3 : Hid (SOwn w2 w.heap.size (.slice (some ⟨w.heap.size, 0, none⟩) (n + 2) (n + 2)) (l ++ [(0, 0), (0, 0)])) := by
    have h8 := HO2.out
    rw [← HN.out, mkL_a, HN.out] at h8
    exact h8
  have g0 : (l ++ [((0 : Int), (0 : Int)), (0, 0)])[n]? = some (0, 0) := by rw [← HN.out, List.getElem?_append_right (Nat.le_refl _)]; simp
  obtain ⟨q1, q2, q3, q4⟩ := HO3.out.cells g0
  have s7 := HO3.out.put (k := n) (-7) (-7)
  have g1 : ((l ++ [((0 : Int), (0 : Int)), (0, 0)]).set n (-7, -7))[n + 1]? = some (0, 0) := by
    rw [List.getElem?_set_ne (by omega), ← HN.out, List.getElem?_append_right (by omega)]
    simp
  obtain ⟨q5, q6, q7, q8⟩ := s7.cells g1
  have s8 := s7.put (k := n + 1) (-8) (-8)
  have HS8 : Hid (SOwn ((((w2.setCell ⟨w.heap.size, n * 2, none⟩ (.int .i64 (-7))).setCell ⟨w.heap.size, n * 2 + 1, none⟩ (.int .i64 (-7))).setCell ⟨w.heap.size, (n + 1) * 2, none⟩ (.int .i64 (-8))).setCell ⟨w.heap.size, (n + 1) * 2 + 1, none⟩ (.int .i64 (-8))) w.heap.size (.slice (some ⟨w.heap.size, 0, none⟩) (n + 2) (n + 2)) (mkL l)) := by
    have h8 := s8
    rw [← HN.out, mkL_b] at h8
    rw [← HN.out]
    exact h8
  have HB8 : Hid (Below w.heap.size w ((((w2.setCell ⟨w.heap.size, n * 2, none⟩ (.int .i64 (-7))).setCell ⟨w.heap.size, n * 2 + 1, none⟩ (.int .i64 (-7))).setCell ⟨w.heap.size, (n + 1) * 2, none⟩ (.int .i64 (-8))).setCell ⟨w.heap.size, (n + 1) * 2 + 1, none⟩ (.int .i64 (-8)))) := (((HB2.out.setCell (p := ⟨w.heap.size, n * 2, none⟩) (Nat.le_refl _) _).setCell (p := ⟨w.heap.size, n * 2 + 1, none⟩) (Nat.le_refl _) _).setCell (p := ⟨w.heap.size, (n + 1) * 2, none⟩) (Nat.le_refl _) _).setCell (p := ⟨w.heap.size, (n + 1) * 2 + 1, none⟩) (Nat.le_refl _) _
  simp only at q1 q2 q5 q6
  have hl1 : (n : Int) < (n : Int) + 2 := by omega
  have hl2 : (n : Int) + 1 < (n : Int) + 2 := by omega
  clear s7 s8 g0 g1 HO1 HO2 HO3 HB1 HB2
  go_wp2
  go_ret
  exact ⟨rfl, HS8.out, HB8.out⟩

end Go.Proofs.YthbkabehjeidjaeDoor.C

namespace Go.Proofs.YthbkabehjeidjaeDoor.C
open Go.RowKit Go.Shelf
set_option linter.unusedVariables false

theorem below_dN {B : Nat} {w wr : World} (h : Below B w wr) (n : Nat) : Below B w (wr.drewN n) := ⟨h.os, h.tape, h.output, h.size, h.block⟩
theorem mkL_at {l : List Sp} {k : Nat} {p : Sp} (h : l[k]? = some p) : (mkL l)[k]? = some p := by unfold mkL; rw [List.getElem?_append_left (List.getElem?_eq_some_iff.mp h).1]; exact h
theorem mkL_7 (l : List Sp) : (mkL l)[l.length]? = some (-7, -7) := by unfold mkL; rw [List.getElem?_append_right (Nat.le_refl _)]; simp
theorem mkL_8 (l : List Sp) : (mkL l)[l.length + 1]? = some (-8, -8) := by unfold mkL; rw [List.getElem?_append_right (by omega)]; simp

set_option maxRecDepth 100000 in
set_option maxHeartbeats 4000000 in
theorem keptSpans_any {v : Value} {l : List Sp} {w : World} {base g c0 : Nat} (h : Ls w v l) (hm : l.length ≤ 1048576) (ho : SOwn w base (.slice (some ⟨g, 0, none⟩) (l.length + 2) (l.length + 2)) (mkL l)) :
    Calls Tryd.prog 28 #[.slice (some ⟨g, 0, none⟩) l.length (l.length + 2), v] w fun e w' => e = .returned (.bool true) ∧ Below w.heap.size w w' := by
  obtain ⟨a, c, rfl, hs, _⟩ := h.shape
  have HS : Hid (Spa w a l) := hs
  obtain ⟨n, hn⟩ : ∃ n, l.length = n := ⟨_, rfl⟩
  have HN : Hid (l.length = n) := hn
  have h7 := mkL_7 l
  have h8 := mkL_8 l
  rw [hn] at hm ho h7 h8 ⊢
  have HO : Hid (SOwn w base (.slice (some ⟨g, 0, none⟩) (n + 2) (n + 2)) (mkL l)) := ho
  have H78 : Hid ((mkL l)[n]? = some (-7, -7) ∧ (mkL l)[n + 1]? = some (-8, -8)) := ⟨h7, h8⟩
  have hw1 : IntKind.i64.wrap ((n : Int) + 2) = (n : Int) + 2 := by rw [IntKind.wrap_i64]; omega
  have hw2 : IntKind.i64.wrap ((n : Int) + 1) = (n : Int) + 1 := by rw [IntKind.wrap_i64]; omega
  clear h hs hn ho h7 h8
  go_enter Tryd.func28, Tryd.ntmps28
  go_wp2
  go_loopw [6] (fun i wr => ∃ (k : Nat), k ≤ n ∧ i = .int .i64 k ∧ Below w.heap.size w wr) (fun i _ => n - (intOf i).toNat)
  case atStart => exact ⟨0, by omega, rfl, Below.refl _ _⟩
  case round =>
    obtain ⟨k, hk, rfl, hbe⟩ := hrel
    have HBe : Hid (Below w.heap.size w wr) := hbe
    have HOr : Hid (SOwn wr base (.slice (some ⟨g, 0, none⟩) (n + 2) (n + 2)) (mkL l)) := HO.out.below hbe
    clear hbe
    by_cases hlt : k < n
    · have hlt' : (k : Int) < (n : Int) := by omega
      have hlt2 : (k : Int) < (n : Int) + 2 := by omega
      have hwk : IntKind.i64.wrap ((k : Int) + 1) = (k : Int) + 1 := by rw [IntKind.wrap_i64]; omega
      obtain ⟨⟨p1, p2⟩, hp⟩ : ∃ p, l[k]? = some p := ⟨_, List.getElem?_eq_getElem (by rw [HN.out]; omega)⟩
      obtain ⟨q1, q2, _, _⟩ := HOr.out.cells2 (mkL_at hp)
      obtain ⟨g', off', rfl, r1, r2⟩ := (HS.out.below HBe.out).at hp
      simp only at q1 q2 r1 r2
      clear hp
      go_wp2_with fail
      go_quiet (fail)
      go_wp2
      exact ⟨⟨k + 1, by omega, by simp, below_dN HBe.out _⟩, by simp [intOf]; omega⟩
    · have hkn : k = n := by omega
      subst hkn
      have hz : ¬ (k : Int) < (k : Int) := by omega
      have hl1 : (k : Int) < (k : Int) + 2 := by omega
      have hl2 : (k : Int) + 1 < (k : Int) + 2 := by omega
      obtain ⟨q1, q2, _, _⟩ := HOr.out.cells2 H78.out.1
      obtain ⟨q3, q4, _, _⟩ := HOr.out.cells2 H78.out.2
      simp only at q1 q2 q3 q4
      go_wp2
      go_ret
      exact ⟨rfl, HBe.out⟩

end Go.Proofs.YthbkabehjeidjaeDoor.C

namespace Go.Proofs.YthbkabehjeidjaeDoor.C
open Go.RowKit Go.Shelf
set_option linter.unusedVariables false

set_option maxRecDepth 100000 in
set_option maxHeartbeats 4000000 in
theorem ownedBytes_nil (w : World) : Calls Tryd.prog 80 #[.slice none 0 0] w fun e w' => e = .returned (.bool true) ∧ w' = w := by
  go_enter Tryd.func80, Tryd.ntmps80
  go_wp2
  go_loopw [3] (fun v wr => v = .int .i64 0 ∧ wr = w) (fun _ _ => 0)
  case atStart => exact ⟨rfl, rfl⟩
  case round =>
    obtain ⟨rfl, hw⟩ := hrel
    subst hw
    go_wp2
    go_loopw [5, 6] (fun v5 v6 wr2 => v5 = .slice none 0 0 ∧ v6 = .int .i64 0 ∧ wr2 = wr) (fun _ _ _ => 0)
    case atStart => exact ⟨rfl, rfl, rfl⟩
    case round =>
      obtain ⟨rfl, rfl, hw⟩ := hrel
      subst hw
      go_wp2
      go_loopw [9] (fun v wr2 => v = .int .i64 0 ∧ wr2 = wr) (fun _ _ => 0)
      case atStart => exact ⟨rfl, rfl⟩
      case round =>
        obtain ⟨rfl, hw⟩ := hrel
        subst hw
        go_wp2
        go_ret
        exact ⟨rfl, rfl⟩

set_option maxRecDepth 100000 in
set_option maxHeartbeats 4000000 in
theorem ownedExts_nil (w : World) : Calls Tryd.prog 82 #[.slice none 0 0] w fun e w' => e = .returned (.bool true) ∧ w' = w := by
  go_enter Tryd.func82, Tryd.ntmps82
  go_wp2
  go_loopw [3] (fun v wr => v = .int .i64 0 ∧ wr = w) (fun _ _ => 0)
  case atStart => exact ⟨rfl, rfl⟩
  case round =>
    obtain ⟨rfl, hw⟩ := hrel
    subst hw
    go_wp2
    go_loopw [5, 6] (fun v5 v6 wr2 => v5 = .slice none 0 0 ∧ v6 = .int .i64 0 ∧ wr2 = wr) (fun _ _ _ => 0)
    case atStart => exact ⟨rfl, rfl, rfl⟩
    case round =>
      obtain ⟨rfl, rfl, hw⟩ := hrel
      subst hw
      go_wp2
      go_loopw [9] (fun v wr2 => v = .int .i64 0 ∧ wr2 = wr) (fun _ _ => 0)
      case atStart => exact ⟨rfl, rfl⟩
      case round =>
        obtain ⟨rfl, hw⟩ := hrel
        subst hw
        go_wp2
        go_ret
        exact ⟨rfl, rfl⟩

set_option maxRecDepth 100000 in
set_option maxHeartbeats 4000000 in
theorem ownedRows_spans (pr : Nat) (al : Option Addr) (cl : Nat) (own : Nat → Nat) (os : List Value) (C0 : Nat → List Sp) (w : World) (hbx : w.heap[pr]? = some (.cells #[.slice none 0 0, .slice al os.length cl, .slice none 0 0] 73 (0, 0))) (hpr : own pr = 0) (hLo : Lo own w os C0 0) (hNm : Nam own w al os) (hn : os.length ≤ 1048576) (hlc : ∀ j, (C0 j).length ≤ 1048600) :
    Calls Tryd.prog 30 #[.pointer (some ⟨pr, 0, none⟩)] w fun e w' => e = .returned (.bool true) ∧ Kt own w w' := by
  have hB := ownedBytes_nil w
  have hS := ownedSpans_any al cl own os C0 w hLo hNm hn hlc
  have hlt : pr < w.heap.size := (Array.getElem?_eq_some_iff.1 hbx).1
  obtain ⟨m, hm⟩ : ∃ m, os.length = m := ⟨_, rfl⟩
  rw [hm] at hbx hS
  have c0 : w.cell? ⟨pr, 0, none⟩ = some (.slice none 0 0) := by rw [cell_of_row _ _ _ _ _ _ hbx]; rfl
  have c1 : w.cell? ⟨pr, 1, none⟩ = some (.slice al m cl) := by rw [cell_of_row _ _ _ _ _ _ hbx]; rfl
  have HBx : Hid (w.heap[pr]? = some (.cells #[.slice none 0 0, .slice al m cl, .slice none 0 0] 73 (0, 0)) ∧ pr < w.heap.size ∧ own pr = 0) := ⟨hbx, hlt, hpr⟩
  clear hLo hNm hn hlc hbx hm hlt hpr
  go_enter Tryd.func30, Tryd.ntmps30
  go_wp2_with fail
  refine hB.mono ?_
  rintro e w1 ⟨rfl, hw1⟩
  rw [hw1]
  clear hw1 w1 hB
  go_wp2_with fail
  refine hS.mono ?_
  rintro e w2 ⟨rfl, hk2⟩
  have c2 : w2.cell? ⟨pr, 2, none⟩ = some (.slice none 0 0) := by rw [cell_of_row _ _ _ _ _ _ ((hk2.block pr HBx.out.2.1 HBx.out.2.2).trans HBx.out.1)]; rfl
  have HK2 : Hid (Kt own w w2) := hk2
  have hE := ownedExts_nil w2
  clear hk2 hS c0 c1
  go_wp2_with fail
  refine hE.mono ?_
  rintro e w3 ⟨rfl, hw3⟩
  rw [hw3]
  clear hw3 w3 hE
  go_wp2
  go_ret
  exact ⟨rfl, HK2.out⟩

end Go.Proofs.YthbkabehjeidjaeDoor.C
