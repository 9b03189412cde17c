import Derived.Test.YtkkmoplijicmpaeDoorRpM
import Derived.Test.YtkkmoplijicmpaeDoorFields
import Derived.Deep.RegionHeld3
import Derived.Deep.LoopGhost
namespace Go.Proofs.YtkkmoplijicmpaeDoor
open Go.RowKit
set_option linter.unusedVariables false

theorem bounds5_any (lo up : Int) (w : World) : Calls Tryd.prog 77 #[.int .i64 lo, .int .i64 up] w fun e w' => e = .returned (.bool (decide (0 ≤ lo ∧ lo < up ∧ up ≤ 65536))) ∧ w = w' := by
  obtain ⟨B, hB⟩ : ∃ b, decide (0 ≤ lo ∧ lo < up ∧ up ≤ 65536) = b := ⟨_, rfl⟩
  have HB : Hid (decide (0 ≤ lo ∧ lo < up ∧ up ≤ 65536) = B) := hB
  rw [hB]
  clear hB
  have hcs : (¬ 0 ≤ lo) ∨ (0 ≤ lo ∧ ¬ lo < up) ∨ (0 ≤ lo ∧ lo < up ∧ ¬ up ≤ 65536) ∨ (0 ≤ lo ∧ lo < up ∧ up ≤ 65536) := by omega
  rcases hcs with h1 | ⟨h1, h2⟩ | ⟨h1, h2, h3⟩ | ⟨h1, h2, h3⟩
  · have HV : Hid (B = false) := HB.out.symm.trans (decide_eq_false (by omega))
    clear HB
    go_enter Tryd.func77, Tryd.ntmps77
    go_wp2
    go_ret
    exact ⟨congrArg (fun b => Ending.returned (Value.bool b)) HV.out.symm, rfl⟩
  · have HV : Hid (B = false) := HB.out.symm.trans (decide_eq_false (by omega))
    clear HB
    go_enter Tryd.func77, Tryd.ntmps77
    go_wp2
    go_ret
    exact ⟨congrArg (fun b => Ending.returned (Value.bool b)) HV.out.symm, rfl⟩
  · have HV : Hid (B = false) := HB.out.symm.trans (decide_eq_false (by omega))
    clear HB
    go_enter Tryd.func77, Tryd.ntmps77
    go_wp2
    go_ret
    exact ⟨congrArg (fun b => Ending.returned (Value.bool b)) HV.out.symm, rfl⟩
  · have HV : Hid (B = true) := HB.out.symm.trans (decide_eq_true (by omega))
    clear HB
    go_enter Tryd.func77, Tryd.ntmps77
    go_wp2
    go_ret
    exact ⟨congrArg (fun b => Ending.returned (Value.bool b)) HV.out.symm, rfl⟩

set_option maxHeartbeats 2000000 in
theorem session5_any (o n : Int) (w : World) : Calls Tryd.prog 74 #[.agg #[.int .i64 o, .int .i64 n]] w fun e w' => e = .returned (.bool (decide ((1 ≤ o ∧ o ≤ 4611686018427387903) ∧ (1 ≤ n ∧ n ≤ 4611686018427387902)))) ∧ Below w.heap.size w w' := by
  have HB : Hid (Below w.heap.size w (w.alloc (.cells #[.int .i64 o, .int .i64 n] 23))) := (Below.refl _ _).alloc (Nat.le_refl _) _
  have hB1 := fun W => C.between5_any o 1 4611686018427387903 W
  have hB2 := fun W => C.between5_any n 1 4611686018427387902 W
  obtain ⟨B1, h1⟩ : ∃ b, decide (1 ≤ o ∧ o ≤ 4611686018427387903) = b := ⟨_, rfl⟩
  obtain ⟨B2, h2⟩ : ∃ b, decide (1 ≤ n ∧ n ≤ 4611686018427387902) = b := ⟨_, rfl⟩
  have h3 : decide ((1 ≤ o ∧ o ≤ 4611686018427387903) ∧ (1 ≤ n ∧ n ≤ 4611686018427387902)) = (B1 && B2) := by
    rw [← h1, ← h2, Bool.eq_iff_iff]
    simp only [decide_eq_true_eq, Bool.and_eq_true]
  rw [h3]
  rw [h1] at hB1
  rw [h2] at hB2
  clear h1 h2 h3
  go_enter Tryd.func74, Tryd.ntmps74
  go_wp2_with fail
  refine (hB1 _).mono ?_
  rintro e w2 ⟨rfl, hw2⟩
  subst hw2
  cases B1 with
  | false =>
    go_wp2
    go_ret
    exact ⟨rfl, HB.out⟩
  | true =>
    go_wp2_with fail
    refine (hB2 _).mono ?_
    rintro e w2 ⟨rfl, hw2⟩
    subst hw2
    go_wp2
    go_ret
    exact ⟨rfl, HB.out⟩

end Go.Proofs.YtkkmoplijicmpaeDoor

namespace Go.Proofs.YtkkmoplijicmpaeDoor
open Go.RowKit
set_option linter.unusedVariables false

set_option maxRecDepth 100000 in
set_option maxHeartbeats 4000000 in
theorem form5_any (o n sr ck up lo : Int) (cv : Value) (a : Option Addr) (m c : Nat) (hcv : cv = .slice a m c) (w : World) : Calls Tryd.prog 91 #[.agg #[.int .i64 o, .int .i64 n], .agg #[.int .i64 sr, .int .i64 ck, .int .i64 up, .int .i64 lo, cv]] w fun e w' => e = .returned (.agg #[.int .i64 8, .int .i64 o, .int .i64 n, .slice none 0 0, .slice none 0 0, .int .i64 0, .int .i64 0, .slice none 0 0, .int .i64 ck, .int .i64 sr, .int .i64 up, .int .i64 lo, cv, .int .i64 0]) ∧ Below w.heap.size w w' := by
  subst hcv
  go_enter Tryd.func91, Tryd.ntmps91
  go_wp2
  refine bodyPost_ret (v := .agg #[.int .i64 8, .int .i64 o, .int .i64 n, .slice none 0 0, .slice none 0 0, .int .i64 0, .int .i64 0, .slice none 0 0, .int .i64 ck, .int .i64 sr, .int .i64 up, .int .i64 lo, .slice a m c, .int .i64 0]) (by simp [results, Tryd.results91, go_sem]) rfl ?_
  exact ⟨rfl, (((Below.refl _ _).alloc (Nat.le_refl _) _).alloc (by simp) _).alloc (by simp; omega) _⟩


theorem xin_nil (w : World) : XIn w (.slice none 0 0) [] := ⟨⟨none, 0, rfl, .inl rfl⟩, by simp, by simp⟩
theorem bin_nil (w : World) : BIn w (.slice none 0 0) [] := ⟨⟨none, 0, rfl, by simp [Lies], fun _ => ⟨rfl, rfl⟩, by simp, by omega⟩, by simp [Bytey], by simp⟩
/-- A report's segment. -/
def rpS (o n sr ck up lo : Int) (cl : List (Int × Int)) : Sg := ⟨8, o, n, [], [], 0, 0, [], ck, sr, up, lo, cl, 0⟩
def fitR (mtu : Int) (s : Sg) : Bool := decide ((prt s [] []).1 = 0 ∧ ((prt s [] []).2.length : Int) ≤ mtu)
theorem sin_rp {w : World} {o n sr ck up lo : Int} {cv : Value} {cl : List (Int × Int)} (hc : CIn w cv cl) : SIn w (rpS o n sr ck up lo cl) (.slice none 0 0) (.slice none 0 0) (.slice none 0 0) cv [] [] :=
  ⟨xin_nil w, rfl, xin_nil w, rfl, bin_nil w, hc⟩

set_option maxRecDepth 100000 in
set_option maxHeartbeats 4000000 in
theorem fits5_any (o n sr ck up lo mtu : Int) (a : Option Addr) (m c : Nat) (cl : List (Int × Int)) (w : World) (hc : CIn w (.slice a m c) cl) (hT : Tab w) :
    Calls Tryd.prog 149 #[.agg #[.int .i64 o, .int .i64 n], .agg #[.int .i64 sr, .int .i64 ck, .int .i64 up, .int .i64 lo, .slice a m c], .int .i64 mtu] w fun e w' => e = .returned (.bool (fitR mtu (rpS o n sr ck up lo cl))) ∧ Below w.heap.size w w' := by
  obtain ⟨W, hW⟩ : ∃ W, (w.alloc (.cells #[.int .i64 o, .int .i64 n] 23)).alloc (.cells #[.int .i64 sr, .int .i64 ck, .int .i64 up, .int .i64 lo, .slice a m c] 75) = W := ⟨_, rfl⟩
  have hbW : Below w.heap.size w W := by rw [← hW]; exact ((Below.refl _ _).alloc (Nat.le_refl _) _).alloc (by simp) _
  have h0 : 0 < w.heap.size := World.block_lt_of_cell? w ⟨0, 0, none⟩ (hT 0 (by omega))
  have HF : Hid (∀ X, Below w.heap.size w X → Calls Tryd.prog 58 #[.agg (svC (rpS o n sr ck up lo cl) (.slice none 0 0) (.slice none 0 0) (.slice none 0 0) (.slice a m c))] X (PrintP (rpS o n sr ck up lo cl) [] [] X)) := fun X hX => print_any _ _ _ _ _ _ _ X (sin_rp (hc.below hX)) (hT.below hX h0)
  have hFm := form5_any o n sr ck up lo (.slice a m c) a m c rfl W
  have HBW : Hid (Below w.heap.size w W) := hbW
  have HWe : Hid ((w.alloc (.cells #[.int .i64 o, .int .i64 n] 23)).alloc (.cells #[.int .i64 sr, .int .i64 ck, .int .i64 up, .int .i64 lo, .slice a m c] 75) = W) := hW
  obtain ⟨er, he⟩ : ∃ er, (prt (rpS o n sr ck up lo cl) [] []).1 = er := ⟨_, rfl⟩
  obtain ⟨nb, hnb⟩ : ∃ nb, (prt (rpS o n sr ck up lo cl) [] []).2.length = nb := ⟨_, rfl⟩
  have HE : Hid ((prt (rpS o n sr ck up lo cl) [] []).1 = er ∧ (prt (rpS o n sr ck up lo cl) [] []).2.length = nb) := ⟨he, hnb⟩
  obtain ⟨B, hB⟩ : ∃ b, fitR mtu (rpS o n sr ck up lo cl) = b := ⟨_, rfl⟩
  have HB : Hid (decide (er = 0 ∧ (nb : Int) ≤ mtu) = B) := by show _ = _; rw [← hB, ← he, ← hnb]; rfl
  rw [hB]
  clear hbW hW he hnb hB hc hT h0
  go_enter Tryd.func149, Tryd.ntmps149
  go_wp2_with fail
  rw [HWe.out]
  refine hFm.mono ?_
  rintro e w2 ⟨rfl, hb2⟩
  have HB2 : Hid (Below w.heap.size w w2) := HBW.out.trans (hb2.mono HBW.out.size)
  have hPr := HF.out w2 HB2.out
  clear hb2 hFm HF
  go_wp2_with fail
  refine hPr.mono ?_
  rintro e w3 ⟨ab, cb, rfl, _, hb3⟩
  have HB3 : Hid (Below w.heap.size w w3) := HB2.out.trans (hb3.mono HB2.out.size)
  rw [HE.out.1, HE.out.2]
  clear hb3 hPr
  by_cases e0 : er = 0
  · by_cases e1 : (nb : Int) ≤ mtu
    · have HV : Hid (B = true) := HB.out.symm.trans (decide_eq_true ⟨e0, e1⟩)
      subst e0
      clear HB HE
      go_wp2
      go_ret
      exact ⟨congrArg (fun b => Ending.returned (Value.bool b)) HV.out.symm, HB3.out⟩
    · have HV : Hid (B = false) := HB.out.symm.trans (decide_eq_false fun h => e1 h.2)
      have HE1 : Hid (¬ (nb : Int) ≤ mtu) := e1
      subst e0
      clear HB HE
      go_wp2
      go_ret
      exact ⟨congrArg (fun b => Ending.returned (Value.bool b)) ((decide_eq_false (by have h77 := HE1.out; omega)).trans HV.out.symm), HB3.out⟩
  · have HV : Hid (B = false) := HB.out.symm.trans (decide_eq_false fun h => e0 h.1)
    have e2 : (er == 0) = false := by simp [e0]
    clear HB HE e0
    go_wp2
    go_ret
    exact ⟨congrArg (fun b => Ending.returned (Value.bool b)) HV.out.symm, HB3.out⟩

end Go.Proofs.YtkkmoplijicmpaeDoor

namespace Go.Proofs.YtkkmoplijicmpaeDoor
open Go.RowKit
set_option linter.unusedVariables false

set_option maxRecDepth 100000 in
set_option maxHeartbeats 4000000 in
/-- The report with the next n of the claims that are left. -/
theorem fill1_last (Ba Bl : Nat) (sr ck up lo : Int) (a : Option Addr) (m c : Nat) (w : World) (ha : w.heap[Ba]? = some (.cells #[.int .i64 sr, .int .i64 ck, .int .i64 up, .int .i64 lo, .slice none 0 0] 75 (0, 0))) (hl : w.cell? ⟨Bl, 0, none⟩ = some (.slice a m c)) (hm : m ≤ c) :
    Calls Tryd.prog 146 #[.int .i64 (m : Nat), .pointer (some ⟨Ba, 0, none⟩), .pointer (some ⟨Bl, 0, none⟩)] w fun e w' => e = .returned (.agg #[.int .i64 sr, .int .i64 ck, .int .i64 up, .int .i64 lo, .slice a m c]) ∧ Below w.heap.size w w' := by
  have hlt : Ba < w.heap.size := (Array.getElem?_eq_some_iff.1 ha).1
  have hlt2 : Bl < w.heap.size := World.block_lt_of_cell? w ⟨Bl, 0, none⟩ hl
  have hn1 : Ba ≠ w.heap.size := by omega
  have hn2 : Bl ≠ w.heap.size := by omega
  have c0 : w.cell? ⟨Ba, 0, none⟩ = some (.int .i64 sr) := by rw [cell_of_row _ _ _ _ _ _ ha]; rfl
  have c1 : w.cell? ⟨Ba, 1, none⟩ = some (.int .i64 ck) := by rw [cell_of_row _ _ _ _ _ _ ha]; rfl
  have c2 : w.cell? ⟨Ba, 2, none⟩ = some (.int .i64 up) := by rw [cell_of_row _ _ _ _ _ _ ha]; rfl
  have c3 : w.cell? ⟨Ba, 3, none⟩ = some (.int .i64 lo) := by rw [cell_of_row _ _ _ _ _ _ ha]; rfl
  have c4 : w.cell? ⟨Ba, 4, none⟩ = some (.slice none 0 0) := by rw [cell_of_row _ _ _ _ _ _ ha]; rfl
  have hz : ¬ (m : Int) < (m : Int) := by omega
  have hmc : (m : Int) ≤ (c : Int) := by omega
  clear ha
  go_enter Tryd.func146, Tryd.ntmps146
  go_wp2
  refine bodyPost_ret (v := .agg #[.int .i64 sr, .int .i64 ck, .int .i64 up, .int .i64 lo, .slice a m c]) (by simp [results, Tryd.results146, go_sem]) rfl ?_
  exact ⟨rfl, ((Below.refl _ _).alloc (Nat.le_refl _) _).alloc (by simp) _⟩

set_option maxRecDepth 100000 in
set_option maxHeartbeats 4000000 in
theorem fill1_mid (Ba Bl : Nat) (sr ck up lo f : Int) (g off m c n : Nat) (w : World) (ha : w.heap[Ba]? = some (.cells #[.int .i64 sr, .int .i64 ck, .int .i64 up, .int .i64 lo, .slice none 0 0] 75 (0, 0))) (hl : w.cell? ⟨Bl, 0, none⟩ = some (.slice (some ⟨g, off, none⟩) m c)) (hm : m ≤ c) (hn : n < m) (hc : w.cell? ⟨g, off + n * 2, none⟩ = some (.int .i64 f)) :
    Calls Tryd.prog 146 #[.int .i64 (n : Nat), .pointer (some ⟨Ba, 0, none⟩), .pointer (some ⟨Bl, 0, none⟩)] w fun e w' => e = .returned (.agg #[.int .i64 sr, .int .i64 ck, .int .i64 f, .int .i64 lo, .slice (some ⟨g, off, none⟩) n c]) ∧ Below w.heap.size w w' := by
  have hlt : Ba < w.heap.size := (Array.getElem?_eq_some_iff.1 ha).1
  have hlt2 : Bl < w.heap.size := World.block_lt_of_cell? w ⟨Bl, 0, none⟩ hl
  have hlt3 : g < w.heap.size := World.block_lt_of_cell? w ⟨g, off + n * 2, none⟩ hc
  have hn1 : Ba ≠ w.heap.size := by omega
  have hn2 : Bl ≠ w.heap.size := by omega
  have hn3 : g ≠ w.heap.size := by omega
  have c0 : w.cell? ⟨Ba, 0, none⟩ = some (.int .i64 sr) := by rw [cell_of_row _ _ _ _ _ _ ha]; rfl
  have c1 : w.cell? ⟨Ba, 1, none⟩ = some (.int .i64 ck) := by rw [cell_of_row _ _ _ _ _ _ ha]; rfl
  have c2 : w.cell? ⟨Ba, 2, none⟩ = some (.int .i64 up) := by rw [cell_of_row _ _ _ _ _ _ ha]; rfl
  have c3 : w.cell? ⟨Ba, 3, none⟩ = some (.int .i64 lo) := by rw [cell_of_row _ _ _ _ _ _ ha]; rfl
  have c4 : w.cell? ⟨Ba, 4, none⟩ = some (.slice none 0 0) := by rw [cell_of_row _ _ _ _ _ _ ha]; rfl
  have hz : (n : Int) < (m : Int) := by omega
  have hmc : (n : Int) ≤ (c : Int) := by omega
  clear ha
  go_enter Tryd.func146, Tryd.ntmps146
  go_wp2
  refine bodyPost_ret (v := .agg #[.int .i64 sr, .int .i64 ck, .int .i64 f, .int .i64 lo, .slice (some ⟨g, off, none⟩) n c]) (by simp [results, Tryd.results146, go_sem]) rfl ?_
  exact ⟨rfl, ((Below.refl _ _).alloc (Nat.le_refl _) _).alloc (by simp) _⟩

end Go.Proofs.YtkkmoplijicmpaeDoor

namespace Go.Proofs.YtkkmoplijicmpaeDoor
open Go.RowKit
set_option linter.unusedVariables false

set_option maxRecDepth 100000 in
set_option maxHeartbeats 8000000 in
/-- Does the report with one claim more not fit? -/
theorem fill2_any (Bs Bw Bm Ba Bl n : Nat) (o nm mtu sr ck u lo : Int) (a : Option Addr) (k c : Nat) (B : Bool) (w : World) (hn : n ≤ 1048576)
    (c0 : w.cell? ⟨Bs, 0, none⟩ = some (.int .i64 o)) (c1 : w.cell? ⟨Bs, 1, none⟩ = some (.int .i64 nm)) (c2 : w.cell? ⟨Bw, 0, none⟩ = some (.func (.func 146) #[] #[.pointer (some ⟨Ba, 0, none⟩), .pointer (some ⟨Bl, 0, none⟩)])) (c3 : w.cell? ⟨Bm, 0, none⟩ = some (.int .i64 mtu))
    (h1 : ∀ V, Below w.heap.size w V → Calls Tryd.prog 146 #[.int .i64 ((n : Int) + 1), .pointer (some ⟨Ba, 0, none⟩), .pointer (some ⟨Bl, 0, none⟩)] V fun e w' => e = .returned (.agg #[.int .i64 sr, .int .i64 ck, .int .i64 u, .int .i64 lo, .slice a k c]) ∧ Below V.heap.size V w')
    (h2 : ∀ V, Below w.heap.size w V → Calls Tryd.prog 149 #[.agg #[.int .i64 o, .int .i64 nm], .agg #[.int .i64 sr, .int .i64 ck, .int .i64 u, .int .i64 lo, .slice a k c], .int .i64 mtu] V fun e w' => e = .returned (.bool B) ∧ Below V.heap.size V w') :
    Calls Tryd.prog 148 #[.int .i64 n, .pointer (some ⟨Bs, 0, none⟩), .pointer (some ⟨Bw, 0, none⟩), .pointer (some ⟨Bm, 0, none⟩)] w fun e w' => e = .returned (.bool (!B)) ∧ Below w.heap.size w w' := by
  have H1 : Hid (∀ V, Below w.heap.size w V → Calls Tryd.prog 146 #[.int .i64 ((n : Int) + 1), .pointer (some ⟨Ba, 0, none⟩), .pointer (some ⟨Bl, 0, none⟩)] V fun e w' => e = .returned (.agg #[.int .i64 sr, .int .i64 ck, .int .i64 u, .int .i64 lo, .slice a k c]) ∧ Below V.heap.size V w') := h1
  have H2 : Hid (∀ V, Below w.heap.size w V → Calls Tryd.prog 149 #[.agg #[.int .i64 o, .int .i64 nm], .agg #[.int .i64 sr, .int .i64 ck, .int .i64 u, .int .i64 lo, .slice a k c], .int .i64 mtu] V fun e w' => e = .returned (.bool B) ∧ Below V.heap.size V w') := h2
  have hwn : IntKind.i64.wrap ((n : Int) + 1) = (n : Int) + 1 := by rw [IntKind.wrap_i64]; omega
  clear h1 h2
  go_enter Tryd.func148, Tryd.ntmps148
  go_wp2_with fail
  go_region_held3 (fun V => V.cell? ⟨Bs, 0, none⟩ = some (.int .i64 o) ∧ V.cell? ⟨Bs, 1, none⟩ = some (.int .i64 nm) ∧ V.cell? ⟨Bw, 0, none⟩ = some (.func (.func 146) #[] #[.pointer (some ⟨Ba, 0, none⟩), .pointer (some ⟨Bl, 0, none⟩)]) ∧ V.cell? ⟨Bm, 0, none⟩ = some (.int .i64 mtu) ∧ Below w.heap.size w V)
    (first | (exact ⟨y0, y1, y2, y3, hV3⟩) | (exact ⟨d0, d1, d2, d3, hV2⟩) | (exact ⟨c0, c1, c2, c3, Below.refl _ _⟩) | (exact ⟨c0, c1, c2, c3, (Below.refl _ _).drew⟩))
    (first
      | (go_at_call 146
         refine (H1.out _ (Below.refl _ _).drew).mono ?_
         rintro e w2 ⟨rfl, hb2⟩
         have hV2 : Below w.heap.size w w2 := (Below.refl _ _).drew.trans hb2
         have d0 := cell_below c0 hV2
         have d1 := cell_below c1 hV2
         have d2 := cell_below c2 hV2
         have d3 := cell_below c3 hV2
         clear hb2)
      | (go_at_call 149
         refine (H2.out _ hV2).mono ?_
         rintro e w3 ⟨rfl, hb3⟩
         have hV3 : Below w.heap.size w w3 := hV2.trans (hb3.mono hV2.size)
         have y0 := cell_below c0 hV3
         have y1 := cell_below c1 hV3
         have y2 := cell_below c2 hV3
         have y3 := cell_below c3 hV3
         clear hb3))
  all_goals (
    have HB3 : Hid (Below w.heap.size w w3) := hV3
    clear c0 c1 c2 c3 d0 d1 d2 d3 y0 y1 y2 y3 hV2 hV3
    go_wp2
    go_ret
    exact ⟨rfl, HB3.out⟩)

end Go.Proofs.YtkkmoplijicmpaeDoor

namespace Go.Proofs.YtkkmoplijicmpaeDoor
open Go.RowKit
set_option linter.unusedVariables false

set_option maxHeartbeats 1000000 in
theorem search5_any (Bs Bw Bm n : Nat) (p : Nat → Bool) (w : World) (hn : n ≤ 4096)
    (hf : ∀ (W : World) (i : Nat), Below w.heap.size w W → i < n → Calls Tryd.prog 148 #[.int .i64 i, .pointer (some ⟨Bs, 0, none⟩), .pointer (some ⟨Bw, 0, none⟩), .pointer (some ⟨Bm, 0, none⟩)] W fun e w' => e = .returned (.bool (p i)) ∧ Below W.heap.size W w')
    (hmono : ∀ a b, a ≤ b → b < n → p a = true → p b = true) :
    Calls Tryd.prog 147 #[.int .i64 n, .func (.func 148) #[] #[.pointer (some ⟨Bs, 0, none⟩), .pointer (some ⟨Bw, 0, none⟩), .pointer (some ⟨Bm, 0, none⟩)]] w fun e w' => (∃ r : Nat, e = .returned (.int .i64 r) ∧ r ≤ n ∧ (∀ i, i < r → p i = false) ∧ (∀ i, r ≤ i → i < n → p i = true)) ∧ Below w.heap.size w w' := by
  have HF : Hid (∀ (W : World) (i : Nat), Below w.heap.size w W → i < n → Calls Tryd.prog 148 #[.int .i64 i, .pointer (some ⟨Bs, 0, none⟩), .pointer (some ⟨Bw, 0, none⟩), .pointer (some ⟨Bm, 0, none⟩)] W fun e w' => e = .returned (.bool (p i)) ∧ Below W.heap.size W w') := hf
  have M : Hid (∀ a b, a ≤ b → b < n → p a = true → p b = true) := hmono
  clear hf hmono
  go_enter Tryd.func147, Tryd.ntmps147
  go_wp2
  go_loopg [5, 6] n (fun kx s5 s6 wr => ∃ (lo hi : Nat), s5 = .int .i64 lo ∧ s6 = .int .i64 hi ∧ lo ≤ hi ∧ hi ≤ n ∧ hi - lo ≤ kx ∧ Below w.heap.size w wr ∧
    Hid ((∀ t, t < lo → p t = false) ∧ (∀ t, hi ≤ t → t < n → p t = true)))
  case atStart => exact ⟨0, n, rfl, rfl, Nat.zero_le _, Nat.le_refl _, by omega, Below.refl _ _, (⟨fun t ht => absurd ht (Nat.not_lt_zero _), fun t h1 h2 => by omega⟩ : (∀ t, t < 0 → p t = false) ∧ (∀ t, n ≤ t → t < n → p t = true))⟩
  case round =>
    obtain ⟨lo, hi, rfl, rfl, hlh, hin, hg, hbe, I⟩ := hrel
    have HBe : Hid (Below w.heap.size w wr) := hbe
    clear hbe
    by_cases hlt : lo < hi
    · have hc := HF.out wr ((lo + hi) / 2) HBe.out (by omega)
      rw [show (((lo + hi) / 2 : Nat) : Int) = ((lo : Int) + (hi : Int)) / 2 by omega] at hc
      cases hp : p ((lo + hi) / 2) <;> rw [hp] at hc
      · have HP : Hid (p ((lo + hi) / 2) = false) := hp
        clear hp
        go_wp2_with fail
        refine hc.mono ?_
        rintro e w' ⟨rfl, hb⟩
        have HB2 : Hid (Below w.heap.size w w') := HBe.out.trans (hb.mono HBe.out.size)
        clear hb hc
        go_wp2
        go_roundg (hi - ((lo + hi) / 2 + 1))
        case measure => omega
        case rel =>
          have I2 : Hid ((∀ t, t < (lo + hi) / 2 + 1 → p t = false) ∧ (∀ t, hi ≤ t → t < n → p t = true)) := ⟨fun t ht => (by
            cases h : p t with
            | false => rfl
            | true => have := M.out t ((lo + hi) / 2) (by omega) (by omega) h; rw [HP.out] at this; cases this), I.out.2⟩
          exact ⟨(lo + hi) / 2 + 1, hi, by rw [show ((lo : Int) + (hi : Int)) / 2 + 1 = (((lo + hi) / 2 + 1 : Nat) : Int) by omega], rfl, by omega, hin, Nat.le_refl _, HB2.out, I2⟩
      · have HP : Hid (p ((lo + hi) / 2) = true) := hp
        clear hp
        go_wp2_with fail
        refine hc.mono ?_
        rintro e w' ⟨rfl, hb⟩
        have HB2 : Hid (Below w.heap.size w w') := HBe.out.trans (hb.mono HBe.out.size)
        clear hb hc
        go_wp2
        go_roundg ((lo + hi) / 2 - lo)
        case measure => omega
        case rel =>
          have I2 : Hid ((∀ t, t < lo → p t = false) ∧ (∀ t, (lo + hi) / 2 ≤ t → t < n → p t = true)) := ⟨I.out.1, fun t ht htn => M.out ((lo + hi) / 2) t ht htn HP.out⟩
          exact ⟨lo, (lo + hi) / 2, rfl, by rw [show ((lo : Int) + (hi : Int)) / 2 = (((lo + hi) / 2 : Nat) : Int) by omega], by omega, by omega, Nat.le_refl _, HB2.out, I2⟩
    · obtain rfl : hi = lo := by omega
      go_wp2
      go_ret
      exact ⟨⟨hi, rfl, hin, I.out.1, I.out.2⟩, HBe.out⟩

end Go.Proofs.YtkkmoplijicmpaeDoor
