import Derived.Test.YthbkabehjeidjaeDoorRpV
import Derived.Test.YthbkabehjeidjaeDoorAll
import Derived.Deep.RegionHeld3
namespace Go.Proofs.YthbkabehjeidjaeDoor
open Go.RowKit
set_option linter.unusedVariables false
set_option linter.unusedSimpArgs false

/-! ## The reference's Print, of a report's segment that may be -/
set_option maxHeartbeats 2000000 in
theorem rqScope_any (lo up : Int) (w : World) : Calls Tryd.prog 71 #[.int .i64 lo, .int .i64 up] w fun e w' => e = .returned (.bool (decide (0 ≤ lo ∧ lo < up ∧ up ≤ 65536))) ∧ w = w' := by
  obtain ⟨B, hB⟩ : ∃ b, decide (0 ≤ lo ∧ lo < up ∧ up ≤ 65536) = b := ⟨_, rfl⟩
  have HB : Hid (decide (0 ≤ lo ∧ lo < up ∧ up ≤ 65536) = B) := hB
  rw [hB]
  clear hB
  have hcs : (¬ 0 ≤ lo) ∨ (0 ≤ lo ∧ ¬ lo < up) ∨ (0 ≤ lo ∧ lo < up ∧ ¬ up ≤ 65536) ∨ (0 ≤ lo ∧ lo < up ∧ up ≤ 65536) := by omega
  rcases hcs with h1 | ⟨h1, h2⟩ | ⟨h1, h2, h3⟩ | ⟨h1, h2, h3⟩
  · have HV : Hid (B = false) := HB.out.symm.trans (decide_eq_false (by omega))
    clear HB
    go_enter Tryd.func71, Tryd.ntmps71
    go_wp2
    go_ret
    exact ⟨congrArg (fun b => Ending.returned (Value.bool b)) HV.out.symm, rfl⟩
  · have HV : Hid (B = false) := HB.out.symm.trans (decide_eq_false (by omega))
    clear HB
    go_enter Tryd.func71, Tryd.ntmps71
    go_wp2
    go_ret
    exact ⟨congrArg (fun b => Ending.returned (Value.bool b)) HV.out.symm, rfl⟩
  · have HV : Hid (B = false) := HB.out.symm.trans (decide_eq_false (by omega))
    clear HB
    go_enter Tryd.func71, Tryd.ntmps71
    go_wp2
    go_ret
    exact ⟨congrArg (fun b => Ending.returned (Value.bool b)) HV.out.symm, rfl⟩
  · have HV : Hid (B = true) := HB.out.symm.trans (decide_eq_true (by omega))
    clear HB
    go_enter Tryd.func71, Tryd.ntmps71
    go_wp2
    go_ret
    exact ⟨congrArg (fun b => Ending.returned (Value.bool b)) HV.out.symm, rfl⟩
set_option maxHeartbeats 4000000 in
theorem rqSession_any (o n : Int) (w : World) : Calls Tryd.prog 69 #[.agg #[.int .i64 o, .int .i64 n]] w fun e w' => e = .returned (.bool (decide ((1 ≤ o ∧ o ≤ 4611686018427387903) ∧ (1 ≤ n ∧ n ≤ 4611686018427387902)))) ∧ Below w.heap.size w w' := by
  have HB0 : Hid (Below w.heap.size w (w.alloc (.cells #[.int .i64 o, .int .i64 n] 23))) := (Below.refl _ _).alloc (Nat.le_refl _) _
  obtain ⟨B, hB⟩ : ∃ b, decide ((1 ≤ o ∧ o ≤ 4611686018427387903) ∧ (1 ≤ n ∧ n ≤ 4611686018427387902)) = b := ⟨_, rfl⟩
  have HB : Hid (decide ((1 ≤ o ∧ o ≤ 4611686018427387903) ∧ (1 ≤ n ∧ n ≤ 4611686018427387902)) = B) := hB
  rw [hB]
  clear hB
  have hcs : (¬ 1 ≤ o) ∨ (1 ≤ o ∧ ¬ o ≤ 4611686018427387903) ∨ (1 ≤ o ∧ o ≤ 4611686018427387903 ∧ ¬ 1 ≤ n) ∨ (1 ≤ o ∧ o ≤ 4611686018427387903 ∧ 1 ≤ n ∧ ¬ n ≤ 4611686018427387902) ∨ (1 ≤ o ∧ o ≤ 4611686018427387903 ∧ 1 ≤ n ∧ n ≤ 4611686018427387902) := by omega
  rcases hcs with h1 | ⟨h1, h2⟩ | ⟨h1, h2, h3⟩ | ⟨h1, h2, h3, h4⟩ | ⟨h1, h2, h3, h4⟩
  · have HV : Hid (B = false) := HB.out.symm.trans (decide_eq_false (by omega))
    clear HB
    go_enter Tryd.func69, Tryd.ntmps69
    go_wp2
    go_ret
    exact ⟨congrArg (fun b => Ending.returned (Value.bool b)) HV.out.symm, HB0.out⟩
  · have HV : Hid (B = false) := HB.out.symm.trans (decide_eq_false (by omega))
    clear HB
    go_enter Tryd.func69, Tryd.ntmps69
    go_wp2
    go_ret
    exact ⟨congrArg (fun b => Ending.returned (Value.bool b)) HV.out.symm, HB0.out⟩
  · have HV : Hid (B = false) := HB.out.symm.trans (decide_eq_false (by omega))
    clear HB
    go_enter Tryd.func69, Tryd.ntmps69
    go_wp2
    go_ret
    exact ⟨congrArg (fun b => Ending.returned (Value.bool b)) HV.out.symm, HB0.out⟩
  · have HV : Hid (B = false) := HB.out.symm.trans (decide_eq_false (by omega))
    clear HB
    go_enter Tryd.func69, Tryd.ntmps69
    go_wp2
    go_ret
    exact ⟨congrArg (fun b => Ending.returned (Value.bool b)) HV.out.symm, HB0.out⟩
  · have HV : Hid (B = true) := HB.out.symm.trans (decide_eq_true (by omega))
    clear HB
    go_enter Tryd.func69, Tryd.ntmps69
    go_wp2
    go_ret
    exact ⟨congrArg (fun b => Ending.returned (Value.bool b)) HV.out.symm, HB0.out⟩
theorem rqNumber_ok (n : Int) (w : World) (h0 : 0 ≤ n) (h1 : n ≤ 4611686018427387903) : Calls Tryd.prog 126 #[.int .i64 n] w fun e w' => e = .returned (.bool true) ∧ w = w' := by
  go_enter Tryd.func126, Tryd.ntmps126
  go_wp2
  go_ret
  exact ⟨rfl, rfl⟩
theorem rqKnown_8 (w : World) : Calls Tryd.prog 98 #[.int .i64 8] w fun e w' => e = .returned (.bool true) ∧ w = w' := by
  go_enter Tryd.func98, Tryd.ntmps98
  go_wp2
  go_ret
  exact ⟨rfl, rfl⟩
theorem rqData_8 (w : World) : Calls Tryd.prog 124 #[.int .i64 8] w fun e w' => e = .returned (.bool false) ∧ w = w' := by
  go_enter Tryd.func124, Tryd.ntmps124
  go_wp2
  go_ret
  exact ⟨rfl, rfl⟩
theorem rqCheck_8 (w : World) : Calls Tryd.prog 125 #[.int .i64 8] w fun e w' => e = .returned (.bool false) ∧ w = w' := by
  go_enter Tryd.func125, Tryd.ntmps125
  go_wp2
  go_ret
  exact ⟨rfl, rfl⟩
theorem rqExts_nil (w : World) : Calls Tryd.prog 123 #[.slice none 0 0] w fun e w' => e = .returned (.bool true) ∧ w = w' := by
  go_enter Tryd.func123, Tryd.ntmps123
  go_wp2
  go_loopw [3] (fun i wr => i = .int .i64 0 ∧ wr = w) (fun _ _ => 0)
  case atStart => exact ⟨rfl, rfl⟩
  case round =>
    obtain ⟨rfl, rfl⟩ := hrel
    go_wp2
    go_ret
    exact ⟨rfl, rfl⟩
theorem rqLay_nil (v : Value) (a : Option Addr) (m c : Nat) (hv : v = .slice a m c) (w : World) : Calls Tryd.prog 128 #[v, .slice none 0 0] w fun e w' => e = .returned v ∧ w = w' := by
  subst hv
  go_enter Tryd.func128, Tryd.ntmps128
  go_wp2
  go_loopw [0, 5] (fun b i wr => b = .slice a m c ∧ i = .int .i64 0 ∧ wr = w) (fun _ _ _ => 0)
  case atStart => exact ⟨rfl, rfl, rfl⟩
  case round =>
    obtain ⟨rfl, rfl, rfl⟩ := hrel
    go_wp2
    go_ret
    exact ⟨rfl, rfl⟩

theorem grown_two {w w1 w2 : World} {row : Option Nat} (h : Below w.heap.size w w1) (hg : w1.grownBy w2 row) : w.grownBy w2 row := ⟨hg.os.trans h.os, hg.tape.trans h.tape, hg.output.trans h.output, Nat.le_trans h.size hg.size, fun k hk hn => (hg.block k (Nat.lt_of_lt_of_le hk h.size) hn).trans (h.block k hk)⟩
set_option maxHeartbeats 4000000 in
/-- A number behind bytes. -/
theorem rqNum_any (v : Value) (m : Nat) (xs : List Value) (base : Nat) (n : Int) (w : World) (h0 : 0 ≤ n) (h1 : n ≤ 4611686018427387903) (hown : w.ownsRow base 5 1 v m xs) (hbase : base ≤ w.heap.size) (hm : m ≤ 10000000) :
    Calls Tryd.prog 127 #[v, .int .i64 n] w (XPost v base m xs (enc n) w) := by
  obtain ⟨i0, hi, hz0, hz1, hz2⟩ := info_parts Tryd.info_u8
  obtain ⟨a, c, rfl⟩ := own_sl5 hown
  have hB := R.refbytes_any n w h0 (by omega)
  have HO : Hid (w.ownsRow base 5 1 (.slice a m c) m xs) := hown
  have hwu : IntKind.u64.wrap n = n := by unfold IntKind.wrap; simp [IntKind.signed, IntKind.bits]; omega
  have hsz := sz62r h0 h1
  have hel : (enc n).length = sz n := enc_length n h0 (by omega)
  have HEL : Hid ((enc n).length = sz n) := hel
  clear hown hel
  go_enter Tryd.func127, Tryd.ntmps127
  go_wp2_with fail
  refine hB.mono ?_
  rintro e w1 ⟨g, cap, rfl, hown1, hb1⟩
  have HO1 : Hid (w1.ownsRow base 5 1 (.slice a m c) m xs) := C.own_blk2 HO.out (fun g hg => hb1.block g (World.ownsRow.lt HO.out g hg).2)
  have HL1 : Hid (∀ j u, ((enc n).map (Value.int .u8))[j]? = some u → w1.cell? ((⟨g, 0, none⟩ : Addr).add j) = some u) := fun j u hj => by
    have hjl := (List.getElem?_eq_some_iff.mp hj).1
    rw [List.length_map, HEL.out] at hjl
    rw [add_n5, Nat.zero_add, hown1.cellAt _ (by omega)]
    exact hj
  have HB1 : Hid (Below w.heap.size w w1) := hb1
  have hzb := hb1.size
  clear hB hown1 hb1 HO
  go_wp2_with (at_builtin; refine wpList_append_own_at _ rfl _ _ 34 rfl base 5 i0 (.int .u8 0) 1 1 Tryd.underlying34 hi hz0 hz1 hz2 rfl (by decide) _ _ _ rfl HO1.out ⟨g, 0, none⟩ (sz n) cap ((enc n).map (Value.int .u8)) rfl (by rw [List.length_map, HEL.out]; omega) HL1.out ?c2 (by unfold maxLen; omega) (by omega) (by omega) ?_)
  case c2 => intro u hu; obtain ⟨z, _, rfl⟩ := List.mem_map.mp hu; rfl
  intro v6 w6 o6 g6 _ t6
  have HF : Hid (XPost (.slice a m c) base m xs (enc n) w (.returned v6) w6) := ⟨v6, rfl, by rw [HEL.out]; exact o6, ⟨grown_two HB1.out g6, fun j hj => by
    rcases t6 with q | q
    · left; exact q.symm.trans hj
    · right; rw [q] at hj; cases hj; exact hzb⟩⟩
  obtain ⟨a6, c6, rfl⟩ := own_sl5 o6
  clear o6 g6 t6
  go_wp2
  go_ret
  exact HF.out

end Go.Proofs.YthbkabehjeidjaeDoor

namespace Go.Proofs.YthbkabehjeidjaeDoor
open Go.RowKit
set_option linter.unusedVariables false
set_option linter.unusedSimpArgs false

theorem clOk_at : ∀ {l : List (Int × Int)} {up lo : Int}, clOk up lo l = true → ∀ (i : Nat) (p : Int × Int), l[i]? = some p → lo ≤ p.1 ∧ p.1 < p.2 ∧ p.2 ≤ up ∧ ∀ (q : Int × Int), l[i - 1]? = some q → 0 < i → q.2 < p.1
  | [], up, lo, h, i, p, hp => by simp at hp
  | x :: r, up, lo, h, 0, p, hp => by
    simp only [clOk, Bool.and_eq_true, decide_eq_true_eq] at h
    simp at hp
    subst hp
    exact ⟨h.1, h.2.1, h.2.2.1, fun q _ h0 => by omega⟩
  | x :: r, up, lo, h, i + 1, p, hp => by
    simp only [clOk, Bool.and_eq_true, decide_eq_true_eq] at h
    obtain ⟨h1, h2, h3, h4⟩ := clOk_at h.2.2.2 i p (by simpa using hp)
    refine ⟨by omega, h2, h3, fun q hq _ => ?_⟩
    cases i with
    | zero => simp at hq; subst hq; omega
    | succ j => exact h4 q (by simpa using hq) (by omega)

set_option maxHeartbeats 4000000 in
theorem rqClaims_ok (a : Option Addr) (n c : Nat) (l : List (Int × Int)) (lo up : Int) (w : World) (h : CIn w (.slice a n c) l) (hn : l.length = n) (h1 : 1 ≤ n) (h2 : n ≤ 1000) (hc : clOk up lo l = true) :
    Calls Tryd.prog 122 #[.slice a n c, .int .i64 lo, .int .i64 up] w fun e w' => e = .returned (.bool true) ∧ Below w.heap.size w w' := by
  have HC : Hid (CIn w (.slice a n c) l) := h
  have HN : Hid (l.length = n) := hn
  have HK : Hid (clOk up lo l = true) := hc
  have hn1 : ¬ (n : Int) < 1 := by omega
  have hn2 : ¬ (1000 : Int) < (n : Int) := by omega
  clear h hn hc
  go_enter Tryd.func122, Tryd.ntmps122
  go_wp2_with fail
  go_loopw [7] (fun i wr => ∃ k : Nat, k ≤ n ∧ i = .int .i64 k ∧ Below w.heap.size w wr) (fun i _ => n - (intOf i).toNat)
  case atStart => exact ⟨0, Nat.zero_le _, rfl, Below.refl _ _⟩
  case round =>
    obtain ⟨k, hk, rfl, hbw⟩ := hrel
    have HBW : Hid (Below w.heap.size w wr) := hbw
    by_cases hlt : k < n
    · obtain ⟨p, hp⟩ := get_one l k (by rw [HN.out]; exact hlt)
      obtain ⟨g, off, rfl, q1, q2⟩ := (HC.out.below hbw).at hp
      obtain ⟨p1, p2, p3, p4⟩ := clOk_at HK.out k p hp
      have hlt' : (k : Int) < (n : Int) := by omega
      by_cases hk0 : k = 0
      · subst hk0
        have d1 : decide (p.1 < lo) = false := by simp; omega
        have d2 : decide (p.2 ≤ p.1) = false := by simp; omega
        have d3 : decide (up < p.2) = false := by simp; omega
        clear p4 hp hbw
        simp only [Nat.zero_mul, Nat.add_zero] at q1 q2
        go_wp2_with fail
        go_quiet (fail)
        go_wp2
        go_roundw
        case rel => exact ⟨1, by omega, by go_num, below_drewN' HBW.out _⟩
        case measure => simp [intOf]; omega
      · obtain ⟨q, hq⟩ := get_one l (k - 1) (by rw [HN.out]; omega)
        obtain ⟨g', off', he, q3, q4⟩ := (HC.out.below hbw).at hq
        cases he
        have p5 := p4 q hq (by omega)
        have d1 : decide (p.1 < lo) = false := by simp; omega
        have d2 : decide (p.2 ≤ p.1) = false := by simp; omega
        have d3 : decide (up < p.2) = false := by simp; omega
        have d4 : decide (p.1 ≤ q.2) = false := by simp; omega
        obtain ⟨j, rfl⟩ : ∃ j, k = j + 1 := ⟨k - 1, by omega⟩
        rw [Nat.add_sub_cancel] at q3 q4
        have hwj : IntKind.i64.wrap ((j : Int) + 1 - 1) = (j : Int) := by rw [IntKind.wrap_i64]; omega
        have hj1 : (j : Int) < (n : Int) := by omega
        have hj0 : (0 : Int) < (j : Int) + 1 := by omega
        clear p4 hp hq hbw hk0
        go_wp2_with fail
        go_quiet (fail)
        go_wp2
        go_roundw
        case rel => exact ⟨j + 1 + 1, by omega, by go_num, below_drewN' HBW.out _⟩
        case measure => simp [intOf]; omega
    · have hlt' : ¬ (k : Int) < (n : Int) := by omega
      clear hbw
      go_wp2
      go_ret
      exact ⟨rfl, HBW.out⟩
end Go.Proofs.YthbkabehjeidjaeDoor

namespace Go.Proofs.YthbkabehjeidjaeDoor
open Go.RowKit
set_option linter.unusedVariables false
set_option linter.unusedSimpArgs false

/-- The cells of a report's segment. -/
abbrev rsC (k : Qu) (r : Rr) (a : Option Addr) (n c : Nat) : Array Value := #[.int .i64 8, .int .i64 k.org, .int .i64 k.num, .slice none 0 0, .slice none 0 0, .int .i64 0, .int .i64 0, .slice none 0 0, .int .i64 r.chk, .int .i64 r.ser, .int .i64 r.upp, .int .i64 r.low, .slice a n c, .int .i64 0]
theorem rs_cells {W : World} {g n c : Nat} {k : Qu} {r : Rr} {a : Option Addr} (h : W.heap[g]? = some (.cells (rsC k r a n c) 81 (0, 0))) :
    W.cell? ⟨g, 0, none⟩ = some (.int .i64 8) ∧ W.cell? ⟨g, 1, none⟩ = some (.int .i64 k.org) ∧ W.cell? ⟨g, 2, none⟩ = some (.int .i64 k.num) ∧ W.cell? ⟨g, 3, none⟩ = some (.slice none 0 0) ∧ W.cell? ⟨g, 4, none⟩ = some (.slice none 0 0) ∧ W.cell? ⟨g, 5, none⟩ = some (.int .i64 0) ∧ W.cell? ⟨g, 6, none⟩ = some (.int .i64 0) ∧ W.cell? ⟨g, 7, none⟩ = some (.slice none 0 0) ∧ W.cell? ⟨g, 8, none⟩ = some (.int .i64 r.chk) ∧ W.cell? ⟨g, 9, none⟩ = some (.int .i64 r.ser) ∧ W.cell? ⟨g, 10, none⟩ = some (.int .i64 r.upp) ∧ W.cell? ⟨g, 11, none⟩ = some (.int .i64 r.low) ∧ W.cell? ⟨g, 12, none⟩ = some (.slice a n c) ∧ W.cell? ⟨g, 13, none⟩ = some (.int .i64 0) :=
  ⟨(cell_of_row _ _ _ _ _ _ h).trans rfl, (cell_of_row _ _ _ _ _ _ h).trans rfl, (cell_of_row _ _ _ _ _ _ h).trans rfl, (cell_of_row _ _ _ _ _ _ h).trans rfl, (cell_of_row _ _ _ _ _ _ h).trans rfl, (cell_of_row _ _ _ _ _ _ h).trans rfl, (cell_of_row _ _ _ _ _ _ h).trans rfl, (cell_of_row _ _ _ _ _ _ h).trans rfl, (cell_of_row _ _ _ _ _ _ h).trans rfl, (cell_of_row _ _ _ _ _ _ h).trans rfl, (cell_of_row _ _ _ _ _ _ h).trans rfl, (cell_of_row _ _ _ _ _ _ h).trans rfl, (cell_of_row _ _ _ _ _ _ h).trans rfl, (cell_of_row _ _ _ _ _ _ h).trans rfl⟩

set_option maxRecDepth 100000 in
set_option maxHeartbeats 8000000 in
theorem rqFields_ok (k : Qu) (ok : k.Ok) (r : Rr) (hr : r.Ok) (a : Option Addr) (n c : Nat) (hn : r.clm.length = n) (w : World) (hC : CIn w (.slice a n c) r.clm) :
    Calls Tryd.prog 99 #[.agg (rsC k r a n c)] w fun e w' => e = .returned (.bool true) ∧ Below w.heap.size w w' := by
  obtain ⟨W, hW⟩ : ∃ W, w.alloc (.cells (rsC k r a n c) 81) = W := ⟨_, rfl⟩
  have HWe : Hid (w.alloc (.cells (rsC k r a n c) 81) = W) := hW
  have hbW : Below w.heap.size w W := by rw [← hW]; exact (Below.refl _ _).alloc (Nat.le_refl _) _
  have HBW : Hid (Below w.heap.size w W) := hbW
  have HR : Hid (∀ V, Below W.heap.size W V → V.heap[w.heap.size]? = some (.cells (rsC k r a n c) 81 (0, 0))) := fun V hV => by
    have h1 : W.heap[w.heap.size]? = some (.cells (rsC k r a n c) 81 (0, 0)) := by rw [← hW]; exact al_new _ _
    exact (hV.block _ (Array.getElem?_eq_some_iff.1 h1).1).trans h1
  have hSe := rqSession_any k.org k.num W
  rw [decide_eq_true ⟨ok.org, ok.num⟩] at hSe
  have hE := fun V => rqExts_nil V
  have hD := fun V => rqData_8 V
  have hK := fun V => rqCheck_8 V
  have hN1 := fun V => rqNumber_ok r.chk V hr.chk.1 hr.chk.2
  have hN2 := fun V => rqNumber_ok r.ser V (by have := hr.ser.1; omega) hr.ser.2
  have hSc := fun V => rqScope_any r.low r.upp V
  rw [decide_eq_true (⟨hr.low, hr.mid, hr.upp⟩ : 0 ≤ r.low ∧ r.low < r.upp ∧ r.upp ≤ 65536)] at hSc
  have HCl : Hid (∀ V, Below w.heap.size w V → Calls Tryd.prog 122 #[.slice a n c, .int .i64 r.low, .int .i64 r.upp] V fun e w' => e = .returned (.bool true) ∧ Below V.heap.size V w') := fun V hV => rqClaims_ok a n c r.clm r.low r.upp V (hC.below hV) hn (by rw [← hn]; exact hr.some) (by rw [← hn]; exact hr.few) hr.cls
  have hs1 : ¬ r.ser < 1 := by have := hr.ser.1; omega
  obtain ⟨y0, y1, y2, y3, y4, y5, y6, y7, y8, y9, y10, y11, y12, y13⟩ := rs_cells (HR.out W (Below.refl _ _))
  clear hW hbW hC hn
  go_enter Tryd.func99, Tryd.ntmps99
  go_wp2_with fail
  rw [HWe.out]
  refine hSe.mono ?_
  rintro e w1 ⟨rfl, hb1⟩
  clear y0 y1 y2 y3 y4 y5 y6 y7 y8 y9 y10 y11 y12 y13 hSe
  obtain ⟨y0, y1, y2, y3, y4, y5, y6, y7, y8, y9, y10, y11, y12, y13⟩ := rs_cells (HR.out w1 hb1)
  have HB1 : Hid (Below W.heap.size W w1) := hb1
  clear hb1
  go_wp2_with fail
  refine (hE _).mono ?_
  rintro e w1' ⟨rfl, hw1⟩
  subst hw1
  go_wp2_with fail
  refine (hE _).mono ?_
  rintro e w1' ⟨rfl, hw1⟩
  subst hw1
  go_wp2_with fail
  refine (hD _).mono ?_
  rintro e w1' ⟨rfl, hw1⟩
  subst hw1
  go_wp2_with fail
  refine (hK _).mono ?_
  rintro e w1' ⟨rfl, hw1⟩
  subst hw1
  go_wp2_with fail
  refine (hN1 _).mono ?_
  rintro e w1' ⟨rfl, hw1⟩
  subst hw1
  go_wp2_with fail
  refine (hN2 _).mono ?_
  rintro e w1' ⟨rfl, hw1⟩
  subst hw1
  go_wp2_with fail
  refine (hSc _).mono ?_
  rintro e w1' ⟨rfl, hw1⟩
  subst hw1
  have hCl := HCl.out w1 (HBW.out.trans (HB1.out.mono HBW.out.size))
  go_wp2_with fail
  refine hCl.mono ?_
  rintro e w2 ⟨rfl, hb2⟩
  have HB2 : Hid (Below W.heap.size W w2) := HB1.out.trans (hb2.mono HB1.out.size)
  clear y0 y1 y2 y3 y4 y5 y6 y7 y8 y9 y10 y11 y12 y13 hCl HCl
  obtain ⟨y0, y1, y2, y3, y4, y5, y6, y7, y8, y9, y10, y11, y12, y13⟩ := rs_cells (HR.out w2 HB2.out)
  clear hb2
  go_wp2
  go_ret
  exact ⟨rfl, HBW.out.trans (HB2.out.mono HBW.out.size)⟩

end Go.Proofs.YthbkabehjeidjaeDoor

namespace Go.Proofs.YthbkabehjeidjaeDoor
open Go.RowKit
set_option linter.unusedVariables false
set_option linter.unusedSimpArgs false

/-- Bytes that grow: the row, and what came in stays. -/
structure Ly (w wr : World) (v : Value) (m : Nat) (bs : List Int) : Prop where
  len : bs.length = m
  own : wr.ownsRow w.heap.size 5 1 v m (bs.map (Value.int .u8))
  bel : Below w.heap.size w wr
theorem enc9 {n : Int} (h0 : 0 ≤ n) (h1 : n ≤ 4611686018427387903) : (enc n).length ≤ 9 := by rw [enc_length n h0 (by omega)]; exact (sz62r h0 h1).2
theorem Ly.num {w wr w' : World} {v : Value} {m : Nat} {bs : List Int} {n : Int} {e : Ending} (h : Ly w wr v m bs) (h0 : 0 ≤ n) (h1 : n ≤ 4611686018427387903) (hx : XPost v w.heap.size m (bs.map (Value.int .u8)) (enc n) wr e w') : ∃ a m' c, e = .returned (.slice a m' c) ∧ m' ≤ m + 9 ∧ Ly w w' (.slice a m' c) m' (bs ++ enc n) := by
  obtain ⟨v', rfl, ho, hg⟩ := hx
  have hk : ∀ g, g < w.heap.size → w'.heap[g]? = wr.heap[g]? := fun g hgl => hg.grown.block g (Nat.lt_of_lt_of_le hgl h.bel.size) (fun e => by have := (h.own.lt g e.symm).1; omega)
  obtain ⟨a, c, rfl⟩ := own_sl5 ho
  have := enc9 h0 h1
  exact ⟨a, _, c, rfl, by omega, by rw [List.length_append, h.len], by rw [List.map_append]; exact ho, ⟨hg.grown.os.trans h.bel.os, hg.grown.tape.trans h.bel.tape, hg.grown.output.trans h.bel.output, Nat.le_trans h.bel.size hg.grown.size, fun g hgl => (hk g hgl).trans (h.bel.block g hgl)⟩⟩
theorem Ly.same {w wr w' : World} {v : Value} {m : Nat} {bs : List Int} (h : Ly w wr v m bs) (hb : Below wr.heap.size wr w') : Ly w w' v m bs := ⟨h.len, C.own_blk2 h.own (fun g hg => hb.block g (h.own.lt g hg).2), h.bel.trans (hb.mono h.bel.size)⟩
theorem Ly.calls {w wr : World} {v : Value} {m : Nat} {bs : List Int} (h : Ly w wr v m bs) (n : Int) (h0 : 0 ≤ n) (h1 : n ≤ 4611686018427387903) (hm : m ≤ 10000000) : Calls Tryd.prog 127 #[v, .int .i64 n] wr fun e w' => ∃ a m' c, e = .returned (.slice a m' c) ∧ m' ≤ m + 9 ∧ Ly w w' (.slice a m' c) m' (bs ++ enc n) :=
  (rqNum_any v m _ _ n wr h0 h1 h.own h.bel.size hm).mono fun _ _ hx => h.num h0 h1 hx
theorem layB9 (k : Qu) (r : Rr) : layB 9 (sg5 k r) = [8] ++ enc k.org ++ enc k.num ++ [0] ++ enc r.ser ++ enc r.chk ++ enc r.upp ++ enc r.low ++ enc r.clm.length ++ clmB r.low r.clm := by
  simp [layB, sg5, rpS, conB, repB, encXs, jn]
theorem clmB_step (lo : Int) (l : List (Int × Int)) (j : Nat) (p : Int × Int) (h : l[j]? = some p) : clmB lo (l.take (j + 1)) = clmB lo (l.take j) ++ enc (p.1 - lo) ++ enc (p.2 - p.1) := by
  unfold clmB
  rw [List.take_add_one, h, List.flatMap_append]
  simp [jn]

theorem Ly.byte {w wr w' : World} {v v' : Value} {m : Nat} {bs : List Int} {b : Int} {o : Obj} (h : Ly w wr v m bs) (ho : w'.ownsRow w.heap.size 5 1 v' (m + 1) (bs.map (Value.int .u8) ++ [.int .u8 b])) (hg : (wr.alloc o).grownBy w' v.ownBlock) : ∃ a m' c, v' = .slice a m' c ∧ m' ≤ m + 1 ∧ Ly w w' (.slice a m' c) m' (bs ++ [b]) := by
  have hk : ∀ g, g < w.heap.size → w'.heap[g]? = wr.heap[g]? := fun g hgl => (hg.block g (by have := h.bel.size; simp; omega) (fun e => by have := (h.own.lt g e.symm).1; omega)).trans (((Below.refl wr.heap.size wr).alloc (Nat.le_refl _) o).block g (by have := h.bel.size; omega))
  obtain ⟨a, c, rfl⟩ := own_sl5 ho
  exact ⟨a, _, c, rfl, Nat.le_refl _, by rw [List.length_append, h.len]; rfl, by rw [List.map_append]; exact ho, ⟨hg.os.trans h.bel.os, hg.tape.trans h.bel.tape, hg.output.trans h.bel.output, Nat.le_trans h.bel.size (Nat.le_trans (by simp) hg.size), fun g hgl => (hk g hgl).trans (h.bel.block g hgl)⟩⟩
theorem one_lit (W : World) : ∀ j u, [Value.int .u8 0][j]? = some u → (W.alloc (.cells #[.int .u8 0] 5)).cell? ((⟨W.heap.size, 0, none⟩ : Addr).add j) = some u := by
  intro j u hj
  rw [add_n5, Nat.zero_add, cell_of_row _ W.heap.size j _ _ _ (al_new W _), ← hj, ← Array.getElem?_toList]

set_option maxRecDepth 100000 in
set_option maxHeartbeats 16000000 in
theorem rqLay_ok (k : Qu) (ok : k.Ok) (r : Rr) (hr : r.Ok) (a : Option Addr) (n c : Nat) (hn : r.clm.length = n) (w : World) (hC : CIn w (.slice a n c) r.clm) :
    Calls Tryd.prog 100 #[.agg (rsC k r a n c)] w (FormP (layB 9 (sg5 k r)) w) := by
  obtain ⟨i0, hi, hz0, hz1, hz2⟩ := info_parts Tryd.info_u8
  obtain ⟨W, hW⟩ : ∃ W, w.alloc (.cells (rsC k r a n c) 81) = W := ⟨_, rfl⟩
  have HWe : Hid (w.alloc (.cells (rsC k r a n c) 81) = W) := hW
  have hws : W.heap.size = w.heap.size + 1 := by rw [← hW, World.size_alloc]
  have HWs : Hid (W.heap.size = w.heap.size + 1) := hws
  have hbW : Below w.heap.size w W := by rw [← hW]; exact (Below.refl _ _).alloc (Nat.le_refl _) _
  have HBW : Hid (Below w.heap.size w W) := hbW
  have HR : Hid (∀ V, Below W.heap.size W V → V.heap[w.heap.size]? = some (.cells (rsC k r a n c) 81 (0, 0))) := fun V hV => by
    have h1 : W.heap[w.heap.size]? = some (.cells (rsC k r a n c) 81 (0, 0)) := by rw [← hW]; exact al_new _ _
    exact (hV.block _ (Array.getElem?_eq_some_iff.1 h1).1).trans h1
  have HC : Hid (∀ V, Below W.heap.size W V → CIn V (.slice a n c) r.clm) := fun V hV => (hC.below hbW).below hV
  have HN : Hid (r.clm.length = n) := hn
  have HCO : Hid (clOk r.upp r.low r.clm = true) := hr.cls
  have hD := fun V => rqData_8 V
  have hK := fun V => rqCheck_8 V
  obtain ⟨P, hP⟩ : ∃ P, FormP (layB 9 (sg5 k r)) w = P := ⟨_, rfl⟩
  have HP : Hid (FormP (layB 9 (sg5 k r)) w = P) := hP
  have HL0 : Hid (Ly W (W.alloc (.cells #[.int .u8 8] 5)) (.slice (some ⟨w.heap.size + 1, 0, none⟩) 1 1) 1 [8]) := by
    refine ⟨rfl, ⟨rfl, .inr ⟨w.heap.size + 1, 1, #[.int .u8 8], rfl, by omega, ?_, Nat.le_refl _, by unfold maxLen; omega, rfl, rfl⟩⟩, (Below.refl _ _).alloc (Nat.le_refl _) _⟩
    rw [← hws]
    exact al_new _ _
  rw [hP]
  obtain ⟨y0, y1, y2, y3, y4, y5, y6, y7, y8, y9, y10, y11, y12, y13⟩ := rs_cells (HR.out W (Below.refl _ _))
  have HBd : Hid ((1 ≤ k.org ∧ k.org ≤ 4611686018427387903) ∧ (1 ≤ k.num ∧ k.num ≤ 4611686018427387902) ∧ (1 ≤ r.ser ∧ r.ser ≤ 4611686018427387903) ∧ (0 ≤ r.chk ∧ r.chk ≤ 4611686018427387903) ∧ 0 ≤ r.low ∧ r.low < r.upp ∧ r.upp ≤ 65536 ∧ 1 ≤ n ∧ n ≤ 1000) := ⟨ok.org, ok.num, hr.ser, hr.chk, hr.low, hr.mid, hr.upp, by rw [← hn]; exact hr.some, by rw [← hn]; exact hr.few⟩
  clear hW hbW hC hr ok hn hP hws
  go_enter Tryd.func100, Tryd.ntmps100
  have hX := HL0.out.calls k.org (by have := HBd.out; omega) (by have := HBd.out; omega) (by omega)
  go_wp2_with fail
  rw [HWe.out]
  refine hX.mono ?_
  rintro e w1 ⟨a1, m1, c1, rfl, hm1, hl1⟩
  have HL1 : Hid (Ly W w1 (.slice a1 m1 c1) m1 ([8] ++ enc k.org)) := hl1
  clear y0 y1 y2 y3 y4 y5 y6 y7 y8 y9 y10 y11 y12 y13
  obtain ⟨y0, y1, y2, y3, y4, y5, y6, y7, y8, y9, y10, y11, y12, y13⟩ := rs_cells (HR.out w1 hl1.bel)
  clear hX hl1 HL0
  have hX := HL1.out.calls k.num (by have := HBd.out; omega) (by have := HBd.out; omega) (by omega)
  go_wp2_with fail
  refine hX.mono ?_
  rintro e w2 ⟨a2, m2, c2, rfl, hm2, hl2⟩
  have HL2 : Hid (Ly W w2 (.slice a2 m2 c2) m2 ([8] ++ enc k.org ++ enc k.num)) := hl2
  clear y0 y1 y2 y3 y4 y5 y6 y7 y8 y9 y10 y11 y12 y13
  obtain ⟨y0, y1, y2, y3, y4, y5, y6, y7, y8, y9, y10, y11, y12, y13⟩ := rs_cells (HR.out w2 hl2.bel)
  clear hX hl2 HL1
  have HR2 : Hid ((w2.alloc (.cells #[.int .u8 0] 5)).ownsRow W.heap.size 5 1 (.slice a2 m2 c2) m2 (([8] ++ enc k.org ++ enc k.num).map (Value.int .u8))) := C.own_blk2 HL2.out.own (fun g hg => ((Below.refl w2.heap.size w2).alloc (Nat.le_refl _) (.cells #[.int .u8 0] 5)).block g (HL2.out.own.lt g hg).2)
  have hwz : W.heap.size ≤ w2.heap.size := HL2.out.bel.size
  go_wp2_with (at_builtin; refine wpList_append_own_at _ rfl _ _ 34 rfl W.heap.size 5 i0 (.int .u8 0) 1 1 Tryd.underlying34 hi hz0 hz1 hz2 rfl (by decide) _ _ _ rfl HR2.out ⟨w2.heap.size, 0, none⟩ 1 1 [.int .u8 0] rfl rfl (one_lit w2) (by intro u hu; simp at hu; subst hu; rfl) (by unfold maxLen; omega) (by omega) (by simp; omega) ?_; intro v3 w3 o3 g3 _ t3; obtain ⟨a3, m3, c3, rfl, hm3, hl3⟩ := HL2.out.byte o3 g3; clear y0 y1 y2 y3 y4 y5 y6 y7 y8 y9 y10 y11 y12 y13; obtain ⟨y0, y1, y2, y3, y4, y5, y6, y7, y8, y9, y10, y11, y12, y13⟩ := rs_cells (HR.out w3 hl3.bel))
  have HL3 : Hid (Ly W w3 (.slice a3 m3 c3) m3 ([8] ++ enc k.org ++ enc k.num ++ [0])) := hl3
  clear o3 g3 t3 hl3 HL2 HR2
  have hE := rqLay_nil (.slice a3 m3 c3) a3 m3 c3 rfl w3
  refine hE.mono ?_
  rintro e w3' ⟨rfl, hw3⟩
  subst hw3
  clear hE
  go_wp2_with fail
  refine (hD _).mono ?_
  rintro e w3' ⟨rfl, hw3⟩
  subst hw3
  go_wp2_with fail
  refine (hK _).mono ?_
  rintro e w3' ⟨rfl, hw3⟩
  subst hw3
  have hX := HL3.out.calls r.ser (by have := HBd.out; omega) (by have := HBd.out; omega) (by omega)
  go_wp2_with fail
  refine hX.mono ?_
  rintro e w4 ⟨a4, m4, c4, rfl, hm4, hl4⟩
  have HL4 : Hid (Ly W w4 (.slice a4 m4 c4) m4 ([8] ++ enc k.org ++ enc k.num ++ [0] ++ enc r.ser)) := hl4
  clear y0 y1 y2 y3 y4 y5 y6 y7 y8 y9 y10 y11 y12 y13
  obtain ⟨y0, y1, y2, y3, y4, y5, y6, y7, y8, y9, y10, y11, y12, y13⟩ := rs_cells (HR.out w4 hl4.bel)
  clear hX hl4 HL3
  have hX := HL4.out.calls r.chk (by have := HBd.out; omega) (by have := HBd.out; omega) (by omega)
  go_wp2_with fail
  refine hX.mono ?_
  rintro e w5 ⟨a5, m5, c5, rfl, hm5, hl5⟩
  have HL5 : Hid (Ly W w5 (.slice a5 m5 c5) m5 ([8] ++ enc k.org ++ enc k.num ++ [0] ++ enc r.ser ++ enc r.chk)) := hl5
  clear y0 y1 y2 y3 y4 y5 y6 y7 y8 y9 y10 y11 y12 y13
  obtain ⟨y0, y1, y2, y3, y4, y5, y6, y7, y8, y9, y10, y11, y12, y13⟩ := rs_cells (HR.out w5 hl5.bel)
  clear hX hl5 HL4
  have hX := HL5.out.calls r.upp (by have := HBd.out; omega) (by have := HBd.out; omega) (by omega)
  go_wp2_with fail
  refine hX.mono ?_
  rintro e w6 ⟨a6, m6, c6, rfl, hm6, hl6⟩
  have HL6 : Hid (Ly W w6 (.slice a6 m6 c6) m6 ([8] ++ enc k.org ++ enc k.num ++ [0] ++ enc r.ser ++ enc r.chk ++ enc r.upp)) := hl6
  clear y0 y1 y2 y3 y4 y5 y6 y7 y8 y9 y10 y11 y12 y13
  obtain ⟨y0, y1, y2, y3, y4, y5, y6, y7, y8, y9, y10, y11, y12, y13⟩ := rs_cells (HR.out w6 hl6.bel)
  clear hX hl6 HL5
  have hX := HL6.out.calls r.low (by have := HBd.out; omega) (by have := HBd.out; omega) (by omega)
  go_wp2_with fail
  refine hX.mono ?_
  rintro e w7 ⟨a7, m7, c7, rfl, hm7, hl7⟩
  have HL7 : Hid (Ly W w7 (.slice a7 m7 c7) m7 ([8] ++ enc k.org ++ enc k.num ++ [0] ++ enc r.ser ++ enc r.chk ++ enc r.upp ++ enc r.low)) := hl7
  clear y0 y1 y2 y3 y4 y5 y6 y7 y8 y9 y10 y11 y12 y13
  obtain ⟨y0, y1, y2, y3, y4, y5, y6, y7, y8, y9, y10, y11, y12, y13⟩ := rs_cells (HR.out w7 hl7.bel)
  clear hX hl7 HL6
  have hX := HL7.out.calls n (by have := HBd.out; omega) (by have := HBd.out; omega) (by omega)
  go_wp2_with fail
  refine hX.mono ?_
  rintro e w8 ⟨a8, m8, c8, rfl, hm8, hl8⟩
  have HL8 : Hid (Ly W w8 (.slice a8 m8 c8) m8 ([8] ++ enc k.org ++ enc k.num ++ [0] ++ enc r.ser ++ enc r.chk ++ enc r.upp ++ enc r.low ++ enc n)) := hl8
  clear y0 y1 y2 y3 y4 y5 y6 y7 y8 y9 y10 y11 y12 y13
  obtain ⟨y0, y1, y2, y3, y4, y5, y6, y7, y8, y9, y10, y11, y12, y13⟩ := rs_cells (HR.out w8 hl8.bel)
  clear hX hl8 HL7
  have hm8' : m8 ≤ 100 := by omega
  obtain ⟨pre, hpre⟩ : ∃ x, [8] ++ enc k.org ++ enc k.num ++ [0] ++ enc r.ser ++ enc r.chk ++ enc r.upp ++ enc r.low ++ enc n = x := ⟨_, rfl⟩
  have HPre : Hid (pre ++ clmB r.low r.clm = layB 9 (sg5 k r)) := by show _ = _; rw [← hpre, layB9, HN.out]
  rw [hpre] at HL8
  clear hpre hm1 hm2 hm3 hm4 hm5 hm6 hm7 hm8
  go_wp2_with fail
  go_loopw [3, 6] (fun b i wr => ∃ (j : Nat) (a' : Option Addr) (m' c' : Nat), j ≤ n ∧ i = .int .i64 j ∧ b = .slice a' m' c' ∧ m' ≤ 100 + 18 * j ∧ Hid (Ly W wr (.slice a' m' c') m' (pre ++ clmB r.low (r.clm.take j)))) (fun _ i _ => n - (intOf i).toNat)
  case atStart => exact ⟨0, a8, m8, c8, Nat.zero_le _, rfl, rfl, by omega, (by simpa [clmB, Hid] using HL8.out)⟩
  case round =>
    obtain ⟨j, a', m', c', hj, rfl, rfl, hm', HL⟩ := hrel
    clear y0 y1 y2 y3 y4 y5 y6 y7 y8 y9 y10 y11 y12 y13
    obtain ⟨y0, y1, y2, y3, y4, y5, y6, y7, y8, y9, y10, y11, y12, y13⟩ := rs_cells (HR.out wr HL.out.bel)
    have hn1000 : n ≤ 1000 := HBd.out.2.2.2.2.2.2.2.2
    by_cases hlt : j < n
    · have hlt' : (j : Int) < (n : Int) := by omega
      obtain ⟨p, hp⟩ := get_one r.clm j (by rw [HN.out]; exact hlt)
      obtain ⟨g, off, rfl, x0, x1⟩ := (HC.out wr HL.out.bel).at hp
      have hb := clOk_mem HCO.out p (List.mem_of_getElem? hp)
      have HSt : Hid (clmB r.low (r.clm.take (j + 1)) = clmB r.low (r.clm.take j) ++ enc (p.1 - r.low) ++ enc (p.2 - p.1)) := clmB_step _ _ _ _ hp
      have HGx : Hid (∀ V, Below W.heap.size W V → V.cell? ⟨g, off + j * 2, none⟩ = some (.int .i64 p.1) ∧ V.cell? ⟨g, off + j * 2 + 1, none⟩ = some (.int .i64 p.2)) := fun V hV => by
        obtain ⟨g', off', he, q0, q1⟩ := (HC.out V hV).at hp
        cases he
        exact ⟨q0, q1⟩
      have hw1 : IntKind.i64.wrap (p.1 - r.low) = p.1 - r.low := by rw [IntKind.wrap_i64]; have := HBd.out; omega
      have hw2 : IntKind.i64.wrap (p.2 - p.1) = p.2 - p.1 := by rw [IntKind.wrap_i64]; have := HBd.out; omega
      have HX1 : Hid (∀ V, Below wr.heap.size wr V → Calls Tryd.prog 127 #[.slice a' m' c', .int .i64 (p.1 - r.low)] V fun e w' => ∃ a m c, e = .returned (.slice a m c) ∧ m ≤ m' + 9 ∧ Ly W w' (.slice a m c) m (pre ++ clmB r.low (r.clm.take j) ++ enc (p.1 - r.low))) := fun V hV => (HL.out.same hV).calls (p.1 - r.low) (by omega) (by have := HBd.out; omega) (by omega)
      have HP2 : Hid (0 ≤ p.2 - p.1 ∧ p.2 - p.1 ≤ 4611686018427387903) := ⟨by omega, by have := HBd.out; omega⟩
      clear hp hb
      go_wp2_with fail
      go_region_held3 (fun V => V.cell? ⟨w.heap.size, 12, none⟩ = some (.slice (some ⟨g, off, none⟩) n c) ∧ V.cell? ⟨w.heap.size, 11, none⟩ = some (.int .i64 r.low) ∧ V.cell? ⟨g, off + j * 2, none⟩ = some (.int .i64 p.1) ∧ V.cell? ⟨g, off + j * 2 + 1, none⟩ = some (.int .i64 p.2))
        (first | (exact ⟨d12, d11, t0, t1⟩) | (exact ⟨y12, y11, x0, x1⟩))
        (first
          | (go_at_call 127
             refine (HX1.out _ (Below.refl _ _).drew).mono ?_
             rintro e v1 ⟨ap, mp, cp, rfl, hmp, hlp⟩
             obtain ⟨d0, d1, d2, d3, d4, d5, d6, d7, d8, d9, d10, d11, d12, d13⟩ := rs_cells (HR.out v1 hlp.bel)
             obtain ⟨t0, t1⟩ := HGx.out v1 hlp.bel))
      all_goals (
        have HL9 : Hid (Ly W v1 (.slice ap mp cp) mp (pre ++ clmB r.low (r.clm.take j) ++ enc (p.1 - r.low))) := hlp
        clear y0 y1 y2 y3 y4 y5 y6 y7 y8 y9 y10 y11 y12 y13 x0 x1 hlp d0 d1 d2 d3 d4 d5 d6 d7 d8 d9 d10 d11 d12 d13 t0 t1 HX1
        obtain ⟨y0, y1, y2, y3, y4, y5, y6, y7, y8, y9, y10, y11, y12, y13⟩ := rs_cells (HR.out v1 HL9.out.bel)
        obtain ⟨x0, x1⟩ := HGx.out v1 HL9.out.bel
        have HX2 : Hid (∀ V, Below v1.heap.size v1 V → Calls Tryd.prog 127 #[.slice ap mp cp, .int .i64 (p.2 - p.1)] V fun e w' => ∃ a m c, e = .returned (.slice a m c) ∧ m ≤ mp + 9 ∧ Ly W w' (.slice a m c) m (pre ++ clmB r.low (r.clm.take j) ++ enc (p.1 - r.low) ++ enc (p.2 - p.1))) := fun V hV => (HL9.out.same hV).calls (p.2 - p.1) HP2.out.1 HP2.out.2 (by omega)
        go_wp2_with fail
        go_region_held3 (fun V => V.cell? ⟨w.heap.size, 12, none⟩ = some (.slice (some ⟨g, off, none⟩) n c) ∧ V.cell? ⟨g, off + j * 2, none⟩ = some (.int .i64 p.1) ∧ V.cell? ⟨g, off + j * 2 + 1, none⟩ = some (.int .i64 p.2))
          (first | (exact ⟨d12, t0, t1⟩) | (exact ⟨y12, x0, x1⟩))
          (first
            | (go_at_call 127
               refine (HX2.out _ (Below.refl _ _).drew).mono ?_
               rintro e v2 ⟨aq, mq, cq, rfl, hmq, hlq⟩
               obtain ⟨d0, d1, d2, d3, d4, d5, d6, d7, d8, d9, d10, d11, d12, d13⟩ := rs_cells (HR.out v2 hlq.bel)
               obtain ⟨t0, t1⟩ := HGx.out v2 hlq.bel)))
      all_goals (
        have HLq : Hid (Ly W v2 (.slice aq mq cq) mq (pre ++ clmB r.low (r.clm.take (j + 1)))) := by
          show Ly _ _ _ _ _
          rw [HSt.out, ← List.append_assoc, ← List.append_assoc]
          exact hlq
        clear y0 y1 y2 y3 y4 y5 y6 y7 y8 y9 y10 y11 y12 y13 x0 x1 hlq d0 d1 d2 d3 d4 d5 d6 d7 d8 d9 d10 d11 d12 d13 t0 t1 HX2
        go_wp2
        go_roundw
        case rel => exact ⟨j + 1, aq, mq, cq, by omega, by go_num, rfl, by omega, HLq⟩
        case measure => simp [intOf]; omega)
    · obtain rfl : j = n := by omega
      have hlt' : ¬ (j : Int) < (j : Int) := by omega
      have HFn : Hid (Ly W wr (.slice a' m' c') m' (layB 9 (sg5 k r))) := by
        have h := HL.out
        rw [List.take_of_length_le (by rw [HN.out]; exact Nat.le_refl _), HPre.out] at h
        exact h
      have hE := rqLay_nil (.slice a' m' c') a' m' c' rfl wr
      clear HL
      go_wp2_with fail
      refine hE.mono ?_
      rintro e w9 ⟨rfl, hw9⟩
      subst hw9
      clear hE
      go_wp2
      have HEnd : P (.returned (.slice a' m' c')) wr := by
        rw [← HP.out]
        have h := HFn.out
        have hlen := h.len
        refine ⟨_, rfl, ?_, HBW.out.trans (h.bel.mono HBW.out.size)⟩
        rw [hlen]
        exact own_low5 h.own (by rw [HWs.out]; omega)
      first | exact HEnd | (go_ret; exact HEnd)

set_option maxRecDepth 100000 in
set_option maxHeartbeats 4000000 in
/-- THE REFERENCE'S PRINT of a report's segment that may be. -/
theorem rqPrint_ok (k : Qu) (ok : k.Ok) (r : Rr) (hr : r.Ok) (a : Option Addr) (n c : Nat) (hn : r.clm.length = n) (w : World) (hC : CIn w (.slice a n c) r.clm) :
    Calls Tryd.prog 44 #[.agg (rsC k r a n c)] w fun e w' => ∃ b cb, e = .returned (.tuple #[.slice b (ln5 k r) cb, .int .i64 0]) ∧ Below w.heap.size w w' := by
  obtain ⟨W, hW⟩ : ∃ W, w.alloc (.cells (rsC k r a n c) 81) = W := ⟨_, rfl⟩
  have HWe : Hid (w.alloc (.cells (rsC k r a n c) 81) = W) := hW
  have hbW : Below w.heap.size w W := by rw [← hW]; exact (Below.refl _ _).alloc (Nat.le_refl _) _
  have HBW : Hid (Below w.heap.size w W) := hbW
  have HR : Hid (∀ V, Below W.heap.size W V → V.heap[w.heap.size]? = some (.cells (rsC k r a n c) 81 (0, 0))) := fun V hV => by
    have h1 : W.heap[w.heap.size]? = some (.cells (rsC k r a n c) 81 (0, 0)) := by rw [← hW]; exact al_new _ _
    exact (hV.block _ (Array.getElem?_eq_some_iff.1 h1).1).trans h1
  have hKn := rqKnown_8 W
  have hF := rqFields_ok k ok r hr a n c hn W (hC.below hbW)
  have HLa : Hid (∀ V, Below W.heap.size W V → Calls Tryd.prog 100 #[.agg (rsC k r a n c)] V (FormP (layB 9 (sg5 k r)) V)) := fun V hV => rqLay_ok k ok r hr a n c hn V ((hC.below hbW).below hV)
  obtain ⟨hll, hbig⟩ := lay5_len ok hr
  have hsh : shp (sg5 k r).typ = 9 := by show shp 8 = 9; decide
  rw [hsh] at hll
  have HLL : Hid ((layB 9 (sg5 k r)).length = ln5 k r) := hll
  obtain ⟨y0, y1, y2, y3, y4, y5, y6, y7, y8, y9, y10, y11, y12, y13⟩ := rs_cells (HR.out W (Below.refl _ _))
  generalize ln5 k r = N at *
  have hbig' : ¬ (8192 : Int) < (N : Int) := by omega
  clear hW hbW hC hr ok hn hll hsh hbig
  go_enter Tryd.func44, Tryd.ntmps44
  go_wp2_with fail
  rw [HWe.out]
  refine hKn.mono ?_
  rintro e w1 ⟨rfl, hw1⟩
  subst hw1
  clear hKn
  go_wp2_with fail
  refine hF.mono ?_
  rintro e w2 ⟨rfl, hb2⟩
  have HB2 : Hid (Below W.heap.size W w2) := hb2
  clear y0 y1 y2 y3 y4 y5 y6 y7 y8 y9 y10 y11 y12 y13
  obtain ⟨y0, y1, y2, y3, y4, y5, y6, y7, y8, y9, y10, y11, y12, y13⟩ := rs_cells (HR.out w2 hb2)
  have hLa := HLa.out w2 hb2
  clear hF hb2 HLa
  go_wp2_with fail
  refine hLa.mono ?_
  rintro e w3 ⟨v3, rfl, ho3, hb3⟩
  rw [HLL.out] at ho3
  obtain ⟨b, cb, rfl⟩ := own_sl5 ho3
  have HB3 : Hid (Below w.heap.size w w3) := by
    have h1 := HBW.out.trans (HB2.out.mono HBW.out.size)
    exact h1.trans (hb3.mono h1.size)
  clear hLa ho3 hb3
  go_wp2
  go_ret2
  exact ⟨b, cb, rfl, HB3.out⟩

end Go.Proofs.YthbkabehjeidjaeDoor
