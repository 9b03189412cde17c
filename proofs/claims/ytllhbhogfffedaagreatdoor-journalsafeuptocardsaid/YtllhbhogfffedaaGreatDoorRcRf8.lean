import Derived.Test.YtllhbhogfffedaaGreatDoorRcRf6
import Derived.Deep.RegionHeld3
import Derived.Deep.CutRange
import Derived.Deep.QuietTactic
import Derived.BigQuiet
import Derived.Test.YtllhbhogfffedaaGreatDoorRcFrm
import Derived.Deep.RegionWith
import Derived.Test.YtllhbhogfffedaaGreatDoorGivenRec
import Derived.Deep.Slices
namespace Go.Proofs.YtllhbhogfffedaaGreatDoor
open Go.RowKit
set_option linter.unusedVariables false

theorem letters {k : Int} (h : kf k ≠ 0) : (∀ i < 8, hasS (fsB k) (ltL.getD i 0) = hasB (kf k) i) ∧ hasS (fsB k) 83 = hasB (kf k) 8 ∧ hasS (fsB k) 68 = hasB (kf k) 9 ∧ fsB k ≠ [] ∧ (fsB k).length ≤ 10 := by
  rcases kf_cases h with rfl | rfl | rfl | rfl | rfl | rfl | rfl | rfl | rfl | rfl | rfl | rfl <;> decide
theorem no_letters {k : Int} (h : kf k = 0) : fsB k = [] := by
  by_cases hk : 0 ≤ k ∧ k < 13
  · have : k = 0 ∨ k = 1 ∨ k = 2 ∨ k = 3 ∨ k = 4 ∨ k = 5 ∨ k = 6 ∨ k = 7 ∨ k = 8 ∨ k = 9 ∨ k = 10 ∨ k = 11 ∨ k = 12 := by omega
    rcases this with rfl | rfl | rfl | rfl | rfl | rfl | rfl | rfl | rfl | rfl | rfl | rfl | rfl
    · rfl
    all_goals exact absurd h (by decide)
  · unfold fsB
    rw [if_neg (by omega), if_neg (by omega), if_neg (by omega), if_neg (by omega), if_neg (by omega), if_neg (by omega), if_neg (by omega), if_neg (by omega), if_neg (by omega), if_neg (by omega), if_neg (by omega), if_neg (by omega)]
theorem index_lt (i : Nat) (hi : i < 8) (w : World) : (Instr.index 9 (.string ⟨#[79, 78, 80, 86, 70, 82, 90, 72]⟩) (.int .i64 i)).run Tryz.prog w = .ok (.int .u8 (ltL.getD i 0).toNat) w := by
  have : i = 0 ∨ i = 1 ∨ i = 2 ∨ i = 3 ∨ i = 4 ∨ i = 5 ∨ i = 6 ∨ i = 7 := by omega
  have i0 : (Instr.index 9 (.string ⟨#[79, 78, 80, 86, 70, 82, 90, 72]⟩) (.int .i64 0)).run Tryz.prog w = .ok (.int .u8 79) w := by kernel_rfl
  have i1 : (Instr.index 9 (.string ⟨#[79, 78, 80, 86, 70, 82, 90, 72]⟩) (.int .i64 1)).run Tryz.prog w = .ok (.int .u8 78) w := by kernel_rfl
  have i2 : (Instr.index 9 (.string ⟨#[79, 78, 80, 86, 70, 82, 90, 72]⟩) (.int .i64 2)).run Tryz.prog w = .ok (.int .u8 80) w := by kernel_rfl
  have i3 : (Instr.index 9 (.string ⟨#[79, 78, 80, 86, 70, 82, 90, 72]⟩) (.int .i64 3)).run Tryz.prog w = .ok (.int .u8 86) w := by kernel_rfl
  have i4 : (Instr.index 9 (.string ⟨#[79, 78, 80, 86, 70, 82, 90, 72]⟩) (.int .i64 4)).run Tryz.prog w = .ok (.int .u8 70) w := by kernel_rfl
  have i5 : (Instr.index 9 (.string ⟨#[79, 78, 80, 86, 70, 82, 90, 72]⟩) (.int .i64 5)).run Tryz.prog w = .ok (.int .u8 82) w := by kernel_rfl
  have i6 : (Instr.index 9 (.string ⟨#[79, 78, 80, 86, 70, 82, 90, 72]⟩) (.int .i64 6)).run Tryz.prog w = .ok (.int .u8 90) w := by kernel_rfl
  have i7 : (Instr.index 9 (.string ⟨#[79, 78, 80, 86, 70, 82, 90, 72]⟩) (.int .i64 7)).run Tryz.prog w = .ok (.int .u8 72) w := by kernel_rfl
  rcases this with rfl | rfl | rfl | rfl | rfl | rfl | rfl | rfl
  · exact i0
  · exact i1
  · exact i2
  · exact i3
  · exact i4
  · exact i5
  · exact i6
  · exact i7

/-- What the reference asks of a number. -/
def okR (f : Int) (i : Nat) (n : Int) : Bool := decide (0 ≤ n) && (decide (n ≤ 4611686018427387903) && (hasB f i || n == 0))
def okRs (f : Int) (r : Rc) (k : Nat) : Bool := (List.range k).all fun i => okR f i (nmA r i)
theorem okRs_succ (f : Int) (r : Rc) (k : Nat) : okRs f r (k + 1) = (okRs f r k && okR f k (nmA r k)) := by
  unfold okRs; rw [List.range_succ, List.all_append]; simp

theorem okRs_no {f : Int} {r : Rc} : ∀ {k j : Nat}, k ≤ j → okRs f r k = false → okRs f r j = false
  | k, 0, h, h0 => by obtain rfl : k = 0 := by omega
                      exact h0
  | k, j + 1, h, h0 => by
    rcases Nat.lt_or_ge j k with q | q
    · obtain rfl : k = j + 1 := by omega
      exact h0
    · rw [okRs_succ, okRs_no q h0]; rfl
theorem okR_of {f : Int} {i : Nat} {n : Int} (h : okN f i n = true) : okR f i n = true := by
  have hb := okN_bd h
  unfold okR
  rw [decide_eq_true hb.1, decide_eq_true hb.2]
  unfold okN at h
  cases hq : hasB f i with
  | true => rfl
  | false => rw [hq] at h; simpa using h
theorem okR_bd {f : Int} {i : Nat} {n : Int} (h : okR f i n = true) : 0 ≤ n ∧ n ≤ 4611686018427387903 := by
  unfold okR at h
  simp only [Bool.and_eq_true, decide_eq_true_eq] at h
  exact ⟨h.1, h.2.1⟩
theorem okRs_at {f : Int} {r : Rc} {k i : Nat} (h : okRs f r k = true) (hi : i < k) : okR f i (nmA r i) = true := by
  unfold okRs at h
  rw [List.all_eq_true] at h
  exact h i (List.mem_range.mpr hi)
theorem okN_R {f : Int} {i : Nat} {n : Int} (h : okR f i n = true) (h2 : 2 ≤ i) : okN f i n = true := by
  have hb := okR_bd h
  unfold okR at h
  unfold okN
  cases hq : hasB f i with
  | true =>
    rw [if_pos rfl]
    unfold numB
    rw [if_neg (by omega), if_neg (by omega), decide_eq_true hb.1, decide_eq_true hb.2]
    rfl
  | false => rw [hq] at h; simp at h; simp [h.2.2]
/-- What the reference asks for, one by one, is that a record may be. -/
theorem may_eq {r : Rc} {ns nd : Nat} (hk : kf r.kind ≠ 0) (hok : okRs (kf r.kind) r 8 = true) (hns : r.spans.length = ns) (hnd : r.data.length = nd) :
    mayB6 r = ((if hasB (kf r.kind) 1 then decide (1 ≤ r.num) && decide (r.num < 4611686018427387903) else true) && ((if hasB (kf r.kind) 0 then decide (1 ≤ r.org) else true) && (((hasB (kf r.kind) 9 || nd == 0) && (hasB (kf r.kind) 8 || ns == 0)) && suitB r))) := by
  have h0 := okRs_at hok (show 0 < 8 by omega)
  have h1 := okRs_at hok (show 1 < 8 by omega)
  have e : okNs (kf r.kind) r 8 = (okN (kf r.kind) 0 r.org && okN (kf r.kind) 1 r.num) := by
    have h2 := okN_R (okRs_at hok (show 2 < 8 by omega)) (by omega)
    have h3 := okN_R (okRs_at hok (show 3 < 8 by omega)) (by omega)
    have h4 := okN_R (okRs_at hok (show 4 < 8 by omega)) (by omega)
    have h5 := okN_R (okRs_at hok (show 5 < 8 by omega)) (by omega)
    have h6 := okN_R (okRs_at hok (show 6 < 8 by omega)) (by omega)
    have h7 := okN_R (okRs_at hok (show 7 < 8 by omega)) (by omega)
    rw [okNs_succ, okNs_succ, okNs_succ, okNs_succ, okNs_succ, okNs_succ, okNs_succ, okNs_succ, h2, h3, h4, h5, h6, h7]
    simp only [Bool.and_true]
    rfl
  have e0 : okN (kf r.kind) 0 r.org = (if hasB (kf r.kind) 0 then decide (1 ≤ r.org) else true) := by
    have hb := okR_bd h0
    unfold okR at h0
    unfold okN
    rw [show nmA r 0 = r.org from rfl] at h0 hb
    cases hq : hasB (kf r.kind) 0 with
    | true =>
      rw [if_pos rfl, if_pos rfl]
      unfold numB
      rw [if_pos rfl, decide_eq_true hb.2, Bool.and_true]
    | false => rw [hq] at h0; simp at h0; simp [h0.2.2]
  have e1 : okN (kf r.kind) 1 r.num = (if hasB (kf r.kind) 1 then decide (1 ≤ r.num) && decide (r.num < 4611686018427387903) else true) := by
    have hb := okR_bd h1
    unfold okR at h1
    unfold okN
    rw [show nmA r 1 = r.num from rfl] at h1 hb
    cases hq : hasB (kf r.kind) 1 with
    | true =>
      rw [if_pos rfl, if_pos rfl]
      unfold numB
      rw [if_neg (by omega), if_pos rfl]
      congr 1
      exact decide_eq_decide.mpr (by omega)
    | false => rw [hq] at h1; simp at h1; simp [h1.2.2]
  unfold mayB6 allowB
  rw [e, e0, e1, hns, hnd]
  have hk' : (kf r.kind != 0) = true := by simpa using hk
  rw [hk']
  generalize hasB (kf r.kind) 0 = b0
  generalize hasB (kf r.kind) 1 = b1
  generalize hasB (kf r.kind) 8 = b8
  generalize hasB (kf r.kind) 9 = b9
  generalize decide (1 ≤ r.org) = x0
  generalize (decide (1 ≤ r.num) && decide (r.num < 4611686018427387903)) = x1
  generalize (nd == 0) = x2
  generalize (ns == 0) = x3
  generalize suitB r = x4
  cases b0 <;> cases b1 <;> cases b8 <;> cases b9 <;> cases x0 <;> cases x1 <;> cases x2 <;> cases x3 <;> cases x4 <;> rfl
theorem okRs_of {f : Int} {r : Rc} {k : Nat} (h : okNs f r k = true) : okRs f r k = true := by
  unfold okRs
  rw [List.all_eq_true]
  intro i hi
  exact okR_of (okNs_at h (List.mem_range.mp hi))

set_option maxRecDepth 100000 in
set_option maxHeartbeats 8000000 in
theorem right2_any (r : Rc) (sa da : Option Addr) (ns nd sc dc : Nat) (w : World) (hr : RIn w r sa da ns nd sc dc) :
    Calls Tryz.prog 85 #[.agg (rcC r (.slice sa ns sc) (.slice da nd dc))] w fun e w' => e = .returned (.int .i64 (prR r).2) ∧ Below w.heap.size w w' := by
  have HB : Hid (Below w.heap.size w (w.alloc (rcO r (.slice sa ns sc) (.slice da nd dc)))) := (Below.refl _ _).alloc (Nat.le_refl _) _
  have HX : Hid ((w.alloc (rcO r (.slice sa ns sc) (.slice da nd dc))).heap[w.heap.size]? = some (rcO r (.slice sa ns sc) (.slice da nd dc))) := heap_new6 w _
  by_cases hk : kf r.kind = 0
  · have hl := no_letters hk
    have HP : Hid ((prR r).2 = 60) := by unfold Hid prR mayB6; rw [hk]; rfl
    have HF : Hid (∀ W, Calls Tryz.prog 86 #[.int .i64 r.kind] W fun e w' => e = .returned (.string ⟨#[]⟩) ∧ W = w') := fun W => by
      have := fields2_any r.kind W
      rw [show fsV r.kind = .string ⟨#[]⟩ by show Value.string ⟨(fsB r.kind).toArray⟩ = _; rw [hl]] at this
      exact this
    rw [HP.out]
    clear HP hl hk hr
    go_enter Tryz.func85, Tryz.ntmps85
    go_wp2_with (go_at_call 86; refine (HF.out _).mono ?_; rintro e w1 ⟨rfl, rfl⟩)
    go_ret
    exact ⟨rfl, HB.out⟩
  · obtain ⟨hl8, hlS, hlD, hne, hl10⟩ := letters hk
    have HF : Hid (∀ W, Calls Tryz.prog 86 #[.int .i64 r.kind] W fun e w' => e = .returned (.string ⟨(fsB r.kind).toArray⟩) ∧ W = w') := fun W => fields2_any r.kind W
    have HHS : Hid (∀ (c : UInt8) W, Calls Tryz.prog 109 #[.string ⟨(fsB r.kind).toArray⟩, .int .u8 c.toNat] W fun e w' => e = .returned (.bool (hasS (fsB r.kind) c)) ∧ W = w') := fun c W => has2_any _ c hl10 W
    have hne' : (fsB r.kind == []) = false := beq_eq_false_iff_ne.mpr hne
    have HL8 : Hid (∀ i < 8, hasS (fsB r.kind) (ltL.getD i 0) = hasB (kf r.kind) i) := hl8
    have HLS : Hid (hasS (fsB r.kind) 83 = hasB (kf r.kind) 8) := hlS
    have HLD : Hid (hasS (fsB r.kind) 68 = hasB (kf r.kind) 9) := hlD
    have HRI : Hid (RIn w r sa da ns nd sc dc) := hr
    have HKF : Hid (kf r.kind ≠ 0) := hk
    have HPN : Hid (okRs (kf r.kind) r 8 = false → (prR r).2 = 60) := fun h => by
      have hm : mayB6 r = false := by
        cases hq : mayB6 r with
        | false => rfl
        | true =>
          have h2 := (may_parts hq).2.1
          rw [okRs_of h2] at h
          cases h
      unfold prR; rw [hm]; rfl
    clear hl8 hlS hlD hne hl10 hr hk
    generalize fsB r.kind = fs at *
    generalize hfk : kf r.kind = f at *
    have HFK : Hid (kf r.kind = f) := hfk
    clear hfk
    go_enter Tryz.func85, Tryz.ntmps85
    go_wp2_with (go_at_call 86; refine (HF.out _).mono ?_; rintro e w1 ⟨rfl, rfl⟩)
    clear HF
    go_loopw [4] (fun i wr => ∃ k : Nat, k ≤ 8 ∧ i = .int .i64 k ∧ okRs f r k = true ∧ Below w.heap.size w wr ∧ wr.heap[w.heap.size]? = some (rcO r (.slice sa ns sc) (.slice da nd dc))) (fun i _ => 8 - (intOf i).toNat)
    case atStart => exact ⟨0, by omega, rfl, rfl, HB.out, HX.out⟩
    case round =>
      obtain ⟨k, hk, rfl, hok, hb, hx⟩ := hrel
      have HOK : Hid (okRs f r k = true) := hok
      have HBr : Hid (Below w.heap.size w wr) := hb
      have HXr : Hid (wr.heap[w.heap.size]? = some (rcO r (.slice sa ns sc) (.slice da nd dc))) := hx
      obtain ⟨c0, c1, c2, c3, c4, c5, c6, c7, c8, c9, c10⟩ := rc_cells hx
      clear hok hb hx HB HX
      by_cases hlt : k < 8
      · have hlt' : (k : Int) < 8 := by omega
        have ik := index_lt k hlt
        have HG : Hid (∀ W, Calls Tryz.prog 88 #[.agg (rcC r (.slice sa ns sc) (.slice da nd dc)), .int .u8 (ltL.getD k 0).toNat] W fun e w' => e = .returned (.int .i64 (nmA r k)) ∧ w' = W.alloc (rcO r (.slice sa ns sc) (.slice da nd dc))) := fun W => get2_any r _ _ k hlt W
        have HH : Hid (∀ W, Calls Tryz.prog 109 #[.string ⟨fs.toArray⟩, .int .u8 (ltL.getD k 0).toNat] W fun e w' => e = .returned (.bool (hasB f k)) ∧ W = w') := fun W => (HL8.out k hlt) ▸ HHS.out _ W
        generalize ((ltL.getD k 0).toNat : Int) = ch at *
        have HOS : Hid (okRs f r (k + 1) = okR f k (nmA r k)) := by unfold Hid; rw [okRs_succ, HOK.out]; rfl
        have HOR : Hid (okR f k (nmA r k) = (decide (0 ≤ nmA r k) && (decide (nmA r k ≤ 4611686018427387903) && (hasB f k || nmA r k == 0)))) := rfl
        have HNO : Hid (okR f k (nmA r k) = false → (prR r).2 = 60) := fun h => by rw [HPN.out (okRs_no (k := k + 1) (j := 8) (by omega) (by rw [HOS.out]; exact h))]
        have HLT : Hid (w.heap.size < wr.heap.size) := (Array.getElem?_eq_some_iff.mp HXr.out).1
        generalize nmA r k = n at *
        generalize hasB f k = b at *
        go_upto_region 7 with fail
        go_region_with (go_at_call 88; refine (HG.out _).mono ?_; rintro e w2 ⟨rfl, rfl⟩)
        all_goals
          by_cases n0 : 0 ≤ n
          · by_cases n1 : n ≤ 4611686018427387903
            · have n1' : ¬ 4611686018427387903 < n := by omega
              cases b with
              | true =>
                go_wp2_with (go_at_call 109; refine (HH.out _).mono ?_; rintro e w' ⟨rfl, rfl⟩)
                go_roundw
                case rel => exact ⟨k + 1, by omega, by go_num, by rw [HOS.out, HOR.out, decide_eq_true n0, decide_eq_true n1]; rfl, (HBr.out.alloc HBr.out.size _).drew, (Below.heap_alloc wr _ _ HLT.out).trans HXr.out⟩
                case measure => simp [intOf]; omega
              | false =>
                by_cases nz : n = 0
                · have nz' : (n != 0) = false := by simpa using nz
                  have HOT : Hid (okRs f r (k + 1) = true) := by unfold Hid; rw [HOS.out, HOR.out, decide_eq_true n0, decide_eq_true n1, nz]; rfl
                  clear nz
                  go_wp2_with (go_at_call 109; refine (HH.out _).mono ?_; rintro e w' ⟨rfl, rfl⟩)
                  go_roundw
                  case rel => exact ⟨k + 1, by omega, by go_num, HOT.out, (HBr.out.alloc HBr.out.size _).drew, (Below.heap_alloc wr _ _ HLT.out).trans HXr.out⟩
                  case measure => simp [intOf]; omega
                · have hf : okR f k n = false := by rw [HOR.out, decide_eq_true n0, decide_eq_true n1, beq_false_of_ne nz]; rfl
                  have HPE := HNO.out hf
                  have nz' : (n != 0) = true := by simpa using nz
                  go_wp2_with (go_at_call 109; refine (HH.out _).mono ?_; rintro e w' ⟨rfl, rfl⟩)
                  go_ret
                  exact ⟨congrArg (fun x => Ending.returned (Value.int IntKind.i64 x)) HPE.symm, (HBr.out.alloc HBr.out.size _).drew⟩
            · have hf : okR f k n = false := by rw [HOR.out, decide_eq_false n1, Bool.false_and, Bool.and_false]
              have HPE := HNO.out hf
              go_wp2_with (go_at_call 109; refine (HH.out _).mono ?_; rintro e w' ⟨rfl, rfl⟩)
              go_ret
              exact ⟨congrArg (fun x => Ending.returned (Value.int IntKind.i64 x)) HPE.symm, (HBr.out.alloc HBr.out.size _).drew⟩
          · have hf : okR f k n = false := by rw [HOR.out, decide_eq_false n0, Bool.false_and]
            have HPE := HNO.out hf
            go_wp2_with (go_at_call 109; refine (HH.out _).mono ?_; rintro e w' ⟨rfl, rfl⟩)
            go_ret
            exact ⟨congrArg (fun x => Ending.returned (Value.int IntKind.i64 x)) HPE.symm, (HBr.out.alloc HBr.out.size _).drew⟩
      · obtain rfl : k = 8 := by omega
        have hRI := HRI.out.below HBr.out
        have hnum : ∀ i < 8, 0 ≤ nmA r i ∧ nmA r i ≤ 4611686018427387903 := fun i hi => okR_bd (okRs_at HOK.out hi)
        have HFT : Hid (Calls Tryz.prog 110 #[.agg (rcC r (.slice sa ns sc) (.slice da nd dc))] wr fun e w' => e = .returned (.bool (suitB r)) ∧ Below wr.heap.size wr w') := fit2_any r sa da ns nd sc dc wr hRI.spn hRI.dat hRI.big hRI.spa hnum
        have HAS : Hid (∀ W, Calls Tryz.prog 109 #[.string ⟨fs.toArray⟩, .int .u8 78] W fun e w' => e = .returned (.bool (hasB f 1)) ∧ W = w') := fun W => (HL8.out 1 (by omega)) ▸ HHS.out 78 W
        have HAO : Hid (∀ W, Calls Tryz.prog 109 #[.string ⟨fs.toArray⟩, .int .u8 79] W fun e w' => e = .returned (.bool (hasB f 0)) ∧ W = w') := fun W => (HL8.out 0 (by omega)) ▸ HHS.out 79 W
        have HAD : Hid (∀ W, Calls Tryz.prog 109 #[.string ⟨fs.toArray⟩, .int .u8 68] W fun e w' => e = .returned (.bool (hasB f 9)) ∧ W = w') := fun W => HLD.out ▸ HHS.out 68 W
        have HAP : Hid (∀ W, Calls Tryz.prog 109 #[.string ⟨fs.toArray⟩, .int .u8 83] W fun e w' => e = .returned (.bool (hasB f 8)) ∧ W = w') := fun W => HLS.out ▸ HHS.out 83 W
        have HMY : Hid (mayB6 r = ((if hasB f 1 then decide (1 ≤ r.num) && decide (r.num < 4611686018427387903) else true) && ((if hasB f 0 then decide (1 ≤ r.org) else true) && (((hasB f 9 || nd == 0) && (hasB f 8 || ns == 0)) && suitB r)))) := by
          unfold Hid
          rw [← HFK.out] at HOK ⊢
          exact may_eq (HFK.out ▸ HKF.out) HOK.out hRI.spn hRI.dat
        have HPR : Hid ((prR r).2 = if mayB6 r then 0 else 60) := by unfold Hid prR; split <;> rfl
        generalize mayB6 r = M at *
        generalize suitB r = S at *
        generalize hasB f 0 = b0 at *
        generalize hasB f 1 = b1 at *
        generalize hasB f 8 = b8 at *
        generalize hasB f 9 = b9 at *
        clear HL8 HHS HLS HLD HRI HKF HPN HOK HFK hRI hnum
        have HM2 : Hid (M = (!((b1 && (decide (r.num < 1) || decide (4611686018427387903 ≤ r.num))) || (b0 && decide (r.org < 1))) && (!((!b9 && decide (0 < nd)) || (!b8 && decide (0 < ns))) && S))) := by
          unfold Hid
          rw [HMY.out, show decide (1 ≤ r.num) = !decide (r.num < 1) from by rw [← decide_not]; exact decide_eq_decide.mpr (by omega), show decide (r.num < 4611686018427387903) = !decide (4611686018427387903 ≤ r.num) from by rw [← decide_not]; exact decide_eq_decide.mpr (by omega), show decide (1 ≤ r.org) = !decide (r.org < 1) from by rw [← decide_not]; exact decide_eq_decide.mpr (by omega), show (nd == 0) = !decide (0 < nd) from by cases nd <;> simp, show (ns == 0) = !decide (0 < ns) from by cases ns <;> simp]
          generalize decide (r.num < 1) = x1
          generalize decide (4611686018427387903 ≤ r.num) = x2
          generalize decide (r.org < 1) = x3
          generalize decide (0 < nd) = x4
          generalize decide (0 < ns) = x5
          cases b0 <;> cases b1 <;> cases b8 <;> cases b9 <;> cases x1 <;> cases x2 <;> cases x3 <;> cases x4 <;> cases x5 <;> cases S <;> rfl
        clear HMY
        obtain ⟨B15, hB15⟩ : ∃ B15, B15 = ((b1 && (decide (r.num < 1) || decide (4611686018427387903 ≤ r.num))) || (b0 && decide (r.org < 1))) := ⟨_, rfl⟩
        obtain ⟨B17, hB17⟩ : ∃ B17, B17 = ((!b9 && decide (0 < nd)) || (!b8 && decide (0 < ns))) := ⟨_, rfl⟩
        rw [← hB15, ← hB17] at HM2
        have H15 : Hid (B15 = ((b1 && (decide (r.num < 1) || decide (4611686018427387903 ≤ r.num))) || (b0 && decide (r.org < 1)))) := hB15
        have H17 : Hid (B17 = ((!b9 && decide (0 < nd)) || (!b8 && decide (0 < ns)))) := hB17
        clear hB15 hB17
        go_upto_region 15 with (first | (go_at_call_of 109 (Value.int .u8 78); refine (HAS.out _).mono ?_; rintro e w' ⟨rfl, rfl⟩) | (go_at_call_of 109 (Value.int .u8 79); refine (HAO.out _).mono ?_; rintro e w' ⟨rfl, rfl⟩) | (go_at_call_of 109 (Value.int .u8 68); refine (HAD.out _).mono ?_; rintro e w' ⟨rfl, rfl⟩) | (go_at_call_of 109 (Value.int .u8 83); refine (HAP.out _).mono ?_; rintro e w' ⟨rfl, rfl⟩))
        go_cut [72] from 51 to 72 (fun q wx => q = .bool B15 ∧ wx = wr)
        case first =>
          clear H17 HM2 HPR HFT
          cases b1 with
          | false =>
            cases b0 with
            | false =>
              go_wp2_with fail
              go_meet
              exact ⟨congrArg Value.bool (by rw [H15.out]; rfl), rfl⟩
            | true =>
              go_wp2_with fail
              go_meet
              exact ⟨congrArg Value.bool (by rw [H15.out]; rfl), rfl⟩
          | true =>
            by_cases a1 : r.num < 1
            · have d1 : decide (r.num < 1) = true := decide_eq_true a1
              go_wp2_with fail
              go_meet
              exact ⟨congrArg Value.bool (by rw [H15.out, d1]; rfl), rfl⟩
            · have d1 : decide (r.num < 1) = false := decide_eq_false a1
              by_cases a2 : 4611686018427387903 ≤ r.num
              · have d2 : decide (4611686018427387903 ≤ r.num) = true := decide_eq_true a2
                go_wp2_with fail
                go_meet
                exact ⟨congrArg Value.bool (by rw [H15.out, d1, d2]; rfl), rfl⟩
              · have d2 : decide (4611686018427387903 ≤ r.num) = false := decide_eq_false a2
                cases b0 with
                | false =>
                  go_wp2_with fail
                  go_meet
                  exact ⟨congrArg Value.bool (by rw [H15.out, d1, d2]; rfl), rfl⟩
                | true =>
                  go_wp2_with fail
                  go_meet
                  exact ⟨congrArg Value.bool (by rw [H15.out, d1, d2]; rfl), rfl⟩
        case rest =>
          obtain ⟨rfl, rfl⟩ := hcut
          cases B15 with
          | true =>
            have hP : (prR r).2 = 60 := by rw [HPR.out, HM2.out]; rfl
            clear HPR HM2 H15 H17
            go_wp2
            go_ret
            exact ⟨congrArg (fun x => Ending.returned (Value.int IntKind.i64 x)) hP.symm, HBr.out⟩
          | false =>
            clear H15
            go_upto_region 17 with fail
            go_cut [90] from 73 to 90 (fun q wx => q = .bool B17 ∧ wx = wc)
            case first =>
              clear HM2 HPR HFT
              cases b9 with
              | true =>
                cases b8 with
                | false =>
                  go_wp2_with fail
                  go_meet
                  exact ⟨congrArg Value.bool (by rw [H17.out]; rfl), rfl⟩
                | true =>
                  go_wp2_with fail
                  go_meet
                  exact ⟨congrArg Value.bool (by rw [H17.out]; rfl), rfl⟩
              | false =>
                by_cases a4 : 0 < nd
                · have d4 : decide (0 < nd) = true := decide_eq_true a4
                  go_wp2_with fail
                  go_meet
                  exact ⟨congrArg Value.bool (by rw [H17.out, d4]; rfl), rfl⟩
                · obtain rfl : nd = 0 := by omega
                  cases b8 with
                  | false =>
                    go_wp2_with fail
                    go_meet
                    exact ⟨congrArg Value.bool (by rw [H17.out]; rfl), rfl⟩
                  | true =>
                    go_wp2_with fail
                    go_meet
                    exact ⟨congrArg Value.bool (by rw [H17.out]; rfl), rfl⟩
            case rest =>
              obtain ⟨rfl, rfl⟩ := hcut
              cases B17 with
              | true =>
                have hP : (prR r).2 = 60 := by rw [HPR.out, HM2.out]; rfl
                clear HPR HM2 H17
                go_wp2
                go_ret
                exact ⟨congrArg (fun x => Ending.returned (Value.int IntKind.i64 x)) hP.symm, HBr.out⟩
              | false =>
                cases S with
                | true =>
                  have hP : (prR r).2 = 0 := by rw [HPR.out, HM2.out]; rfl
                  clear HPR HM2 H17
                  go_wp2_with (go_at_call 110; refine HFT.out.mono ?_; rintro e w9 ⟨rfl, hb9⟩)
                  go_ret
                  exact ⟨congrArg (fun x => Ending.returned (Value.int IntKind.i64 x)) hP.symm, HBr.out.trans (hb9.mono HBr.out.size)⟩
                | false =>
                  have hP : (prR r).2 = 60 := by rw [HPR.out, HM2.out]; rfl
                  clear HPR HM2 H17
                  go_wp2_with (go_at_call 110; refine HFT.out.mono ?_; rintro e w9 ⟨rfl, hb9⟩)
                  go_ret
                  exact ⟨congrArg (fun x => Ending.returned (Value.int IntKind.i64 x)) hP.symm, HBr.out.trans (hb9.mono HBr.out.size)⟩
end Go.Proofs.YtllhbhogfffedaaGreatDoor

namespace Go.Proofs.YtllhbhogfffedaaGreatDoor
open Go.RowKit
set_option linter.unusedVariables false

end Go.Proofs.YtllhbhogfffedaaGreatDoor

namespace Go.Proofs.YtllhbhogfffedaaGreatDoor
open Go.RowKit
set_option linter.unusedVariables false
set_option linter.unusedSimpArgs false

/-- A list of records that lies somewhere. -/
def RLin (w : World) (a : Option Addr) (l : List Rc) : Prop :=
  l = [] ∨ ∃ g off, a = some ⟨g, off, none⟩ ∧ ∀ i r, l[i]? = some r → ∃ sa da sc dc, (∀ j u, (rcC r (.slice sa r.spans.length sc) (.slice da r.data.length dc))[j]? = some u → w.cell? ⟨g, off + i * 11 + j, none⟩ = some u) ∧ RIn w r sa da r.spans.length r.data.length sc dc
theorem RLin.below {w w' : World} {a : Option Addr} {l : List Rc} (h : RLin w a l) (hb : Below w.heap.size w w') : RLin w' a l := by
  rcases h with h | ⟨g, off, ha, h⟩
  · exact .inl h
  · refine .inr ⟨g, off, ha, fun i r hr => ?_⟩
    obtain ⟨sa, da, sc, dc, h1, h2⟩ := h i r hr
    exact ⟨sa, da, sc, dc, fun j u hj => C.cell_below (h1 j u hj) hb, h2.below hb⟩
theorem RLin.at {w : World} {a : Option Addr} {l : List Rc} (h : RLin w a l) {i : Nat} {r : Rc} (hr : l[i]? = some r) : ∃ g off sa da sc dc, a = some ⟨g, off, none⟩ ∧ (∀ j u, (rcC r (.slice sa r.spans.length sc) (.slice da r.data.length dc))[j]? = some u → w.cell? ⟨g, off + i * 11 + j, none⟩ = some u) ∧ RIn w r sa da r.spans.length r.data.length sc dc := by
  rcases h with rfl | ⟨g, off, ha, h⟩
  · simp at hr
  · obtain ⟨sa, da, sc, dc, h1, h2⟩ := h i r hr
    exact ⟨g, off, sa, da, sc, dc, ha, h1, h2⟩
theorem RLin.take {w : World} {a : Option Addr} {l : List Rc} (h : RLin w a l) (k : Nat) : RLin w a (l.take k) := by
  rcases h with rfl | ⟨g, off, ha, h⟩
  · left; simp
  · refine .inr ⟨g, off, ha, fun i r hr => h i r ?_⟩
    rw [List.getElem?_take] at hr
    split at hr
    · exact hr
    · cases hr

end Go.Proofs.YtllhbhogfffedaaGreatDoor

namespace Go.Proofs.YtllhbhogfffedaaGreatDoor
open Go.ChangeShapes Go.WideShapes Go.ChangeAt Go.RowKit
set_option linter.unusedVariables false

variable {H : Type} {enc : TypeId × Value → H} {W : World}

theorem rwAll_mem {P : Program} {e : TypeId} : ∀ {l : List (DataW H)} {d : DataW H}, d ∈ l → ∀ n ∈ d.weights P e, n ∈ DataW.weightsAll P e l
  | x :: l, d, hd, n, hn => by
    simp only [DataW.weightsAll, List.mem_append]
    rcases List.mem_cons.mp hd with rfl | h
    · exact .inl hn
    · exact .inr (rwAll_mem h n hn)
theorem rbytes_rec : Tryz.prog.bytesOf 81 = 120 := by kernel_rfl

set_option maxRecDepth 100000 in
/-- A list of records that came in. -/
theorem given_recs2 {v : Value} {d : DataW H} {p : List MemPlace} {base : Nat} (hok : Value.okWide Tryz.prog W .any base 34 v) (h : DataW.Trod enc Tryz.prog W 0 (fun _ => true) true 34 v d p) (hw : (d.weights Tryz.prog 34).all (· ≤ reachBytes) = true) :
    ∃ a l n c, v = .slice a n c ∧ l.length = n ∧ n ≤ c ∧ c * 120 ≤ 140737488351232 ∧ RLin W a l ∧ (∀ r ∈ l, Bytey r.data) ∧ (a = none → n = 0 ∧ c = 0) ∧ n ≤ Rows.uptoBulk d ∧ (∀ r ∈ l, r.data.length ≤ 140737488351232 ∧ r.spans.length * 16 ≤ 140737488351232) := by
  obtain ⟨a0, len0, cap0, rfl⟩ := okWide_slice Tryz.underlying34 hok
  obtain ⟨fuel, hf⟩ := h
  have hf' : DataW.trod enc Tryz.prog W 0 (fun _ => true) true fuel 34 [.slice a0 len0 cap0] = some (d, p) := hf
  clear hf hok
  rcases Go.Deep.open_slice Tryz.underlying34 hf' with ⟨hcs, _⟩ | ⟨a, len, cap, m, n, D, Pl, hcs, _, hl, hm, hmm, hx, hel⟩
  · simp at hcs
    obtain ⟨rfl, rfl, rfl⟩ := hcs
    exact ⟨none, [], 0, 0, rfl, rfl, Nat.le_refl _, by omega, .inl rfl, fun r hr => by simp at hr, fun _ => ⟨rfl, rfl⟩, Nat.zero_le _, fun r hr => by simp at hr⟩
  · simp at hcs
    obtain ⟨rfl, rfl, rfl⟩ := hcs
    simp only [if_true] at hmm
    subst hmm
    simp only [Prod.mk.injEq] at hx
    have hwm : ∀ i, i < len0 → ((D i).weights Tryz.prog 81).all (· ≤ reachBytes) = true := fun i hi => by
      refine all_of_mem hw (fun n hn => ?_)
      rw [hx.1]
      simp only [DataW.weights, Tryz.underlying34, List.mem_cons, List.mem_append]
      exact .inr (.inl (rwAll_mem (List.mem_map.mpr ⟨i, List.mem_range.mpr hi, rfl⟩) n hn))
    have hsz : m * 120 ≤ 140737488351232 := by
      have h1 := sized_slice (ts := [34]) (ds := [d]) (j := 0) (by simpa [DataW.weightsEach] using hw) rfl (by rw [hx.1]; rfl) Tryz.underlying34
      rw [rbytes_rec] at h1
      simp only [List.length_map, List.length_range, reachBytes] at h1
      have : len0 + (m - len0) = m := by omega
      rw [this] at h1
      exact h1
    obtain ⟨xs, hxl, hxs⟩ := rlist_of (n := len0) (p := fun i (x : Rc) => (Bytey x.data ∧ x.data.length ≤ 140737488351232 ∧ x.spans.length * 16 ≤ 140737488351232) ∧ ∃ sa da sc dc, (∀ j u, (rcC x (.slice sa x.spans.length sc) (.slice da x.data.length dc))[j]? = some u → W.cell? ((a.add (i * 11)).add j) = some u) ∧ RIn W x sa da x.spans.length x.data.length sc dc) (fun i hi => by
      obtain ⟨cs', h1, h2⟩ := hel i (by omega)
      rw [rcells_rec] at h1
      obtain ⟨_, hlen, hcell⟩ := World.cells?_some h1
      obtain ⟨r, sa, da, ns, nd, sc, dc, rfl, q1, q2, q3, q4, q5, q6⟩ := rec_of hlen h2 (hwm i hi)
      obtain rfl := q1.spn
      obtain rfl := q1.dat
      refine ⟨r, ⟨q2, by omega, by omega⟩, sa, da, sc, dc, fun j u hj => ?_, q1⟩
      have hj2 : j < 11 := (Array.getElem?_eq_some_iff.mp hj).1
      rw [hcell j hj2, Array.getElem?_toList]
      exact hj)
    subst hxl
    refine ⟨some a, xs, xs.length, m, rfl, rfl, hl, hsz, ?_, fun r hr => ?_, (fun h => by cases h), ?_, fun r hr => ?_⟩
    · by_cases h0 : xs = []
      · exact .inl h0
      · right
        have h1 : 0 < xs.length := List.length_pos_iff.mpr h0
        have hx0 : xs[0]? = some xs[0] := List.getElem?_eq_getElem h1
        obtain ⟨_, sa, da, sc, dc, q1, _⟩ := hxs 0 _ hx0
        have q2 := q1 0 _ rfl
        obtain ⟨g, off, rfl⟩ : ∃ g off, a = ⟨g, off, none⟩ := by
          have q3 := World.cell?_spot q2
          obtain ⟨b, off, spot⟩ := a
          have hs : spot = none := by simpa [Addr.add] using q3
          subst hs
          exact ⟨b, off, rfl⟩
        refine ⟨g, off, rfl, fun i r hi => ?_⟩
        obtain ⟨_, sa, da, sc, dc, q3, q4⟩ := hxs i r hi
        refine ⟨sa, da, sc, dc, fun j u hj => ?_, q4⟩
        have := q3 j u hj
        rw [radd_none, radd_none] at this
        exact this
    · obtain ⟨i, hi⟩ := List.getElem?_of_mem hr
      exact (hxs i r hi).1.1
    · rw [hx.1]
      have h1 := bulk_length ((List.range xs.length).map D)
      simp only [List.length_map, List.length_range] at h1
      simp only [Rows.uptoBulk]
      omega
    · obtain ⟨i, hi⟩ := List.getElem?_of_mem hr
      exact (hxs i r hi).1.2
set_option maxRecDepth 100000 in
theorem given_recs {v : Value} {d : DataW H} {p : List MemPlace} {base : Nat} (hok : Value.okWide Tryz.prog W .any base 34 v) (h : DataW.Trod enc Tryz.prog W 0 (fun _ => true) true 34 v d p) (hw : (d.weights Tryz.prog 34).all (· ≤ reachBytes) = true) :
    ∃ a l n c, v = .slice a n c ∧ l.length = n ∧ n ≤ c ∧ c * 120 ≤ 140737488351232 ∧ RLin W a l ∧ (∀ r ∈ l, Bytey r.data) ∧ (a = none → n = 0 ∧ c = 0) ∧ n ≤ Rows.uptoBulk d := by
  obtain ⟨a, l, n, c, h1, h2, h3, h4, h5, h6, h7, h8, _⟩ := given_recs2 hok h hw
  exact ⟨a, l, n, c, h1, h2, h3, h4, h5, h6, h7, h8⟩
end Go.Proofs.YtllhbhogfffedaaGreatDoor
