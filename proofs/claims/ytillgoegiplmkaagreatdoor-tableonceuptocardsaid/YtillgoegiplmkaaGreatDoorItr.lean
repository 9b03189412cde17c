import Derived.Test.YtillgoegiplmkaaGreatDoorJoi
import Derived.RangeFuncNested
import Derived.RangeFuncBound
import Derived.RangeFuncCalls
import Derived.RangeFuncLeaves
import Derived.Shelf.Abstract
import Derived.Shelf.RegionOpen
import Derived.OwnWalkIn
import Derived.TacticsInMore
import Derived.LoopNIn
import Derived.LoopIn
import Derived.Sort.QuietIn
namespace Go.Proofs.YtillgoegiplmkaaGreatDoor.C
open Go.RowKit Go.Shelf
attribute [local go_sem] Oper.semAt_some

/-- What lies below n₀, and block b, lie as they lay. -/
structure Kps (n₀ b : Nat) (W W' : World) : Prop where
  low : Below n₀ W W'
  blk : W'.heap[b]? = W.heap[b]?
theorem Kps.refl (n₀ b : Nat) (W : World) : Kps n₀ b W W := ⟨Below.refl _ _, rfl⟩
theorem Kps.trans {n₀ b : Nat} {A B C : World} (h : Kps n₀ b A B) (h' : Kps n₀ b B C) : Kps n₀ b A C := ⟨h.low.trans h'.low, h'.blk.trans h.blk⟩

/-- Spans that lie below n₀. -/
def Spl (n₀ : Nat) (W : World) (a : Option Addr) (l : List Sp) : Prop := Spa W a l ∧ (l ≠ [] → ∀ x, a = some x → x.block < n₀)
theorem Spl.keep {n₀ : Nat} {W W' : World} {a : Option Addr} {l : List Sp} (h : Spl n₀ W a l) (hb : Below n₀ W W') : Spl n₀ W' a l := by
  refine ⟨?_, h.2⟩
  by_cases hl : l = []
  · exact .inl hl
  · rcases h.1 with h1 | ⟨g, off, ha, hc⟩
    · exact .inl h1
    · have hg := h.2 hl _ ha
      exact .inr ⟨g, off, ha, fun i p hp => ⟨(hb.cell (p := ⟨g, off + i * 2, none⟩) hg).trans (hc i p hp).1, (hb.cell (p := ⟨g, off + i * 2 + 1, none⟩) hg).trans (hc i p hp).2⟩⟩

abbrev Pz := Sp × Bool

set_option maxRecDepth 100000 in
set_option maxHeartbeats 4000000 in
theorem pieces1_in (n : Nat) (hn : 1 ≤ n) (l Bs Bl n₀ : Nat) (a : Option Addr) (c : Nat) (xs : List Sp) (s1 s2 : Int) (hm : xs.length ≤ 1048576) (J Jx : List Pz → World → Prop)
    (W : World) (hJ : AbidesFrom W.heap.size J) (hn₀ : n₀ ≤ W.heap.size)
    (hY : ∀ pre (x : Pz) W1, J pre W1 → pre.length < (pc s2 s1 xs).length → x ∈ pc s2 s1 xs → YieldAt Fence.wide (n - 1) Tryz.prog l #[.agg #[.int .i64 x.1.1, .int .i64 x.1.2], .bool x.2] W1 fun e W' =>
      (e = .returned (.bool true) ∧ J (pre ++ [x]) W' ∧ Kps n₀ Bs W1 W') ∨ (e = .returned (.bool false) ∧ Jx (pre ++ [x]) W'))
    (hBs : W.heap[Bs]? = some (.cells #[.int .i64 s1, .int .i64 s2] 90 (0, 0))) (hBl : W.cell? ⟨Bl, 0, none⟩ = some (.slice a xs.length c)) (hL : Spl n₀ W a xs) (h0 : J [] W) :
    CallsIn Fence.wide n Tryz.prog 181 #[.func (.yield l) #[] #[], .pointer (some ⟨Bs, 0, none⟩), .pointer (some ⟨Bl, 0, none⟩)] W fun e W' => (∃ v, e = .returned v) ∧
      ((∃ ys, ys = pc s2 s1 xs ∧ J ys W') ∨ (∃ pre, pre <+: pc s2 s1 xs ∧ Jx pre W')) := by
  have hb0 : W.cell? ⟨Bs, 0, none⟩ = some (.int .i64 s1) := by rw [cell_of_row _ _ _ _ _ _ hBs]; rfl
  refine callsIn_of_wp Tryz.func181 rfl trivial ?_ rfl
  simp only [Tryz.ntmps181, List.size_toArray, List.length_cons, List.length_nil, Nat.reduceAdd, Nat.reduceSub, Array.replicate_succ, Array.replicate_zero, List.push_toArray, List.append_toArray, List.nil_append, List.cons_append]
  gi_wp2
  gi_loopw [4, 13] (fun p i wr => ∃ (k : Nat) (q : Int) (pre : List Pz), k ≤ xs.length ∧ i = .int .i64 k ∧ p = .int .i64 q ∧ pre ++ pc s2 q (xs.drop k) = pc s2 s1 xs ∧ J pre wr ∧ wr.heap[Bs]? = some (.cells #[.int .i64 s1, .int .i64 s2] 90 (0, 0)) ∧ Below n₀ W wr) (fun _ i _ => xs.length - (intOf i).toNat)
  case atStart => exact ⟨0, s1, [], by omega, rfl, rfl, rfl, h0, hBs, Below.refl _ _⟩
  case round =>
    obtain ⟨k, q, pre, hk, rfl, rfl, hpc, hJs, hbs, hbe⟩ := hrel
    have HL : Hid (Spl n₀ wr a xs) := hL.keep hbe
    have HBe : Hid (Below n₀ W wr) := hbe
    have HJ : Hid (J pre wr) := hJs
    have HP : Hid (pre ++ pc s2 q (xs.drop k) = pc s2 s1 xs) := hpc
    have e2 : wr.cell? ⟨Bs, 1, none⟩ = some (.int .i64 s2) := by rw [cell_of_row _ _ _ _ _ _ hbs]; rfl
    have HS : Hid (wr.heap[Bs]? = some (.cells #[.int .i64 s1, .int .i64 s2] 90 (0, 0))) := hbs
    have hBl' : Bs < wr.heap.size := (Array.getElem?_eq_some_iff.1 hbs).1
    clear hpc hJs hbs hbe h0 hBs hb0 hBl
    by_cases hlt : k < xs.length
    · have hlt' : (k : Int) < (xs.length : Int) := by omega
      obtain ⟨x, hx⟩ := get_some xs k hlt
      obtain ⟨g, off, rfl, c1, c2⟩ := HL.out.1.at hx
      rw [drop_get xs k x hx] at HP
      obtain ⟨x1, x2⟩ := x
      simp only at c1 c2
      have K1 : Hid (wr.cell? ⟨g, off + k * 2, none⟩ = some (.int .i64 x1)) := c1
      have K2 : Hid (wr.cell? ⟨g, off + k * 2 + 1, none⟩ = some (.int .i64 x2)) := c2
      have e3 : (wr.alloc (.cells #[.int .i64 x1, .int .i64 x2] 90)).cell? ⟨Bs, 1, none⟩ = some (.int .i64 s2) := (Below.cell (p := ⟨Bs, 1, none⟩) ((Below.refl wr.heap.size wr).alloc (Nat.le_refl _) _) hBl').trans e2
      clear hx
      have HJA : Hid (∀ nq, J pre ((wr.alloc (.cells #[.int .i64 x1, .int .i64 x2] 90)).drewN nq)) := fun nq => hJ pre wr _ none HJ.out (grown_trans (grown_alloc _ _ _) (grown_drewN _ _ _)) (fun r e => by cases e)
      have HSA : Hid (∀ nq, ((wr.alloc (.cells #[.int .i64 x1, .int .i64 x2] 90)).drewN nq).heap[Bs]? = some (.cells #[.int .i64 s1, .int .i64 s2] 90 (0, 0))) := fun nq => (Below.heap_alloc wr _ Bs hBl').trans HS.out
      have HBA : Hid (∀ nq, Below n₀ W ((wr.alloc (.cells #[.int .i64 x1, .int .i64 x2] 90)).drewN nq)) := fun nq => below_drewN (HBe.out.alloc (Nat.le_trans hn₀ HBe.out.size) _) _
      clear HJ HS HBe HL c1 c2 e2
      have z1 : (wr.cell? ⟨g, off + k * 2, none⟩ = some (.int .i64 x1)) := K1.out
      have z2 : (wr.cell? ⟨g, off + k * 2 + 1, none⟩ = some (.int .i64 x2)) := K2.out
      clear K1 K2
      rcases Int.lt_trichotomy x1 q with o1 | o1 | o1
      · by_cases o2 : x2 ≤ s2
        · by_cases hA : x2 ≤ q
          · have HP2 : Hid (pre ++ pc s2 q (xs.drop (k + 1)) = pc s2 s1 xs) := by have := HP.out; rw [pc_skip (by simp only; omega)] at this; exact this
            clear HP
            gi_wp2
            gi_quiet (fail)
            gi_wp2
            go_roundw
            case rel => exact ⟨k + 1, q, pre, by omega, by go_num, rfl, HP2.out, HJA.out _, HSA.out _, HBA.out _⟩
            case measure => simp [intOf]; omega
          · have HP2 : Hid (pre ++ (((q, x2), true) :: pc s2 x2 (xs.drop (k + 1))) = pc s2 s1 xs) := by
              have := HP.out; rw [pc_on (by simp only; omega) (by simp only; omega)] at this; simp only at this; rw [show min x2 s2 = x2 from by omega] at this; exact this
            clear HP
            gi_wp2
            gi_quiet (fail)
            gi_wp2
            refine ⟨fun _ h => (by cases h), ?_⟩
            have HPl : Hid (pre ++ [((q, x2), true)] ++ pc s2 x2 (xs.drop (k + 1)) = pc s2 s1 xs) := by have := HP2.out; unfold Hid; simpa using this
            clear HP2
            obtain ⟨fn2, tmps2, assign2, body2, hy2, hR2⟩ := hY (pre) ((q, x2), true) ((wr.alloc (.cells #[.int .i64 x1, .int .i64 x2] 90)).drewN nq) (HJA.out _) (by rw [← HPl.out]; simp; try omega) (by rw [← HPl.out]; simp)
            gi_wp2
            refine hR2.mono ?_
            rintro e W5 (⟨rfl, hJ5, hk5⟩ | ⟨rfl, hJx5⟩)
            · have HS5 : Hid (W5.heap[Bs]? = some (.cells #[.int .i64 s1, .int .i64 s2] 90 (0, 0))) := hk5.blk.trans (HSA.out nq)
              have HB5 : Hid (Below n₀ W W5) := (HBA.out nq).trans hk5.low
              have HJ5 : Hid (J (pre ++ [((q, x2), true)]) W5) := hJ5
              clear hJ5 hk5
              gi_wp2
              go_roundw
              case rel => exact ⟨k + 1, x2, _, by omega, by go_num, rfl, HPl.out, HJ5.out, HS5.out, HB5.out⟩
              case measure => simp [intOf]; omega
            · gi_wp2
              refine bodyPost_ret (results_none rfl _ _ _) rfl ?_
              exact ⟨⟨_, rfl⟩, .inr ⟨_, ⟨_, HPl.out⟩, hJx5⟩⟩
        · by_cases hA : s2 ≤ q
          · have HP2 : Hid (pre ++ pc s2 q (xs.drop (k + 1)) = pc s2 s1 xs) := by have := HP.out; rw [pc_skip (by simp only; omega)] at this; exact this
            clear HP
            gi_wp2
            gi_quiet (fail)
            gi_wp2
            go_roundw
            case rel => exact ⟨k + 1, q, pre, by omega, by go_num, rfl, HP2.out, HJA.out _, HSA.out _, HBA.out _⟩
            case measure => simp [intOf]; omega
          · have HP2 : Hid (pre ++ (((q, s2), true) :: pc s2 s2 (xs.drop (k + 1))) = pc s2 s1 xs) := by
              have := HP.out; rw [pc_on (by simp only; omega) (by simp only; omega)] at this; simp only at this; rw [show min x2 s2 = s2 from by omega] at this; exact this
            clear HP
            gi_wp2
            gi_quiet (fail)
            gi_wp2
            refine ⟨fun _ h => (by cases h), ?_⟩
            have HPl : Hid (pre ++ [((q, s2), true)] ++ pc s2 s2 (xs.drop (k + 1)) = pc s2 s1 xs) := by have := HP2.out; unfold Hid; simpa using this
            clear HP2
            obtain ⟨fn2, tmps2, assign2, body2, hy2, hR2⟩ := hY (pre) ((q, s2), true) ((wr.alloc (.cells #[.int .i64 x1, .int .i64 x2] 90)).drewN nq) (HJA.out _) (by rw [← HPl.out]; simp; try omega) (by rw [← HPl.out]; simp)
            gi_wp2
            refine hR2.mono ?_
            rintro e W5 (⟨rfl, hJ5, hk5⟩ | ⟨rfl, hJx5⟩)
            · have HS5 : Hid (W5.heap[Bs]? = some (.cells #[.int .i64 s1, .int .i64 s2] 90 (0, 0))) := hk5.blk.trans (HSA.out nq)
              have HB5 : Hid (Below n₀ W W5) := (HBA.out nq).trans hk5.low
              have HJ5 : Hid (J (pre ++ [((q, s2), true)]) W5) := hJ5
              clear hJ5 hk5
              gi_wp2
              go_roundw
              case rel => exact ⟨k + 1, s2, _, by omega, by go_num, rfl, HPl.out, HJ5.out, HS5.out, HB5.out⟩
              case measure => simp [intOf]; omega
            · gi_wp2
              refine bodyPost_ret (results_none rfl _ _ _) rfl ?_
              exact ⟨⟨_, rfl⟩, .inr ⟨_, ⟨_, HPl.out⟩, hJx5⟩⟩
      · subst o1
        by_cases o2 : x2 ≤ s2
        · by_cases hA : x2 ≤ x1
          · have HP2 : Hid (pre ++ pc s2 x1 (xs.drop (k + 1)) = pc s2 s1 xs) := by have := HP.out; rw [pc_skip (by simp only; omega)] at this; exact this
            clear HP
            gi_wp2
            gi_quiet (fail)
            gi_wp2
            go_roundw
            case rel => exact ⟨k + 1, x1, pre, by omega, by go_num, rfl, HP2.out, HJA.out _, HSA.out _, HBA.out _⟩
            case measure => simp [intOf]; omega
          · have HP2 : Hid (pre ++ (((x1, x2), true) :: pc s2 x2 (xs.drop (k + 1))) = pc s2 s1 xs) := by
              have := HP.out; rw [pc_on (by simp only; omega) (by simp only; omega)] at this; simp only at this; rw [show min x2 s2 = x2 from by omega] at this; exact this
            clear HP
            gi_wp2
            gi_quiet (fail)
            gi_wp2
            refine ⟨fun _ h => (by cases h), ?_⟩
            have HPl : Hid (pre ++ [((x1, x2), true)] ++ pc s2 x2 (xs.drop (k + 1)) = pc s2 s1 xs) := by have := HP2.out; unfold Hid; simpa using this
            clear HP2
            obtain ⟨fn2, tmps2, assign2, body2, hy2, hR2⟩ := hY (pre) ((x1, x2), true) ((wr.alloc (.cells #[.int .i64 x1, .int .i64 x2] 90)).drewN nq) (HJA.out _) (by rw [← HPl.out]; simp; try omega) (by rw [← HPl.out]; simp)
            gi_wp2
            refine hR2.mono ?_
            rintro e W5 (⟨rfl, hJ5, hk5⟩ | ⟨rfl, hJx5⟩)
            · have HS5 : Hid (W5.heap[Bs]? = some (.cells #[.int .i64 s1, .int .i64 s2] 90 (0, 0))) := hk5.blk.trans (HSA.out nq)
              have HB5 : Hid (Below n₀ W W5) := (HBA.out nq).trans hk5.low
              have HJ5 : Hid (J (pre ++ [((x1, x2), true)]) W5) := hJ5
              clear hJ5 hk5
              gi_wp2
              go_roundw
              case rel => exact ⟨k + 1, x2, _, by omega, by go_num, rfl, HPl.out, HJ5.out, HS5.out, HB5.out⟩
              case measure => simp [intOf]; omega
            · gi_wp2
              refine bodyPost_ret (results_none rfl _ _ _) rfl ?_
              exact ⟨⟨_, rfl⟩, .inr ⟨_, ⟨_, HPl.out⟩, hJx5⟩⟩
        · by_cases hA : s2 ≤ x1
          · have HP2 : Hid (pre ++ pc s2 x1 (xs.drop (k + 1)) = pc s2 s1 xs) := by have := HP.out; rw [pc_skip (by simp only; omega)] at this; exact this
            clear HP
            gi_wp2
            gi_quiet (fail)
            gi_wp2
            go_roundw
            case rel => exact ⟨k + 1, x1, pre, by omega, by go_num, rfl, HP2.out, HJA.out _, HSA.out _, HBA.out _⟩
            case measure => simp [intOf]; omega
          · have HP2 : Hid (pre ++ (((x1, s2), true) :: pc s2 s2 (xs.drop (k + 1))) = pc s2 s1 xs) := by
              have := HP.out; rw [pc_on (by simp only; omega) (by simp only; omega)] at this; simp only at this; rw [show min x2 s2 = s2 from by omega] at this; exact this
            clear HP
            gi_wp2
            gi_quiet (fail)
            gi_wp2
            refine ⟨fun _ h => (by cases h), ?_⟩
            have HPl : Hid (pre ++ [((x1, s2), true)] ++ pc s2 s2 (xs.drop (k + 1)) = pc s2 s1 xs) := by have := HP2.out; unfold Hid; simpa using this
            clear HP2
            obtain ⟨fn2, tmps2, assign2, body2, hy2, hR2⟩ := hY (pre) ((x1, s2), true) ((wr.alloc (.cells #[.int .i64 x1, .int .i64 x2] 90)).drewN nq) (HJA.out _) (by rw [← HPl.out]; simp; try omega) (by rw [← HPl.out]; simp)
            gi_wp2
            refine hR2.mono ?_
            rintro e W5 (⟨rfl, hJ5, hk5⟩ | ⟨rfl, hJx5⟩)
            · have HS5 : Hid (W5.heap[Bs]? = some (.cells #[.int .i64 s1, .int .i64 s2] 90 (0, 0))) := hk5.blk.trans (HSA.out nq)
              have HB5 : Hid (Below n₀ W W5) := (HBA.out nq).trans hk5.low
              have HJ5 : Hid (J (pre ++ [((x1, s2), true)]) W5) := hJ5
              clear hJ5 hk5
              gi_wp2
              go_roundw
              case rel => exact ⟨k + 1, s2, _, by omega, by go_num, rfl, HPl.out, HJ5.out, HS5.out, HB5.out⟩
              case measure => simp [intOf]; omega
            · gi_wp2
              refine bodyPost_ret (results_none rfl _ _ _) rfl ?_
              exact ⟨⟨_, rfl⟩, .inr ⟨_, ⟨_, HPl.out⟩, hJx5⟩⟩
      · by_cases o2 : x2 ≤ s2
        · by_cases hA : x2 ≤ x1
          · have HP2 : Hid (pre ++ pc s2 q (xs.drop (k + 1)) = pc s2 s1 xs) := by have := HP.out; rw [pc_skip (by simp only; omega)] at this; exact this
            clear HP
            gi_wp2
            gi_quiet (fail)
            gi_wp2
            go_roundw
            case rel => exact ⟨k + 1, q, pre, by omega, by go_num, rfl, HP2.out, HJA.out _, HSA.out _, HBA.out _⟩
            case measure => simp [intOf]; omega
          · have HP2 : Hid (pre ++ (((q, x1), false) :: ((x1, x2), true) :: pc s2 x2 (xs.drop (k + 1))) = pc s2 s1 xs) := by
              have := HP.out; rw [pc_gap (by simp only; omega) (by simp only; omega)] at this; simp only at this; rw [show min x2 s2 = x2 from by omega] at this; exact this
            clear HP
            gi_wp2
            gi_quiet (fail)
            obtain ⟨fn, tmps, assign, body, hy, hR⟩ := hY pre ((q, x1), false) ((wr.alloc (.cells #[.int .i64 x1, .int .i64 x2] 90)).drewN nq) (HJA.out _) (by rw [← HP2.out]; simp) (by rw [← HP2.out]; simp)
            gi_wp2
            refine hR.mono ?_
            rintro e W3 (⟨rfl, hJ3, hk3⟩ | ⟨rfl, hJx3⟩)
            · have HS3 := hk3.blk.trans (HSA.out nq)
              have HB3 := (HBA.out nq).trans hk3.low
              have HP3 : Hid (pre ++ [((q, x1), false)] ++ (((x1, x2), true) :: pc s2 x2 (xs.drop (k + 1))) = pc s2 s1 xs) := by have := HP2.out; unfold Hid; simpa using this
              clear HP2 hR hy hk3
              have HPl : Hid (pre ++ [((q, x1), false)] ++ [((x1, x2), true)] ++ pc s2 x2 (xs.drop (k + 1)) = pc s2 s1 xs) := by have := HP3.out; unfold Hid; simpa using this
              clear HP3
              obtain ⟨fn2, tmps2, assign2, body2, hy2, hR2⟩ := hY (pre ++ [((q, x1), false)]) ((x1, x2), true) W3 hJ3 (by rw [← HPl.out]; simp; try omega) (by rw [← HPl.out]; simp)
              gi_wp2
              refine hR2.mono ?_
              rintro e W5 (⟨rfl, hJ5, hk5⟩ | ⟨rfl, hJx5⟩)
              · have HS5 : Hid (W5.heap[Bs]? = some (.cells #[.int .i64 s1, .int .i64 s2] 90 (0, 0))) := hk5.blk.trans HS3
                have HB5 : Hid (Below n₀ W W5) := (HB3).trans hk5.low
                have HJ5 : Hid (J (pre ++ [((q, x1), false)] ++ [((x1, x2), true)]) W5) := hJ5
                clear hJ5 hk5
                gi_wp2
                go_roundw
                case rel => exact ⟨k + 1, x2, _, by omega, by go_num, rfl, HPl.out, HJ5.out, HS5.out, HB5.out⟩
                case measure => simp [intOf]; omega
              · gi_wp2
                refine bodyPost_ret (results_none rfl _ _ _) rfl ?_
                exact ⟨⟨_, rfl⟩, .inr ⟨_, ⟨_, HPl.out⟩, hJx5⟩⟩
            · gi_wp2
              refine bodyPost_ret (results_none rfl _ _ _) rfl ?_
              exact ⟨⟨_, rfl⟩, .inr ⟨_, ⟨(((x1, x2), true) :: pc s2 x2 (xs.drop (k + 1))), by have := HP2.out; simpa using this⟩, hJx3⟩⟩
        · by_cases hA : s2 ≤ x1
          · have HP2 : Hid (pre ++ pc s2 q (xs.drop (k + 1)) = pc s2 s1 xs) := by have := HP.out; rw [pc_skip (by simp only; omega)] at this; exact this
            clear HP
            gi_wp2
            gi_quiet (fail)
            gi_wp2
            go_roundw
            case rel => exact ⟨k + 1, q, pre, by omega, by go_num, rfl, HP2.out, HJA.out _, HSA.out _, HBA.out _⟩
            case measure => simp [intOf]; omega
          · have HP2 : Hid (pre ++ (((q, x1), false) :: ((x1, s2), true) :: pc s2 s2 (xs.drop (k + 1))) = pc s2 s1 xs) := by
              have := HP.out; rw [pc_gap (by simp only; omega) (by simp only; omega)] at this; simp only at this; rw [show min x2 s2 = s2 from by omega] at this; exact this
            clear HP
            gi_wp2
            gi_quiet (fail)
            obtain ⟨fn, tmps, assign, body, hy, hR⟩ := hY pre ((q, x1), false) ((wr.alloc (.cells #[.int .i64 x1, .int .i64 x2] 90)).drewN nq) (HJA.out _) (by rw [← HP2.out]; simp) (by rw [← HP2.out]; simp)
            gi_wp2
            refine hR.mono ?_
            rintro e W3 (⟨rfl, hJ3, hk3⟩ | ⟨rfl, hJx3⟩)
            · have HS3 := hk3.blk.trans (HSA.out nq)
              have HB3 := (HBA.out nq).trans hk3.low
              have HP3 : Hid (pre ++ [((q, x1), false)] ++ (((x1, s2), true) :: pc s2 s2 (xs.drop (k + 1))) = pc s2 s1 xs) := by have := HP2.out; unfold Hid; simpa using this
              clear HP2 hR hy hk3
              have HPl : Hid (pre ++ [((q, x1), false)] ++ [((x1, s2), true)] ++ pc s2 s2 (xs.drop (k + 1)) = pc s2 s1 xs) := by have := HP3.out; unfold Hid; simpa using this
              clear HP3
              obtain ⟨fn2, tmps2, assign2, body2, hy2, hR2⟩ := hY (pre ++ [((q, x1), false)]) ((x1, s2), true) W3 hJ3 (by rw [← HPl.out]; simp; try omega) (by rw [← HPl.out]; simp)
              gi_wp2
              refine hR2.mono ?_
              rintro e W5 (⟨rfl, hJ5, hk5⟩ | ⟨rfl, hJx5⟩)
              · have HS5 : Hid (W5.heap[Bs]? = some (.cells #[.int .i64 s1, .int .i64 s2] 90 (0, 0))) := hk5.blk.trans HS3
                have HB5 : Hid (Below n₀ W W5) := (HB3).trans hk5.low
                have HJ5 : Hid (J (pre ++ [((q, x1), false)] ++ [((x1, s2), true)]) W5) := hJ5
                clear hJ5 hk5
                gi_wp2
                go_roundw
                case rel => exact ⟨k + 1, s2, _, by omega, by go_num, rfl, HPl.out, HJ5.out, HS5.out, HB5.out⟩
                case measure => simp [intOf]; omega
              · gi_wp2
                refine bodyPost_ret (results_none rfl _ _ _) rfl ?_
                exact ⟨⟨_, rfl⟩, .inr ⟨_, ⟨_, HPl.out⟩, hJx5⟩⟩
            · gi_wp2
              refine bodyPost_ret (results_none rfl _ _ _) rfl ?_
              exact ⟨⟨_, rfl⟩, .inr ⟨_, ⟨(((x1, s2), true) :: pc s2 s2 (xs.drop (k + 1))), by have := HP2.out; simpa using this⟩, hJx3⟩⟩
    · have hkn : k = xs.length := by omega
      have HP2 : Hid (pre ++ (if q < s2 then [((q, s2), false)] else []) = pc s2 s1 xs) := by have := HP.out; rw [hkn, List.drop_length] at this; exact this
      clear HP HS HL HBe
      subst hkn
      by_cases hq : q < s2
      · rw [if_pos hq] at HP2
        obtain ⟨fn, tmps, assign, body, hy, hR⟩ := hY pre ((q, s2), false) wr HJ.out (by rw [← HP2.out]; simp) (by rw [← HP2.out]; simp)
        gi_wp2
        refine hR.mono ?_
        rintro e W3 (⟨rfl, hJ3, hk3⟩ | ⟨rfl, hJx3⟩)
        · gi_wp2
          go_end0
          exact ⟨⟨_, rfl⟩, .inl ⟨_, HP2.out, hJ3⟩⟩
        · gi_wp2
          go_end0
          exact ⟨⟨_, rfl⟩, .inr ⟨_, ⟨[], by have := HP2.out; simpa using this⟩, hJx3⟩⟩
      · rw [if_neg hq] at HP2
        have HJ2 : Hid (J (pc s2 s1 xs) wr) := by have h := HP2.out; simp at h; rw [← h]; exact HJ.out
        gi_wp2
        go_end0
        exact ⟨⟨_, rfl⟩, .inl HJ2.out⟩

end Go.Proofs.YtillgoegiplmkaaGreatDoor.C
