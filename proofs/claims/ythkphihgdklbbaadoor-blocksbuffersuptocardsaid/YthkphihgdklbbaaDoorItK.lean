import Derived.Test.YthkphihgdklbbaaDoorItr
import Derived.RangeFuncNested
import Derived.RangeFuncBound
import Derived.RangeFuncCalls
import Derived.RangeFuncLeaves
import Derived.Shelf.Abstract
import Derived.Shelf.RegionOpen
import Derived.OwnWalkIn
import Derived.TacticsInMore
import Derived.LoopNIn
import Derived.LoopIn
import Derived.Sort.QuietIn
namespace Go.Proofs.YthkphihgdklbbaaDoor.C
open Go.RowKit Go.Shelf
attribute [local go_sem] Oper.semAt_some

/-! ## The iterator, whatever blocks its list lies in -/
structure BlK (K : Nat → Prop) (W W' : World) : Prop where
  size : W.heap.size ≤ W'.heap.size
  block : ∀ k, K k → k < W.heap.size → W'.heap[k]? = W.heap[k]?
theorem BlK.refl (K : Nat → Prop) (W : World) : BlK K W W := ⟨Nat.le_refl _, fun _ _ _ => rfl⟩
theorem BlK.trans {K : Nat → Prop} {A B C : World} (h : BlK K A B) (h' : BlK K B C) : BlK K A C := ⟨Nat.le_trans h.size h'.size, fun k hk hl => (h'.block k hk (Nat.lt_of_lt_of_le hl h.size)).trans (h.block k hk hl)⟩
theorem BlK.of_below {K : Nat → Prop} {A B : World} (h : Below A.heap.size A B) : BlK K A B := ⟨h.size, fun k _ hl => h.block k hl⟩
theorem BlK.alloc {K : Nat → Prop} {A B : World} (h : BlK K A B) (o : Obj) : BlK K A (B.alloc o) := h.trans (.of_below ((Below.refl _ _).alloc (Nat.le_refl _) o))
theorem BlK.drewN {K : Nat → Prop} {A B : World} (h : BlK K A B) (n : Nat) : BlK K A (B.drewN n) := ⟨h.size, h.block⟩
structure KpK (K : Nat → Prop) (b : Nat) (W W' : World) : Prop where
  low : BlK K W W'
  blk : W'.heap[b]? = W.heap[b]?
theorem KpK.refl (K : Nat → Prop) (b : Nat) (W : World) : KpK K b W W := ⟨BlK.refl _ _, rfl⟩
theorem KpK.trans {K : Nat → Prop} {b : Nat} {A B C : World} (h : KpK K b A B) (h' : KpK K b B C) : KpK K b A C := ⟨h.low.trans h'.low, h'.blk.trans h.blk⟩
def SpK (K : Nat → Prop) (W : World) (a : Option Addr) (l : List Sp) : Prop := Spa W a l ∧ (l ≠ [] → ∀ x, a = some x → K x.block)
theorem SpK.keep {K : Nat → Prop} {W W' : World} {a : Option Addr} {l : List Sp} (h : SpK K W a l) (hb : BlK K W W') : SpK K W' a l := by
  refine ⟨?_, h.2⟩
  by_cases hl : l = []
  · exact .inl hl
  · rcases h.1 with h1 | ⟨g, off, ha, hc⟩
    · exact .inl h1
    · have hg := h.2 hl _ ha
      have hlt : g < W.heap.size := by
        obtain ⟨p, hp⟩ : ∃ p, l[0]? = some p := ⟨_, List.getElem?_eq_getElem (List.length_pos_iff.mpr hl)⟩
        exact World.block_lt_of_cell? W ⟨g, off + 0 * 2, none⟩ (hc 0 p hp).1
      exact .inr ⟨g, off, ha, fun i p hp => ⟨(World.cell?_of_block (a := ⟨g, off + i * 2, none⟩) (hb.block g hg hlt)).trans (hc i p hp).1, (World.cell?_of_block (a := ⟨g, off + i * 2 + 1, none⟩) (hb.block g hg hlt)).trans (hc i p hp).2⟩⟩

set_option maxRecDepth 100000 in
set_option maxHeartbeats 4000000 in
theorem pieces1K (n : Nat) (hn : 1 ≤ n) (l Bs Bl : Nat) (K : Nat → Prop) (a : Option Addr) (c : Nat) (xs : List Sp) (s1 s2 : Int) (hm : xs.length ≤ 1048576) (J Jx : List Pz → World → Prop)
    (W : World) (hJ : AbidesFrom W.heap.size J)
    (hY : ∀ pre (x : Pz) W1, J pre W1 → pre.length < (pc s2 s1 xs).length → x ∈ pc s2 s1 xs → YieldAt Fence.wide (n - 1) Tryd.prog l #[.agg #[.int .i64 x.1.1, .int .i64 x.1.2], .bool x.2] W1 fun e W' =>
      (e = .returned (.bool true) ∧ J (pre ++ [x]) W' ∧ KpK K Bs W1 W') ∨ (e = .returned (.bool false) ∧ Jx (pre ++ [x]) W'))
    (hBs : W.heap[Bs]? = some (.cells #[.int .i64 s1, .int .i64 s2] 38 (0, 0))) (hBl : W.cell? ⟨Bl, 0, none⟩ = some (.slice a xs.length c)) (hL : SpK K W a xs) (h0 : J [] W) :
    CallsIn Fence.wide n Tryd.prog 70 #[.func (.yield l) #[] #[], .pointer (some ⟨Bs, 0, none⟩), .pointer (some ⟨Bl, 0, none⟩)] W fun e W' => (∃ v, e = .returned v) ∧
      ((∃ ys, ys = pc s2 s1 xs ∧ J ys W') ∨ (∃ pre, pre <+: pc s2 s1 xs ∧ Jx pre W')) := by
  have hb0 : W.cell? ⟨Bs, 0, none⟩ = some (.int .i64 s1) := by rw [cell_of_row _ _ _ _ _ _ hBs]; rfl
  refine callsIn_of_wp Tryd.func70 rfl trivial ?_ rfl
  simp only [Tryd.ntmps70, List.size_toArray, List.length_cons, List.length_nil, Nat.reduceAdd, Nat.reduceSub, Array.replicate_succ, Array.replicate_zero, List.push_toArray, List.append_toArray, List.nil_append, List.cons_append]
  gi_wp2
  gi_loopw [4, 13] (fun p i wr => ∃ (k : Nat) (q : Int) (pre : List Pz), k ≤ xs.length ∧ i = .int .i64 k ∧ p = .int .i64 q ∧ pre ++ pc s2 q (xs.drop k) = pc s2 s1 xs ∧ J pre wr ∧ wr.heap[Bs]? = some (.cells #[.int .i64 s1, .int .i64 s2] 38 (0, 0)) ∧ BlK K W wr) (fun _ i _ => xs.length - (intOf i).toNat)
  case atStart => exact ⟨0, s1, [], by omega, rfl, rfl, rfl, h0, hBs, BlK.refl _ _⟩
  case round =>
    obtain ⟨k, q, pre, hk, rfl, rfl, hpc, hJs, hbs, hbe⟩ := hrel
    have HL : Hid (SpK K wr a xs) := hL.keep hbe
    have HBe : Hid (BlK K W wr) := hbe
    have HJ : Hid (J pre wr) := hJs
    have HP : Hid (pre ++ pc s2 q (xs.drop k) = pc s2 s1 xs) := hpc
    have e2 : wr.cell? ⟨Bs, 1, none⟩ = some (.int .i64 s2) := by rw [cell_of_row _ _ _ _ _ _ hbs]; rfl
    have HS : Hid (wr.heap[Bs]? = some (.cells #[.int .i64 s1, .int .i64 s2] 38 (0, 0))) := hbs
    have hBl' : Bs < wr.heap.size := (Array.getElem?_eq_some_iff.1 hbs).1
    clear hpc hJs hbs hbe h0 hBs hb0 hBl
    by_cases hlt : k < xs.length
    · have hlt' : (k : Int) < (xs.length : Int) := by omega
      obtain ⟨x, hx⟩ := get_some xs k hlt
      obtain ⟨g, off, rfl, c1, c2⟩ := HL.out.1.at hx
      rw [drop_get xs k x hx] at HP
      obtain ⟨x1, x2⟩ := x
      simp only at c1 c2
      have K1 : Hid (wr.cell? ⟨g, off + k * 2, none⟩ = some (.int .i64 x1)) := c1
      have K2 : Hid (wr.cell? ⟨g, off + k * 2 + 1, none⟩ = some (.int .i64 x2)) := c2
      have e3 : (wr.alloc (.cells #[.int .i64 x1, .int .i64 x2] 38)).cell? ⟨Bs, 1, none⟩ = some (.int .i64 s2) := (Below.cell (p := ⟨Bs, 1, none⟩) ((Below.refl wr.heap.size wr).alloc (Nat.le_refl _) _) hBl').trans e2
      clear hx
      have HJA : Hid (∀ nq, J pre ((wr.alloc (.cells #[.int .i64 x1, .int .i64 x2] 38)).drewN nq)) := fun nq => hJ pre wr _ none HJ.out (grown_trans (grown_alloc _ _ _) (grown_drewN _ _ _)) (fun r e => by cases e)
      have HSA : Hid (∀ nq, ((wr.alloc (.cells #[.int .i64 x1, .int .i64 x2] 38)).drewN nq).heap[Bs]? = some (.cells #[.int .i64 s1, .int .i64 s2] 38 (0, 0))) := fun nq => (Below.heap_alloc wr _ Bs hBl').trans HS.out
      have HBA : Hid (∀ nq, BlK K W ((wr.alloc (.cells #[.int .i64 x1, .int .i64 x2] 38)).drewN nq)) := fun nq => (HBe.out.alloc _).drewN _
      clear HJ HS HBe HL c1 c2 e2
      have z1 : (wr.cell? ⟨g, off + k * 2, none⟩ = some (.int .i64 x1)) := K1.out
      have z2 : (wr.cell? ⟨g, off + k * 2 + 1, none⟩ = some (.int .i64 x2)) := K2.out
      clear K1 K2
      rcases Int.lt_trichotomy x1 q with o1 | o1 | o1
      · by_cases o2 : x2 ≤ s2
        · by_cases hA : x2 ≤ q
          · have HP2 : Hid (pre ++ pc s2 q (xs.drop (k + 1)) = pc s2 s1 xs) := by have := HP.out; rw [pc_skip (by simp only; omega)] at this; exact this
            clear HP
            gi_wp2
            gi_quiet (fail)
            gi_wp2
            go_roundw
            case rel => exact ⟨k + 1, q, pre, by omega, by go_num, rfl, HP2.out, HJA.out _, HSA.out _, HBA.out _⟩
            case measure => simp [intOf]; omega
          · have HP2 : Hid (pre ++ (((q, x2), true) :: pc s2 x2 (xs.drop (k + 1))) = pc s2 s1 xs) := by
              have := HP.out; rw [pc_on (by simp only; omega) (by simp only; omega)] at this; simp only at this; rw [show min x2 s2 = x2 from by omega] at this; exact this
            clear HP
            gi_wp2
            gi_quiet (fail)
            gi_wp2
            refine ⟨fun _ h => (by cases h), ?_⟩
            have HPl : Hid (pre ++ [((q, x2), true)] ++ pc s2 x2 (xs.drop (k + 1)) = pc s2 s1 xs) := by have := HP2.out; unfold Hid; simpa using this
            clear HP2
            obtain ⟨fn2, tmps2, assign2, body2, hy2, hR2⟩ := hY (pre) ((q, x2), true) ((wr.alloc (.cells #[.int .i64 x1, .int .i64 x2] 38)).drewN nq) (HJA.out _) (by rw [← HPl.out]; simp; try omega) (by rw [← HPl.out]; simp)
            gi_wp2
            refine hR2.mono ?_
            rintro e W5 (⟨rfl, hJ5, hk5⟩ | ⟨rfl, hJx5⟩)
            · have HS5 : Hid (W5.heap[Bs]? = some (.cells #[.int .i64 s1, .int .i64 s2] 38 (0, 0))) := hk5.blk.trans (HSA.out nq)
              have HB5 : Hid (BlK K W W5) := (HBA.out nq).trans hk5.low
              have HJ5 : Hid (J (pre ++ [((q, x2), true)]) W5) := hJ5
              clear hJ5 hk5
              gi_wp2
              go_roundw
              case rel => exact ⟨k + 1, x2, _, by omega, by go_num, rfl, HPl.out, HJ5.out, HS5.out, HB5.out⟩
              case measure => simp [intOf]; omega
            · gi_wp2
              refine bodyPost_ret (results_none rfl _ _ _) rfl ?_
              exact ⟨⟨_, rfl⟩, .inr ⟨_, ⟨_, HPl.out⟩, hJx5⟩⟩
        · by_cases hA : s2 ≤ q
          · have HP2 : Hid (pre ++ pc s2 q (xs.drop (k + 1)) = pc s2 s1 xs) := by have := HP.out; rw [pc_skip (by simp only; omega)] at this; exact this
            clear HP
            gi_wp2
            gi_quiet (fail)
            gi_wp2
            go_roundw
            case rel => exact ⟨k + 1, q, pre, by omega, by go_num, rfl, HP2.out, HJA.out _, HSA.out _, HBA.out _⟩
            case measure => simp [intOf]; omega
          · have HP2 : Hid (pre ++ (((q, s2), true) :: pc s2 s2 (xs.drop (k + 1))) = pc s2 s1 xs) := by
              have := HP.out; rw [pc_on (by simp only; omega) (by simp only; omega)] at this; simp only at this; rw [show min x2 s2 = s2 from by omega] at this; exact this
            clear HP
            gi_wp2
            gi_quiet (fail)
            gi_wp2
            refine ⟨fun _ h => (by cases h), ?_⟩
            have HPl : Hid (pre ++ [((q, s2), true)] ++ pc s2 s2 (xs.drop (k + 1)) = pc s2 s1 xs) := by have := HP2.out; unfold Hid; simpa using this
            clear HP2
            obtain ⟨fn2, tmps2, assign2, body2, hy2, hR2⟩ := hY (pre) ((q, s2), true) ((wr.alloc (.cells #[.int .i64 x1, .int .i64 x2] 38)).drewN nq) (HJA.out _) (by rw [← HPl.out]; simp; try omega) (by rw [← HPl.out]; simp)
            gi_wp2
            refine hR2.mono ?_
            rintro e W5 (⟨rfl, hJ5, hk5⟩ | ⟨rfl, hJx5⟩)
            · have HS5 : Hid (W5.heap[Bs]? = some (.cells #[.int .i64 s1, .int .i64 s2] 38 (0, 0))) := hk5.blk.trans (HSA.out nq)
              have HB5 : Hid (BlK K W W5) := (HBA.out nq).trans hk5.low
              have HJ5 : Hid (J (pre ++ [((q, s2), true)]) W5) := hJ5
              clear hJ5 hk5
              gi_wp2
              go_roundw
              case rel => exact ⟨k + 1, s2, _, by omega, by go_num, rfl, HPl.out, HJ5.out, HS5.out, HB5.out⟩
              case measure => simp [intOf]; omega
            · gi_wp2
              refine bodyPost_ret (results_none rfl _ _ _) rfl ?_
              exact ⟨⟨_, rfl⟩, .inr ⟨_, ⟨_, HPl.out⟩, hJx5⟩⟩
      · subst o1
        by_cases o2 : x2 ≤ s2
        · by_cases hA : x2 ≤ x1
          · have HP2 : Hid (pre ++ pc s2 x1 (xs.drop (k + 1)) = pc s2 s1 xs) := by have := HP.out; rw [pc_skip (by simp only; omega)] at this; exact this
            clear HP
            gi_wp2
            gi_quiet (fail)
            gi_wp2
            go_roundw
            case rel => exact ⟨k + 1, x1, pre, by omega, by go_num, rfl, HP2.out, HJA.out _, HSA.out _, HBA.out _⟩
            case measure => simp [intOf]; omega
          · have HP2 : Hid (pre ++ (((x1, x2), true) :: pc s2 x2 (xs.drop (k + 1))) = pc s2 s1 xs) := by
              have := HP.out; rw [pc_on (by simp only; omega) (by simp only; omega)] at this; simp only at this; rw [show min x2 s2 = x2 from by omega] at this; exact this
            clear HP
            gi_wp2
            gi_quiet (fail)
            gi_wp2
            refine ⟨fun _ h => (by cases h), ?_⟩
            have HPl : Hid (pre ++ [((x1, x2), true)] ++ pc s2 x2 (xs.drop (k + 1)) = pc s2 s1 xs) := by have := HP2.out; unfold Hid; simpa using this
            clear HP2
            obtain ⟨fn2, tmps2, assign2, body2, hy2, hR2⟩ := hY (pre) ((x1, x2), true) ((wr.alloc (.cells #[.int .i64 x1, .int .i64 x2] 38)).drewN nq) (HJA.out _) (by rw [← HPl.out]; simp; try omega) (by rw [← HPl.out]; simp)
            gi_wp2
            refine hR2.mono ?_
            rintro e W5 (⟨rfl, hJ5, hk5⟩ | ⟨rfl, hJx5⟩)
            · have HS5 : Hid (W5.heap[Bs]? = some (.cells #[.int .i64 s1, .int .i64 s2] 38 (0, 0))) := hk5.blk.trans (HSA.out nq)
              have HB5 : Hid (BlK K W W5) := (HBA.out nq).trans hk5.low
              have HJ5 : Hid (J (pre ++ [((x1, x2), true)]) W5) := hJ5
              clear hJ5 hk5
              gi_wp2
              go_roundw
              case rel => exact ⟨k + 1, x2, _, by omega, by go_num, rfl, HPl.out, HJ5.out, HS5.out, HB5.out⟩
              case measure => simp [intOf]; omega
            · gi_wp2
              refine bodyPost_ret (results_none rfl _ _ _) rfl ?_
              exact ⟨⟨_, rfl⟩, .inr ⟨_, ⟨_, HPl.out⟩, hJx5⟩⟩
        · by_cases hA : s2 ≤ x1
          · have HP2 : Hid (pre ++ pc s2 x1 (xs.drop (k + 1)) = pc s2 s1 xs) := by have := HP.out; rw [pc_skip (by simp only; omega)] at this; exact this
            clear HP
            gi_wp2
            gi_quiet (fail)
            gi_wp2
            go_roundw
            case rel => exact ⟨k + 1, x1, pre, by omega, by go_num, rfl, HP2.out, HJA.out _, HSA.out _, HBA.out _⟩
            case measure => simp [intOf]; omega
          · have HP2 : Hid (pre ++ (((x1, s2), true) :: pc s2 s2 (xs.drop (k + 1))) = pc s2 s1 xs) := by
              have := HP.out; rw [pc_on (by simp only; omega) (by simp only; omega)] at this; simp only at this; rw [show min x2 s2 = s2 from by omega] at this; exact this
            clear HP
            gi_wp2
            gi_quiet (fail)
            gi_wp2
            refine ⟨fun _ h => (by cases h), ?_⟩
            have HPl : Hid (pre ++ [((x1, s2), true)] ++ pc s2 s2 (xs.drop (k + 1)) = pc s2 s1 xs) := by have := HP2.out; unfold Hid; simpa using this
            clear HP2
            obtain ⟨fn2, tmps2, assign2, body2, hy2, hR2⟩ := hY (pre) ((x1, s2), true) ((wr.alloc (.cells #[.int .i64 x1, .int .i64 x2] 38)).drewN nq) (HJA.out _) (by rw [← HPl.out]; simp; try omega) (by rw [← HPl.out]; simp)
            gi_wp2
            refine hR2.mono ?_
            rintro e W5 (⟨rfl, hJ5, hk5⟩ | ⟨rfl, hJx5⟩)
            · have HS5 : Hid (W5.heap[Bs]? = some (.cells #[.int .i64 s1, .int .i64 s2] 38 (0, 0))) := hk5.blk.trans (HSA.out nq)
              have HB5 : Hid (BlK K W W5) := (HBA.out nq).trans hk5.low
              have HJ5 : Hid (J (pre ++ [((x1, s2), true)]) W5) := hJ5
              clear hJ5 hk5
              gi_wp2
              go_roundw
              case rel => exact ⟨k + 1, s2, _, by omega, by go_num, rfl, HPl.out, HJ5.out, HS5.out, HB5.out⟩
              case measure => simp [intOf]; omega
            · gi_wp2
              refine bodyPost_ret (results_none rfl _ _ _) rfl ?_
              exact ⟨⟨_, rfl⟩, .inr ⟨_, ⟨_, HPl.out⟩, hJx5⟩⟩
      · by_cases o2 : x2 ≤ s2
        · by_cases hA : x2 ≤ x1
          · have HP2 : Hid (pre ++ pc s2 q (xs.drop (k + 1)) = pc s2 s1 xs) := by have := HP.out; rw [pc_skip (by simp only; omega)] at this; exact this
            clear HP
            gi_wp2
            gi_quiet (fail)
            gi_wp2
            go_roundw
            case rel => exact ⟨k + 1, q, pre, by omega, by go_num, rfl, HP2.out, HJA.out _, HSA.out _, HBA.out _⟩
            case measure => simp [intOf]; omega
          · have HP2 : Hid (pre ++ (((q, x1), false) :: ((x1, x2), true) :: pc s2 x2 (xs.drop (k + 1))) = pc s2 s1 xs) := by
              have := HP.out; rw [pc_gap (by simp only; omega) (by simp only; omega)] at this; simp only at this; rw [show min x2 s2 = x2 from by omega] at this; exact this
            clear HP
            gi_wp2
            gi_quiet (fail)
            obtain ⟨fn, tmps, assign, body, hy, hR⟩ := hY pre ((q, x1), false) ((wr.alloc (.cells #[.int .i64 x1, .int .i64 x2] 38)).drewN nq) (HJA.out _) (by rw [← HP2.out]; simp) (by rw [← HP2.out]; simp)
            gi_wp2
            refine hR.mono ?_
            rintro e W3 (⟨rfl, hJ3, hk3⟩ | ⟨rfl, hJx3⟩)
            · have HS3 := hk3.blk.trans (HSA.out nq)
              have HB3 := (HBA.out nq).trans hk3.low
              have HP3 : Hid (pre ++ [((q, x1), false)] ++ (((x1, x2), true) :: pc s2 x2 (xs.drop (k + 1))) = pc s2 s1 xs) := by have := HP2.out; unfold Hid; simpa using this
              clear HP2 hR hy hk3
              have HPl : Hid (pre ++ [((q, x1), false)] ++ [((x1, x2), true)] ++ pc s2 x2 (xs.drop (k + 1)) = pc s2 s1 xs) := by have := HP3.out; unfold Hid; simpa using this
              clear HP3
              obtain ⟨fn2, tmps2, assign2, body2, hy2, hR2⟩ := hY (pre ++ [((q, x1), false)]) ((x1, x2), true) W3 hJ3 (by rw [← HPl.out]; simp; try omega) (by rw [← HPl.out]; simp)
              gi_wp2
              refine hR2.mono ?_
              rintro e W5 (⟨rfl, hJ5, hk5⟩ | ⟨rfl, hJx5⟩)
              · have HS5 : Hid (W5.heap[Bs]? = some (.cells #[.int .i64 s1, .int .i64 s2] 38 (0, 0))) := hk5.blk.trans HS3
                have HB5 : Hid (BlK K W W5) := (HB3).trans hk5.low
                have HJ5 : Hid (J (pre ++ [((q, x1), false)] ++ [((x1, x2), true)]) W5) := hJ5
                clear hJ5 hk5
                gi_wp2
                go_roundw
                case rel => exact ⟨k + 1, x2, _, by omega, by go_num, rfl, HPl.out, HJ5.out, HS5.out, HB5.out⟩
                case measure => simp [intOf]; omega
              · gi_wp2
                refine bodyPost_ret (results_none rfl _ _ _) rfl ?_
                exact ⟨⟨_, rfl⟩, .inr ⟨_, ⟨_, HPl.out⟩, hJx5⟩⟩
            · gi_wp2
              refine bodyPost_ret (results_none rfl _ _ _) rfl ?_
              exact ⟨⟨_, rfl⟩, .inr ⟨_, ⟨(((x1, x2), true) :: pc s2 x2 (xs.drop (k + 1))), by have := HP2.out; simpa using this⟩, hJx3⟩⟩
        · by_cases hA : s2 ≤ x1
          · have HP2 : Hid (pre ++ pc s2 q (xs.drop (k + 1)) = pc s2 s1 xs) := by have := HP.out; rw [pc_skip (by simp only; omega)] at this; exact this
            clear HP
            gi_wp2
            gi_quiet (fail)
            gi_wp2
            go_roundw
            case rel => exact ⟨k + 1, q, pre, by omega, by go_num, rfl, HP2.out, HJA.out _, HSA.out _, HBA.out _⟩
            case measure => simp [intOf]; omega
          · have HP2 : Hid (pre ++ (((q, x1), false) :: ((x1, s2), true) :: pc s2 s2 (xs.drop (k + 1))) = pc s2 s1 xs) := by
              have := HP.out; rw [pc_gap (by simp only; omega) (by simp only; omega)] at this; simp only at this; rw [show min x2 s2 = s2 from by omega] at this; exact this
            clear HP
            gi_wp2
            gi_quiet (fail)
            obtain ⟨fn, tmps, assign, body, hy, hR⟩ := hY pre ((q, x1), false) ((wr.alloc (.cells #[.int .i64 x1, .int .i64 x2] 38)).drewN nq) (HJA.out _) (by rw [← HP2.out]; simp) (by rw [← HP2.out]; simp)
            gi_wp2
            refine hR.mono ?_
            rintro e W3 (⟨rfl, hJ3, hk3⟩ | ⟨rfl, hJx3⟩)
            · have HS3 := hk3.blk.trans (HSA.out nq)
              have HB3 := (HBA.out nq).trans hk3.low
              have HP3 : Hid (pre ++ [((q, x1), false)] ++ (((x1, s2), true) :: pc s2 s2 (xs.drop (k + 1))) = pc s2 s1 xs) := by have := HP2.out; unfold Hid; simpa using this
              clear HP2 hR hy hk3
              have HPl : Hid (pre ++ [((q, x1), false)] ++ [((x1, s2), true)] ++ pc s2 s2 (xs.drop (k + 1)) = pc s2 s1 xs) := by have := HP3.out; unfold Hid; simpa using this
              clear HP3
              obtain ⟨fn2, tmps2, assign2, body2, hy2, hR2⟩ := hY (pre ++ [((q, x1), false)]) ((x1, s2), true) W3 hJ3 (by rw [← HPl.out]; simp; try omega) (by rw [← HPl.out]; simp)
              gi_wp2
              refine hR2.mono ?_
              rintro e W5 (⟨rfl, hJ5, hk5⟩ | ⟨rfl, hJx5⟩)
              · have HS5 : Hid (W5.heap[Bs]? = some (.cells #[.int .i64 s1, .int .i64 s2] 38 (0, 0))) := hk5.blk.trans HS3
                have HB5 : Hid (BlK K W W5) := (HB3).trans hk5.low
                have HJ5 : Hid (J (pre ++ [((q, x1), false)] ++ [((x1, s2), true)]) W5) := hJ5
                clear hJ5 hk5
                gi_wp2
                go_roundw
                case rel => exact ⟨k + 1, s2, _, by omega, by go_num, rfl, HPl.out, HJ5.out, HS5.out, HB5.out⟩
                case measure => simp [intOf]; omega
              · gi_wp2
                refine bodyPost_ret (results_none rfl _ _ _) rfl ?_
                exact ⟨⟨_, rfl⟩, .inr ⟨_, ⟨_, HPl.out⟩, hJx5⟩⟩
            · gi_wp2
              refine bodyPost_ret (results_none rfl _ _ _) rfl ?_
              exact ⟨⟨_, rfl⟩, .inr ⟨_, ⟨(((x1, s2), true) :: pc s2 s2 (xs.drop (k + 1))), by have := HP2.out; simpa using this⟩, hJx3⟩⟩
    · have hkn : k = xs.length := by omega
      have HP2 : Hid (pre ++ (if q < s2 then [((q, s2), false)] else []) = pc s2 s1 xs) := by have := HP.out; rw [hkn, List.drop_length] at this; exact this
      clear HP HS HL HBe
      subst hkn
      by_cases hq : q < s2
      · rw [if_pos hq] at HP2
        obtain ⟨fn, tmps, assign, body, hy, hR⟩ := hY pre ((q, s2), false) wr HJ.out (by rw [← HP2.out]; simp) (by rw [← HP2.out]; simp)
        gi_wp2
        refine hR.mono ?_
        rintro e W3 (⟨rfl, hJ3, hk3⟩ | ⟨rfl, hJx3⟩)
        · gi_wp2
          go_end0
          exact ⟨⟨_, rfl⟩, .inl ⟨_, HP2.out, hJ3⟩⟩
        · gi_wp2
          go_end0
          exact ⟨⟨_, rfl⟩, .inr ⟨_, ⟨[], by have := HP2.out; simpa using this⟩, hJx3⟩⟩
      · rw [if_neg hq] at HP2
        have HJ2 : Hid (J (pc s2 s1 xs) wr) := by have h := HP2.out; simp at h; rw [← h]; exact HJ.out
        gi_wp2
        go_end0
        exact ⟨⟨_, rfl⟩, .inl HJ2.out⟩

theorem piecesK_stops (n : Nat) (hn : 1 ≤ n) (Bs Bl : Nat) (K : Nat → Prop) (a : Option Addr) (c : Nat) (xs : List Sp) (s1 s2 : Int) (hm : xs.length ≤ 1048576) (w : World)
    (hBs : w.heap[Bs]? = some (.cells #[.int .i64 s1, .int .i64 s2] 38 (0, 0))) (hBl : w.cell? ⟨Bl, 0, none⟩ = some (.slice a xs.length c)) (hL : SpK K w a xs) :
    SeqStopsK Fence.wide n Tryd.prog 70 #[.pointer (some ⟨Bs, 0, none⟩), .pointer (some ⟨Bl, 0, none⟩)] (fun x : Pz => #[Value.agg #[.int .i64 x.1.1, .int .i64 x.1.2], .bool x.2]) (KpK K Bs) (fun ys => ys = pc s2 s1 xs) (fun pre => pre <+: pc s2 s1 xs) (pc s2 s1 xs).length w := fun l J Jx W hW hJ _ hY h0 =>
  pieces1K n hn l Bs Bl K a c xs s1 s2 hm J Jx W hJ (fun pre x W1 h h' _ => hY pre x W1 h h') ((hW.block Bs (Array.getElem?_eq_some_iff.1 hBs).1).trans hBs) (cell_below hBl hW) (hL.keep (.of_below hW)) h0

end Go.Proofs.YthkphihgdklbbaaDoor.C
