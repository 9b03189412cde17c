import Derived.Test.YtillgoegiplmkaaGreatDoorGat
import Derived.Test.YtillgoegiplmkaaGreatDoorItr
import Derived.RangeFuncNested
import Derived.RangeFuncBound
import Derived.RangeFuncCalls
import Derived.RangeFuncLeaves
import Derived.Shelf.Abstract
import Derived.Shelf.RegionOpen
import Derived.OwnWalkIn
import Derived.TacticsInMore
import Derived.LoopNIn
import Derived.LoopIn
import Derived.Sort.QuietIn
import Derived.Test.YtillgoegiplmkaaGreatDoorStp
import Derived.Test.YtillgoegiplmkaaGreatDoorBfMath
import Derived.Deep.RegionHeld3
import Derived.Laws.CopyOwn
import Derived.Deep.RegionWith
import Derived.Deep.CutRange
import Derived.Lib.AppendZerosOnto
namespace Go.Proofs.YtillgoegiplmkaaGreatDoor.C
open Go.RowKit Go.Shelf

/-- What Walk answers of a set and a span that may be asked: an iterator over what lies within. -/
def WalkPost (l : List Sp) (f t : Int) (w : World) (e : Ending) (w' : World) : Prop := ∃ Bs Bl a c, e = .returned (.func (.func 181) #[] #[.pointer (some ⟨Bs, 0, none⟩), .pointer (some ⟨Bl, 0, none⟩)]) ∧
  w'.heap[Bs]? = some (.cells #[.int .i64 f, .int .i64 t] 90 (0, 0)) ∧ w'.heap[Bl]? = some (.cells #[.slice a (wth l (f, t)).length c] 32 (0, 0)) ∧ SOwn w' w.heap.size (.slice a (wth l (f, t)).length c) (wth l (f, t)) ∧ w.heap.size ≤ Bs ∧ w.heap.size ≤ Bl ∧ Bs ≠ Bl ∧ Below w.heap.size w w'

set_option maxHeartbeats 2000000 in
theorem walk_any {v : Value} {l : List Sp} {w : World} (f t : Int) (h : Ls w v l) (hq : IsSet l) (ha : Asked (f, t)) :
    Calls Tryz.prog 164 #[v, .agg #[.int .i64 f, .int .i64 t]] w (WalkPost l f t w) := by
  have hwi := within_any f t (h.below (below_box w f t))
  have HW : Hid (∀ u er, GR true l (f, t) u er → er = 0 ∧ u = wth l (f, t)) := fun u er hg => hg.within hq ha
  clear hq ha h
  go_enter Tryz.func164, Tryz.ntmps164
  go_wp2_with fail
  refine hwi.mono ?_
  rintro e w2 ⟨v2, u, er, rfl, hown, hgr, hb2⟩
  obtain ⟨rfl, rfl⟩ := HW.out _ _ hgr
  obtain ⟨a, c, rfl⟩ := hown.shape
  clear hwi HW hgr
  have c0 : w2.cell? ⟨w.heap.size, 0, none⟩ = some (.int .i64 f) := (hb2.cell (p := ⟨w.heap.size, 0, none⟩) (by simp)).trans (box0 _ _ _ _)
  have c1 : w2.cell? ⟨w.heap.size, 1, none⟩ = some (.int .i64 t) := (hb2.cell (p := ⟨w.heap.size, 1, none⟩) (by simp)).trans (box1 _ _ _ _)
  have hp := pieces_any a (wth l (f, t)).length c f t w2
  have HO : Hid (SOwn w2 w.heap.size (.slice a (wth l (f, t)).length c) (wth l (f, t))) := SOwn.base hown (by simp)
  have HB2 : Hid (Below w.heap.size w w2) := (below_box w f t).trans (hb2.mono (by simp))
  clear hown hb2
  generalize hU : wth l (f, t) = U at hp HO
  have HU : Hid (wth l (f, t) = U) := hU
  clear hU
  go_wp2_with fail
  refine hp.mono ?_
  rintro e w3 ⟨rfl, rfl⟩
  clear hp c0 c1
  have hs := HB2.out.size
  go_wp2
  go_ret
  unfold WalkPost
  rw [HU.out]
  refine ⟨_, _, a, c, rfl, ?_, ?_, World.ownsRow.alloc (World.ownsRow.alloc HO.out _) _, by omega, hs, by omega, (HB2.out.alloc hs _).alloc (by simp; omega) _⟩
  · have := heap_alloc_new' (w2.alloc (.cells #[.slice a U.length c] 32)) (.cells #[.int .i64 f, .int .i64 t] 90)
    rw [World.size_alloc] at this; exact this
  · exact (Below.heap_alloc _ _ _ (by simp)).trans (heap_alloc_new' w2 _)

end Go.Proofs.YtillgoegiplmkaaGreatDoor.C

namespace Go.Proofs.YtillgoegiplmkaaGreatDoor.C
open Go.RowKit Go.Shelf
attribute [local go_sem] Oper.semAt_some

/-! ## The iterator, whatever blocks its list lies in -/
structure BlK (K : Nat → Prop) (W W' : World) : Prop where
  size : W.heap.size ≤ W'.heap.size
  block : ∀ k, K k → k < W.heap.size → W'.heap[k]? = W.heap[k]?
theorem BlK.refl (K : Nat → Prop) (W : World) : BlK K W W := ⟨Nat.le_refl _, fun _ _ _ => rfl⟩
theorem BlK.trans {K : Nat → Prop} {A B C : World} (h : BlK K A B) (h' : BlK K B C) : BlK K A C := ⟨Nat.le_trans h.size h'.size, fun k hk hl => (h'.block k hk (Nat.lt_of_lt_of_le hl h.size)).trans (h.block k hk hl)⟩
theorem BlK.of_below {K : Nat → Prop} {A B : World} (h : Below A.heap.size A B) : BlK K A B := ⟨h.size, fun k _ hl => h.block k hl⟩
theorem BlK.alloc {K : Nat → Prop} {A B : World} (h : BlK K A B) (o : Obj) : BlK K A (B.alloc o) := h.trans (.of_below ((Below.refl _ _).alloc (Nat.le_refl _) o))
theorem BlK.drewN {K : Nat → Prop} {A B : World} (h : BlK K A B) (n : Nat) : BlK K A (B.drewN n) := ⟨h.size, h.block⟩
structure KpK (K : Nat → Prop) (b : Nat) (W W' : World) : Prop where
  low : BlK K W W'
  blk : W'.heap[b]? = W.heap[b]?
theorem KpK.refl (K : Nat → Prop) (b : Nat) (W : World) : KpK K b W W := ⟨BlK.refl _ _, rfl⟩
theorem KpK.trans {K : Nat → Prop} {b : Nat} {A B C : World} (h : KpK K b A B) (h' : KpK K b B C) : KpK K b A C := ⟨h.low.trans h'.low, h'.blk.trans h.blk⟩
def SpK (K : Nat → Prop) (W : World) (a : Option Addr) (l : List Sp) : Prop := Spa W a l ∧ (l ≠ [] → ∀ x, a = some x → K x.block)
theorem SpK.keep {K : Nat → Prop} {W W' : World} {a : Option Addr} {l : List Sp} (h : SpK K W a l) (hb : BlK K W W') : SpK K W' a l := by
  refine ⟨?_, h.2⟩
  by_cases hl : l = []
  · exact .inl hl
  · rcases h.1 with h1 | ⟨g, off, ha, hc⟩
    · exact .inl h1
    · have hg := h.2 hl _ ha
      have hlt : g < W.heap.size := by
        obtain ⟨p, hp⟩ : ∃ p, l[0]? = some p := ⟨_, List.getElem?_eq_getElem (List.length_pos_iff.mpr hl)⟩
        exact World.block_lt_of_cell? W ⟨g, off + 0 * 2, none⟩ (hc 0 p hp).1
      exact .inr ⟨g, off, ha, fun i p hp => ⟨(World.cell?_of_block (a := ⟨g, off + i * 2, none⟩) (hb.block g hg hlt)).trans (hc i p hp).1, (World.cell?_of_block (a := ⟨g, off + i * 2 + 1, none⟩) (hb.block g hg hlt)).trans (hc i p hp).2⟩⟩

set_option maxRecDepth 100000 in
set_option maxHeartbeats 4000000 in
theorem pieces1K (n : Nat) (hn : 1 ≤ n) (l Bs Bl : Nat) (K : Nat → Prop) (a : Option Addr) (c : Nat) (xs : List Sp) (s1 s2 : Int) (hm : xs.length ≤ 1048576) (J Jx : List Pz → World → Prop)
    (W : World) (hJ : AbidesFrom W.heap.size J)
    (hY : ∀ pre (x : Pz) W1, J pre W1 → pre.length < (pc s2 s1 xs).length → x ∈ pc s2 s1 xs → YieldAt Fence.wide (n - 1) Tryz.prog l #[.agg #[.int .i64 x.1.1, .int .i64 x.1.2], .bool x.2] W1 fun e W' =>
      (e = .returned (.bool true) ∧ J (pre ++ [x]) W' ∧ KpK K Bs W1 W') ∨ (e = .returned (.bool false) ∧ Jx (pre ++ [x]) W'))
    (hBs : W.heap[Bs]? = some (.cells #[.int .i64 s1, .int .i64 s2] 90 (0, 0))) (hBl : W.cell? ⟨Bl, 0, none⟩ = some (.slice a xs.length c)) (hL : SpK K W a xs) (h0 : J [] W) :
    CallsIn Fence.wide n Tryz.prog 181 #[.func (.yield l) #[] #[], .pointer (some ⟨Bs, 0, none⟩), .pointer (some ⟨Bl, 0, none⟩)] W fun e W' => (∃ v, e = .returned v) ∧
      ((∃ ys, ys = pc s2 s1 xs ∧ J ys W') ∨ (∃ pre, pre <+: pc s2 s1 xs ∧ Jx pre W')) := by
  have hb0 : W.cell? ⟨Bs, 0, none⟩ = some (.int .i64 s1) := by rw [cell_of_row _ _ _ _ _ _ hBs]; rfl
  refine callsIn_of_wp Tryz.func181 rfl trivial ?_ rfl
  simp only [Tryz.ntmps181, List.size_toArray, List.length_cons, List.length_nil, Nat.reduceAdd, Nat.reduceSub, Array.replicate_succ, Array.replicate_zero, List.push_toArray, List.append_toArray, List.nil_append, List.cons_append]
  gi_wp2
  gi_loopw [4, 13] (fun p i wr => ∃ (k : Nat) (q : Int) (pre : List Pz), k ≤ xs.length ∧ i = .int .i64 k ∧ p = .int .i64 q ∧ pre ++ pc s2 q (xs.drop k) = pc s2 s1 xs ∧ J pre wr ∧ wr.heap[Bs]? = some (.cells #[.int .i64 s1, .int .i64 s2] 90 (0, 0)) ∧ BlK K W wr) (fun _ i _ => xs.length - (intOf i).toNat)
  case atStart => exact ⟨0, s1, [], by omega, rfl, rfl, rfl, h0, hBs, BlK.refl _ _⟩
  case round =>
    obtain ⟨k, q, pre, hk, rfl, rfl, hpc, hJs, hbs, hbe⟩ := hrel
    have HL : Hid (SpK K wr a xs) := hL.keep hbe
    have HBe : Hid (BlK K W wr) := hbe
    have HJ : Hid (J pre wr) := hJs
    have HP : Hid (pre ++ pc s2 q (xs.drop k) = pc s2 s1 xs) := hpc
    have e2 : wr.cell? ⟨Bs, 1, none⟩ = some (.int .i64 s2) := by rw [cell_of_row _ _ _ _ _ _ hbs]; rfl
    have HS : Hid (wr.heap[Bs]? = some (.cells #[.int .i64 s1, .int .i64 s2] 90 (0, 0))) := hbs
    have hBl' : Bs < wr.heap.size := (Array.getElem?_eq_some_iff.1 hbs).1
    clear hpc hJs hbs hbe h0 hBs hb0 hBl
    by_cases hlt : k < xs.length
    · have hlt' : (k : Int) < (xs.length : Int) := by omega
      obtain ⟨x, hx⟩ := get_some xs k hlt
      obtain ⟨g, off, rfl, c1, c2⟩ := HL.out.1.at hx
      rw [drop_get xs k x hx] at HP
      obtain ⟨x1, x2⟩ := x
      simp only at c1 c2
      have K1 : Hid (wr.cell? ⟨g, off + k * 2, none⟩ = some (.int .i64 x1)) := c1
      have K2 : Hid (wr.cell? ⟨g, off + k * 2 + 1, none⟩ = some (.int .i64 x2)) := c2
      have e3 : (wr.alloc (.cells #[.int .i64 x1, .int .i64 x2] 90)).cell? ⟨Bs, 1, none⟩ = some (.int .i64 s2) := (Below.cell (p := ⟨Bs, 1, none⟩) ((Below.refl wr.heap.size wr).alloc (Nat.le_refl _) _) hBl').trans e2
      clear hx
      have HJA : Hid (∀ nq, J pre ((wr.alloc (.cells #[.int .i64 x1, .int .i64 x2] 90)).drewN nq)) := fun nq => hJ pre wr _ none HJ.out (grown_trans (grown_alloc _ _ _) (grown_drewN _ _ _)) (fun r e => by cases e)
      have HSA : Hid (∀ nq, ((wr.alloc (.cells #[.int .i64 x1, .int .i64 x2] 90)).drewN nq).heap[Bs]? = some (.cells #[.int .i64 s1, .int .i64 s2] 90 (0, 0))) := fun nq => (Below.heap_alloc wr _ Bs hBl').trans HS.out
      have HBA : Hid (∀ nq, BlK K W ((wr.alloc (.cells #[.int .i64 x1, .int .i64 x2] 90)).drewN nq)) := fun nq => (HBe.out.alloc _).drewN _
      clear HJ HS HBe HL c1 c2 e2
      have z1 : (wr.cell? ⟨g, off + k * 2, none⟩ = some (.int .i64 x1)) := K1.out
      have z2 : (wr.cell? ⟨g, off + k * 2 + 1, none⟩ = some (.int .i64 x2)) := K2.out
      clear K1 K2
      rcases Int.lt_trichotomy x1 q with o1 | o1 | o1
      · by_cases o2 : x2 ≤ s2
        · by_cases hA : x2 ≤ q
          · have HP2 : Hid (pre ++ pc s2 q (xs.drop (k + 1)) = pc s2 s1 xs) := by have := HP.out; rw [pc_skip (by simp only; omega)] at this; exact this
            clear HP
            gi_wp2
            gi_quiet (fail)
            gi_wp2
            go_roundw
            case rel => exact ⟨k + 1, q, pre, by omega, by go_num, rfl, HP2.out, HJA.out _, HSA.out _, HBA.out _⟩
            case measure => simp [intOf]; omega
          · have HP2 : Hid (pre ++ (((q, x2), true) :: pc s2 x2 (xs.drop (k + 1))) = pc s2 s1 xs) := by
              have := HP.out; rw [pc_on (by simp only; omega) (by simp only; omega)] at this; simp only at this; rw [show min x2 s2 = x2 from by omega] at this; exact this
            clear HP
            gi_wp2
            gi_quiet (fail)
            gi_wp2
            refine ⟨fun _ h => (by cases h), ?_⟩
            have HPl : Hid (pre ++ [((q, x2), true)] ++ pc s2 x2 (xs.drop (k + 1)) = pc s2 s1 xs) := by have := HP2.out; unfold Hid; simpa using this
            clear HP2
            obtain ⟨fn2, tmps2, assign2, body2, hy2, hR2⟩ := hY (pre) ((q, x2), true) ((wr.alloc (.cells #[.int .i64 x1, .int .i64 x2] 90)).drewN nq) (HJA.out _) (by rw [← HPl.out]; simp; try omega) (by rw [← HPl.out]; simp)
            gi_wp2
            refine hR2.mono ?_
            rintro e W5 (⟨rfl, hJ5, hk5⟩ | ⟨rfl, hJx5⟩)
            · have HS5 : Hid (W5.heap[Bs]? = some (.cells #[.int .i64 s1, .int .i64 s2] 90 (0, 0))) := hk5.blk.trans (HSA.out nq)
              have HB5 : Hid (BlK K W W5) := (HBA.out nq).trans hk5.low
              have HJ5 : Hid (J (pre ++ [((q, x2), true)]) W5) := hJ5
              clear hJ5 hk5
              gi_wp2
              go_roundw
              case rel => exact ⟨k + 1, x2, _, by omega, by go_num, rfl, HPl.out, HJ5.out, HS5.out, HB5.out⟩
              case measure => simp [intOf]; omega
            · gi_wp2
              refine bodyPost_ret (results_none rfl _ _ _) rfl ?_
              exact ⟨⟨_, rfl⟩, .inr ⟨_, ⟨_, HPl.out⟩, hJx5⟩⟩
        · by_cases hA : s2 ≤ q
          · have HP2 : Hid (pre ++ pc s2 q (xs.drop (k + 1)) = pc s2 s1 xs) := by have := HP.out; rw [pc_skip (by simp only; omega)] at this; exact this
            clear HP
            gi_wp2
            gi_quiet (fail)
            gi_wp2
            go_roundw
            case rel => exact ⟨k + 1, q, pre, by omega, by go_num, rfl, HP2.out, HJA.out _, HSA.out _, HBA.out _⟩
            case measure => simp [intOf]; omega
          · have HP2 : Hid (pre ++ (((q, s2), true) :: pc s2 s2 (xs.drop (k + 1))) = pc s2 s1 xs) := by
              have := HP.out; rw [pc_on (by simp only; omega) (by simp only; omega)] at this; simp only at this; rw [show min x2 s2 = s2 from by omega] at this; exact this
            clear HP
            gi_wp2
            gi_quiet (fail)
            gi_wp2
            refine ⟨fun _ h => (by cases h), ?_⟩
            have HPl : Hid (pre ++ [((q, s2), true)] ++ pc s2 s2 (xs.drop (k + 1)) = pc s2 s1 xs) := by have := HP2.out; unfold Hid; simpa using this
            clear HP2
            obtain ⟨fn2, tmps2, assign2, body2, hy2, hR2⟩ := hY (pre) ((q, s2), true) ((wr.alloc (.cells #[.int .i64 x1, .int .i64 x2] 90)).drewN nq) (HJA.out _) (by rw [← HPl.out]; simp; try omega) (by rw [← HPl.out]; simp)
            gi_wp2
            refine hR2.mono ?_
            rintro e W5 (⟨rfl, hJ5, hk5⟩ | ⟨rfl, hJx5⟩)
            · have HS5 : Hid (W5.heap[Bs]? = some (.cells #[.int .i64 s1, .int .i64 s2] 90 (0, 0))) := hk5.blk.trans (HSA.out nq)
              have HB5 : Hid (BlK K W W5) := (HBA.out nq).trans hk5.low
              have HJ5 : Hid (J (pre ++ [((q, s2), true)]) W5) := hJ5
              clear hJ5 hk5
              gi_wp2
              go_roundw
              case rel => exact ⟨k + 1, s2, _, by omega, by go_num, rfl, HPl.out, HJ5.out, HS5.out, HB5.out⟩
              case measure => simp [intOf]; omega
            · gi_wp2
              refine bodyPost_ret (results_none rfl _ _ _) rfl ?_
              exact ⟨⟨_, rfl⟩, .inr ⟨_, ⟨_, HPl.out⟩, hJx5⟩⟩
      · subst o1
        by_cases o2 : x2 ≤ s2
        · by_cases hA : x2 ≤ x1
          · have HP2 : Hid (pre ++ pc s2 x1 (xs.drop (k + 1)) = pc s2 s1 xs) := by have := HP.out; rw [pc_skip (by simp only; omega)] at this; exact this
            clear HP
            gi_wp2
            gi_quiet (fail)
            gi_wp2
            go_roundw
            case rel => exact ⟨k + 1, x1, pre, by omega, by go_num, rfl, HP2.out, HJA.out _, HSA.out _, HBA.out _⟩
            case measure => simp [intOf]; omega
          · have HP2 : Hid (pre ++ (((x1, x2), true) :: pc s2 x2 (xs.drop (k + 1))) = pc s2 s1 xs) := by
              have := HP.out; rw [pc_on (by simp only; omega) (by simp only; omega)] at this; simp only at this; rw [show min x2 s2 = x2 from by omega] at this; exact this
            clear HP
            gi_wp2
            gi_quiet (fail)
            gi_wp2
            refine ⟨fun _ h => (by cases h), ?_⟩
            have HPl : Hid (pre ++ [((x1, x2), true)] ++ pc s2 x2 (xs.drop (k + 1)) = pc s2 s1 xs) := by have := HP2.out; unfold Hid; simpa using this
            clear HP2
            obtain ⟨fn2, tmps2, assign2, body2, hy2, hR2⟩ := hY (pre) ((x1, x2), true) ((wr.alloc (.cells #[.int .i64 x1, .int .i64 x2] 90)).drewN nq) (HJA.out _) (by rw [← HPl.out]; simp; try omega) (by rw [← HPl.out]; simp)
            gi_wp2
            refine hR2.mono ?_
            rintro e W5 (⟨rfl, hJ5, hk5⟩ | ⟨rfl, hJx5⟩)
            · have HS5 : Hid (W5.heap[Bs]? = some (.cells #[.int .i64 s1, .int .i64 s2] 90 (0, 0))) := hk5.blk.trans (HSA.out nq)
              have HB5 : Hid (BlK K W W5) := (HBA.out nq).trans hk5.low
              have HJ5 : Hid (J (pre ++ [((x1, x2), true)]) W5) := hJ5
              clear hJ5 hk5
              gi_wp2
              go_roundw
              case rel => exact ⟨k + 1, x2, _, by omega, by go_num, rfl, HPl.out, HJ5.out, HS5.out, HB5.out⟩
              case measure => simp [intOf]; omega
            · gi_wp2
              refine bodyPost_ret (results_none rfl _ _ _) rfl ?_
              exact ⟨⟨_, rfl⟩, .inr ⟨_, ⟨_, HPl.out⟩, hJx5⟩⟩
        · by_cases hA : s2 ≤ x1
          · have HP2 : Hid (pre ++ pc s2 x1 (xs.drop (k + 1)) = pc s2 s1 xs) := by have := HP.out; rw [pc_skip (by simp only; omega)] at this; exact this
            clear HP
            gi_wp2
            gi_quiet (fail)
            gi_wp2
            go_roundw
            case rel => exact ⟨k + 1, x1, pre, by omega, by go_num, rfl, HP2.out, HJA.out _, HSA.out _, HBA.out _⟩
            case measure => simp [intOf]; omega
          · have HP2 : Hid (pre ++ (((x1, s2), true) :: pc s2 s2 (xs.drop (k + 1))) = pc s2 s1 xs) := by
              have := HP.out; rw [pc_on (by simp only; omega) (by simp only; omega)] at this; simp only at this; rw [show min x2 s2 = s2 from by omega] at this; exact this
            clear HP
            gi_wp2
            gi_quiet (fail)
            gi_wp2
            refine ⟨fun _ h => (by cases h), ?_⟩
            have HPl : Hid (pre ++ [((x1, s2), true)] ++ pc s2 s2 (xs.drop (k + 1)) = pc s2 s1 xs) := by have := HP2.out; unfold Hid; simpa using this
            clear HP2
            obtain ⟨fn2, tmps2, assign2, body2, hy2, hR2⟩ := hY (pre) ((x1, s2), true) ((wr.alloc (.cells #[.int .i64 x1, .int .i64 x2] 90)).drewN nq) (HJA.out _) (by rw [← HPl.out]; simp; try omega) (by rw [← HPl.out]; simp)
            gi_wp2
            refine hR2.mono ?_
            rintro e W5 (⟨rfl, hJ5, hk5⟩ | ⟨rfl, hJx5⟩)
            · have HS5 : Hid (W5.heap[Bs]? = some (.cells #[.int .i64 s1, .int .i64 s2] 90 (0, 0))) := hk5.blk.trans (HSA.out nq)
              have HB5 : Hid (BlK K W W5) := (HBA.out nq).trans hk5.low
              have HJ5 : Hid (J (pre ++ [((x1, s2), true)]) W5) := hJ5
              clear hJ5 hk5
              gi_wp2
              go_roundw
              case rel => exact ⟨k + 1, s2, _, by omega, by go_num, rfl, HPl.out, HJ5.out, HS5.out, HB5.out⟩
              case measure => simp [intOf]; omega
            · gi_wp2
              refine bodyPost_ret (results_none rfl _ _ _) rfl ?_
              exact ⟨⟨_, rfl⟩, .inr ⟨_, ⟨_, HPl.out⟩, hJx5⟩⟩
      · by_cases o2 : x2 ≤ s2
        · by_cases hA : x2 ≤ x1
          · have HP2 : Hid (pre ++ pc s2 q (xs.drop (k + 1)) = pc s2 s1 xs) := by have := HP.out; rw [pc_skip (by simp only; omega)] at this; exact this
            clear HP
            gi_wp2
            gi_quiet (fail)
            gi_wp2
            go_roundw
            case rel => exact ⟨k + 1, q, pre, by omega, by go_num, rfl, HP2.out, HJA.out _, HSA.out _, HBA.out _⟩
            case measure => simp [intOf]; omega
          · have HP2 : Hid (pre ++ (((q, x1), false) :: ((x1, x2), true) :: pc s2 x2 (xs.drop (k + 1))) = pc s2 s1 xs) := by
              have := HP.out; rw [pc_gap (by simp only; omega) (by simp only; omega)] at this; simp only at this; rw [show min x2 s2 = x2 from by omega] at this; exact this
            clear HP
            gi_wp2
            gi_quiet (fail)
            obtain ⟨fn, tmps, assign, body, hy, hR⟩ := hY pre ((q, x1), false) ((wr.alloc (.cells #[.int .i64 x1, .int .i64 x2] 90)).drewN nq) (HJA.out _) (by rw [← HP2.out]; simp) (by rw [← HP2.out]; simp)
            gi_wp2
            refine hR.mono ?_
            rintro e W3 (⟨rfl, hJ3, hk3⟩ | ⟨rfl, hJx3⟩)
            · have HS3 := hk3.blk.trans (HSA.out nq)
              have HB3 := (HBA.out nq).trans hk3.low
              have HP3 : Hid (pre ++ [((q, x1), false)] ++ (((x1, x2), true) :: pc s2 x2 (xs.drop (k + 1))) = pc s2 s1 xs) := by have := HP2.out; unfold Hid; simpa using this
              clear HP2 hR hy hk3
              have HPl : Hid (pre ++ [((q, x1), false)] ++ [((x1, x2), true)] ++ pc s2 x2 (xs.drop (k + 1)) = pc s2 s1 xs) := by have := HP3.out; unfold Hid; simpa using this
              clear HP3
              obtain ⟨fn2, tmps2, assign2, body2, hy2, hR2⟩ := hY (pre ++ [((q, x1), false)]) ((x1, x2), true) W3 hJ3 (by rw [← HPl.out]; simp; try omega) (by rw [← HPl.out]; simp)
              gi_wp2
              refine hR2.mono ?_
              rintro e W5 (⟨rfl, hJ5, hk5⟩ | ⟨rfl, hJx5⟩)
              · have HS5 : Hid (W5.heap[Bs]? = some (.cells #[.int .i64 s1, .int .i64 s2] 90 (0, 0))) := hk5.blk.trans HS3
                have HB5 : Hid (BlK K W W5) := (HB3).trans hk5.low
                have HJ5 : Hid (J (pre ++ [((q, x1), false)] ++ [((x1, x2), true)]) W5) := hJ5
                clear hJ5 hk5
                gi_wp2
                go_roundw
                case rel => exact ⟨k + 1, x2, _, by omega, by go_num, rfl, HPl.out, HJ5.out, HS5.out, HB5.out⟩
                case measure => simp [intOf]; omega
              · gi_wp2
                refine bodyPost_ret (results_none rfl _ _ _) rfl ?_
                exact ⟨⟨_, rfl⟩, .inr ⟨_, ⟨_, HPl.out⟩, hJx5⟩⟩
            · gi_wp2
              refine bodyPost_ret (results_none rfl _ _ _) rfl ?_
              exact ⟨⟨_, rfl⟩, .inr ⟨_, ⟨(((x1, x2), true) :: pc s2 x2 (xs.drop (k + 1))), by have := HP2.out; simpa using this⟩, hJx3⟩⟩
        · by_cases hA : s2 ≤ x1
          · have HP2 : Hid (pre ++ pc s2 q (xs.drop (k + 1)) = pc s2 s1 xs) := by have := HP.out; rw [pc_skip (by simp only; omega)] at this; exact this
            clear HP
            gi_wp2
            gi_quiet (fail)
            gi_wp2
            go_roundw
            case rel => exact ⟨k + 1, q, pre, by omega, by go_num, rfl, HP2.out, HJA.out _, HSA.out _, HBA.out _⟩
            case measure => simp [intOf]; omega
          · have HP2 : Hid (pre ++ (((q, x1), false) :: ((x1, s2), true) :: pc s2 s2 (xs.drop (k + 1))) = pc s2 s1 xs) := by
              have := HP.out; rw [pc_gap (by simp only; omega) (by simp only; omega)] at this; simp only at this; rw [show min x2 s2 = s2 from by omega] at this; exact this
            clear HP
            gi_wp2
            gi_quiet (fail)
            obtain ⟨fn, tmps, assign, body, hy, hR⟩ := hY pre ((q, x1), false) ((wr.alloc (.cells #[.int .i64 x1, .int .i64 x2] 90)).drewN nq) (HJA.out _) (by rw [← HP2.out]; simp) (by rw [← HP2.out]; simp)
            gi_wp2
            refine hR.mono ?_
            rintro e W3 (⟨rfl, hJ3, hk3⟩ | ⟨rfl, hJx3⟩)
            · have HS3 := hk3.blk.trans (HSA.out nq)
              have HB3 := (HBA.out nq).trans hk3.low
              have HP3 : Hid (pre ++ [((q, x1), false)] ++ (((x1, s2), true) :: pc s2 s2 (xs.drop (k + 1))) = pc s2 s1 xs) := by have := HP2.out; unfold Hid; simpa using this
              clear HP2 hR hy hk3
              have HPl : Hid (pre ++ [((q, x1), false)] ++ [((x1, s2), true)] ++ pc s2 s2 (xs.drop (k + 1)) = pc s2 s1 xs) := by have := HP3.out; unfold Hid; simpa using this
              clear HP3
              obtain ⟨fn2, tmps2, assign2, body2, hy2, hR2⟩ := hY (pre ++ [((q, x1), false)]) ((x1, s2), true) W3 hJ3 (by rw [← HPl.out]; simp; try omega) (by rw [← HPl.out]; simp)
              gi_wp2
              refine hR2.mono ?_
              rintro e W5 (⟨rfl, hJ5, hk5⟩ | ⟨rfl, hJx5⟩)
              · have HS5 : Hid (W5.heap[Bs]? = some (.cells #[.int .i64 s1, .int .i64 s2] 90 (0, 0))) := hk5.blk.trans HS3
                have HB5 : Hid (BlK K W W5) := (HB3).trans hk5.low
                have HJ5 : Hid (J (pre ++ [((q, x1), false)] ++ [((x1, s2), true)]) W5) := hJ5
                clear hJ5 hk5
                gi_wp2
                go_roundw
                case rel => exact ⟨k + 1, s2, _, by omega, by go_num, rfl, HPl.out, HJ5.out, HS5.out, HB5.out⟩
                case measure => simp [intOf]; omega
              · gi_wp2
                refine bodyPost_ret (results_none rfl _ _ _) rfl ?_
                exact ⟨⟨_, rfl⟩, .inr ⟨_, ⟨_, HPl.out⟩, hJx5⟩⟩
            · gi_wp2
              refine bodyPost_ret (results_none rfl _ _ _) rfl ?_
              exact ⟨⟨_, rfl⟩, .inr ⟨_, ⟨(((x1, s2), true) :: pc s2 s2 (xs.drop (k + 1))), by have := HP2.out; simpa using this⟩, hJx3⟩⟩
    · have hkn : k = xs.length := by omega
      have HP2 : Hid (pre ++ (if q < s2 then [((q, s2), false)] else []) = pc s2 s1 xs) := by have := HP.out; rw [hkn, List.drop_length] at this; exact this
      clear HP HS HL HBe
      subst hkn
      by_cases hq : q < s2
      · rw [if_pos hq] at HP2
        obtain ⟨fn, tmps, assign, body, hy, hR⟩ := hY pre ((q, s2), false) wr HJ.out (by rw [← HP2.out]; simp) (by rw [← HP2.out]; simp)
        gi_wp2
        refine hR.mono ?_
        rintro e W3 (⟨rfl, hJ3, hk3⟩ | ⟨rfl, hJx3⟩)
        · gi_wp2
          go_end0
          exact ⟨⟨_, rfl⟩, .inl ⟨_, HP2.out, hJ3⟩⟩
        · gi_wp2
          go_end0
          exact ⟨⟨_, rfl⟩, .inr ⟨_, ⟨[], by have := HP2.out; simpa using this⟩, hJx3⟩⟩
      · rw [if_neg hq] at HP2
        have HJ2 : Hid (J (pc s2 s1 xs) wr) := by have h := HP2.out; simp at h; rw [← h]; exact HJ.out
        gi_wp2
        go_end0
        exact ⟨⟨_, rfl⟩, .inl HJ2.out⟩

end Go.Proofs.YtillgoegiplmkaaGreatDoor.C

namespace Go.Proofs.YtillgoegiplmkaaGreatDoor.C
open Go.RowKit Go.Shelf
attribute [local go_sem] Oper.semAt_some
set_option linter.unusedVariables false

/-- The pieces hang on what lies within alone. -/
theorem pc_within {hi : Int} : ∀ {l : List Sp} {p : Int}, pc hi p (pick true (pc hi p l)) = pc hi p l
  | [], p => by
    simp only [pc]
    split
    · simp [pick, pc, *]
    · simp [pick, pc, *]
  | x :: r, p => by
    by_cases h : min x.2 hi ≤ max x.1 p
    · rw [pc_skip h]; exact pc_within
    · by_cases hp : p < x.1
      · rw [pc_gap h hp]
        have e : pick true (((p, x.1), false) :: ((x.1, min x.2 hi), true) :: pc hi (min x.2 hi) r) = (x.1, min x.2 hi) :: pick true (pc hi (min x.2 hi) r) := by simp [pick]
        rw [e, pc_gap (x := (x.1, min x.2 hi)) (by simp only; omega) hp]
        simp only
        rw [show min (min x.2 hi) hi = min x.2 hi by omega, pc_within]
      · rw [pc_on h (by omega)]
        have e : pick true (((p, min x.2 hi), true) :: pc hi (min x.2 hi) r) = (p, min x.2 hi) :: pick true (pc hi (min x.2 hi) r) := by simp [pick]
        rw [e, pc_on (x := (p, min x.2 hi)) (by simp only; omega) (by simp only; omega)]
        simp only
        rw [show min (min x.2 hi) hi = min x.2 hi by omega, pc_within]

/-- The iterator, where what is done with a piece hangs on its being one, and where a body may write what is none of its list's blocks. -/
theorem piecesK_mem (n : Nat) (hn : 1 ≤ n) (Bs Bl : Nat) (K : Nat → Prop) (a : Option Addr) (c : Nat) (xs : List Sp) (s1 s2 : Int) (hm : xs.length ≤ 1048576) (w : World)
    (hBs : w.heap[Bs]? = some (.cells #[.int .i64 s1, .int .i64 s2] 90 (0, 0))) (hBl : w.cell? ⟨Bl, 0, none⟩ = some (.slice a xs.length c)) (hL : SpK K w a xs) :
    SeqStopsK Fence.wide n Tryz.prog 181 #[.pointer (some ⟨Bs, 0, none⟩), .pointer (some ⟨Bl, 0, none⟩)] (fun x : { x : Pz // x ∈ pc s2 s1 xs } => #[Value.agg #[.int .i64 x.1.1.1, .int .i64 x.1.1.2], .bool x.1.2]) (KpK K Bs) (fun ys => ys.map Subtype.val = pc s2 s1 xs) (fun _ => True) (pc s2 s1 xs).length w := by
  intro l J Jx W hW hJ _ hY h0
  have hJ' : AbidesFrom W.heap.size (fun (pre : List Pz) V => ∃ pre' : List { x : Pz // x ∈ pc s2 s1 xs }, pre'.map Subtype.val = pre ∧ J pre' V) := by
    intro pre X Y row h hg hr
    obtain ⟨p, hp, hx⟩ := h
    exact ⟨p, hp, hJ p X Y row hx hg hr⟩
  refine (pieces1K n hn l Bs Bl K a c xs s1 s2 hm (fun pre V => ∃ pre' : List { x : Pz // x ∈ pc s2 s1 xs }, pre'.map Subtype.val = pre ∧ J pre' V) (fun pre V => ∃ pre' : List { x : Pz // x ∈ pc s2 s1 xs }, pre'.map Subtype.val = pre ∧ Jx pre' V) W hJ' ?_ ((hW.block Bs (Array.getElem?_eq_some_iff.1 hBs).1).trans hBs) (cell_below hBl hW) (hL.keep (.of_below hW)) ⟨[], rfl, h0⟩).mono ?_
  · rintro pre x W1 ⟨p, rfl, hp⟩ hlt hx
    obtain ⟨fn, tmps, assign, body, hy, hR⟩ := hY p ⟨x, hx⟩ W1 hp (by simpa using hlt)
    refine ⟨fn, tmps, assign, body, hy, hR.mono ?_⟩
    rintro e W' (⟨rfl, h2, h3⟩ | ⟨rfl, h2⟩)
    · exact .inl ⟨rfl, ⟨_, by simp, h2⟩, h3⟩
    · exact .inr ⟨rfl, ⟨_, by simp, h2⟩⟩
  · rintro e W' ⟨hv, ⟨ys, rfl, p, hp, h2⟩ | ⟨pre, _, p, _, h2⟩⟩
    · exact ⟨hv, .inl ⟨p, hp, h2⟩⟩
    · exact ⟨hv, .inr ⟨p, trivial, h2⟩⟩
theorem kpK_put {b N : Nat} {K : Nat → Prop} (hK : ∀ k, K k → k < N) (hb : b < N) (W : World) (l : Nat) (o o' : Obj) (hl : N ≤ l) (h : W.heap[l]? = some o) (h1 : o.isCells = false) (h2 : o.isWalk = false) : KpK K b W (W.putObj l o') :=
  ⟨⟨by simp [World.putObj], fun k hk _ => World.putObj_heap_other (by have := hK k hk; omega)⟩, World.putObj_heap_other (by omega)⟩

theorem copy_op2 {P : Program} {ops : Array Oper} {Q : Exit → Act → World → Prop} {i : Nat} {K : Act → World → Prop} {a : Act} {w : World} {o : Oper} (hi : ops[i]? = some o) (hgd : o.guard = none) (d s : Operand) (dT sT : TypeId)
    (hop : o.op = Op.call { callee := Callee.builtin Builtin.copy, args := #[d, s], argTypes := #[dT, sT] }) (elem : TypeId) (g of dLen dCap : Nat) (ad : Addr) (sLen sCap : Nat) (cur : Array Value) (t : TypeId) (cs : List Value)
    (hd : a.eval d = .slice (some ⟨g, of, none⟩) dLen dCap) (hs : a.eval s = .slice (some ad) sLen sCap) (hu : P.underlying dT = some (.slice elem)) (hz : (P.info? elem).map (·.size) = some 1)
    (hg : w.heap[g]? = some (.cells cur t (0, 0))) (hn : cs.length = Nat.min sLen dLen) (hsrc : ∀ j v, cs[j]? = some v → w.cell? (ad.add j) = some v) (hfit : of + cs.length ≤ cur.size) (h1 : ∀ v ∈ cs, v.oneCell' = true)
    (hK : K (a.put o.dst (goInt cs.length)) (w.setRow g (cur.toList.take of ++ cs ++ cur.toList.drop (of + cs.length)).toArray)) : wpOp P ops Q i K a w := by
  unfold wpOp
  simp only [hi]
  have hw : Region.wanted o (yielded ops a.tmps) = true := by simp [Region.wanted, hgd]
  rw [if_pos hw]
  left
  have hrun := run_copy_row P w dT sT o.type elem g of dLen dCap ad sLen sCap cur t cs hu hz hg hn hsrc hfit h1
  unfold Oper.wp
  simp [execOp, hop, resolve, invoke, builtin, hd, hs, hrun, Result.andThen]
  rw [List.append_assoc] at hK
  exact hK
theorem Tryz.info_u8 : (Tryz.prog.info? 5).map (·.size) = some 1 := by kernel_rfl

end Go.Proofs.YtillgoegiplmkaaGreatDoor.C

namespace Go.Proofs.YtillgoegiplmkaaGreatDoor.C
open Go.RowKit Go.Shelf
attribute [local go_sem] Oper.semAt_some
set_option linter.unusedVariables false

/-- An outcome that is no panic. -/
def calmB (Q : Exit → Act → World → Prop) : Exit → Act → World → Prop
  | .panic _, _, _ => False
  | e, a, w => Q e a w
theorem calmB_le {Q : Exit → Act → World → Prop} {e : Exit} {a : Act} {w : World} (h : calmB Q e a w) : Q e a w := by
  cases e <;> first | exact h | exact h.elim

/-- The same but for the heap. -/
def Ox (w w' : World) : Prop := w'.os = w.os ∧ w'.tape = w.tape ∧ w'.output = w.output
theorem own_same0 {w w' : World} {base size n : Nat} {e : TypeId} {v : Value} {xs : List Value} (h : w.ownsRow base e size v n xs) (hg : ∀ k, v.ownBlock = some k → w'.heap[k]? = w.heap[k]?) : w'.ownsRow base e size v n xs := by
  obtain ⟨hl, h | ⟨g, cap, cur, rfl, hb, hh, r⟩⟩ := h
  · exact ⟨hl, .inl h⟩
  · exact ⟨hl, .inr ⟨g, cap, cur, rfl, hb, (hg g rfl).trans hh, r⟩⟩
theorem SOwn.spK2 {W : World} {base n c : Nat} {a : Option Addr} {l : List Sp} (h : SOwn W base (.slice a n c) l) : SpK (fun k => ∃ x, a = some x ∧ x.block = k) W a l := ⟨h.spa, fun _ x hx => ⟨x, hx, rfl⟩⟩
/-- What the loop of clash keeps. -/
structure CJ (N0 Nb Bs : Nat) (W0 : World) (p : Int → Bool) (f t : Int) (pre : List Pz) (W : World) : Prop where
  nb : W.heap[Nb]? = some (.cells #[.int .i64 (clp p pre)] 3 (0, 0))
  sb : W.heap[Bs]? = some (.cells #[.int .i64 f, .int .i64 t] 90 (0, 0))
  low : Below N0 W0 W
/-- The inner loop: nothing but the count has changed. -/
structure CK (Nb : Nat) (W : World) (c : Int) (wr : World) : Prop where
  gr : W.grownBy wr (some Nb)
  sz : wr.heap.size = W.heap.size
  nb : wr.heap[Nb]? = some (.cells #[.int .i64 c] 3 (0, 0))
end Go.Proofs.YtillgoegiplmkaaGreatDoor.C

namespace Go.Proofs.YtillgoegiplmkaaGreatDoor.C
open Go.RowKit Go.Shelf
attribute [local go_sem] Oper.semAt_some
set_option linter.unusedVariables false

theorem zeroCells_one (z : Value) (m : Nat) (h : z.cells = #[z]) : (Builtin.zeroCells z.cells m).toList = List.replicate m z := by
  rw [h]
  have hs : (Builtin.zeroCells #[z] m).toList.length = m := by rw [Array.length_toList, size_zeroCells]; simp
  refine List.eq_replicate_iff.mpr ⟨hs, fun x hx => ?_⟩
  rw [Array.mem_toList_iff] at hx
  simp [Builtin.zeroCells] at hx
  obtain ⟨i, hi, rfl⟩ := hx
  rw [show i % 1 = 0 from Nat.mod_one i]; rfl

/-- An append of so many zeros to a row of one's own. -/
theorem run_append_zeros_own {P : Program} (w : World) (base : Nat) (t u ty e : TypeId) (i : TypeInfo) (z : Value) (ht : P.underlying t = some (.slice e)) (hu : P.underlying u = some (.int .i64)) (hi : P.info? e = some i) (hz : i.zero = some z) (hsize : i.size = 1) (hby : i.bytes = 1) (hzc : z.cells = #[z]) (hz1 : z.oneCell' = true)
    (v : Value) (n : Nat) (xs : List Value) (hown : w.ownsRow base e 1 v n xs) (m : Nat) (h0 : 0 < m) (hb : n + m ≤ 1048576) (hbase : base ≤ w.heap.size) :
    ∃ v' w', (Builtin.append_ #[t, u] ty #[v, .int .i64 m]).run P w = .ok v' w' ∧ w'.ownsRow base e 1 v' (n + m) (xs ++ List.replicate m z) ∧ w.grownBy w' v.ownBlock ∧ (v'.ownBlock = v.ownBlock ∨ v'.ownBlock = some w.heap.size) := by
  have hmx : n + m ≤ maxLen := by simp only [maxLen]; omega
  have hlen : (xs ++ List.replicate m z).length = (n + m) * 1 := by rw [List.length_append, hown.1, List.length_replicate]; omega
  have hzl : (Builtin.zeroCells z.cells m).toList = List.replicate m z := zeroCells_one z m hzc
  have hza : Builtin.zeroCells z.cells m = (List.replicate m z).toArray := by rw [← hzl]
  have grown : ∀ (old : Nat) (row : Option Nat), old < n + m →
      (w.drew.alloc (.cells (xs.toArray ++ Builtin.zeroCells z.cells m ++ Builtin.zeroCells z.cells (grownCap w (n + m) old e - (n + m))) e)).ownsRow base e 1 (.slice (some ⟨w.heap.size, 0, none⟩) (n + m) (grownCap w (n + m) old e)) (n + m) (xs ++ List.replicate m z) ∧
      w.grownBy (w.drew.alloc (.cells (xs.toArray ++ Builtin.zeroCells z.cells m ++ Builtin.zeroCells z.cells (grownCap w (n + m) old e - (n + m))) e)) row := by
    intro old row ho
    have hge := grownCap_ge w (n + m) old e
    have hcm : grownCap w (n + m) old e ≤ maxLen := grownCap_le_maxLen w (n + m) old e hmx
    refine ⟨⟨hlen, .inr ⟨w.heap.size, _, _, rfl, hbase, heap_alloc_new w.drew _, hge, hcm, ?_, ?_⟩⟩, ⟨rfl, rfl, rfl, by simp, fun k hk _ => Below.heap_alloc w.drew _ k hk⟩⟩
    · rw [hza]
      simp only [Array.size_append, List.size_toArray, size_zeroCells, hown.1, List.length_replicate, hzc]
      show n * 1 + m + (_ * 1) = _ * 1
      omega
    · rw [hza]
      simp only [Array.toList_append, List.append_assoc]
      rw [← List.append_assoc, ← hlen]
      exact List.take_left
  rcases hown.2 with ⟨rfl, rfl⟩ | ⟨g, cap, cur, rfl, hbg, hg, hnc, hcm, hcs, htake⟩
  · have hx : xs = [] := List.eq_nil_of_length_eq_zero (by simpa using hown.1)
    subst hx
    have hgr := grown 0 (Value.ownBlock (.slice none 0 0)) (by omega)
    have hr := Lib.run_append_grow_zeros (P := P) w t u ty e i z .i64 .i64 ht hu hi hz none 0 0 [] (by simp [Builtin.firstCells]) m h0 (by omega) (by omega) (by omega) (by rw [hby]; omega) (growslice_fits (by omega) (by rw [hby]; omega))
    exact ⟨_, _, hr, hgr.1, hgr.2, .inr rfl⟩
  · by_cases hroom : n + m ≤ cap
    · have hst := run_storeCells_at P g n e (List.replicate m z) 0 cur w hg (by rw [List.length_replicate, hcs]; omega) (fun v hv => by rw [(List.mem_replicate.mp hv).2]; exact hz1)
      simp only [Nat.add_zero] at hst
      have hw : IntKind.i64.wrap (m : Int) = m := by rw [IntKind.wrap_i64]; omega
      have hneg : ¬ ((m : Int) < 0) := by omega
      have h48 : ¬ (281474976710656 < (m : Int)) := by omega
      have hm0 : m ≠ 0 := by omega
      have hr : (Builtin.append_ #[t, u] ty #[.slice (some ⟨g, 0, none⟩) n cap, .int .i64 m]).run P w = .ok (.slice (some ⟨g, 0, none⟩) (n + m) cap) (w.setRow g (cur.toList.take n ++ List.replicate m z ++ cur.toList.drop (n + (List.replicate m z).length)).toArray) := by
        simp [Builtin.append_, run_underlying ht, run_underlying hu, sizeOf, typeInfo, zeroValue, hi, hz, asInt, asIntOf, hw, hneg, h48, hsize, hby, hroom, hm0, hzl, Addr.add_lit]
        rw [hst]
        simp
      refine ⟨_, _, hr, ⟨hlen, .inr ⟨g, cap, _, rfl, hbg, setRow_heap w g cur _ e _ hg, hroom, hcm, ?_, ?_⟩⟩, ⟨rfl, rfl, rfl, by simp, fun k _ hk => setRow_other w g k _ (fun e => hk (by simp [Value.ownBlock, e]))⟩, .inl rfl⟩
      · simp only [List.size_toArray, List.length_append, List.length_take, List.length_drop, Array.length_toList, List.length_replicate]
        omega
      · have ht2 : cur.toList.take n = xs := by rw [← htake]; congr 1; omega
        rw [ht2, ← hlen]
        exact List.take_left
    · have holds : ∀ j u, xs[j]? = some u → w.drew.cell? ((⟨g, 0, none⟩ : Addr).add j) = some u := hown.cells (g := g) rfl
      have hf := run_firstCells_some (P := P) w.drew i.size n ⟨g, 0, none⟩ n cap xs (by rw [hsize]; exact hown.1) holds
      have hgr := grown cap (Value.ownBlock (.slice (some ⟨g, 0, none⟩) n cap)) (by omega)
      have hr := Lib.run_append_grow_zeros (P := P) w t u ty e i z .i64 .i64 ht hu hi hz (some ⟨g, 0, none⟩) n cap xs hf m h0 (by omega) (by omega) (by omega) (by rw [hby]; omega) (growslice_fits (by omega) (by rw [hby]; omega))
      exact ⟨_, _, hr, hgr.1, hgr.2, .inr rfl⟩

end Go.Proofs.YtillgoegiplmkaaGreatDoor.C
