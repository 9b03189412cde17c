import Derived.Test.YtbehliigemoblaaLent
import Derived.Test.YtbehliigemoblaaParts
namespace Go.Proofs.Ytbehliigemoblaa
open Go.RowKit

theorem Try.info_bytes : (Try.prog.info? 25).map (fun i => (i.zero, i.size, i.bytes)) = some (some (.slice none 0 0), 1, 24) := by kernel_rfl

theorem one_byte (W : World) (k : IntKind) (t : TypeId) (c : Int) : ∀ j, j < 1 → (W.alloc (.cells #[.int k c] t)).cell? ((⟨W.heap.size, 0, none⟩ : Addr).add j) = some (.int k c) := by
  intro j hj
  obtain rfl : j = 0 := by omega
  simp [Addr.add]

theorem three_cells (W : World) (t : TypeId) (x y z : Value) : ∀ j u, [x, y, z][j]? = some u → (W.alloc (.cells #[x, y, z] t)).cell? ((⟨W.heap.size, 0, none⟩ : Addr).add j) = some u := by
  intro j u hj
  match j, hj with
  | 0, hj => simp at hj; subst hj; simp [Addr.add]
  | 1, hj => simp at hj; subst hj; simp [Addr.add]
  | 2, hj => simp at hj; subst hj; simp [Addr.add]
  | j + 3, hj => simp at hj

theorem own_zero {W : World} {base g n : Nat} {t : TypeId} {xs : List Value} {k : IntKind} {c : Int} (h : W.ownsRow base t 1 (.slice (some ⟨g, 0, none⟩) n n) n xs) : Has W t k ⟨some g, n, n⟩ c 0 := by
  obtain ⟨_, ⟨hv, _⟩ | ⟨g', cap', cur, hv, hb, hg, h1, h2, h3, _⟩⟩ := h
  · cases hv
  · simp only [Value.slice.injEq, Option.some.injEq, Addr.mk.injEq, and_true, true_and] at hv
    obtain ⟨rfl, rfl⟩ := hv
    exact .inr ⟨g, cur, rfl, hg, by simpa using h3, h2, h1, fun j hj => by omega⟩

set_option maxHeartbeats 4000000 in
theorem owned_any (w : World) (R bR capR B : Nat) (rw : Nat → Rw) (hg : Given w 5 .u8 R bR B rw) (hR : 0 < R) (hR2 : R ≤ 203) (hn : ∀ i, i < R → (rw i).n ≤ 20971520) :
    Calls Try.prog 20 #[.slice (some ⟨bR, 0, none⟩) R capR] w fun e w' => e = .returned (.bool true) ∧ Below B w w' := by
  obtain ⟨i0, hi, hz0, hz1, hz2⟩ := info_parts Try.info_u8
  obtain ⟨i1, hi', hz0', hz1', hz2'⟩ := info_parts Try.info_bytes
  have HG : Hid (Given w 5 .u8 R bR B rw) := hg
  have HNn : Hid (∀ i, i < R → (rw i).n ≤ 20971520) := hn
  clear hg hn
  go_enter Try.func20, Try.ntmps20
  go_wp2
  go_loopw [3] (fun i wr => ∃ n : Nat, n ≤ R ∧ i = .int .i64 n ∧ Fill w wr 5 .u8 R bR B rw n) (fun i _ => R - (intOf i).toNat)
  case atStart => exact ⟨0, Nat.zero_le _, rfl, HG.out.fill⟩
  case round =>
    obtain ⟨n, hn, rfl, hfill⟩ := hrel
    have HF : Hid (Fill w wr 5 .u8 R bR B rw n) := hfill
    clear hfill
    by_cases hlt : n < R
    · have hi1 : (n : Int) < (R : Int) := by omega
      have hrn := HNn.out n hlt
      go_wp2
      go_loopw [4] (fun q wr' => ∃ j : Nat, j ≤ (rw n).n ∧ q = .int .i64 j ∧ Filling w wr' 5 .u8 R bR B rw n j) (fun q _ => (rw n).n - (intOf q).toNat)
      case atStart => exact ⟨0, Nat.zero_le _, rfl, HF.out.filling hlt⟩
      case round =>
        obtain ⟨j, hj, rfl, hfl⟩ := hrel
        have HFl : Hid (Filling w wr 5 .u8 R bR B rw n j) := hfl
        have hcell : wr.cell? ⟨bR, n, none⟩ = some (.slice (adr (rw n)) (rw n).n (rw n).cap) := hfl.cells HG.out hlt
        clear hfl HF
        by_cases hjl : j < (rw n).n
        · obtain ⟨g, v, ha, hb, hc, hf⟩ := HFl.out.here.any hjl
          rw [ha] at hcell
          have HS : Hid (Filling w (wr.setCell ⟨g, j, none⟩ (.int .u8 (1 + (n : Int)))) 5 .u8 R bR B rw n (j + 1)) := HFl.out.step HG.out hlt hjl hb
          clear ha hb HFl
          have hi2 : (j : Int) < ((rw n).n : Int) := by omega
          go_wp2
          go_roundw
          case rel => exact ⟨j + 1, by omega, by go_num, HS.out⟩
          case measure => simp [intOf]; omega
        · have hje : j = (rw n).n := by omega
          have HS : Hid (Fill w wr 5 .u8 R bR B rw (n + 1)) := by have := HFl.out; rw [hje] at this; exact this.fill
          clear HFl
          have hi2 : ((rw n).n : Int) ≤ (j : Int) := by omega
          clear hje
          go_wp2
          go_roundw
          case rel => exact ⟨n + 1, by omega, by go_num, HS.out⟩
          case measure => simp [intOf]; omega
    · have hnR : n = R := by omega
      obtain ⟨H, HL⟩ : ∃ H, Hid (Long w wr 5 25 .u8 R bR B 3 H rw 0 (.slice none 0 0) []) := ⟨wr.heap.size, by have := HF.out; rw [hnR] at this; exact this.long HG.out _ 3⟩
      clear HF hnR
      have hi1 : (R : Int) ≤ (n : Int) := by omega
      go_wp2
      clear hi1 hlt hn
      go_loopw [5, 6] (fun vl i wr => ∃ (n : Nat) (l : List Rw), n ≤ R ∧ i = .int .i64 n ∧ Long w wr 5 25 .u8 R bR B 3 H rw n vl l) (fun _ i _ => R - (intOf i).toNat)
      case atStart => exact ⟨0, [], Nat.zero_le _, rfl, HL.out⟩
      case round =>
        obtain ⟨n, l, hn, rfl, hlong⟩ := hrel
        have HL : Hid (Long w wr 5 25 .u8 R bR B 3 H rw n u5 l) := hlong
        by_cases hlt : n < R
        · have hcell : wr.cell? ⟨bR, n, none⟩ = some (.slice (adr (rw n)) (rw n).n (rw n).cap) := hlong.cells HG.out hlt (hlong.growing hlt) hlt
          have HGr : Hid (Growing wr wr 5 .u8 rw n (rw n)) := hlong.growing hlt
          have hi1 : (n : Int) < (R : Int) := by omega
          have hrn := HNn.out n hlt
          clear hlong
          go_wp2
          clear hcell hi1
          obtain ⟨ws, hws⟩ : ∃ ws, ws = wr := ⟨_, rfl⟩
          subst hws
          go_loopw [7, 8] (fun g q wr' => ∃ (j : Nat) (gr : Rw), j ≤ 20 ∧ q = .int .i64 j ∧ g = .slice (adr gr) gr.n gr.cap ∧ gr.n = (rw n).n + j ∧ Growing ws wr' 5 .u8 rw n gr) (fun _ q _ => 20 - (intOf q).toNat)
          case atStart => exact ⟨0, rw n, by omega, rfl, rfl, rfl, HGr.out⟩
          case round =>
            obtain ⟨j, gr, hj, rfl, rfl, hgn, hgr⟩ := hrel
            clear HGr
            have HGr : Hid (Growing ws wr 5 .u8 rw n gr) := hgr
            have HGn : Hid (gr.n = (rw n).n + j) := hgn
            have hgb : gr.n ≤ 20971540 := by omega
            by_cases hjl : j < 20
            · clear hgr hgn
              go_wp2_with (at_builtin; refine append_mark _ rfl (.tmp 52) (.tmp 56) 25 rfl 5 i0 (.int .u8 0) 1 Try.underlying25 hi hz0 hz1 hz2 rfl .u8 (1 + (n : Int)) gr rfl (HGr.out.alloc _).here ⟨wr.heap.size, 0, none⟩ 1 1 rfl (by decide) (one_byte _ _ _ _) (by omega) (by unfold maxLen; omega) ?_; intro g' cap' w1 hh hp hg1 hk1)
              have HS : Hid (Growing ws w1 5 .u8 rw n ⟨some g', gr.n + 1, cap'⟩) := (HGr.out.alloc _).step hh hp hg1 hk1
              clear hh hp hg1 hk1 HGr
              go_wp2
              go_roundw
              case rel => exact ⟨j + 1, ⟨some g', gr.n + 1, cap'⟩, by omega, by go_num, rfl, by have := HGn.out; simp only; omega, HS.out⟩
              case measure => simp [intOf]; omega
            · clear hgr hgn
              have hi2 : (20 : Int) ≤ (j : Int) := by omega
              go_wp2_with (at_make; refine wpList_make_full _ rfl _ _ 25 rfl wr.heap.size 5 i0 (.int .u8 0) 1 Try.underlying25 hi hz0 hz1 .i64 .i64 _ _ 70 rfl rfl (by omega) (by omega) (by rw [hz2]; omega) (by unfold maxLen; omega) (Nat.le_refl _) ?_; intro w1 hown1 hg1)
              obtain ⟨M, hM⟩ : ∃ M, M = wr.heap.size := ⟨_, rfl⟩
              have hM1 : ws.heap.size ≤ M := by rw [hM]; exact HGr.out.old.size
              have HMg : Hid (gr.blk ≠ some M) := fun e => by have := HGr.out.lt e; omega
              have HG1 : Hid (Growing ws w1 5 .u8 rw n gr) := HGr.out.keep (m := M) ⟨hg1.os, hg1.tape, hg1.output, hg1.size, fun b hb _ => hg1.block b hb (by simp)⟩ hM1 HMg.out
              have HMany : Hid (Has w1 5 .u8 ⟨some M, 70, 70⟩ (1 + (n : Int)) 0) := by rw [hM]; exact own_zero hown1
              rw [← hM]
              clear hown1 hg1 HGr hM
              go_wp2
              go_loopw [10] (fun q wr' => ∃ (j : Nat), j ≤ 70 ∧ q = .int .i64 j ∧ Growing ws wr' 5 .u8 rw n gr ∧ Has wr' 5 .u8 ⟨some M, 70, 70⟩ (1 + (n : Int)) j) (fun q _ => 70 - (intOf q).toNat)
              case atStart => exact ⟨0, by omega, rfl, HG1.out, HMany.out⟩
              case round =>
                obtain ⟨j, hj, rfl, hg2, hm2⟩ := hrel
                clear HG1 HMany
                by_cases hjl : j < 70
                · obtain ⟨g3, v3, ha3, hb3, hc3, hf3⟩ := hm2.any (j := j) hjl
                  simp only [Option.some.injEq] at hb3
                  subst hb3
                  have HS1 : Hid (Growing ws (wr.setCell ⟨M, j, none⟩ (.int .u8 (1 + (n : Int)))) 5 .u8 rw n gr) := hg2.keep (grown_set _ _ _ _) hM1 HMg.out
                  have HS2 : Hid (Has (wr.setCell ⟨M, j, none⟩ (.int .u8 (1 + (n : Int)))) 5 .u8 ⟨some M, 70, 70⟩ (1 + (n : Int)) (j + 1)) := hm2.store rfl hjl
                  clear ha3 hg2 hm2
                  have hi3 : (j : Int) < 70 := by omega
                  go_wp2
                  go_roundw
                  case rel => exact ⟨j + 1, by omega, by go_num, HS1.out, HS2.out⟩
                  case measure => simp [intOf]; omega
                · have hj70 : j = 70 := by omega
                  subst hj70
                  have hcell : wr.cell? ⟨bR, n, none⟩ = some (.slice (adr (rw n)) (rw n).n (rw n).cap) := HL.out.cells HG.out hlt hg2 hlt
                  have HG2 : Hid (Growing ws wr 5 .u8 rw n gr) := hg2
                  have HM2 : Hid (∀ j, j < 70 → wr.cell? ((⟨M, 0, none⟩ : Addr).add j) = some (.int .u8 (1 + (n : Int)))) := fun j hj => by
                    obtain ⟨g4, _, e4, c4, _⟩ := hm2.cell hj (by show 0 < 70; omega)
                    simp only [Option.some.injEq] at e4
                    subst e4
                    rw [show (⟨M, 0, none⟩ : Addr).add j = ⟨M, j, none⟩ from by unfold Addr.add; split <;> simp_all]
                    exact c4
                  clear hg2 hm2
                  have hi1 : (n : Int) < (R : Int) := by omega
                  go_wp2_with (first
                    | (at_builtin; refine append_mark _ rfl (.tmp 72) (.tmp 73) 25 rfl 5 i0 (.int .u8 0) 1 Try.underlying25 hi hz0 hz1 hz2 rfl .u8 (1 + (n : Int)) (rw n) rfl HG2.out.row ⟨M, 0, none⟩ 70 70 rfl (by decide) HM2.out (by omega) (by unfold maxLen; omega) ?_; intro g5 cap5 w5 hh5 hp5 hg5 hk5; have HH : Hid (Growing ws w5 5 .u8 rw n ⟨some g5, (rw n).n + 70, cap5⟩) := HG2.out.self.step hh5 hp5 hg5 hk5; have HG5 : Hid (Growing ws w5 5 .u8 rw n gr) := HG2.out.other hg5 (by have := HGn.out; omega) hk5; have hcell5 : w5.cell? ⟨bR, n, none⟩ = some (.slice (adr (rw n)) (rw n).n (rw n).cap) := HL.out.cells HG.out hlt HG5.out hlt; have hown := HL.out.kept hlt (by decide) HG5.out; clear hh5 hp5 hg5 hk5 HM2 HG2 hcell)
                    | (at_builtin; refine wpList_append_own _ rfl (.tmp 75) (.tmp 82) 33 rfl H 25 i1 (.slice none 0 0) 1 24 Try.underlying33 hi' hz0' hz1' hz2' rfl (by decide) _ _ _ rfl (hown.alloc _) ⟨w5.heap.size, 0, none⟩ 3 3 [.slice (adr gr) gr.n gr.cap, .slice (some ⟨g5, 0, none⟩) ((rw n).n + 70) cap5, .slice (adr (rw n)) (rw n).n (rw n).cap] rfl rfl (three_cells _ _ _ _ _) (by intro u hu; simp at hu; rcases hu with rfl | rfl | rfl <;> rfl) (by unfold maxLen; omega) (by omega) (by have := HL.out.size; have := HG5.out.old.size; simp; omega) ?_; intro v' w6 hown6 hg6 _))
                  have HS : Hid (Long w w6 5 25 .u8 R bR B 3 H rw (n + 1) v' (l ++ ([gr, ⟨some g5, (rw n).n + 70, cap5⟩] ++ [rw n]))) := HL.out.step HG.out hlt rfl (by decide) (by intro e he; simp at he; rcases he with rfl | rfl; exact HG5.out; exact HH.out) HG5.out.self hown6 hg6
                  clear hown6 hg6 hown hcell5 HG5 HH HGn
                  go_wp2
                  go_roundw
                  case rel => exact ⟨n + 1, _, by omega, by go_num, HS.out⟩
                  case measure => simp [intOf]; omega
        · have hnR : n = R := by omega
          subst hnR
          obtain ⟨g, cap, hv⟩ : ∃ g cap, u5 = .slice (some ⟨g, 0, none⟩) (3 * n) cap := by
            obtain ⟨_, ⟨_, h0⟩ | ⟨g, cap, _, hv, _⟩⟩ := hlong.own
            · omega
            · exact ⟨g, cap, hv⟩
          subst hv
          have HB : Hid (Below B w wr) := hlong.below
          have HE : Hid (∀ q, q < 3 * n → ∃ r : Rw, wr.cell? ⟨g, q, none⟩ = some (sv r) ∧ Has wr 5 .u8 r (1 + ((q / 3 : Nat) : Int)) r.n) := fun q hq => hlong.entry hq
          clear hlong HL
          go_wp2
          have HS : Hid (∀ r : Rw, ∀ c : Int, Has wr 5 .u8 r c r.n → r.n ≤ 9223372036854775807) := fun r c hh => by have := hh.size; unfold maxLen at this; omega
          go_loop [12] (fun i => ∃ q : Nat, q ≤ 3 * n ∧ i = .int .i64 q) (fun i => 3 * n - (intOf i).toNat)
          case atStart => exact ⟨0, Nat.zero_le _, rfl⟩
          case round =>
            obtain ⟨q, hq, rfl⟩ := hrel
            by_cases hql : q < 3 * n
            · obtain ⟨r, hc, hh⟩ := HE.out q hql
              have hcell : wr.cell? ⟨g, q, none⟩ = some (.slice (adr r) r.n r.cap) := hc
              have hrn := HS.out r _ hh
              rw [show ((q / 3 : Nat) : Int) = (q : Int) / 3 from by omega] at hh
              have HH : Hid (Has wr 5 .u8 r (1 + (q : Int) / 3) r.n) := hh
              clear hc hh
              have hi1 : (q : Int) < 3 * (n : Int) := by omega
              go_wp2
              go_loop [13] (fun i => ∃ j : Nat, j ≤ r.n ∧ i = .int .i64 j) (fun i => r.n - (intOf i).toNat)
              case atStart => exact ⟨0, Nat.zero_le _, rfl⟩
              case round =>
                obtain ⟨j, hj, rfl⟩ := hrel
                by_cases hjl : j < r.n
                · obtain ⟨g2, ha, _, hc2, _⟩ := HH.out.cell hjl (by omega)
                  rw [ha] at hcell
                  have hi2 : (j : Int) < (r.n : Int) := by omega
                  go_wp2
                  go_round
                  case rel => exact ⟨j + 1, by omega, by go_num⟩
                  case measure => simp [intOf]; omega
                · have hi2 : (r.n : Int) ≤ (j : Int) := by omega
                  go_wp2
                  go_round
                  case rel => exact ⟨q + 1, by omega, by go_num⟩
                  case measure => simp [intOf]; omega
            · have hi1 : 3 * (n : Int) ≤ (q : Int) := by omega
              go_wp2
              go_ret
              exact ⟨rfl, HB.out⟩

end Go.Proofs.Ytbehliigemoblaa
