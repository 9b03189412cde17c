import Derived.Test.YtbehliigemoblaaAll
import Derived.Test.YtbehliigemoblaaParts
namespace Go.Proofs.Ytbehliigemoblaa
open Go.RowKit

theorem Try.info_u64s : (Try.prog.info? 31).map (fun i => (i.zero, i.size, i.bytes)) = some (some (.slice none 0 0), 1, 24) := by kernel_rfl

theorem one_mark (W : World) (k : IntKind) (t : TypeId) (c : Int) : ∀ j, j < 1 → (W.alloc (.cells #[.int k c] t)).cell? ((⟨W.heap.size, 0, none⟩ : Addr).add j) = some (.int k c) := by
  intro j hj
  obtain rfl : j = 0 := by omega
  simp [Addr.add]

theorem two_cells (W : World) (t : TypeId) (x y : Value) : ∀ j u, [x, y][j]? = some u → (W.alloc (.cells #[x, y] t)).cell? ((⟨W.heap.size, 0, none⟩ : Addr).add j) = some u := by
  intro j u hj
  match j, hj with
  | 0, hj => simp at hj; subst hj; simp [Addr.add]
  | 1, hj => simp at hj; subst hj; simp [Addr.add]
  | j + 2, hj => simp at hj

set_option maxHeartbeats 4000000 in
theorem mine_any (w : World) (R bR capR B : Nat) (rw : Nat → Rw) (hg : Given w 27 .u64 R bR B rw) (hR : 0 < R) (hR2 : R ≤ 1000) (hn : ∀ i, i < R → (rw i).n ≤ 2097152) :
    Calls Try.prog 24 #[.slice (some ⟨bR, 0, none⟩) R capR] w fun e w' => e = .returned (.bool true) ∧ Below B w w' := by
  obtain ⟨i0, hi, hz0, hz1, hz2⟩ := info_parts Try.info_u64
  obtain ⟨i1, hi', hz0', hz1', hz2'⟩ := info_parts Try.info_u64s
  have HG : Hid (Given w 27 .u64 R bR B rw) := hg
  have HNn : Hid (∀ i, i < R → (rw i).n ≤ 2097152) := hn
  clear hg hn
  go_enter Try.func24, Try.ntmps24
  go_wp2
  go_loopw [3] (fun i wr => ∃ n : Nat, n ≤ R ∧ i = .int .i64 n ∧ Fill w wr 27 .u64 R bR B rw n) (fun i _ => R - (intOf i).toNat)
  case atStart => exact ⟨0, Nat.zero_le _, rfl, HG.out.fill⟩
  case round =>
    obtain ⟨n, hn, rfl, hfill⟩ := hrel
    have HF : Hid (Fill w wr 27 .u64 R bR B rw n) := hfill
    clear hfill
    by_cases hlt : n < R
    · have hi1 : (n : Int) < (R : Int) := by omega
      have hrn := HNn.out n hlt
      go_wp2
      go_loopw [4] (fun q wr' => ∃ j : Nat, j ≤ (rw n).n ∧ q = .int .i64 j ∧ Filling w wr' 27 .u64 R bR B rw n j) (fun q _ => (rw n).n - (intOf q).toNat)
      case atStart => exact ⟨0, Nat.zero_le _, rfl, HF.out.filling hlt⟩
      case round =>
        obtain ⟨j, hj, rfl, hfl⟩ := hrel
        have HFl : Hid (Filling w wr 27 .u64 R bR B rw n j) := hfl
        have hcell : wr.cell? ⟨bR, n, none⟩ = some (.slice (adr (rw n)) (rw n).n (rw n).cap) := hfl.cells HG.out hlt
        clear hfl HF
        by_cases hjl : j < (rw n).n
        · obtain ⟨g, v, ha, hb, hc, hf⟩ := HFl.out.here.any hjl
          rw [ha] at hcell
          have HS : Hid (Filling w (wr.setCell ⟨g, j, none⟩ (.int .u64 (1 + (n : Int)))) 27 .u64 R bR B rw n (j + 1)) := HFl.out.step HG.out hlt hjl hb
          clear ha hb HFl
          have hi2 : (j : Int) < ((rw n).n : Int) := by omega
          go_wp2
          go_roundw
          case rel => exact ⟨j + 1, by omega, by go_num, HS.out⟩
          case measure => simp [intOf]; omega
        · have hje : j = (rw n).n := by omega
          have HS : Hid (Fill w wr 27 .u64 R bR B rw (n + 1)) := by have := HFl.out; rw [hje] at this; exact this.fill
          clear HFl
          have hi2 : ((rw n).n : Int) ≤ (j : Int) := by omega
          clear hje
          go_wp2
          go_roundw
          case rel => exact ⟨n + 1, by omega, by go_num, HS.out⟩
          case measure => simp [intOf]; omega
    · have hnR : n = R := by omega
      obtain ⟨H, HL⟩ : ∃ H, Hid (Long w wr 27 31 .u64 R bR B 2 H rw 0 (.slice none 0 0) []) := ⟨wr.heap.size, by have := HF.out; rw [hnR] at this; exact this.long HG.out _ 2⟩
      clear HF hnR
      have hi1 : (R : Int) ≤ (n : Int) := by omega
      go_wp2
      clear hi1 hlt hn
      go_loopw [5, 6] (fun vl i wr => ∃ (n : Nat) (l : List Rw), n ≤ R ∧ i = .int .i64 n ∧ Long w wr 27 31 .u64 R bR B 2 H rw n vl l) (fun _ i _ => R - (intOf i).toNat)
      case atStart => exact ⟨0, [], Nat.zero_le _, rfl, HL.out⟩
      case round =>
        obtain ⟨n, l, hn, rfl, hlong⟩ := hrel
        have HL : Hid (Long w wr 27 31 .u64 R bR B 2 H rw n u5 l) := hlong
        by_cases hlt : n < R
        · have hcell : wr.cell? ⟨bR, n, none⟩ = some (.slice (adr (rw n)) (rw n).n (rw n).cap) := hlong.cells HG.out hlt (hlong.growing hlt) hlt
          have HGr : Hid (Growing wr wr 27 .u64 rw n (rw n)) := hlong.growing hlt
          have hi1 : (n : Int) < (R : Int) := by omega
          have hrn := HNn.out n hlt
          clear hlong
          go_wp2
          clear hcell hi1
          obtain ⟨ws, hws⟩ : ∃ ws, ws = wr := ⟨_, rfl⟩
          subst hws
          go_loopw [7, 8] (fun g q wr' => ∃ (j : Nat) (gr : Rw), j ≤ 40 ∧ q = .int .i64 j ∧ g = .slice (adr gr) gr.n gr.cap ∧ gr.n = (rw n).n + j ∧ Growing ws wr' 27 .u64 rw n gr) (fun _ q _ => 40 - (intOf q).toNat)
          case atStart => exact ⟨0, rw n, by omega, rfl, rfl, rfl, HGr.out⟩
          case round =>
            obtain ⟨j, gr, hj, rfl, rfl, hgn, hgr⟩ := hrel
            clear HGr
            have HGr : Hid (Growing ws wr 27 .u64 rw n gr) := hgr
            have HGn : Hid (gr.n = (rw n).n + j) := hgn
            have hgb : gr.n ≤ 2097192 := by omega
            by_cases hjl : j < 40
            · clear hgr hgn
              go_wp2_with (at_builtin; refine append_mark _ rfl (.tmp 49) (.tmp 53) 31 rfl 27 i0 (.int .u64 0) 8 Try.underlying31 hi hz0 hz1 hz2 rfl .u64 (1 + (n : Int)) gr rfl (HGr.out.alloc _).here ⟨wr.heap.size, 0, none⟩ 1 1 rfl (by decide) (one_mark _ _ _ _) (by omega) (by unfold maxLen; omega) ?_; intro g' cap' w1 hh hp hg1 hk1)
              have HS : Hid (Growing ws w1 27 .u64 rw n ⟨some g', gr.n + 1, cap'⟩) := (HGr.out.alloc _).step hh hp hg1 hk1
              clear hh hp hg1 hk1 HGr
              go_wp2
              go_roundw
              case rel => exact ⟨j + 1, ⟨some g', gr.n + 1, cap'⟩, by omega, by go_num, rfl, by have := HGn.out; simp only; omega, HS.out⟩
              case measure => simp [intOf]; omega
            · have hcell : wr.cell? ⟨bR, n, none⟩ = some (.slice (adr (rw n)) (rw n).n (rw n).cap) := HL.out.cells HG.out hlt hgr hlt
              have hown := HL.out.kept hlt (by decide) hgr
              clear hgr hgn
              have hi1 : (n : Int) < (R : Int) := by omega
              have hi2 : (40 : Int) ≤ (j : Int) := by omega
              go_wp2_with (at_builtin; refine wpList_append_own _ rfl (.tmp 55) (.tmp 61) 42 rfl H 31 i1 (.slice none 0 0) 1 24 Try.underlying42 hi' hz0' hz1' hz2' rfl (by decide) _ _ _ rfl (hown.alloc _) ⟨wr.heap.size, 0, none⟩ 2 2 [.slice (adr gr) gr.n gr.cap, .slice (adr (rw n)) (rw n).n (rw n).cap] rfl rfl (two_cells _ _ _ _) (by intro u hu; simp at hu; rcases hu with rfl | rfl <;> rfl) (by unfold maxLen; omega) (by omega) (by have := HL.out.size; have := HGr.out.old.size; simp; omega) ?_; intro v' w1 hown1 hg1 _)
              have HS : Hid (Long w w1 27 31 .u64 R bR B 2 H rw (n + 1) v' (l ++ ([gr] ++ [rw n]))) := HL.out.step HG.out hlt rfl (by decide) (by intro e he; simp at he; subst he; exact HGr.out) HGr.out.self hown1 hg1
              clear hown1 hg1 hown hcell HGr HGn
              go_wp2
              go_roundw
              case rel => exact ⟨n + 1, _, by omega, by go_num, HS.out⟩
              case measure => simp [intOf]; omega
        · have hnR : n = R := by omega
          subst hnR
          obtain ⟨g, cap, hv⟩ : ∃ g cap, u5 = .slice (some ⟨g, 0, none⟩) (2 * n) cap := by
            obtain ⟨_, ⟨_, h0⟩ | ⟨g, cap, _, hv, _⟩⟩ := hlong.own
            · omega
            · exact ⟨g, cap, hv⟩
          subst hv
          have HB : Hid (Below B w wr) := hlong.below
          have HE : Hid (∀ q, q < 2 * n → ∃ r : Rw, wr.cell? ⟨g, q, none⟩ = some (sv r) ∧ Has wr 27 .u64 r (1 + ((q / 2 : Nat) : Int)) r.n) := fun q hq => hlong.entry hq
          clear hlong HL
          go_wp2
          have HS : Hid (∀ r : Rw, ∀ c : Int, Has wr 27 .u64 r c r.n → r.n ≤ 9223372036854775807) := fun r c hh => by have := hh.size; unfold maxLen at this; omega
          go_loop [9] (fun i => ∃ q : Nat, q ≤ 2 * n ∧ i = .int .i64 q) (fun i => 2 * n - (intOf i).toNat)
          case atStart => exact ⟨0, Nat.zero_le _, rfl⟩
          case round =>
            obtain ⟨q, hq, rfl⟩ := hrel
            by_cases hql : q < 2 * n
            · obtain ⟨r, hc, hh⟩ := HE.out q hql
              have hcell : wr.cell? ⟨g, q, none⟩ = some (.slice (adr r) r.n r.cap) := hc
              have hrn := HS.out r _ hh
              rw [show ((q / 2 : Nat) : Int) = (q : Int) / 2 from by omega] at hh
              have HH : Hid (Has wr 27 .u64 r (1 + (q : Int) / 2) r.n) := hh
              clear hc hh
              have hi1 : (q : Int) < 2 * (n : Int) := by omega
              go_wp2
              go_loop [10] (fun i => ∃ j : Nat, j ≤ r.n ∧ i = .int .i64 j) (fun i => r.n - (intOf i).toNat)
              case atStart => exact ⟨0, Nat.zero_le _, rfl⟩
              case round =>
                obtain ⟨j, hj, rfl⟩ := hrel
                by_cases hjl : j < r.n
                · obtain ⟨g2, ha, _, hc2, _⟩ := HH.out.cell hjl (by omega)
                  rw [ha] at hcell
                  have hi2 : (j : Int) < (r.n : Int) := by omega
                  go_wp2
                  go_round
                  case rel => exact ⟨j + 1, by omega, by go_num⟩
                  case measure => simp [intOf]; omega
                · have hi2 : (r.n : Int) ≤ (j : Int) := by omega
                  go_wp2
                  go_round
                  case rel => exact ⟨q + 1, by omega, by go_num⟩
                  case measure => simp [intOf]; omega
            · have hi1 : 2 * (n : Int) ≤ (q : Int) := by omega
              go_wp2
              go_ret
              exact ⟨rfl, HB.out⟩

end Go.Proofs.Ytbehliigemoblaa
