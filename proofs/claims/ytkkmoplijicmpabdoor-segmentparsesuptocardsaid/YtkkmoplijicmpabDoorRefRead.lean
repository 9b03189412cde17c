import Derived.Test.YtkkmoplijicmpabDoorRead
namespace Go.Proofs.YtkkmoplijicmpabDoor
open Go.RowKit

theorem ref_range (v c : Int) (h : (18446744073709551615 - c % 128) / 128 < v) : 144115188075855871 < v := by omega
theorem ref_in (v c : Int) (h : v ≤ (18446744073709551615 - c % 128) / 128) : v ≤ 144115188075855871 := by omega
theorem ref_end (v i c : Int) (r : List Int) (h : i = 0 → (c == 128) = false) (hv : v ≤ (18446744073709551615 - c % 128) / 128) (hc : c < 128) (c0 : 0 ≤ c) (i1 : Int) (hi1 : i1 = i + 1) : rdGo v i (c :: r) = (128 * v + c % 128, i1, 0) := by
  rw [rdGo, if_neg (nform h), if_neg (by omega), if_pos hc, hi1, show v * 128 + c = 128 * v + c % 128 from by omega]
theorem ref_more (v i c : Int) (r : List Int) (h : i = 0 → (c == 128) = false) (hv : v ≤ (18446744073709551615 - c % 128) / 128) (hc : 128 ≤ c) (c1 : c ≤ 255) (h0 : 0 ≤ v) : 0 ≤ 128 * v + c % 128 ∧ 128 * v + c % 128 ≤ 18446744073709551615 ∧ rdGo v i (c :: r) = rdGo (128 * v + c % 128) (i + 1) r := by
  refine ⟨by omega, by omega, ?_⟩
  rw [rdGo, if_neg (nform h), if_neg (by omega), if_neg (by omega), show v * 128 + (c - 128) = 128 * v + c % 128 from by omega]

set_option maxHeartbeats 400000 in
theorem refread_some (b off : Nat) (zs : List Int) (cap : Nat) (w : World) (hb : Bytey zs) (hl : zs.length ≤ 140737488355328)
    (hc : ∀ i, i < zs.length → w.cell? ⟨b, off + i, none⟩ = some (.int .u8 (zs.getD i 0))) :
    Calls Tryd.prog 67 #[.slice (some ⟨b, off, none⟩) zs.length cap] w fun e w' => e = .returned (.tuple #[.int .u64 (rd zs).1, .int .i64 (rd zs).2.1, .int .i64 (rd zs).2.2]) ∧ w = w' := by
  have HB : Hid (Bytey zs) := hb
  clear hb
  go_enter Tryd.func67, Tryd.ntmps67
  go_wp2
  go_loop [5, 6] (fun n i => ∃ (k : Nat) (v : Int), k ≤ zs.length ∧ i = .int .i64 k ∧ n = .int .u64 v ∧ 0 ≤ v ∧ v ≤ 18446744073709551615 ∧ rdGo v k (zs.drop k) = rd zs) (fun _ i => zs.length - (intOf i).toNat)
  case atStart => exact ⟨0, 0, Nat.zero_le _, rfl, rfl, by omega, by omega, rfl⟩
  case round =>
    obtain ⟨k, v, hk, rfl, rfl, hv0, hv1, hrd⟩ := hrel
    have HR : Hid (rdGo v k (zs.drop k) = rd zs) := hrd
    clear hrd
    by_cases hlt : k < zs.length
    · have hcx := hc k hlt
      have hz : 0 ≤ zs.getD k 0 ∧ zs.getD k 0 ≤ 255 := by
        rw [List.getD_eq_getElem?_getD, List.getElem?_eq_getElem hlt]; exact HB.out _ (List.getElem_mem hlt)
      have HR2 : Hid (rdGo v k (zs.getD k 0 :: zs.drop (k + 1)) = rd zs) := by rw [← drop_cons zs k hlt]; exact HR.out
      generalize zs.getD k 0 = c at hcx hz HR2
      obtain ⟨hz0, hz1⟩ := hz
      clear HR hc
      by_cases hk0 : k = 0
      · subst hk0
        have hcx0 : w.cell? ⟨b, off, none⟩ = some (.int .u8 c) := hcx
        clear hcx
        go_wp2
        all_goals first
          | (go_ret3; exact ⟨ret3 (HR2.out.symm.trans (rd_form v _ c _ (by omega) (by assumption))), rfl⟩)
          | (go_ret3; exact ⟨ret3 (HR2.out.symm.trans (rd_range v _ c _ (fun h => by assumption) (ref_range v c (by assumption)))), rfl⟩)
          | (go_ret3; exact ⟨ret3 (HR2.out.symm.trans (ref_end v _ c _ (fun h => by assumption) (by assumption) (by assumption) hz0 _ (by omega))), rfl⟩)
          | skip
        all_goals
          have R := ref_more v 0 c (zs.drop 1) (fun h => by assumption) (by assumption) (by assumption) hz1 hv0
          go_round
          case rel => exact ⟨1, _, by omega, rfl, rfl, R.1, R.2.1, R.2.2.symm.trans HR2.out⟩
          case measure => simp [intOf]; omega
      · have hk0' : ((k : Int) == 0) = false := by simp; omega
        go_wp2
        all_goals first
          | (go_ret3; exact ⟨ret3 (HR2.out.symm.trans (rd_range v _ c _ (fun h => by omega) (ref_range v c (by assumption)))), rfl⟩)
          | (go_ret3; exact ⟨ret3 (HR2.out.symm.trans (ref_end v _ c _ (fun h => by omega) (by assumption) (by assumption) hz0 _ (by omega))), rfl⟩)
          | skip
        all_goals
          have R := ref_more v k c (zs.drop (k + 1)) (fun h => by omega) (by assumption) (by assumption) hz1 hv0
          go_round
          case rel => exact ⟨k + 1, _, by omega, congrArg (Value.int IntKind.i64) (by omega), rfl, R.1, R.2.1, R.2.2.symm.trans HR2.out⟩
          case measure => simp [intOf]; omega
    · have HE : Hid (rd zs = (0, 0, 10)) := by
        have := HR.out; rw [List.drop_eq_nil_of_le (by omega)] at this; exact this.symm
      clear HR
      go_wp2
      go_ret3
      exact ⟨ret3 HE.out, rfl⟩

set_option maxHeartbeats 400000 in
theorem refread_none (a : Option Addr) (cap : Nat) (w : World) :
    Calls Tryd.prog 67 #[.slice a 0 cap] w fun e w' => e = .returned (.tuple #[.int .u64 (rd []).1, .int .i64 (rd []).2.1, .int .i64 (rd []).2.2]) ∧ w = w' := by
  go_enter Tryd.func67, Tryd.ntmps67
  go_wp2
  refine wp_loop_rounds 1 ?_
  rw [rounds_succ]
  go_wp2
  go_ret3
  exact ⟨rfl, rfl⟩

theorem refread_any (a : Option Addr) (zs : List Int) (len cap : Nat) (w : World) (hb : Bytey zs) (hl : zs.length = len) (hm : len ≤ 140737488355328) (hc : Lies .u8 w a zs) :
    Calls Tryd.prog 67 #[.slice a len cap] w fun e w' => e = .returned (.tuple #[.int .u64 (rd zs).1, .int .i64 (rd zs).2.1, .int .i64 (rd zs).2.2]) ∧ w = w' := by
  subst hl
  rcases hc with rfl | ⟨b, off, rfl, hc⟩
  · exact refread_none a cap w
  · exact refread_some b off zs cap w hb hm hc

end Go.Proofs.YtkkmoplijicmpabDoor
