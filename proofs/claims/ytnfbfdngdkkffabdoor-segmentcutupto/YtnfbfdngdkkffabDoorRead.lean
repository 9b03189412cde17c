import Derived.Test.YtnfbfdngdkkffabDoorChecked
import Derived.Test.YtnfbfdngdkkffabDoorMath
import Derived.WalkKit
import Derived.WalkSpells
import Derived.WalkMore
import Derived.Deep.LoopGhost
import Derived.WalkLawsBesides
import Derived.Laws.BitsAllLaws
namespace Go.Proofs.YtnfbfdngdkkffabDoor
open Go.RowKit

/-- The bytes zs lie at a slice's head. -/
def Lies (k : IntKind) (w : World) (a : Option Addr) (zs : List Int) : Prop :=
  zs = [] ∨ ∃ b off, a = some ⟨b, off, none⟩ ∧ ∀ i, i < zs.length → w.cell? ⟨b, off + i, none⟩ = some (.int k (zs.getD i 0))

def Bytey (zs : List Int) : Prop := ∀ z ∈ zs, 0 ≤ z ∧ z ≤ 255

theorem or_join (v c : Int) (h0 : 0 ≤ v) (h1 : v ≤ 144115188075855871) (c0 : 0 ≤ c) (c1 : c < 128) : bits .or .u64 (v * 128) c = v * 128 + c := by
  rw [u64_or _ _ (by omega) (by omega) (by omega) (by omega)]
  obtain ⟨x, rfl⟩ : ∃ x : Nat, v = x := ⟨v.toNat, by omega⟩
  obtain ⟨y, rfl⟩ : ∃ y : Nat, c = y := ⟨c.toNat, by omega⟩
  rw [show ((x : Int) * 128).toNat = x * 128 from by omega, Int.toNat_natCast, nat_join 7 (x * 128) y (by omega) (by omega)]
  omega

theorem nform {i c : Int} (h : i = 0 → (c == 128) = false) : ¬ (i = 0 ∧ c = 128) := by
  rintro ⟨a, rfl⟩; exact absurd (h a) (by decide)
theorem rd_form (v i c : Int) (r : List Int) (hi : i = 0) (h : (c == 128) = true) : rdGo v i (c :: r) = (0, 0, 11) := by
  simp at h; simp [rdGo, h, hi]
theorem rd_range (v i c : Int) (r : List Int) (h : i = 0 → (c == 128) = false) (hv : 144115188075855871 < v) : rdGo v i (c :: r) = (0, 0, 12) := by
  rw [rdGo, if_neg (nform h), if_pos hv]
theorem rd_end (v i c : Int) (r : List Int) (h : i = 0 → (c == 128) = false) (h0 : 0 ≤ v) (hv : v ≤ 144115188075855871) (c0 : 0 ≤ c) (hc : c < 128) (i1 : Int) (hi1 : i1 = i + 1) : rdGo v i (c :: r) = (bits .or .u64 (v * 128) c, i1, 0) := by
  rw [rdGo, if_neg (nform h), if_neg (by omega), if_pos hc, or_join v c h0 hv c0 hc, hi1]
theorem rd_more (v i c : Int) (r : List Int) (h : i = 0 → (c == 128) = false) (h0 : 0 ≤ v) (hv : v ≤ 144115188075855871) (hc : 128 ≤ c) (c1 : c ≤ 255) : 0 ≤ bits .or .u64 (v * 128) (c - 128) ∧ bits .or .u64 (v * 128) (c - 128) ≤ 18446744073709551615 ∧ rdGo v i (c :: r) = rdGo (bits .or .u64 (v * 128) (c - 128)) (i + 1) r := by
  rw [or_join v (c - 128) h0 hv (by omega) (by omega)]
  refine ⟨by omega, by omega, ?_⟩
  rw [rdGo, if_neg (nform h), if_neg (by omega), if_neg (by omega)]

theorem ret3 {t : Int × Int × Int} {a b c : Int} (h : t = (a, b, c)) : Ending.returned (.tuple #[.int .u64 a, .int .i64 b, .int .i64 c]) = .returned (.tuple #[.int .u64 t.1, .int .i64 t.2.1, .int .i64 t.2.2]) := by subst h; rfl

theorem drop_cons (zs : List Int) (k : Nat) (h : k < zs.length) : zs.drop k = zs.getD k 0 :: zs.drop (k + 1) := by
  rw [List.drop_eq_getElem_cons h, List.getD_eq_getElem?_getD, List.getElem?_eq_getElem h]; rfl

set_option maxHeartbeats 400000 in
theorem read_some (b off : Nat) (zs : List Int) (cap : Nat) (w : World) (hb : Bytey zs) (hl : zs.length ≤ 140737488355328)
    (hc : ∀ i, i < zs.length → w.cell? ⟨b, off + i, none⟩ = some (.int .u8 (zs.getD i 0))) :
    Calls Tryd.prog 81 #[.slice (some ⟨b, off, none⟩) zs.length cap] w fun e w' => e = .returned (.tuple #[.int .u64 (rd zs).1, .int .i64 (rd zs).2.1, .int .i64 (rd zs).2.2]) ∧ w = w' := by
  have HB : Hid (Bytey zs) := hb
  clear hb
  go_enter Tryd.func81, Tryd.ntmps81
  go_wp2
  go_step3
  go_wp2
  go_step3
  go_wp2
  go_loop [5, 6, 11] (fun n f i => ∃ (k : Nat) (v : Int), k ≤ zs.length ∧ i = .int .i64 k ∧ f = .int .i64 10 ∧ n = .int .u64 v ∧ 0 ≤ v ∧ v ≤ 18446744073709551615 ∧ rdGo v k (zs.drop k) = rd zs) (fun _ _ i => zs.length - (intOf i).toNat)
  case atStart => exact ⟨0, 0, Nat.zero_le _, rfl, rfl, rfl, by omega, by omega, rfl⟩
  case round =>
    obtain ⟨k, v, hk, rfl, rfl, rfl, hv0, hv1, hrd⟩ := hrel
    have HR : Hid (rdGo v k (zs.drop k) = rd zs) := hrd
    clear hrd
    by_cases hlt : k < zs.length
    · have hcx := hc k hlt
      have hz : 0 ≤ zs.getD k 0 ∧ zs.getD k 0 ≤ 255 := by
        rw [List.getD_eq_getElem?_getD, List.getElem?_eq_getElem hlt]; exact HB.out _ (List.getElem_mem hlt)
      have HR2 : Hid (rdGo v k (zs.getD k 0 :: zs.drop (k + 1)) = rd zs) := by rw [← drop_cons zs k hlt]; exact HR.out
      generalize zs.getD k 0 = c at hcx hz HR2
      obtain ⟨hz0, hz1⟩ := hz
      clear HR hc
      go_wp2
      all_goals first
        | (go_ret3; exact ⟨ret3 (HR2.out.symm.trans (rd_form v _ c _ (by omega) (by assumption))), rfl⟩)
        | (go_ret3; exact ⟨ret3 (HR2.out.symm.trans (rd_range v _ c _ (fun h => by first | assumption | omega) (by assumption))), rfl⟩)
        | (go_ret3; exact ⟨ret3 (HR2.out.symm.trans (rd_end v _ c _ (fun h => by first | assumption | omega) hv0 (by assumption) hz0 (by assumption) _ (by omega))), rfl⟩)
        | skip
      all_goals
        have R := rd_more v k c (zs.drop (k + 1)) (fun h => by first | assumption | omega) hv0 (by assumption) (by assumption) hz1
        go_round
        case rel => exact ⟨k + 1, _, by omega, congrArg (Value.int IntKind.i64) (by omega), rfl, rfl, R.1, R.2.1, R.2.2.symm.trans HR2.out⟩
        case measure => simp [intOf]; omega
    · have HE : Hid (rd zs = (0, 0, 10)) := by
        have := HR.out; rw [List.drop_eq_nil_of_le (by omega)] at this; exact this.symm
      clear HR
      go_wp2
      go_ret3
      exact ⟨ret3 HE.out, rfl⟩

set_option maxHeartbeats 400000 in
theorem read_none (a : Option Addr) (cap : Nat) (w : World) :
    Calls Tryd.prog 81 #[.slice a 0 cap] w fun e w' => e = .returned (.tuple #[.int .u64 (rd []).1, .int .i64 (rd []).2.1, .int .i64 (rd []).2.2]) ∧ w = w' := by
  go_enter Tryd.func81, Tryd.ntmps81
  go_wp2
  go_step3
  go_wp2
  go_step3
  go_wp2
  refine wp_loop_rounds 1 ?_
  rw [rounds_succ]
  go_wp2
  rw [Exit.noGoto_ret]
  go_ret3
  exact ⟨rfl, rfl⟩

theorem read_any (a : Option Addr) (zs : List Int) (len cap : Nat) (w : World) (hb : Bytey zs) (hl : zs.length = len) (hm : len ≤ 140737488355328) (hc : Lies .u8 w a zs) :
    Calls Tryd.prog 81 #[.slice a len cap] w fun e w' => e = .returned (.tuple #[.int .u64 (rd zs).1, .int .i64 (rd zs).2.1, .int .i64 (rd zs).2.2]) ∧ w = w' := by
  subst hl
  rcases hc with rfl | ⟨b, off, rfl, hc⟩
  · exact read_none a cap w
  · exact read_some b off zs cap w hb hm hc

end Go.Proofs.YtnfbfdngdkkffabDoor
