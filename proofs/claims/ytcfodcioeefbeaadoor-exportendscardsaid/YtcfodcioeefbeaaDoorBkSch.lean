import Derived.Test.YtcfodcioeefbeaaDoorNums
import Derived.WalkKit
import Derived.WalkSpells
import Derived.WalkMore
import Derived.Deep.LoopGhost
import Derived.WalkLawsBesides
import Derived.Deep.RegionWith
import Derived.Deep.QuietTactic
import Derived.BigQuiet
import Derived.WalkSmall
import Derived.Test.YtcfodcioeefbeaaDoorBkMath
namespace Go.Proofs.YtcfodcioeefbeaaDoor
open Go.RowKit

abbrev knC (k : Pk) : Array Value := #[.int .i64 k.org, .int .i64 k.num, .int .i64 k.srv, .int .i64 k.size, .int .i64 k.red, .int .i64 k.mtu, .int .i64 k.every]
abbrev pcC (x : Pc) : Array Value := #[.int .i64 x.typ, .int .i64 x.frm, .int .i64 x.to, .int .i64 x.chk, .int .i64 x.rep]

/-! ## sort.Search -/

set_option maxHeartbeats 1000000 in
theorem search_any (Bf n : Nat) (p : Nat → Bool) (w : World) (hn : n ≤ 4096)
    (hf : ∀ (W : World) (i : Nat), Below w.heap.size w W → i < n → Calls Tryd.prog 38 #[.int .i64 i, .pointer (some ⟨Bf, 0, none⟩)] W fun e w' => e = .returned (.bool (p i)) ∧ Below W.heap.size W w')
    (hmono : ∀ a b, a ≤ b → b < n → p a = true → p b = true) :
    Calls Tryd.prog 37 #[.int .i64 n, .func (.func 38) #[] #[.pointer (some ⟨Bf, 0, none⟩)]] w fun e w' => (∃ r : Nat, e = .returned (.int .i64 r) ∧ r ≤ n ∧ (∀ i, i < r → p i = false) ∧ (∀ i, r ≤ i → i < n → p i = true)) ∧ Below w.heap.size w w' := by
  have HF : Hid (∀ (W : World) (i : Nat), Below w.heap.size w W → i < n → Calls Tryd.prog 38 #[.int .i64 i, .pointer (some ⟨Bf, 0, none⟩)] W fun e w' => e = .returned (.bool (p i)) ∧ Below W.heap.size W w') := hf
  have M : Hid (∀ a b, a ≤ b → b < n → p a = true → p b = true) := hmono
  clear hf hmono
  go_enter Tryd.func37, Tryd.ntmps37
  go_wp2
  go_loopg [5, 6] n (fun kx s5 s6 wr => ∃ (lo hi : Nat), s5 = .int .i64 lo ∧ s6 = .int .i64 hi ∧ lo ≤ hi ∧ hi ≤ n ∧ hi - lo ≤ kx ∧ Below w.heap.size w wr ∧
    Hid ((∀ t, t < lo → p t = false) ∧ (∀ t, hi ≤ t → t < n → p t = true)))
  case atStart => exact ⟨0, n, rfl, rfl, Nat.zero_le _, Nat.le_refl _, by omega, Below.refl _ _, (⟨fun t ht => absurd ht (Nat.not_lt_zero _), fun t h1 h2 => by omega⟩ : (∀ t, t < 0 → p t = false) ∧ (∀ t, n ≤ t → t < n → p t = true))⟩
  case round =>
    obtain ⟨lo, hi, rfl, rfl, hlh, hin, hg, hbe, I⟩ := hrel
    have HBe : Hid (Below w.heap.size w wr) := hbe
    clear hbe
    by_cases hlt : lo < hi
    · have hc := HF.out wr ((lo + hi) / 2) HBe.out (by omega)
      rw [show (((lo + hi) / 2 : Nat) : Int) = ((lo : Int) + (hi : Int)) / 2 by omega] at hc
      cases hp : p ((lo + hi) / 2) <;> rw [hp] at hc
      · have HP : Hid (p ((lo + hi) / 2) = false) := hp
        clear hp
        go_wp2_with fail
        refine hc.mono ?_
        rintro e w' ⟨rfl, hb⟩
        have HB2 : Hid (Below w.heap.size w w') := HBe.out.trans (hb.mono HBe.out.size)
        clear hb hc
        go_wp2
        go_roundg (hi - ((lo + hi) / 2 + 1))
        case measure => omega
        case rel =>
          have I2 : Hid ((∀ t, t < (lo + hi) / 2 + 1 → p t = false) ∧ (∀ t, hi ≤ t → t < n → p t = true)) := ⟨fun t ht => (by
            cases h : p t with
            | false => rfl
            | true => have := M.out t ((lo + hi) / 2) (by omega) (by omega) h; rw [HP.out] at this; cases this), I.out.2⟩
          exact ⟨(lo + hi) / 2 + 1, hi, by rw [show ((lo : Int) + (hi : Int)) / 2 + 1 = (((lo + hi) / 2 + 1 : Nat) : Int) by omega], rfl, by omega, hin, Nat.le_refl _, HB2.out, I2⟩
      · have HP : Hid (p ((lo + hi) / 2) = true) := hp
        clear hp
        go_wp2_with fail
        refine hc.mono ?_
        rintro e w' ⟨rfl, hb⟩
        have HB2 : Hid (Below w.heap.size w w') := HBe.out.trans (hb.mono HBe.out.size)
        clear hb hc
        go_wp2
        go_roundg ((lo + hi) / 2 - lo)
        case measure => omega
        case rel =>
          have I2 : Hid ((∀ t, t < lo → p t = false) ∧ (∀ t, (lo + hi) / 2 ≤ t → t < n → p t = true)) := ⟨I.out.1, fun t ht htn => M.out ((lo + hi) / 2) t ht htn HP.out⟩
          exact ⟨lo, (lo + hi) / 2, rfl, by rw [show ((lo : Int) + (hi : Int)) / 2 = (((lo + hi) / 2 : Nat) : Int) by omega], by omega, by omega, Nat.le_refl _, HB2.out, I2⟩
    · obtain rfl : hi = lo := by omega
      go_wp2
      go_ret
      exact ⟨⟨hi, rfl, hin, I.out.1, I.out.2⟩, HBe.out⟩

/-! ## The closures of room -/

set_option maxHeartbeats 1000000 in
theorem fits_any (Bf Bk : Nat) (mtu F n : Int) (w : World) (hF : w.cell? ⟨Bf, 0, none⟩ = some (.int .i64 F)) (hk : w.cell? ⟨Bk, 5, none⟩ = some (.int .i64 mtu)) (hn0 : 0 ≤ n) (hn : n ≤ 4097) (hF0 : 0 ≤ F) (hF1 : F ≤ 100) :
    Calls Tryd.prog 36 #[.int .i64 n, .pointer (some ⟨Bf, 0, none⟩), .pointer (some ⟨Bk, 0, none⟩)] w fun e w' => e = .returned (.bool (fitB F mtu n)) ∧ Below w.heap.size w w' := by
  have hs : (1 : Int) ≤ sz n ∧ (sz n : Int) ≤ 10 := by have := sz_pos n hn0 (by omega); omega
  have HS := size_any n w.drew hn0 (by omega)
  have hwr : IntKind.u64.wrap n = n := by rw [IntKind.wrap_u64]; omega
  have HE : Hid (fitB F mtu n = decide (F + sz n + n ≤ mtu)) := rfl
  generalize fitB F mtu n = q at *
  generalize (sz n : Int) = S at *
  have hw1 : IntKind.i64.wrap (F + S) = F + S := by rw [IntKind.wrap_i64]; omega
  have hw2 : IntKind.i64.wrap (F + S + n) = F + S + n := by rw [IntKind.wrap_i64]; omega
  go_enter Tryd.func36, Tryd.ntmps36
  go_wp2_with fail
  go_region_with (first
    | (go_at_call 35
       refine HS.mono ?_
       rintro e w2 ⟨rfl, rfl⟩))
  all_goals (
    go_wp2
    go_ret
    exact ⟨by rw [HE.out]; simp [Act.put], below_drewN (Below.refl _ _) _⟩)

end Go.Proofs.YtcfodcioeefbeaaDoor

namespace Go.Proofs.YtcfodcioeefbeaaDoor
open Go.RowKit

set_option maxHeartbeats 1000000 in
/-- room$2: no room for one more? -/
theorem nofit_any (Bs Bf Bk : Nat) (mtu F : Int) (n : Nat) (w : World) (hs : w.cell? ⟨Bs, 0, none⟩ = some (.func (.func 36) #[] #[.pointer (some ⟨Bf, 0, none⟩), .pointer (some ⟨Bk, 0, none⟩)])) (hF : w.cell? ⟨Bf, 0, none⟩ = some (.int .i64 F)) (hk : w.cell? ⟨Bk, 5, none⟩ = some (.int .i64 mtu)) (hn : n ≤ 4096) (hF0 : 0 ≤ F) (hF1 : F ≤ 100) :
    Calls Tryd.prog 38 #[.int .i64 n, .pointer (some ⟨Bs, 0, none⟩)] w fun e w' => e = .returned (.bool (!fitB F mtu ((n : Int) + 1))) ∧ Below w.heap.size w w' := by
  have HS' := fits_any Bf Bk mtu F ((n : Int) + 1) w hF hk (by omega) (by omega) hF0 hF1
  generalize fitB F mtu ((n : Int) + 1) = q at *
  go_enter Tryd.func38, Tryd.ntmps38
  go_wp2_with fail
  refine HS'.mono ?_
  rintro e w2 ⟨rfl, hb⟩
  go_wp2
  go_ret
  exact ⟨rfl, hb⟩

set_option maxHeartbeats 1000000 in
/-- The segment of a piece. -/
theorem segm_any (k : Pk) (x : Pc) (ad : Option Addr) (nd cd : Nat) (w : World) :
    Calls Tryd.prog 29 #[.agg (knC k), .agg (pcC x), .slice ad nd cd] w fun e w' => e = .returned (.agg #[.int .i64 x.typ, .int .i64 k.org, .int .i64 k.num, .slice none 0 0, .slice none 0 0, .int .i64 k.srv, .int .i64 x.frm, .slice ad nd cd, .int .i64 x.chk, .int .i64 x.rep, .int .i64 0, .int .i64 0, .slice none 0 0, .int .i64 0]) ∧ Below w.heap.size w w' := by
  go_enter Tryd.func29, Tryd.ntmps29
  go_wp2
  refine bodyPost_ret (v := .agg #[.int .i64 x.typ, .int .i64 k.org, .int .i64 k.num, .slice none 0 0, .slice none 0 0, .int .i64 k.srv, .int .i64 x.frm, .slice ad nd cd, .int .i64 x.chk, .int .i64 x.rep, .int .i64 0, .int .i64 0, .slice none 0 0, .int .i64 0]) (by simp [results, Tryd.results29, go_sem]) rfl ?_
  exact ⟨rfl, (((Below.refl _ _).alloc (Nat.le_refl _) _).alloc (by simp) _).alloc (by simp; omega) _⟩

end Go.Proofs.YtcfodcioeefbeaaDoor
