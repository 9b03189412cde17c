import Derived.Test.YtcfodcioeefbeaaDoorChecked
import Derived.Test.YtcfodcioeefbeaaDoorLen
import Derived.WalkKit
import Derived.WalkSpells
import Derived.WalkLawsBesides
import Derived.Laws.BitsAllLaws
namespace Go.Proofs.YtcfodcioeefbeaaDoor
open Go.RowKit

theorem or_one (n : Int) (h0 : 0 ≤ n) (h1 : n ≤ 18446744073709551615) : bits .or .u64 n 1 = ((Nat.lor n.toNat 1 : Nat) : Int) := by
  rw [u64_or n 1 h0 (by omega) (by omega) (by omega)]; rfl
theorem or_one_lt (n : Int) (h0 : 0 ≤ n) (h1 : n ≤ 18446744073709551615) : ((Nat.lor n.toNat 1 : Nat) : Int) ≤ 18446744073709551615 := by
  rw [lor_one]; omega

set_option maxHeartbeats 400000 in
theorem size_any (n : Int) (w : World) (h0 : 0 ≤ n) (h1 : n ≤ 18446744073709551615) :
    Calls Tryd.prog 35 #[.int .u64 n] w fun e w' => e = .returned (.int .i64 (sz n)) ∧ w = w' := by
  have ho := or_one n h0 h1
  have hl := or_one_lt n h0 h1
  have hb : Lib.bitLen (Nat.lor n.toNat 1) ≤ 64 := Lib.bitLen_le _ 64 (Nat.le_refl _) (by omega)
  have hn : (0 : Int) ≤ ((Nat.lor n.toNat 1 : Nat) : Int) := by omega
  have hs : Hid ((sz n : Int) = ((Lib.bitLen (Nat.lor n.toNat 1) : Int) + 6) / 7) := by unfold Hid sz; omega
  generalize Nat.lor n.toNat 1 = y at ho hl hb hn hs
  go_enter Tryd.func35, Tryd.ntmps35
  go_wp2_with (go_at_call 43; refine (len64_any _ _ hn hl).mono ?_; rintro e w' ⟨rfl, rfl⟩)
  go_ret
  refine ⟨congrArg Ending.returned (congrArg (Value.int IntKind.i64) ?_), rfl⟩
  rw [hs.out]; omega

theorem pow7 (k : Nat) : (2 : Int) ^ (7 * k) = 128 ^ k := by rw [Int.pow_mul]; rfl

theorem hi_digit (n : Int) (k : Nat) (h0 : 0 ≤ n) : bits .or .u8 (n / 2 ^ (7 * k) % 256) 128 = n / 128 ^ k % 128 + 128 := by
  rw [pow7]
  have hq : 0 ≤ n / 128 ^ k := Int.ediv_nonneg h0 (Int.pow_nonneg (by omega))
  generalize n / 128 ^ k = q at hq ⊢
  rw [u8_or _ _ (by omega) (by omega) (by omega) (by omega)]
  obtain ⟨x, hx⟩ : ∃ x : Nat, q = x := ⟨q.toNat, by omega⟩
  subst hx
  have e : (((x : Int) % 256).toNat ||| (128 : Int).toNat) = x % 128 + 128 := by
    rw [show ((x : Int) % 256).toNat = x % 256 from by omega, show (128 : Int).toNat = 2 ^ 7 from rfl]
    by_cases hb : x % 256 < 128
    · rw [Nat.or_comm, nat_join 7 (2 ^ 7) (x % 256) (by omega) (by omega)]; omega
    · rw [show x % 256 = 2 ^ 7 ||| (x % 128) from by rw [nat_join 7 (2 ^ 7) (x % 128) (by omega) (by omega)]; omega]
      rw [Nat.or_comm, ← Nat.or_assoc, Nat.or_self, nat_join 7 (2 ^ 7) (x % 128) (by omega) (by omega)]; omega
  rw [e]; omega

theorem lo_digit (n : Int) (h0 : 0 ≤ n) : bits .andNot .u8 (n % 256) 128 = n % 128 := by
  rw [u8_andNot _ _ (by omega) (by omega) (by omega) (by omega)]
  obtain ⟨x, hx⟩ : ∃ x : Nat, n = x := ⟨n.toNat, by omega⟩
  subst hx
  rw [show ((x : Int) % 256).toNat = x % 256 from by omega, show 255 - (128 : Int).toNat = 127 from rfl, nat_mask7]
  omega

theorem Tryd.info_u8 : (Tryd.prog.info? 5).map (fun i => (i.zero, i.size, i.bytes)) = some (some (.int .u8 0), 1, 1) := by kernel_rfl

set_option maxHeartbeats 400000 in
theorem put_any (v : Value) (m : Nat) (xs : List Value) (base : Nat) (n : Int) (w : World) (h0 : 0 ≤ n) (h1 : n ≤ 18446744073709551615)
    (hown : w.ownsRow base 5 1 v m xs) (hbase : base ≤ w.heap.size) (hm : m + 10 ≤ 140737488355328) :
    Calls Tryd.prog 56 #[v, .int .u64 n] w fun e w' => ∃ g cap, e = .returned (.slice (some ⟨g, 0, none⟩) (m + sz n) cap) ∧
      w'.ownsRow base 5 1 (.slice (some ⟨g, 0, none⟩) (m + sz n) cap) (m + sz n) (xs ++ (enc n).map (Value.int .u8)) ∧ Below base w w' := by
  have hs := sz_bounds n h0 h1
  obtain ⟨hs1, hs2, hs3, hs4⟩ := hs
  clear hs3 hs4
  obtain ⟨i0, hi, hz0, hz1, hz2⟩ := info_parts Tryd.info_u8
  go_enter Tryd.func56, Tryd.ntmps56
  go_wp2_with (go_at_call 35; refine (size_any _ _ (by omega) (by omega)).mono ?_; rintro e w' ⟨rfl, rfl⟩)
  go_loopw [0, 5] (fun v' i wr => ∃ k : Nat, ∃ pre : List Int, i = .int .i64 k ∧ k ≤ 9 ∧ k + pre.length + 1 = sz n ∧ pre ++ tl n k = enc n ∧ wr.ownsRow base 5 1 v' (m + pre.length) (xs ++ pre.map (Value.int .u8)) ∧ Below base w wr) (fun _ i _ => (intOf i).toNat)
  case atStart => exact ⟨sz n - 1, [], by go_num, by omega, by simp; omega, rfl, by simpa using hown, Below.refl _ _⟩
  case round =>
    obtain ⟨k, pre, rfl, hk, hlen, hpre, hown', hbel⟩ := hrel
    have hpre' : Hid (pre ++ tl n k = enc n) := hpre
    have hlen' : Hid (k + pre.length + 1 = sz n) := hlen
    have hpl : pre.length ≤ 9 := by omega
    clear hpre hlen hown
    have hsz := hbel.size
    by_cases hz : 0 < k
    · have hz' : (0 : Int) < (k : Int) := by omega
      have h7 : (7 * (k : Int)) ≤ 63 := by omega
      go_wp2_with (at_builtin; refine wpList_append_own _ rfl _ _ 26 rfl base 5 i0 (.int .u8 0) 1 1 Tryd.underlying26 hi hz0 hz1 hz2 rfl (by decide) _ _ _ rfl (hown'.alloc _) ⟨wr.heap.size, 0, none⟩ 1 1 [.int .u8 (bits BinOp.or IntKind.u8 (n / 2 ^ (7 * k) % 256) 128)] rfl rfl ?c1 ?c2 ?c3 ?c4 ?c5 ?_)
      case c1 => exact cell_one_new _ _ _
      case c2 => intro u hu; simp at hu; subst hu; rfl
      case c3 => unfold maxLen; omega
      case c4 => omega
      case c5 => simp; omega
      intro v' w1 hown1 hgrow _
      have hb1 : Below base w w1 := (hbel.alloc (by omega) _).grown hgrow (by simp; omega) (by intro j hj; obtain ⟨_, _ | ⟨g, cap, cur, hv, hg, _⟩⟩ := hown' <;> simp_all [Value.ownBlock])
      rw [hi_digit n k h0] at hown1
      clear hown' hbel hgrow hsz
      go_wp2
      go_roundw
      case rel =>
        obtain ⟨k, rfl⟩ : ∃ k', k = k' + 1 := ⟨k - 1, by omega⟩
        refine ⟨k, pre ++ [n / 128 ^ (k + 1) % 128 + 128], by go_num, by omega, by have := hlen'.out; simp; omega, by have := hpre'.out; simpa [tl] using this, ?_, hb1⟩
        simpa [Nat.add_assoc] using hown1
      case measure => simp [intOf]; omega
    · have hk0 : k = 0 := by omega
      subst hk0
      go_wp2_with (at_builtin; refine wpList_append_own _ rfl _ _ 26 rfl base 5 i0 (.int .u8 0) 1 1 Tryd.underlying26 hi hz0 hz1 hz2 rfl (by decide) _ _ _ rfl (hown'.alloc _) ⟨wr.heap.size, 0, none⟩ 1 1 [.int .u8 (bits BinOp.andNot IntKind.u8 (n % 256) 128)] rfl rfl ?e1 ?e2 ?e3 ?e4 ?e5 ?_)
      case e1 => exact cell_one_new _ _ _
      case e2 => intro u hu; simp at hu; subst hu; rfl
      case e3 => unfold maxLen; omega
      case e4 => omega
      case e5 => simp; omega
      intro v' w1 hown1 hgrow _
      have hb1 : Below base w w1 := (hbel.alloc (by omega) _).grown hgrow (by simp; omega) (by intro j hj; obtain ⟨_, _ | ⟨g, cap, cur, hv, hg, _⟩⟩ := hown' <;> simp_all [Value.ownBlock])
      rw [lo_digit n h0] at hown1
      clear hown' hbel hgrow hsz
      have hend : ∃ g cap, v' = .slice (some ⟨g, 0, none⟩) (m + sz n) cap ∧ w1.ownsRow base 5 1 (.slice (some ⟨g, 0, none⟩) (m + sz n) cap) (m + sz n) (xs ++ (enc n).map (Value.int .u8)) := by
        have e1 : m + pre.length + 1 = m + sz n := by have := hlen'.out; omega
        have e2 : enc n = pre ++ [n % 128] := hpre'.out.symm
        rw [e1] at hown1
        rw [e2, List.map_append]
        obtain ⟨hl, ⟨_, h⟩ | ⟨g, cap, cur, hv, r⟩⟩ := hown1
        · omega
        · subst hv
          exact ⟨g, cap, rfl, hl, .inr ⟨g, cap, cur, rfl, r⟩⟩
      obtain ⟨g, cap, hv, hown2⟩ := hend
      subst hv
      go_wp2
      go_ret
      exact ⟨g, cap, rfl, hown2, hb1⟩

set_option maxHeartbeats 400000 in
theorem bytes_any (n : Int) (w : World) (h0 : 0 ≤ n) (h1 : n ≤ 18446744073709551615) :
    Calls Tryd.prog 55 #[.int .u64 n] w fun e w' => ∃ g cap, e = .returned (.slice (some ⟨g, 0, none⟩) (sz n) cap) ∧
      w'.ownsRow w.heap.size 5 1 (.slice (some ⟨g, 0, none⟩) (sz n) cap) (sz n) ((enc n).map (Value.int .u8)) ∧ Below w.heap.size w w' := by
  go_enter Tryd.func55, Tryd.ntmps55
  go_wp2_with (go_at_call 56; refine (put_any (.slice none 0 0) 0 [] w.heap.size n w h0 h1 (World.ownsRow_nil _ _ _ _) (Nat.le_refl _) (by omega)).mono ?_; rintro e w' ⟨g, cap, rfl, hown, hb⟩)
  go_ret
  simp only [Nat.zero_add, List.nil_append] at hown
  exact ⟨g, cap, by simp, hown, hb⟩

end Go.Proofs.YtcfodcioeefbeaaDoor
