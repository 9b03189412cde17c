import Derived.Test.YtjolflpmeodnaagDoorOwns
import Derived.Test.YtjolflpmeodnaagDoorRcMath
namespace Go.Proofs.YtjolflpmeodnaagDoor
open Go.RowKit

theorem byte_at {zs : List Int} {k : Nat} (hb : Bytey zs) (h : k < zs.length) : 0 ≤ zs.getD k 0 ∧ zs.getD k 0 ≤ 255 := by
  rw [List.getD_eq_getElem?_getD, List.getElem?_eq_getElem h]; exact hb _ (List.getElem_mem h)
theorem take_snoc' (l : List Int) (k : Nat) (h : k < l.length) : l.take (k + 1) = l.take k ++ [l.getD k 0] := by
  rw [List.take_add_one, List.getD_eq_getElem?_getD, List.getElem?_eq_getElem h]; rfl
theorem crc_byte {zs : List Int} {k : Nat} (hb : Bytey zs) : crc 4294967295 (zs.take k) < 4294967296 :=
  crc_lt _ (fun z hz => by have := hb z (List.mem_of_mem_take hz); omega) (by omega)
theorem xor_byte {x : Nat} {z : Int} (hx : x < 4294967296) (h0 : 0 ≤ z) (h1 : z ≤ 255) : bits .xor .u32 (x : Int) z = ((x ^^^ z.toNat : Nat) : Int) := by
  have := xor_u32 (a := x) (b := z.toNat) hx (by omega)
  rwa [Int.toNat_of_nonneg h0] at this

set_option maxHeartbeats 400000 in
theorem sum_some (b off : Nat) (zs : List Int) (cap : Nat) (w : World) (hb : Bytey zs) (hl : zs.length ≤ 140737488355328)
    (hc : ∀ i, i < zs.length → w.cell? ⟨b, off + i, none⟩ = some (.int .u8 (zs.getD i 0))) :
    Calls Tryd.prog 24 #[.slice (some ⟨b, off, none⟩) zs.length cap] w fun e w' => e = .returned (.int .u32 (crs zs : Nat)) ∧ w = w' := by
  have HB : Hid (Bytey zs) := hb
  clear hb
  go_enter Tryd.func24, Tryd.ntmps24
  go_wp2_with fail
  go_loop [3, 8] (fun c i => ∃ k : Nat, k ≤ zs.length ∧ i = .int .i64 k ∧ c = .int .u32 (crc 4294967295 (zs.take k) : Nat)) (fun _ i => zs.length - (intOf i).toNat)
  case atStart => exact ⟨0, Nat.zero_le _, rfl, rfl⟩
  case round =>
    obtain ⟨k, hk, rfl, rfl⟩ := hrel
    by_cases hlt : k < zs.length
    · have hcx := hc k hlt
      obtain ⟨hz0, hz1⟩ := byte_at HB.out hlt
      have HT : Hid (crc 4294967295 (zs.take (k + 1)) = cit 8 (crc 4294967295 (zs.take k) ^^^ (zs.getD k 0).toNat)) := by
        unfold Hid; rw [take_snoc' zs k hlt, crc_snoc]
      have hx := crc_byte (k := k) HB.out
      generalize crc 4294967295 (zs.take k) = x at *
      generalize zs.getD k 0 = z at *
      have hxz := xor_byte hx hz0 hz1
      have hy : x ^^^ z.toNat < 4294967296 := xb_lt hx (by omega)
      generalize x ^^^ z.toNat = y at *
      clear hc
      go_wp2_with fail
      go_loop [3, 16] (fun c i => ∃ j : Nat, j ≤ 8 ∧ i = .int .i64 j ∧ c = .int .u32 (cit j y : Nat)) (fun _ i => 8 - (intOf i).toNat)
      case atStart => exact ⟨0, Nat.zero_le _, rfl, rfl⟩
      case round =>
        obtain ⟨j, hj, rfl, rfl⟩ := hrel
        by_cases hj8 : j < 8
        · have hcy := cit_lt j hy
          have HC : Hid (cit (j + 1) y = cst (cit j y)) := cit_succ j y
          generalize cit j y = u at *
          have h1 := and1_u32 hcy
          have h2 := shift_u32 hcy
          go_wp2
          go_round
          case rel => exact ⟨j + 1, by omega, congrArg (Value.int IntKind.i64) (by omega), by rw [HC.out, ← h2]⟩
          case measure => simp [intOf]; omega
        · have he : j = 8 := by omega
          subst he
          go_wp2
          go_round
          case rel => exact ⟨k + 1, by omega, congrArg (Value.int IntKind.i64) (by omega), by rw [HT.out]⟩
          case measure => simp [intOf]; omega
    · have he : k = zs.length := by omega
      subst he
      have hx := crc_byte (k := zs.length) HB.out
      rw [List.take_length] at hx ⊢
      have HE : Hid (crs zs = crc 4294967295 zs ^^^ 4294967295) := rfl
      generalize crc 4294967295 zs = x at *
      have hxx := xor_u32 (a := 4294967295) (b := x) (by omega) hx
      rw [Nat.xor_comm] at hxx
      go_wp2
      go_ret
      exact ⟨congrArg (fun n => Ending.returned (Value.int IntKind.u32 n)) (hxx.trans (by rw [HE.out])), rfl⟩

set_option maxHeartbeats 400000 in
theorem sum_none (a : Option Addr) (cap : Nat) (w : World) :
    Calls Tryd.prog 24 #[.slice a 0 cap] w fun e w' => e = .returned (.int .u32 (crs [] : Nat)) ∧ w = w' := by
  go_enter Tryd.func24, Tryd.ntmps24
  go_wp2_with fail
  refine wp_loop_rounds 1 ?_
  rw [rounds_succ]
  go_wp2
  go_ret
  exact ⟨rfl, rfl⟩
theorem sum_any (a : Option Addr) (zs : List Int) (len cap : Nat) (w : World) (hb : Bytey zs) (hl : zs.length = len) (hm : len ≤ 140737488355328) (hc : Lies .u8 w a zs) :
    Calls Tryd.prog 24 #[.slice a len cap] w fun e w' => e = .returned (.int .u32 (crs zs : Nat)) ∧ w = w' := by
  subst hl
  rcases hc with rfl | ⟨b, off, rfl, hc⟩
  · exact sum_none a cap w
  · exact sum_some b off zs cap w hb hm hc

end Go.Proofs.YtjolflpmeodnaagDoor
