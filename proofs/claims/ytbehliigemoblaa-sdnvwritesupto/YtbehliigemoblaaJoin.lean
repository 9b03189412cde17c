import Derived.Test.YtbehliigemoblaaAll
namespace Go.Proofs.Ytbehliigemoblaa
open Go.RowKit

theorem nums_at {l : List Int} (h : Nums l) (k : Nat) (hk : k < l.length) : 0 ≤ l.getD k 0 ∧ l.getD k 0 ≤ 18446744073709551615 := by
  rw [List.getD_eq_getElem?_getD, List.getElem?_eq_getElem hk]; exact h _ (List.getElem_mem hk)

theorem take_snoc (l : List Int) (k : Nat) (h : k < l.length) : l.take (k + 1) = l.take k ++ [l.getD k 0] := by
  rw [List.take_succ_eq_append_getElem h, List.getD_eq_getElem?_getD, List.getElem?_eq_getElem h]; rfl

theorem nums_take {l : List Int} (h : Nums l) (k : Nat) : Nums (l.take k) := fun n hn => h n (List.mem_of_mem_take hn)

set_option maxHeartbeats 1000000 in
theorem join_some (b off : Nat) (l : List Int) (cap : Nat) (w : World) (hn : Nums l) (hm : l.length ≤ 14073748835530)
    (hc : ∀ i, i < l.length → w.cell? ⟨b, off + i, none⟩ = some (.int .u64 (l.getD i 0))) :
    Calls Try.prog 16 #[.slice (some ⟨b, off, none⟩) l.length cap] w fun e w' => ∃ a c, e = .returned (.slice a (jn l).length c) ∧
      w'.ownsRow w.heap.size 5 1 (.slice a (jn l).length c) (jn l).length ((jn l).map (Value.int .u8)) ∧ Below w.heap.size w w' := by
  have HN : Hid (Nums l) := hn
  have HC : Hid (∀ i, i < l.length → w.cell? ⟨b, off + i, none⟩ = some (.int .u64 (l.getD i 0))) := hc
  clear hn hc
  go_enter Try.func16, Try.ntmps16
  go_wp2_with fail
  go_loopw [3, 8] (fun v i wr => ∃ k : Nat, k ≤ l.length ∧ i = .int .i64 k ∧ wr.ownsRow w.heap.size 5 1 v (jn (l.take k)).length ((jn (l.take k)).map (Value.int .u8)) ∧ Below w.heap.size w wr) (fun _ i _ => l.length - (intOf i).toNat)
  case atStart => exact ⟨0, Nat.zero_le _, rfl, World.ownsRow_nil _ _ _ _, Below.refl _ _⟩
  case round =>
    obtain ⟨k, hk, rfl, hown, hbel⟩ := hrel
    by_cases hlt : k < l.length
    · have hx := nums_at HN.out k hlt
      have hcell : wr.cell? ⟨b, off + k, none⟩ = some (.int .u64 (l.getD k 0)) := by
        have h := HC.out k hlt
        exact (hbel.cell (p := ⟨b, off + k, none⟩) (World.block_lt_of_cell? w ⟨b, off + k, none⟩ h)).trans h
      have HT : Hid (jn (l.take (k + 1)) = jn (l.take k) ++ enc (l.getD k 0)) := by unfold Hid; rw [take_snoc l k hlt, jn_snoc]
      have hjl := jn_length (l.take k) (nums_take HN.out k)
      have HLn : Hid ((enc (l.getD k 0)).length = sz (l.getD k 0)) := enc_length _ hx.1 hx.2
      rw [List.length_take] at hjl
      generalize l.getD k 0 = n at hx hcell HT HLn
      obtain ⟨hx0, hx1⟩ := hx
      have hi1 : (k : Int) < (l.length : Int) := by omega
      go_wp2_with fail
      refine (put_any _ (jn (l.take k)).length _ w.heap.size n wr hx0 hx1 hown hbel.size (by omega)).mono ?_
      rintro e w1 ⟨g, c, rfl, hown1, hb1⟩
      have HO : Hid (w1.ownsRow w.heap.size 5 1 (.slice (some ⟨g, 0, none⟩) ((jn (l.take k)).length + sz n) c) (jn (l.take (k + 1))).length ((jn (l.take (k + 1))).map (Value.int .u8))) := by
        unfold Hid
        rw [HT.out, List.length_append, HLn.out, List.map_append]; exact hown1
      have HB : Hid (Below w.heap.size w w1) := hbel.trans hb1
      clear hown hbel hown1 hb1
      go_wp2
      go_roundw
      case rel => exact ⟨k + 1, by omega, by go_num, HO.out, HB.out⟩
      case measure => simp [intOf]; omega
    · have hkl : k = l.length := by omega
      have HO : Hid (wr.ownsRow w.heap.size 5 1 u3 (jn l).length ((jn l).map (Value.int .u8))) := by
        rw [List.take_of_length_le (by omega)] at hown; exact hown
      have HBel : Hid (Below w.heap.size w wr) := hbel
      clear hown hbel
      obtain ⟨av, cv, hv⟩ := own_shape HO.out
      subst hv
      go_wp2
      go_ret
      exact ⟨av, cv, rfl, HO.out, HBel.out⟩

set_option maxHeartbeats 1000000 in
theorem join_none (a : Option Addr) (cap : Nat) (w : World) :
    Calls Try.prog 16 #[.slice a 0 cap] w fun e w' => e = .returned (.slice none 0 0) ∧ w = w' := by
  go_enter Try.func16, Try.ntmps16
  go_wp2_with fail
  refine wp_loop_rounds 1 ?_
  rw [rounds_succ]
  go_wp2
  go_ret
  exact ⟨rfl, rfl⟩

theorem join_any (a : Option Addr) (l : List Int) (len cap : Nat) (w : World) (hn : Nums l) (hl : l.length = len) (hm : len ≤ 14073748835530) (hc : Lies .u64 w a l) :
    Calls Try.prog 16 #[.slice a len cap] w fun e w' => ∃ a' c, e = .returned (.slice a' (jn l).length c) ∧
      w'.ownsRow w.heap.size 5 1 (.slice a' (jn l).length c) (jn l).length ((jn l).map (Value.int .u8)) ∧ Below w.heap.size w w' := by
  subst hl
  rcases hc with rfl | ⟨b, off, rfl, hc⟩
  · refine (join_none a cap w).mono ?_
    rintro e w' ⟨rfl, rfl⟩
    exact ⟨none, 0, rfl, World.ownsRow_nil _ _ _ _, Below.refl _ _⟩
  · exact join_some b off l cap w hn hm hc

end Go.Proofs.Ytbehliigemoblaa
