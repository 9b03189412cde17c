import Derived.Test.YthbkabehjeidjabDoorNums
import Derived.Test.YthbkabehjeidjabDoorRead
import Derived.Test.YthbkabehjeidjabDoorMath
namespace Go.Proofs.YthbkabehjeidjabDoor.R
open Go.RowKit

theorem Tryd.info_u64 : (Tryd.prog.info? 96).map (fun i => (i.zero, i.size, i.bytes)) = some (some (.int .u64 0), 1, 8) := by kernel_rfl

theorem own_shape {w : World} {base n : Nat} {e : TypeId} {v : Value} {xs : List Value} (h : w.ownsRow base e 1 v n xs) : ∃ a cap, v = .slice a n cap := by
  obtain ⟨_, ⟨rfl, rfl⟩ | ⟨g, cap, cur, rfl, _⟩⟩ := h
  · exact ⟨none, 0, rfl⟩
  · exact ⟨_, cap, rfl⟩

theorem own_lies {w : World} {base n cap : Nat} {e : TypeId} {a : Option Addr} {k : IntKind} {xs : List Int} (h : w.ownsRow base e 1 (.slice a n cap) n (xs.map (Value.int k))) : Lies k w a xs ∧ xs.length = n := by
  have hl : xs.length = n := by have := h.1; simpa using this
  refine ⟨?_, hl⟩
  obtain ⟨_, ⟨_, h0⟩ | ⟨g, cap', cur, hv, hb, hg, hn, hm, hs, ht⟩⟩ := id h
  · exact .inl (List.eq_nil_of_length_eq_zero (by omega))
  · simp only [Value.slice.injEq] at hv
    obtain ⟨rfl, _, rfl⟩ := hv
    refine .inr ⟨g, 0, rfl, fun i hi => ?_⟩
    rw [Nat.zero_add, h.cellAt i (by omega), List.getElem?_map, List.getD_eq_getElem?_getD, List.getElem?_eq_getElem hi]
    rfl

theorem own_grown {w0 w w' : World} {base n : Nat} {e : TypeId} {v : Value} {xs : List Value} (hb : Below base w0 w) (hg : w.grownBy w' v.ownBlock) (h : w.ownsRow base e 1 v n xs) (hs : base ≤ w.heap.size) : Below base w0 w' :=
  hb.grown hg hs (fun j hj => (h.lt j hj).1)

theorem lies_drop {k : IntKind} {w : World} {b off : Nat} {zs : List Int} (h : ∀ i, i < zs.length → w.cell? ⟨b, off + i, none⟩ = some (.int k (zs.getD i 0))) (m : Nat) : Lies k w (some ⟨b, off + m, none⟩) (zs.drop m) := by
  refine .inr ⟨b, off + m, rfl, fun i hi => ?_⟩
  simp at hi
  rw [Nat.add_assoc, h (m + i) (by omega)]
  simp [List.getD_eq_getElem?_getD]

def lenV : Value → Nat | .slice _ n _ => n | _ => 0

end Go.Proofs.YthbkabehjeidjabDoor.R

namespace Go.Proofs.YthbkabehjeidjabDoor.R
open Go.RowKit

theorem nums_at {l : List Int} (h : Nums l) (k : Nat) (hk : k < l.length) : 0 ≤ l.getD k 0 ∧ l.getD k 0 ≤ 18446744073709551615 := by
  rw [List.getD_eq_getElem?_getD, List.getElem?_eq_getElem hk]; exact h _ (List.getElem_mem hk)

theorem take_snoc (l : List Int) (k : Nat) (h : k < l.length) : l.take (k + 1) = l.take k ++ [l.getD k 0] := by
  rw [List.take_succ_eq_append_getElem h, List.getD_eq_getElem?_getD, List.getElem?_eq_getElem h]; rfl

theorem nums_take {l : List Int} (h : Nums l) (k : Nat) : Nums (l.take k) := fun n hn => h n (List.mem_of_mem_take hn)

end Go.Proofs.YthbkabehjeidjabDoor.R

namespace Go.Proofs.YthbkabehjeidjabDoor.R
open Go.RowKit

/-- The digits of n from the place k down, without marks. -/
def pd (n : Int) : Nat → List Int
  | 0 => [n % 128]
  | k + 1 => (n / 128 ^ (k + 1) % 128) :: pd n k

theorem pd_length (n : Int) (k : Nat) : (pd n k).length = k + 1 := by
  induction k with
  | zero => rfl
  | succ k ih => simp [pd, ih]

theorem pd_bytes (n : Int) : ∀ k, ∀ z ∈ pd n k, 0 ≤ z ∧ z ≤ 127
  | 0, z, hz => by simp [pd] at hz; omega
  | k + 1, z, hz => by
    rw [pd, List.mem_cons] at hz
    rcases hz with rfl | hz
    · omega
    · exact pd_bytes n k z hz

theorem pd_tl (n : Int) : ∀ (k i : Nat), i < k → (tl n k).getD i 0 = (pd n k).getD i 0 + 128
  | 0, i, h => by omega
  | k + 1, 0, h => by simp [tl, pd]
  | k + 1, i + 1, h => by
    have := pd_tl n k i (by omega)
    simpa [tl, pd] using this

theorem pd_drop (n : Int) : ∀ k : Nat, (pd n k).drop k = (tl n k).drop k
  | 0 => rfl
  | k + 1 => by simpa [tl, pd] using pd_drop n k

theorem div_next (n : Int) (j : Nat) : n / 128 ^ (j + 1) / 128 = n / 128 ^ (j + 1 + 1) := by
  rw [Int.pow_succ 128 (j + 1), ← Int.ediv_ediv_of_nonneg (Int.pow_nonneg (by omega))]

theorem div_le (n : Int) (j : Nat) (h0 : 0 ≤ n) (h1 : n ≤ 18446744073709551615) : 0 ≤ n / 128 ^ (j + 1) ∧ n / 128 ^ (j + 1) ≤ 18446744073709551615 :=
  ⟨Int.ediv_nonneg h0 (Int.pow_nonneg (by omega)), Int.le_trans (Int.ediv_le_self _ h0) h1⟩

theorem sz_of_div (n : Int) (j : Nat) (h0 : 0 ≤ n) (h1 : n ≤ 18446744073709551615) (hz : n / 128 ^ (j + 1) = 0) (hp : j = 0 ∨ 0 < n / 128 ^ j) : sz n = j + 1 := by
  have hpp : (0 : Int) < 128 ^ (j + 1) := Int.pow_pos (by omega)
  have hpj : (0 : Int) < 128 ^ j := Int.pow_pos (by omega)
  refine sz_eq n j h0 h1 ?_ ?_
  · have := Int.lt_ediv_add_one_mul_self n hpp
    rw [hz] at this; omega
  · rcases hp with hp | hp
    · left; exact hp
    · right
      have h3 : 1 ≤ n / 128 ^ j := by omega
      rw [Int.le_ediv_iff_mul_le hpj] at h3
      omega

theorem ten (n : Int) (j : Nat) (h0 : 0 ≤ n) (h1 : n ≤ 18446744073709551615) (hp : j = 0 ∨ 0 < n / 128 ^ j) : j ≤ 9 := by
  rcases hp with hp | hp
  · omega
  · by_cases hj : j ≤ 9
    · exact hj
    · exfalso
      have hpj : (0 : Int) < 128 ^ j := Int.pow_pos (by omega)
      have h3 : 1 ≤ n / 128 ^ j := by omega
      rw [Int.le_ediv_iff_mul_le hpj] at h3
      have hm : (128 : Int) ^ 10 ≤ 128 ^ j := by
        have := Nat.pow_le_pow_right (n := 128) (by omega) (show 10 ≤ j by omega)
        exact_mod_cast this
      have : (128 : Int) ^ 10 = 1180591620717411303424 := by decide
      omega

set_option maxHeartbeats 1000000 in
theorem digits_any (n : Int) (w : World) (h0 : 0 ≤ n) (h1 : n ≤ 18446744073709551615) :
    Calls Tryd.prog 84 #[.int .u64 n] w fun e w' => ∃ g cap, e = .returned (.slice (some ⟨g, 0, none⟩) (sz n) cap) ∧
      w'.ownsRow w.heap.size 5 1 (.slice (some ⟨g, 0, none⟩) (sz n) cap) (sz n) ((pd n (sz n - 1)).map (Value.int .u8)) ∧ Below w.heap.size w w' := by
  obtain ⟨i0, hi, hz0, hz1, hz2⟩ := info_parts Tryd.info_u8
  go_enter Tryd.func84, Tryd.ntmps84
  go_wp2
  go_loopw [0, 3] (fun q v wr => ∃ (j : Nat), q = .int .u64 (n / 128 ^ (j + 1)) ∧ (j = 0 ∨ 0 < n / 128 ^ j) ∧ wr.ownsRow w.heap.size 5 1 v (j + 1) ((pd n j).map (Value.int .u8)) ∧ Below w.heap.size w wr) (fun q _ _ => (intOf q).toNat)
  case atStart =>
    refine ⟨0, by simp, .inl rfl, ?_, (Below.refl _ _).alloc (Nat.le_refl _) _⟩
    have := World.ownsRow_lit (base := w.heap.size) (e := 5) (size := 1) w #[Value.int .u8 (n % 128)] 1 (Nat.le_refl _) (by unfold maxLen; omega) rfl
    simpa [pd] using this
  case round =>
    obtain ⟨j, rfl, hp, hown, hbel⟩ := hrel
    have hj9 := ten n j h0 h1 hp
    have hd := div_le n j h0 h1
    have HP : Hid (j = 0 ∨ 0 < n / 128 ^ j) := hp
    have HN : Hid (n / 128 ^ (j + 1) / 128 = n / 128 ^ (j + 1 + 1)) := div_next n j
    have hs := hbel.size
    clear hp
    obtain ⟨hd0, hd1⟩ := hd
    by_cases hpos : 0 < n / 128 ^ (j + 1)
    · have HPD : Hid (pd n (j + 1) = (n / 128 ^ (j + 1) % 128) :: pd n j) := rfl
      have HPos : Hid (0 < n / 128 ^ (j + 1)) := hpos
      obtain ⟨x, hx⟩ : ∃ x, n / 128 ^ (j + 1) = x := ⟨_, rfl⟩
      rw [hx] at hd0 hd1 HN hpos HPD
      rw [hx]
      have HX : Hid (n / 128 ^ (j + 1) = x) := hx
      clear hx
      obtain ⟨av, cv, hv⟩ := own_shape hown
      subst hv
      have HLi := own_lies hown
      have hnn : av = none → j + 1 = 0 ∧ cv = 0 := by
        intro e
        obtain ⟨_, ⟨_, h⟩ | ⟨_, _, _, h, _⟩⟩ := hown
        · omega
        · simp [e] at h
      go_wp2_with (at_builtin; refine append_any _ rfl (.tmp 15) (.tmp 16) 25 rfl w.heap.size 5 i0 (.int .u8 0) 1 Tryd.underlying25 hi hz0 hz1 hz2 rfl _ 1 [.int .u8 (x % 128)] rfl (World.ownsRow_lit (base := w.heap.size) wr #[.int .u8 (x % 128)] 1 hs (by unfold maxLen; omega) rfl) .u8 _ _ _ (pd n j) rfl hnn (pd_length n j) (HLi.1.below ((Below.refl _ _).alloc (Nat.le_refl _) _)) (by unfold maxLen; omega) (by omega) (by simp; omega) ?_; intro v1 w1 hown1 hg1)
      have HO : Hid (w1.ownsRow w.heap.size 5 1 v1 (j + 1 + 1) ((pd n (j + 1)).map (Value.int .u8))) := by
        unfold Hid
        rw [HPD.out, show j + 1 + 1 = 1 + (j + 1) from by omega]
        simpa using hown1
      have HB : Hid (Below w.heap.size w w1) := (hbel.alloc hs _).grown hg1 (by simp; omega) (fun b hb => by have e : wr.heap.size = b := Option.some.inj hb; omega)
      clear hown hown1 hg1 hbel HLi hnn
      go_wp2
      go_roundw
      case rel => exact ⟨j + 1, by rw [← HN.out], .inr HPos.out, HO.out, HB.out⟩
      case measure => simp [intOf]; omega
    · have hzero : n / 128 ^ (j + 1) = 0 := by omega
      have HS : Hid (sz n = j + 1) := sz_of_div n j h0 h1 hzero HP.out
      rw [hzero]
      have HO : Hid (wr.ownsRow w.heap.size 5 1 u3 (j + 1) ((pd n j).map (Value.int .u8))) := hown
      have HB : Hid (Below w.heap.size w wr) := hbel
      clear hown hbel hzero hpos HN
      obtain ⟨g, cap, hv⟩ : ∃ g cap, u3 = .slice (some ⟨g, 0, none⟩) (j + 1) cap := by
        obtain ⟨_, ⟨_, h⟩ | ⟨g, cap, _, h, _⟩⟩ := HO.out
        · omega
        · exact ⟨g, cap, h⟩
      subst hv
      go_wp2
      go_ret
      refine ⟨g, cap, by rw [HS.out]; rfl, ?_, HB.out⟩
      rw [HS.out]; exact HO.out

theorem own_below' {w w' : World} {base n : Nat} {e : TypeId} {v : Value} {xs : List Value} (h : w.ownsRow base e 1 v n xs) (hb : Below w.heap.size w w') : w'.ownsRow base e 1 v n xs := by
  have hlt := h.lt
  obtain ⟨h1, h2⟩ := h
  refine ⟨h1, ?_⟩
  rcases h2 with h2 | ⟨g, cap, cur, rfl, hg, hh, r⟩
  · exact .inl h2
  · exact .inr ⟨g, cap, cur, rfl, hg, (hb.block g (hlt g rfl).2).trans hh, r⟩

theorem owned_low {w : World} {base n cap g : Nat} {xs : List Value} {e : TypeId} (h : w.ownsRow base e 1 (.slice (some ⟨g, 0, none⟩) n cap) n xs) : base ≤ g := (h.lt g rfl).1

theorem mark_at (n : Int) (k i : Nat) (h : i < k) : ((tl n k).take i ++ (pd n k).drop i).getD i 0 = (pd n k).getD i 0 := by
  have hl : ((tl n k).take i).length = i := by rw [List.length_take, tl_length]; omega
  rw [List.getD_eq_getElem?_getD, List.getElem?_append_right (by omega), hl, Nat.sub_self]
  rw [drop_cons (pd n k) i (by rw [pd_length]; omega)]
  simp

theorem mark_set (n : Int) (k i : Nat) (h : i < k) : ((tl n k).take i ++ (pd n k).drop i).set i ((pd n k).getD i 0 + 128) = (tl n k).take (i + 1) ++ (pd n k).drop (i + 1) := by
  have hl : ((tl n k).take i).length = i := by rw [List.length_take, tl_length]; omega
  rw [List.set_append_right _ _ (by omega), hl, Nat.sub_self, drop_cons (pd n k) i (by rw [pd_length]; omega), List.set_cons_zero, take_snoc (tl n k) i (by rw [tl_length]; omega), pd_tl n k i h]
  simp

theorem mark_end (n : Int) (k : Nat) : (tl n k).take k ++ (pd n k).drop k = tl n k := by
  rw [pd_drop, List.take_append_drop]

set_option maxHeartbeats 1000000 in
theorem refbytes_any (n : Int) (w : World) (h0 : 0 ≤ n) (h1 : n ≤ 18446744073709551615) :
    Calls Tryd.prog 78 #[.int .u64 n] w fun e w' => ∃ g cap, e = .returned (.slice (some ⟨g, 0, none⟩) (sz n) cap) ∧
      w'.ownsRow w.heap.size 5 1 (.slice (some ⟨g, 0, none⟩) (sz n) cap) (sz n) ((enc n).map (Value.int .u8)) ∧ Below w.heap.size w w' := by
  obtain ⟨s1, s2, _, _⟩ := sz_bounds n h0 h1
  obtain ⟨k, hk⟩ : ∃ k, sz n = k + 1 := ⟨sz n - 1, by omega⟩
  have HE : Hid (enc n = tl n k) := by unfold Hid enc; rw [hk]; rfl
  go_enter Tryd.func78, Tryd.ntmps78
  go_wp2_with fail
  refine (digits_any n w h0 h1).mono ?_
  rintro e w1 ⟨g, cap, rfl, hown, hb⟩
  rw [hk] at hown s2 ⊢
  have HK : Hid (sz n = k + 1) := hk
  clear hk s1
  simp only [Nat.add_sub_cancel] at hown
  go_wp2
  go_loopw [4] (fun i wr => ∃ j : Nat, j ≤ k ∧ i = .int .i64 j ∧ wr.ownsRow w.heap.size 5 1 (.slice (some ⟨g, 0, none⟩) (k + 1) cap) (k + 1) (((tl n k).take j ++ (pd n k).drop j).map (Value.int .u8)) ∧ Below w.heap.size w wr) (fun i _ => k - (intOf i).toNat)
  case atStart => exact ⟨0, Nat.zero_le _, rfl, by simpa using hown, hb⟩
  case round =>
    obtain ⟨j, hj, rfl, ho, hbel⟩ := hrel
    clear hown hb
    by_cases hlt : j < k
    · have hce := ho.cellAt j (by omega)
      have hfr := ho.frozenAt j
      have hlen : j < ((tl n k).take j ++ (pd n k).drop j).length := by rw [List.length_append, List.length_take, List.length_drop, tl_length, pd_length]; omega
      rw [List.getElem?_map, List.getElem?_eq_getElem hlen] at hce
      have hgd : ((tl n k).take j ++ (pd n k).drop j)[j] = (pd n k).getD j 0 := by
        rw [← mark_at n k j hlt, List.getD_eq_getElem?_getD, List.getElem?_eq_getElem hlen]; rfl
      rw [hgd] at hce
      simp only [Option.map_some] at hce
      have hst := (ho.stored j (.int .u8 ((pd n k).getD j 0 + 128)))
      rw [← List.map_set, mark_set n k j hlt] at hst
      have hpb : 0 ≤ (pd n k).getD j 0 ∧ (pd n k).getD j 0 ≤ 127 := by
        have hl : j < (pd n k).length := by rw [pd_length]; omega
        rw [List.getD_eq_getElem?_getD, List.getElem?_eq_getElem hl]; exact pd_bytes n k _ (List.getElem_mem hl)
      have hgw := (owned_low ho)
      clear hgd hlen
      generalize (pd n k).getD j 0 = x at hce hst hpb
      obtain ⟨hx0, hx1⟩ := hpb
      have HS : Hid ((wr.setCell ⟨g, j, none⟩ (.int .u8 (x + 128))).ownsRow w.heap.size 5 1 (.slice (some ⟨g, 0, none⟩) (k + 1) cap) (k + 1) (((tl n k).take (j + 1) ++ (pd n k).drop (j + 1)).map (Value.int .u8))) := hst.1
      have HB : Hid (Below w.heap.size w (wr.setCell ⟨g, j, none⟩ (.int .u8 (x + 128)))) := hbel.setCell (p := ⟨g, j, none⟩) hgw _
      clear hst ho hbel
      have hi1 : (j : Int) < (k : Int) := by omega
      go_wp2
      go_roundw
      case rel => exact ⟨j + 1, by omega, by go_num, HS.out, HB.out⟩
      case measure => simp [intOf]; omega
    · have hjk : j = k := by omega
      subst hjk
      have HO : Hid (wr.ownsRow w.heap.size 5 1 (.slice (some ⟨g, 0, none⟩) (j + 1) cap) (j + 1) ((tl n j).map (Value.int .u8))) := by rw [mark_end] at ho; exact ho
      have HB : Hid (Below w.heap.size w wr) := hbel
      clear ho hbel
      go_wp2
      go_ret
      refine ⟨g, cap, by rw [HK.out]; rfl, ?_, HB.out⟩
      rw [HE.out, HK.out]; exact HO.out

end Go.Proofs.YthbkabehjeidjabDoor.R
