import Derived.Test.YteabjjbaodadkaaDoorNums
import Derived.Test.YteabjjbaodadkaaDoorRead
import Derived.Test.YteabjjbaodadkaaDoorMath
namespace Go.Proofs.YteabjjbaodadkaaDoor.R
open Go.RowKit

theorem Tryd.info_u64 : (Tryd.prog.info? 129).map (fun i => (i.zero, i.size, i.bytes)) = some (some (.int .u64 0), 1, 8) := by kernel_rfl

theorem own_shape {w : World} {base n : Nat} {e : TypeId} {v : Value} {xs : List Value} (h : w.ownsRow base e 1 v n xs) : ∃ a cap, v = .slice a n cap := by
  obtain ⟨_, ⟨rfl, rfl⟩ | ⟨g, cap, cur, rfl, _⟩⟩ := h
  · exact ⟨none, 0, rfl⟩
  · exact ⟨_, cap, rfl⟩

theorem own_lies {w : World} {base n cap : Nat} {e : TypeId} {a : Option Addr} {k : IntKind} {xs : List Int} (h : w.ownsRow base e 1 (.slice a n cap) n (xs.map (Value.int k))) : Lies k w a xs ∧ xs.length = n := by
  have hl : xs.length = n := by have := h.1; simpa using this
  refine ⟨?_, hl⟩
  obtain ⟨_, ⟨_, h0⟩ | ⟨g, cap', cur, hv, hb, hg, hn, hm, hs, ht⟩⟩ := id h
  · exact .inl (List.eq_nil_of_length_eq_zero (by omega))
  · simp only [Value.slice.injEq] at hv
    obtain ⟨rfl, _, rfl⟩ := hv
    refine .inr ⟨g, 0, rfl, fun i hi => ?_⟩
    rw [Nat.zero_add, h.cellAt i (by omega), List.getElem?_map, List.getD_eq_getElem?_getD, List.getElem?_eq_getElem hi]
    rfl

theorem own_grown {w0 w w' : World} {base n : Nat} {e : TypeId} {v : Value} {xs : List Value} (hb : Below base w0 w) (hg : w.grownBy w' v.ownBlock) (h : w.ownsRow base e 1 v n xs) (hs : base ≤ w.heap.size) : Below base w0 w' :=
  hb.grown hg hs (fun j hj => (h.lt j hj).1)

theorem lies_drop {k : IntKind} {w : World} {b off : Nat} {zs : List Int} (h : ∀ i, i < zs.length → w.cell? ⟨b, off + i, none⟩ = some (.int k (zs.getD i 0))) (m : Nat) : Lies k w (some ⟨b, off + m, none⟩) (zs.drop m) := by
  refine .inr ⟨b, off + m, rfl, fun i hi => ?_⟩
  simp at hi
  rw [Nat.add_assoc, h (m + i) (by omega)]
  simp [List.getD_eq_getElem?_getD]

def lenV : Value → Nat | .slice _ n _ => n | _ => 0

end Go.Proofs.YteabjjbaodadkaaDoor.R

namespace Go.Proofs.YteabjjbaodadkaaDoor.R
open Go.RowKit

theorem nums_at {l : List Int} (h : Nums l) (k : Nat) (hk : k < l.length) : 0 ≤ l.getD k 0 ∧ l.getD k 0 ≤ 18446744073709551615 := by
  rw [List.getD_eq_getElem?_getD, List.getElem?_eq_getElem hk]; exact h _ (List.getElem_mem hk)

theorem take_snoc (l : List Int) (k : Nat) (h : k < l.length) : l.take (k + 1) = l.take k ++ [l.getD k 0] := by
  rw [List.take_succ_eq_append_getElem h, List.getD_eq_getElem?_getD, List.getElem?_eq_getElem h]; rfl

theorem nums_take {l : List Int} (h : Nums l) (k : Nat) : Nums (l.take k) := fun n hn => h n (List.mem_of_mem_take hn)

end Go.Proofs.YteabjjbaodadkaaDoor.R

namespace Go.Proofs.YteabjjbaodadkaaDoor.R
open Go.RowKit

/-- The digits of n from the place k down, without marks. -/
def pd (n : Int) : Nat → List Int
  | 0 => [n % 128]
  | k + 1 => (n / 128 ^ (k + 1) % 128) :: pd n k

theorem pd_length (n : Int) (k : Nat) : (pd n k).length = k + 1 := by
  induction k with
  | zero => rfl
  | succ k ih => simp [pd, ih]

theorem pd_bytes (n : Int) : ∀ k, ∀ z ∈ pd n k, 0 ≤ z ∧ z ≤ 127
  | 0, z, hz => by simp [pd] at hz; omega
  | k + 1, z, hz => by
    rw [pd, List.mem_cons] at hz
    rcases hz with rfl | hz
    · omega
    · exact pd_bytes n k z hz

theorem pd_tl (n : Int) : ∀ (k i : Nat), i < k → (tl n k).getD i 0 = (pd n k).getD i 0 + 128
  | 0, i, h => by omega
  | k + 1, 0, h => by simp [tl, pd]
  | k + 1, i + 1, h => by
    have := pd_tl n k i (by omega)
    simpa [tl, pd] using this

theorem pd_drop (n : Int) : ∀ k : Nat, (pd n k).drop k = (tl n k).drop k
  | 0 => rfl
  | k + 1 => by simpa [tl, pd] using pd_drop n k

theorem div_next (n : Int) (j : Nat) : n / 128 ^ (j + 1) / 128 = n / 128 ^ (j + 1 + 1) := by
  rw [Int.pow_succ 128 (j + 1), ← Int.ediv_ediv_of_nonneg (Int.pow_nonneg (by omega))]

theorem div_le (n : Int) (j : Nat) (h0 : 0 ≤ n) (h1 : n ≤ 18446744073709551615) : 0 ≤ n / 128 ^ (j + 1) ∧ n / 128 ^ (j + 1) ≤ 18446744073709551615 :=
  ⟨Int.ediv_nonneg h0 (Int.pow_nonneg (by omega)), Int.le_trans (Int.ediv_le_self _ h0) h1⟩

theorem sz_of_div (n : Int) (j : Nat) (h0 : 0 ≤ n) (h1 : n ≤ 18446744073709551615) (hz : n / 128 ^ (j + 1) = 0) (hp : j = 0 ∨ 0 < n / 128 ^ j) : sz n = j + 1 := by
  have hpp : (0 : Int) < 128 ^ (j + 1) := Int.pow_pos (by omega)
  have hpj : (0 : Int) < 128 ^ j := Int.pow_pos (by omega)
  refine sz_eq n j h0 h1 ?_ ?_
  · have := Int.lt_ediv_add_one_mul_self n hpp
    rw [hz] at this; omega
  · rcases hp with hp | hp
    · left; exact hp
    · right
      have h3 : 1 ≤ n / 128 ^ j := by omega
      rw [Int.le_ediv_iff_mul_le hpj] at h3
      omega

theorem ten (n : Int) (j : Nat) (h0 : 0 ≤ n) (h1 : n ≤ 18446744073709551615) (hp : j = 0 ∨ 0 < n / 128 ^ j) : j ≤ 9 := by
  rcases hp with hp | hp
  · omega
  · by_cases hj : j ≤ 9
    · exact hj
    · exfalso
      have hpj : (0 : Int) < 128 ^ j := Int.pow_pos (by omega)
      have h3 : 1 ≤ n / 128 ^ j := by omega
      rw [Int.le_ediv_iff_mul_le hpj] at h3
      have hm : (128 : Int) ^ 10 ≤ 128 ^ j := by
        have := Nat.pow_le_pow_right (n := 128) (by omega) (show 10 ≤ j by omega)
        exact_mod_cast this
      have : (128 : Int) ^ 10 = 1180591620717411303424 := by decide
      omega

theorem own_below' {w w' : World} {base n : Nat} {e : TypeId} {v : Value} {xs : List Value} (h : w.ownsRow base e 1 v n xs) (hb : Below w.heap.size w w') : w'.ownsRow base e 1 v n xs := by
  have hlt := h.lt
  obtain ⟨h1, h2⟩ := h
  refine ⟨h1, ?_⟩
  rcases h2 with h2 | ⟨g, cap, cur, rfl, hg, hh, r⟩
  · exact .inl h2
  · exact .inr ⟨g, cap, cur, rfl, hg, (hb.block g (hlt g rfl).2).trans hh, r⟩

theorem owned_low {w : World} {base n cap g : Nat} {xs : List Value} {e : TypeId} (h : w.ownsRow base e 1 (.slice (some ⟨g, 0, none⟩) n cap) n xs) : base ≤ g := (h.lt g rfl).1

theorem mark_at (n : Int) (k i : Nat) (h : i < k) : ((tl n k).take i ++ (pd n k).drop i).getD i 0 = (pd n k).getD i 0 := by
  have hl : ((tl n k).take i).length = i := by rw [List.length_take, tl_length]; omega
  rw [List.getD_eq_getElem?_getD, List.getElem?_append_right (by omega), hl, Nat.sub_self]
  rw [drop_cons (pd n k) i (by rw [pd_length]; omega)]
  simp

theorem mark_set (n : Int) (k i : Nat) (h : i < k) : ((tl n k).take i ++ (pd n k).drop i).set i ((pd n k).getD i 0 + 128) = (tl n k).take (i + 1) ++ (pd n k).drop (i + 1) := by
  have hl : ((tl n k).take i).length = i := by rw [List.length_take, tl_length]; omega
  rw [List.set_append_right _ _ (by omega), hl, Nat.sub_self, drop_cons (pd n k) i (by rw [pd_length]; omega), List.set_cons_zero, take_snoc (tl n k) i (by rw [tl_length]; omega), pd_tl n k i h]
  simp

theorem mark_end (n : Int) (k : Nat) : (tl n k).take k ++ (pd n k).drop k = tl n k := by
  rw [pd_drop, List.take_append_drop]

end Go.Proofs.YteabjjbaodadkaaDoor.R
