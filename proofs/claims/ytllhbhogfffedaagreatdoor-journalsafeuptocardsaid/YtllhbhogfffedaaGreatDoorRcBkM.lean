import Derived.Test.YtllhbhogfffedaaGreatDoorRcRd5
import Derived.Test.YtllhbhogfffedaaGreatDoorNums
import Derived.BigQuiet
import Derived.Deep.QuietTactic
import Derived.Maps.AppendAt
namespace Go.Proofs.YtllhbhogfffedaaGreatDoor
open Go.RowKit
set_option linter.unusedVariables false
set_option linter.unusedSimpArgs false

/-! ## What is printed is read again -/
theorem okN_zero {f : Int} {i : Nat} {n : Int} (h : okN f i n = true) (hh : hasB f i = false) : n = 0 := by
  unfold okN at h
  rw [hh] at h
  simpa using h
theorem nm_back {f : Int} {r : Rc} (h : okNs f r 8 = true) (t : List Int) : ∀ {k : Nat}, k ≤ 8 → ∀ t, nmP f k (nmB f r k ++ t) = some ((List.range k).map (nmA r), t)
  | 0, _, t => by simp [nmP, nmB]
  | k + 1, hk, t => by
    have h1 := nm_back h t (k := k) (by omega)
    have h2 := okNs_at h (show k < 8 by omega)
    have h3 := okN_bd h2
    rw [nmB_succ, List.append_assoc]
    simp only [nmP, h1]
    rw [List.range_succ, List.map_append]
    cases hh : hasB f k with
    | true => simp only [if_true, numP_enc t h3.1 h3.2]; rfl
    | false =>
      simp only [Bool.false_eq_true, if_false, List.nil_append]
      simp [okN_zero h2 hh]
theorem sp_back : ∀ (n : Nat) (l : List (Int × Int)) (t : List Int), l.length = n → SpOk l → spP n (l.flatMap spB1 ++ t) = some (l, t)
  | 0, l, t, hl, h => by
    obtain rfl := List.eq_nil_of_length_eq_zero hl
    rfl
  | n + 1, l, t, hl, h => by
    have hne : l ≠ [] := by intro e; rw [e] at hl; simp at hl
    obtain ⟨l', p, rfl⟩ : ∃ l' p, l = l' ++ [p] := ⟨l.dropLast, l.getLast hne, (List.dropLast_concat_getLast hne).symm⟩
    have hp := h p (by simp)
    have h1 := sp_back n l' (spB1 p ++ t) (by simpa using hl) (fun q hq => h q (by simp [hq]))
    rw [List.flatMap_append, List.append_assoc, List.flatMap_cons, List.flatMap_nil, List.append_nil]
    simp only [spP]
    rw [h1]
    simp only [spB1]
    rw [List.append_assoc, numP_enc _ (by omega) (by omega)]
    simp only
    rw [numP_enc _ (by omega) (by omega)]
    simp only
    obtain ⟨a, b⟩ := p
    simp
    omega
theorem sps_back (l : List (Int × Int)) (t : List Int) (h : SpOk l) (hl : l.length ≤ 500) : spsP (spB l ++ t) = some (l, t) := by
  unfold spsP spB
  rw [List.append_assoc, numP_enc _ (by omega) (by omega)]
  simp only [Int.toNat_natCast]
  exact sp_back l.length l t rfl h
theorem may_lists {r : Rc} (h : mayB6 r = true) : (hasB (kf r.kind) 8 = false → r.spans = []) ∧ (hasB (kf r.kind) 9 = false → r.data = []) := by
  unfold mayB6 at h
  simp only [Bool.and_eq_true] at h
  have h2 := h.2.1
  unfold allowB at h2
  simp only [Bool.and_eq_true, Bool.or_eq_true, beq_iff_eq] at h2
  refine ⟨fun e => ?_, fun e => ?_⟩
  · rcases h2.2.1 with q | q
    · rw [e] at q; cases q
    · exact List.eq_nil_of_length_eq_zero q
  · rcases h2.2.2 with q | q
    · rw [e] at q; cases q
    · exact List.eq_nil_of_length_eq_zero q
theorem mkR_nm (r : Rc) : mkR r.kind ((List.range 8).map (nmA r)) = { r with spans := [], data := [] } := by
  rfl
theorem rec_back {r : Rc} (h : mayB6 r = true) : recP (prB r) = some (r, []) := by
  obtain ⟨h1, h2, h3, h4⟩ := may_parts h
  obtain ⟨h5, h6⟩ := may_lists h
  unfold prB
  simp only [recP, nm_back h2 [] (Nat.le_refl 8), mkR_nm]
  unfold tailB
  cases hb8 : hasB (kf r.kind) 8 with
  | true =>
    have hb9 := not_both hb8
    have hd := h6 hb9
    obtain ⟨q1, q2⟩ := h3 hb8
    simp only [if_true, hb9, Bool.false_eq_true, if_false, List.append_nil]
    have h7 := sps_back r.spans [] q2 q1
    rw [List.append_nil] at h7
    rw [h7]
    simp only [Option.some.injEq, Prod.mk.injEq, and_true]
    cases r
    simp only at hd
    rw [hd]
  | false =>
    have hs := h5 hb8
    simp only [Bool.false_eq_true, if_false, List.nil_append]
    cases hb9 : hasB (kf r.kind) 9 with
    | true =>
      have q := h4 hb9
      simp only [if_true]
      rw [numP_enc _ (by omega) (by omega)]
      simp only [Int.toNat_natCast]
      rw [if_pos (by omega), List.take_of_length_le (Nat.le_refl _), List.drop_length]
      simp only [Option.some.injEq, Prod.mk.injEq, and_true]
      cases r
      simp only at hs
      rw [hs]
    | false =>
      have hd := h6 hb9
      simp only [Bool.false_eq_true, if_false, Option.some.injEq, Prod.mk.injEq, and_true]
      cases r
      simp only at hs hd
      rw [hs, hd]
theorem read_back {r : Rc} (h : mayB6 r = true) : readP (prB r) = some r := by
  unfold readP
  rw [rec_back h]
  simp only [fnl, h, if_true]

/-! ## What is read is printed again -/
theorem nm_inv {f : Int} : ∀ {k : Nat} {zs t l : List Int}, Bytey zs → nmP f k zs = some (l, t) → zs = ((List.range k).flatMap fun i => if hasB f i then enc (l.getD i 0) else []) ++ t ∧ l.length = k
  | 0, zs, t, l, hb, h => by
    simp only [nmP, Option.some.injEq, Prod.mk.injEq] at h
    obtain ⟨rfl, rfl⟩ := h
    simp
  | k + 1, zs, t, l, hb, h => by
    simp only [nmP] at h
    split at h
    · cases h
    · rename_i l' t' h1
      obtain ⟨q1, q2⟩ := nm_inv hb h1
      have hbt := (nmP_by hb h1).2.1
      have hcong : ∀ n : Int, ((List.range k).flatMap fun i => if hasB f i then enc ((l' ++ [n]).getD i 0) else []) = ((List.range k).flatMap fun i => if hasB f i then enc (l'.getD i 0) else []) := fun n => by
        rw [List.flatMap_def, List.flatMap_def]
        congr 1
        apply List.map_congr_left
        intro i hi
        have hi' := List.mem_range.mp hi
        rw [List.getD_eq_getElem?_getD, List.getD_eq_getElem?_getD, List.getElem?_append_left (by omega)]
      split at h
      · rename_i hh
        split at h
        · cases h
        · rename_i n t1 h2
          simp only [Option.some.injEq, Prod.mk.injEq] at h
          obtain ⟨rfl, rfl⟩ := h
          obtain ⟨_, _, _, h4, _, _, _, _⟩ := numP_inv hbt h2
          refine ⟨?_, by simp [q2]⟩
          rw [List.range_succ, List.flatMap_append, hcong, List.append_assoc, q1, h4]
          simp [hh, q2]
      · rename_i hh
        simp only [Option.some.injEq, Prod.mk.injEq] at h
        obtain ⟨rfl, rfl⟩ := h
        refine ⟨?_, by simp [q2]⟩
        rw [List.range_succ, List.flatMap_append, hcong, List.append_assoc, q1]
        simp [hh]
theorem sp_inv : ∀ {k : Nat} {zs t : List Int} {l : List (Int × Int)}, Bytey zs → spP k zs = some (l, t) → zs = l.flatMap spB1 ++ t
  | 0, zs, t, l, hb, h => by
    simp only [spP, Option.some.injEq, Prod.mk.injEq] at h
    obtain ⟨rfl, rfl⟩ := h
    simp
  | k + 1, zs, t, l, hb, h => by
    simp only [spP] at h
    split at h
    · cases h
    · rename_i l' t' h1
      split at h
      · cases h
      · rename_i a t1 h2
        split at h
        · cases h
        · rename_i b t2 h3
          simp only [Option.some.injEq, Prod.mk.injEq] at h
          obtain ⟨rfl, rfl⟩ := h
          have hbt := (spP_by hb h1).2.1
          have hbt1 := (numP_by hbt h2).1
          obtain ⟨_, _, _, h4, _, _, _, _⟩ := numP_inv hbt h2
          obtain ⟨_, _, _, h5, _, _, _, _⟩ := numP_inv hbt1 h3
          have q := sp_inv hb h1
          rw [List.flatMap_append, List.append_assoc, q, h4, h5]
          simp only [List.flatMap_cons, List.flatMap_nil, List.append_nil, spB1]
          rw [show a + b - a = b by omega]
          simp
theorem rec_inv {zs t : List Int} {r : Rc} (hb : Bytey zs) (h : recP zs = some (r, t)) : zs = prB r ++ t := by
  cases zs with
  | nil => cases h
  | cons k t0 =>
    have hb0 : Bytey t0 := fun z hz => hb z (List.mem_cons_of_mem _ hz)
    simp only [recP] at h
    split at h
    · cases h
    · rename_i l t1 h1
      obtain ⟨q1, q2⟩ := nm_inv hb0 h1
      have hbt := (nmP_by hb0 h1).2.1
      obtain ⟨n0, n1, n2, n3, n4, n5, n6, n7, rfl⟩ := eight q2
      have hnm : ∀ s d, nmB (kf k) ({ mkR k [n0, n1, n2, n3, n4, n5, n6, n7] with spans := s, data := d } : Rc) 8 = (List.range 8).flatMap fun i => if hasB (kf k) i then enc ([n0, n1, n2, n3, n4, n5, n6, n7].getD i 0) else [] := fun s d => rfl
      split at h
      · rename_i hb8
        split at h
        · cases h
        · rename_i s t2 h2
          simp only [Option.some.injEq, Prod.mk.injEq] at h
          obtain ⟨rfl, rfl⟩ := h
          have hb9 := not_both hb8
          unfold spsP at h2
          split at h2
          · cases h2
          · rename_i n t3 h3
            obtain ⟨_, _, _, h4, _, _, h7, h8⟩ := numP_inv hbt h3
            have hbt3 := (numP_by hbt h3).1
            have h5 := sp_inv hbt3 h2
            have h6 := (spP_by hbt3 h2).1
            show k :: t0 = (k :: (nmB (kf k) _ 8 ++ tailB (kf k) _)) ++ _
            rw [hnm]
            unfold tailB
            simp only [hb8, hb9, if_true, Bool.false_eq_true, if_false, List.append_nil, List.cons_append, List.append_assoc]
            rw [q1, h4, h5]
            unfold spB
            rw [h6, Int.toNat_of_nonneg h7]
            simp
      · rename_i hb8
        have hb8' : hasB (kf k) 8 = false := by simpa using hb8
        split at h
        · rename_i hb9
          split at h
          · cases h
          · rename_i n t2 h2
            obtain ⟨_, _, _, h4, _, _, h7, h8⟩ := numP_inv hbt h2
            split at h
            · rename_i hn
              simp only [Option.some.injEq, Prod.mk.injEq] at h
              obtain ⟨rfl, rfl⟩ := h
              show k :: t0 = (k :: (nmB (kf k) _ 8 ++ tailB (kf k) _)) ++ _
              rw [hnm]
              unfold tailB
              simp only [hb8', hb9, if_true, Bool.false_eq_true, if_false, List.nil_append, List.cons_append, List.append_assoc]
              have hlen : ((t2.take n.toNat).length : Int) = n := by rw [List.length_take]; omega
              rw [hlen, List.take_append_drop, q1, h4]
            · cases h
        · rename_i hb9
          have hb9' : hasB (kf k) 9 = false := by simpa using hb9
          simp only [Option.some.injEq, Prod.mk.injEq] at h
          obtain ⟨rfl, rfl⟩ := h
          show k :: t0 = (k :: (nmB (kf k) _ 8 ++ tailB (kf k) _)) ++ _
          have hnm' := hnm [] []
          unfold tailB
          simp only [hb8', hb9', Bool.false_eq_true, if_false, List.append_nil, List.cons_append]
          rw [q1]
          rfl
theorem read_inv {zs : List Int} {r : Rc} (hb : Bytey zs) (h : readP zs = some r) : zs = prB r ∧ mayB6 r = true := by
  unfold readP at h
  split at h
  · rename_i r' t h1
    cases t with
    | nil =>
      by_cases hm : mayB6 r' = true
      · simp only [fnl, hm, if_true, Option.some.injEq] at h
        subst h
        have := rec_inv hb h1
        rw [List.append_nil] at this
        exact ⟨this, hm⟩
      · simp [fnl, hm] at h
    | cons z tz => simp [fnl] at h
  · cases h
theorem prB_len {r : Rc} (h : mayB6 r = true) : (prB r).length ≤ 80000 := by
  obtain ⟨h1, h2, h3, h4⟩ := may_parts h
  have h5 := nmB_len h2 (Nat.le_refl 8)
  unfold prB tailB
  rw [List.length_cons, List.length_append, List.length_append]
  have h6 : (if hasB (kf r.kind) 8 = true then spB r.spans else []).length ≤ 10010 := by
    split
    · rename_i hb
      obtain ⟨q1, q2⟩ := h3 hb
      have e1 := flat_len q2
      have e2 := enc_len' (n := (r.spans.length : Int)) (by omega) (by omega)
      unfold spB
      rw [List.length_append, e2.1]
      omega
    · simp
  have h7 : (if hasB (kf r.kind) 9 = true then enc (r.data.length : Int) ++ r.data else []).length ≤ 65546 := by
    split
    · rename_i hb
      have q := h4 hb
      have e2 := enc_len' (n := (r.data.length : Int)) (by omega) (by omega)
      rw [List.length_append, e2.1]
      omega
    · simp
  omega
theorem bytey_app {a b : List Int} (h1 : Bytey a) (h2 : Bytey b) : Bytey (a ++ b) := fun z hz => by
  rcases List.mem_append.mp hz with h | h
  · exact h1 z h
  · exact h2 z h
theorem bytey_flat {α : Type} {l : List α} {f : α → List Int} (h : ∀ x ∈ l, Bytey (f x)) : Bytey (l.flatMap f) := fun z hz => by
  obtain ⟨x, hx, hzx⟩ := List.mem_flatMap.mp hz
  exact h x hx z hzx
theorem prB_bytey {r : Rc} (h : mayB6 r = true) (hd : Bytey r.data) : Bytey (prB r) := by
  obtain ⟨h1, h2, h3, h4⟩ := may_parts h
  have hk := kf_bd h1
  unfold prB tailB
  intro z hz
  rcases List.mem_cons.mp hz with rfl | hz
  · omega
  · refine bytey_app ?_ (bytey_app ?_ ?_) z hz
    · unfold nmB
      refine bytey_flat (fun i _ => ?_)
      split
      · exact enc_bytes _
      · intro z hz; cases hz
    · split
      · unfold spB
        refine bytey_app (enc_bytes _) (bytey_flat (fun p _ => ?_))
        unfold spB1
        exact bytey_app (enc_bytes _) (enc_bytes _)
      · intro z hz; cases hz
    · split
      · exact bytey_app (enc_bytes _) hd
      · intro z hz; cases hz
end Go.Proofs.YtllhbhogfffedaaGreatDoor

namespace Go.Proofs.YtllhbhogfffedaaGreatDoor
open Go.RowKit
set_option linter.unusedVariables false

theorem or_u32 (k : Nat) (v c : Int) (hk : k ≤ 31) (v0 : 0 ≤ v) (c0 : 0 ≤ c) (hc : c < 2 ^ k) (hv : v * 2 ^ k < 4294967296) (hc2 : c < 4294967296) : bits .or .u32 (v * 2 ^ k) c = v * 2 ^ k + c := by
  obtain ⟨x, rfl⟩ : ∃ x : Nat, v = x := ⟨v.toNat, by omega⟩
  obtain ⟨y, rfl⟩ : ∃ y : Nat, c = y := ⟨c.toNat, by omega⟩
  have hy : y < 2 ^ k := by exact_mod_cast hc
  have h0 : (0 : Int) ≤ (x : Int) * 2 ^ k := Int.mul_nonneg v0 (Int.le_of_lt (Int.pow_pos (by decide)))
  rw [u32_or _ _ h0 hv c0 hc2]
  rw [show ((x : Int) * 2 ^ k).toNat = x * 2 ^ k from by rw [show (x : Int) * 2 ^ k = ((x * 2 ^ k : Nat) : Int) by simp]; exact Int.toNat_natCast _, Int.toNat_natCast, nat_join k (x * 2 ^ k) y (Nat.mul_mod_left _ _) hy]
  simp
set_option maxRecDepth 100000 in
set_option maxHeartbeats 1000000 in
theorem word_any (g off n c : Nat) (x0 x1 x2 x3 : Int) (w : World) (hn : 4 ≤ n) (h0 : 0 ≤ x0 ∧ x0 ≤ 255) (h1 : 0 ≤ x1 ∧ x1 ≤ 255) (h2 : 0 ≤ x2 ∧ x2 ≤ 255) (h3 : 0 ≤ x3 ∧ x3 ≤ 255)
    (c0 : w.cell? ⟨g, off, none⟩ = some (.int .u8 x0)) (c1 : w.cell? ⟨g, off + 1, none⟩ = some (.int .u8 x1)) (c2 : w.cell? ⟨g, off + 2, none⟩ = some (.int .u8 x2)) (c3 : w.cell? ⟨g, off + 3, none⟩ = some (.int .u8 x3)) :
    Calls Tryz.prog 102 #[.slice (some ⟨g, off, none⟩) n c] w fun e w' => e = .returned (.int .u32 (x0 * 16777216 + x1 * 65536 + x2 * 256 + x3)) ∧ Below w.heap.size w w' := by
  have hn' : (4 : Int) ≤ n := by omega
  go_enter Tryz.func102, Tryz.ntmps102
  go_wp2
  go_quiet (fail)
  go_wp2
  go_ret
  refine ⟨congrArg (fun z => Ending.returned (Value.int .u32 z)) ?_, ⟨rfl, rfl, rfl, Nat.le_refl _, fun _ _ => rfl⟩⟩
  rw [show x0 * 16777216 = x0 * 2 ^ 24 by omega, or_u32 24 x0 _ (by omega) (by omega) (by omega) (by omega) (by omega) (by omega)]
  rw [show x0 * 2 ^ 24 + x1 * 65536 = (x0 * 256 + x1) * 2 ^ 16 by omega, or_u32 16 _ _ (by omega) (by omega) (by omega) (by omega) (by omega) (by omega)]
  rw [show (x0 * 256 + x1) * 2 ^ 16 + x2 * 256 = (x0 * 65536 + x1 * 256 + x2) * 2 ^ 8 by omega, or_u32 8 _ _ (by omega) (by omega) (by omega) (by omega) (by omega) (by omega)]
  all_goals omega
end Go.Proofs.YtllhbhogfffedaaGreatDoor

namespace Go.Proofs.YtllhbhogfffedaaGreatDoor
open Go.RowKit
set_option linter.unusedVariables false

/-- A number's four bytes. -/
def wd4 (n : Int) : List Int := [n / 16777216, n / 65536 % 256, n / 256 % 256, n % 256]
theorem four_lit (W : World) (x y z u : Value) (t : TypeId) : ∀ j v, [x, y, z, u][j]? = some v → (W.alloc (.cells #[x, y, z, u] t)).cell? ((⟨W.heap.size, 0, none⟩ : Addr).add j) = some v := by
  intro j v hj
  match j, hj with
  | 0, hj => simp at hj; subst hj; simp [Addr.add]
  | 1, hj => simp at hj; subst hj; simp [Addr.add]
  | 2, hj => simp at hj; subst hj; simp [Addr.add]
  | 3, hj => simp at hj; subst hj; simp [Addr.add]
  | j + 4, hj => simp at hj

set_option maxRecDepth 100000 in
set_option maxHeartbeats 1000000 in
theorem putWord_any (base m : Nat) (v : Value) (zs : List Int) (n : Int) (w : World) (hn : 0 ≤ n ∧ n < 4294967296) (ho : w.ownsRow base 5 1 v m (zs.map (Value.int .u8))) (hm : m ≤ 140737488355000) (hB : base ≤ w.heap.size) :
    Calls Tryz.prog 108 #[v, .int .u32 n] w fun e w' => ∃ v', e = .returned v' ∧ w'.ownsRow base 5 1 v' (m + 4) ((zs ++ wd4 n).map (Value.int .u8)) ∧ w.grownBy w' v.ownBlock ∧ (∀ j, v'.ownBlock = some j → v.ownBlock = some j ∨ w.heap.size ≤ j) := by
  obtain ⟨i0, hinf, hz0, hz1, hz2⟩ := info_parts Tryz.info_u8
  obtain ⟨a, cap, rfl⟩ : ∃ a cap, v = .slice a m cap := by
    obtain ⟨_, ⟨rfl, rfl⟩ | ⟨g, cap, cur, rfl, _⟩⟩ := ho
    · exact ⟨none, 0, rfl⟩
    · exact ⟨_, cap, rfl⟩
  obtain ⟨n0, n1⟩ := hn
  have HO : Hid (∀ o, (w.alloc o).ownsRow base 5 1 (.slice a m cap) m (zs.map (Value.int .u8))) := fun o => ho.alloc o
  clear ho
  go_enter Tryz.func108, Tryz.ntmps108
  go_wp2_with (at_builtin; refine wpList_append_own_at _ rfl _ _ 35 rfl base 5 i0 (.int .u8 0) 1 1 Tryz.underlying35 hinf hz0 hz1 hz2 rfl (by decide) _ _ _ rfl (HO.out _) ⟨w.heap.size, 0, none⟩ 4 4 [.int .u8 (n / 16777216), .int .u8 (n / 65536 % 256), .int .u8 (n / 256 % 256), .int .u8 (n % 256)] rfl rfl (four_lit _ _ _ _ _ _) (by intro u hu; simp at hu; rcases hu with rfl | rfl | rfl | rfl <;> rfl) (by unfold maxLen; omega) (by omega) (by simp; omega) ?_; intro v1 w1 o1 g1 _ t1)
  have hs1 := g1.size
  simp only [World.size_alloc] at hs1
  have HV : Hid (∀ j, v1.ownBlock = some j → (Value.slice a m cap).ownBlock = some j ∨ w.heap.size ≤ j) := fun j hj => by
    rcases t1 with t | t
    · exact .inl (t ▸ hj)
    · right; rw [hj] at t; simp at t; omega
  have HG : Hid (w.grownBy w1 (Value.slice a m cap).ownBlock) := by
    refine ⟨g1.os, g1.tape, g1.output, by omega, fun g hg hne => ?_⟩
    exact (g1.block g (by simp; omega) hne).trans (((Below.refl w.heap.size w).alloc (Nat.le_refl _) _).block g hg)
  have HR : Hid (w1.ownsRow base 5 1 v1 (m + 4) ((zs ++ wd4 n).map (Value.int .u8))) := by unfold Hid; rw [List.map_append]; exact o1
  clear o1 g1 t1
  go_wp2
  go_ret
  exact ⟨_, rfl, HR.out, HG.out, HV.out⟩
end Go.Proofs.YtllhbhogfffedaaGreatDoor

namespace Go.Proofs.YtllhbhogfffedaaGreatDoor
open Go.RowKit
set_option linter.unusedVariables false
set_option linter.unusedSimpArgs false

/-- What four bytes say. -/
def vl4 (zs : List Int) : Int := zs.getD 0 0 * 16777216 + zs.getD 1 0 * 65536 + zs.getD 2 0 * 256 + zs.getD 3 0
/-- What first answers. -/
def fsR (zs : List Int) : Rc × Int :=
  if zs.length < 8 then (rz0, 0)
  else if 131072 < vl4 zs ∨ (zs.length : Int) - 8 < vl4 zs then (rz0, 0)
  else if ((crs ((zs.drop 8).take (vl4 zs).toNat) : Nat) : Int) ≠ vl4 (zs.drop 4) then (rz0, 0)
  else match readP ((zs.drop 8).take (vl4 zs).toNat) with
    | none => (rz0, 0)
    | some r => (r, 8 + vl4 zs)
/-- The records at the beginning of some bytes, at most so many, and where they end. -/
def scn : Nat → List Int → List Rc × Nat
  | 0, _ => ([], 0)
  | k + 1, zs => if (fsR zs).2 = 0 then ([], 0) else ((fsR zs).1 :: (scn k (zs.drop (fsR zs).2.toNat)).1, (fsR zs).2.toNat + (scn k (zs.drop (fsR zs).2.toNat)).2)
/-- What Scan answers. -/
def scR (zs : List Int) : List Rc × Nat := scn zs.length zs

theorem bytAt {zs : List Int} (h : Bytey zs) (i : Nat) : 0 ≤ zs.getD i 0 ∧ zs.getD i 0 ≤ 255 := by
  rcases Nat.lt_or_ge i zs.length with q | q
  · rw [List.getD_eq_getElem?_getD, List.getElem?_eq_getElem q]
    exact h _ (List.getElem_mem q)
  · rw [List.getD_eq_getElem?_getD, List.getElem?_eq_none q]
    exact ⟨by decide, by decide⟩
theorem bytDrop {zs : List Int} (h : Bytey zs) (k : Nat) : Bytey (zs.drop k) := fun z hz => h z (List.mem_of_mem_drop hz)
theorem bytTake {zs : List Int} (h : Bytey zs) (k : Nat) : Bytey (zs.take k) := fun z hz => h z (List.mem_of_mem_take hz)
theorem vl4_bd {zs : List Int} (h : Bytey zs) : 0 ≤ vl4 zs ∧ vl4 zs < 4294967296 := by
  have h0 := bytAt h 0
  have h1 := bytAt h 1
  have h2 := bytAt h 2
  have h3 := bytAt h 3
  unfold vl4
  omega
theorem fsR_bd {zs : List Int} (h : Bytey zs) : (fsR zs).2 = 0 ∨ (8 ≤ (fsR zs).2 ∧ (fsR zs).2 ≤ zs.length) := by
  have hv := vl4_bd h
  unfold fsR
  split
  · exact .inl rfl
  split
  · exact .inl rfl
  split
  · exact .inl rfl
  split
  · exact .inl rfl
  · right
    simp only
    omega
theorem fs_small {zs : List Int} (hb : Bytey zs) : (fsR zs).1.data.length ≤ 65536 ∧ (fsR zs).1.spans.length ≤ 500 := by
  unfold fsR
  split
  · exact ⟨by decide, by decide⟩
  split
  · exact ⟨by decide, by decide⟩
  split
  · exact ⟨by decide, by decide⟩
  split
  · exact ⟨by decide, by decide⟩
  · rename_i r h
    obtain ⟨_, hm⟩ := read_inv (bytTake (bytDrop hb 8) _) h
    obtain ⟨_, _, h1, h2⟩ := may_parts hm
    obtain ⟨h3, h4⟩ := may_lists hm
    constructor
    · cases h9 : hasB (kf r.kind) 9 with
      | true => exact h2 h9
      | false => simp only [h4 h9]; exact Nat.zero_le _
    · cases h8 : hasB (kf r.kind) 8 with
      | true => exact (h1 h8).1
      | false => simp only [h3 h8]; exact Nat.zero_le _

/-- So far Scan has come. -/
structure Scd (zs : List Int) (l : List Rc) (t : Nat) : Prop where
  all : ∀ k, scn (k + l.length) zs = (l ++ (scn k (zs.drop t)).1, t + (scn k (zs.drop t)).2)
  cnt : 8 * l.length ≤ t
  len : t ≤ zs.length
theorem Scd.start (zs : List Int) : Scd zs [] 0 := ⟨fun k => by simp, by simp, by simp⟩
theorem Scd.step {zs : List Int} {l : List Rc} {t : Nat} (h : Scd zs l t) (hb : Bytey zs) (hn : (fsR (zs.drop t)).2 ≠ 0) : Scd zs (l ++ [(fsR (zs.drop t)).1]) (t + (fsR (zs.drop t)).2.toNat) := by
  have h1 := fsR_bd (bytDrop hb t)
  have h2 := h.cnt
  have h3 := h.len
  rw [List.length_drop] at h1
  refine ⟨fun k => ?_, by simp; omega, by omega⟩
  have h4 := h.all (k + 1)
  rw [show k + (l ++ [(fsR (zs.drop t)).1]).length = k + 1 + l.length by simp; omega, h4]
  simp only [scn, if_neg hn, List.drop_drop]
  simp [Nat.add_assoc]
theorem scn_none {zs : List Int} (h : (fsR zs).2 = 0) : ∀ k, scn k zs = ([], 0)
  | 0 => rfl
  | k + 1 => by simp [scn, h]
theorem Scd.fin {zs : List Int} {l : List Rc} {t : Nat} (h : Scd zs l t) (hn : (fsR (zs.drop t)).2 = 0) : scR zs = (l, t) := by
  have h1 := h.all (zs.length - l.length)
  have h2 := h.cnt
  have h3 := h.len
  rw [show zs.length - l.length + l.length = zs.length by omega, scn_none hn] at h1
  unfold scR
  rw [h1]
  simp

/-! ## Frames -/
/-- A record's frame. -/
def frB (r : Rc) : List Int := wd4 ((prB r).length : Nat) ++ (wd4 ((crs (prB r) : Nat) : Int) ++ prB r)
theorem vl4_wd4 (n : Int) (t : List Int) (h : 0 ≤ n ∧ n < 4294967296) : vl4 (wd4 n ++ t) = n := by
  unfold vl4 wd4
  simp
  omega
theorem frB_len (r : Rc) : (frB r).length = 8 + (prB r).length := by
  unfold frB wd4
  simp
  omega
end Go.Proofs.YtllhbhogfffedaaGreatDoor
