import Derived.Test.YtllhbhogfffedaaGreatDoorRcSum
import Derived.BigQuiet
import Derived.Deep.QuietTactic
import Derived.Maps.AppendAt
import Derived.Test.YtllhbhogfffedaaGreatDoorRcRd6
import Derived.Test.YtllhbhogfffedaaGreatDoorRcPr2
namespace Go.Proofs.YtllhbhogfffedaaGreatDoor
open Go.RowKit
set_option linter.unusedVariables false

theorem or_u32 (k : Nat) (v c : Int) (hk : k ≤ 31) (v0 : 0 ≤ v) (c0 : 0 ≤ c) (hc : c < 2 ^ k) (hv : v * 2 ^ k < 4294967296) (hc2 : c < 4294967296) : bits .or .u32 (v * 2 ^ k) c = v * 2 ^ k + c := by
  obtain ⟨x, rfl⟩ : ∃ x : Nat, v = x := ⟨v.toNat, by omega⟩
  obtain ⟨y, rfl⟩ : ∃ y : Nat, c = y := ⟨c.toNat, by omega⟩
  have hy : y < 2 ^ k := by exact_mod_cast hc
  have h0 : (0 : Int) ≤ (x : Int) * 2 ^ k := Int.mul_nonneg v0 (Int.le_of_lt (Int.pow_pos (by decide)))
  rw [u32_or _ _ h0 hv c0 hc2]
  rw [show ((x : Int) * 2 ^ k).toNat = x * 2 ^ k from by rw [show (x : Int) * 2 ^ k = ((x * 2 ^ k : Nat) : Int) by simp]; exact Int.toNat_natCast _, Int.toNat_natCast, nat_join k (x * 2 ^ k) y (Nat.mul_mod_left _ _) hy]
  simp
set_option maxRecDepth 100000 in
set_option maxHeartbeats 1000000 in
theorem word_any (g off n c : Nat) (x0 x1 x2 x3 : Int) (w : World) (hn : 4 ≤ n) (h0 : 0 ≤ x0 ∧ x0 ≤ 255) (h1 : 0 ≤ x1 ∧ x1 ≤ 255) (h2 : 0 ≤ x2 ∧ x2 ≤ 255) (h3 : 0 ≤ x3 ∧ x3 ≤ 255)
    (c0 : w.cell? ⟨g, off, none⟩ = some (.int .u8 x0)) (c1 : w.cell? ⟨g, off + 1, none⟩ = some (.int .u8 x1)) (c2 : w.cell? ⟨g, off + 2, none⟩ = some (.int .u8 x2)) (c3 : w.cell? ⟨g, off + 3, none⟩ = some (.int .u8 x3)) :
    Calls Tryz.prog 102 #[.slice (some ⟨g, off, none⟩) n c] w fun e w' => e = .returned (.int .u32 (x0 * 16777216 + x1 * 65536 + x2 * 256 + x3)) ∧ Below w.heap.size w w' := by
  have hn' : (4 : Int) ≤ n := by omega
  go_enter Tryz.func102, Tryz.ntmps102
  go_wp2
  go_quiet (fail)
  go_wp2
  go_ret
  refine ⟨congrArg (fun z => Ending.returned (Value.int .u32 z)) ?_, ⟨rfl, rfl, rfl, Nat.le_refl _, fun _ _ => rfl⟩⟩
  rw [show x0 * 16777216 = x0 * 2 ^ 24 by omega, or_u32 24 x0 _ (by omega) (by omega) (by omega) (by omega) (by omega) (by omega)]
  rw [show x0 * 2 ^ 24 + x1 * 65536 = (x0 * 256 + x1) * 2 ^ 16 by omega, or_u32 16 _ _ (by omega) (by omega) (by omega) (by omega) (by omega) (by omega)]
  rw [show (x0 * 256 + x1) * 2 ^ 16 + x2 * 256 = (x0 * 65536 + x1 * 256 + x2) * 2 ^ 8 by omega, or_u32 8 _ _ (by omega) (by omega) (by omega) (by omega) (by omega) (by omega)]
  all_goals omega
end Go.Proofs.YtllhbhogfffedaaGreatDoor

namespace Go.Proofs.YtllhbhogfffedaaGreatDoor
open Go.RowKit
set_option linter.unusedVariables false

/-- A number's four bytes. -/
def wd4 (n : Int) : List Int := [n / 16777216, n / 65536 % 256, n / 256 % 256, n % 256]
theorem four_lit (W : World) (x y z u : Value) (t : TypeId) : ∀ j v, [x, y, z, u][j]? = some v → (W.alloc (.cells #[x, y, z, u] t)).cell? ((⟨W.heap.size, 0, none⟩ : Addr).add j) = some v := by
  intro j v hj
  match j, hj with
  | 0, hj => simp at hj; subst hj; simp [Addr.add]
  | 1, hj => simp at hj; subst hj; simp [Addr.add]
  | 2, hj => simp at hj; subst hj; simp [Addr.add]
  | 3, hj => simp at hj; subst hj; simp [Addr.add]
  | j + 4, hj => simp at hj

set_option maxRecDepth 100000 in
set_option maxHeartbeats 1000000 in
theorem putWord_any (base m : Nat) (v : Value) (zs : List Int) (n : Int) (w : World) (hn : 0 ≤ n ∧ n < 4294967296) (ho : w.ownsRow base 5 1 v m (zs.map (Value.int .u8))) (hm : m ≤ 140737488355000) (hB : base ≤ w.heap.size) :
    Calls Tryz.prog 108 #[v, .int .u32 n] w fun e w' => ∃ v', e = .returned v' ∧ w'.ownsRow base 5 1 v' (m + 4) ((zs ++ wd4 n).map (Value.int .u8)) ∧ w.grownBy w' v.ownBlock ∧ (∀ j, v'.ownBlock = some j → v.ownBlock = some j ∨ w.heap.size ≤ j) := by
  obtain ⟨i0, hinf, hz0, hz1, hz2⟩ := info_parts Tryz.info_u8
  obtain ⟨a, cap, rfl⟩ : ∃ a cap, v = .slice a m cap := by
    obtain ⟨_, ⟨rfl, rfl⟩ | ⟨g, cap, cur, rfl, _⟩⟩ := ho
    · exact ⟨none, 0, rfl⟩
    · exact ⟨_, cap, rfl⟩
  obtain ⟨n0, n1⟩ := hn
  have HO : Hid (∀ o, (w.alloc o).ownsRow base 5 1 (.slice a m cap) m (zs.map (Value.int .u8))) := fun o => ho.alloc o
  clear ho
  go_enter Tryz.func108, Tryz.ntmps108
  go_wp2_with (at_builtin; refine wpList_append_own_at _ rfl _ _ 35 rfl base 5 i0 (.int .u8 0) 1 1 Tryz.underlying35 hinf hz0 hz1 hz2 rfl (by decide) _ _ _ rfl (HO.out _) ⟨w.heap.size, 0, none⟩ 4 4 [.int .u8 (n / 16777216), .int .u8 (n / 65536 % 256), .int .u8 (n / 256 % 256), .int .u8 (n % 256)] rfl rfl (four_lit _ _ _ _ _ _) (by intro u hu; simp at hu; rcases hu with rfl | rfl | rfl | rfl <;> rfl) (by unfold maxLen; omega) (by omega) (by simp; omega) ?_; intro v1 w1 o1 g1 _ t1)
  have hs1 := g1.size
  simp only [World.size_alloc] at hs1
  have HV : Hid (∀ j, v1.ownBlock = some j → (Value.slice a m cap).ownBlock = some j ∨ w.heap.size ≤ j) := fun j hj => by
    rcases t1 with t | t
    · exact .inl (t ▸ hj)
    · right; rw [hj] at t; simp at t; omega
  have HG : Hid (w.grownBy w1 (Value.slice a m cap).ownBlock) := by
    refine ⟨g1.os, g1.tape, g1.output, by omega, fun g hg hne => ?_⟩
    exact (g1.block g (by simp; omega) hne).trans (((Below.refl w.heap.size w).alloc (Nat.le_refl _) _).block g hg)
  have HR : Hid (w1.ownsRow base 5 1 v1 (m + 4) ((zs ++ wd4 n).map (Value.int .u8))) := by unfold Hid; rw [List.map_append]; exact o1
  clear o1 g1 t1
  go_wp2
  go_ret
  exact ⟨_, rfl, HR.out, HG.out, HV.out⟩
end Go.Proofs.YtllhbhogfffedaaGreatDoor

namespace Go.Proofs.YtllhbhogfffedaaGreatDoor
open Go.RowKit
set_option linter.unusedVariables false
set_option linter.unusedSimpArgs false

/-- What four bytes say. -/
def vl4 (zs : List Int) : Int := zs.getD 0 0 * 16777216 + zs.getD 1 0 * 65536 + zs.getD 2 0 * 256 + zs.getD 3 0
/-- What first answers. -/
def fsR (zs : List Int) : Rc × Int :=
  if zs.length < 8 then (rz0, 0)
  else if 131072 < vl4 zs ∨ (zs.length : Int) - 8 < vl4 zs then (rz0, 0)
  else if ((crs ((zs.drop 8).take (vl4 zs).toNat) : Nat) : Int) ≠ vl4 (zs.drop 4) then (rz0, 0)
  else match readP ((zs.drop 8).take (vl4 zs).toNat) with
    | none => (rz0, 0)
    | some r => (r, 8 + vl4 zs)
/-- The records at the beginning of some bytes, at most so many, and where they end. -/
def scn : Nat → List Int → List Rc × Nat
  | 0, _ => ([], 0)
  | k + 1, zs => if (fsR zs).2 = 0 then ([], 0) else ((fsR zs).1 :: (scn k (zs.drop (fsR zs).2.toNat)).1, (fsR zs).2.toNat + (scn k (zs.drop (fsR zs).2.toNat)).2)
/-- What Scan answers. -/
def scR (zs : List Int) : List Rc × Nat := scn zs.length zs

theorem bytAt {zs : List Int} (h : Bytey zs) (i : Nat) : 0 ≤ zs.getD i 0 ∧ zs.getD i 0 ≤ 255 := by
  rcases Nat.lt_or_ge i zs.length with q | q
  · rw [List.getD_eq_getElem?_getD, List.getElem?_eq_getElem q]
    exact h _ (List.getElem_mem q)
  · rw [List.getD_eq_getElem?_getD, List.getElem?_eq_none q]
    exact ⟨by decide, by decide⟩
theorem bytDrop {zs : List Int} (h : Bytey zs) (k : Nat) : Bytey (zs.drop k) := fun z hz => h z (List.mem_of_mem_drop hz)
theorem bytTake {zs : List Int} (h : Bytey zs) (k : Nat) : Bytey (zs.take k) := fun z hz => h z (List.mem_of_mem_take hz)
theorem vl4_bd {zs : List Int} (h : Bytey zs) : 0 ≤ vl4 zs ∧ vl4 zs < 4294967296 := by
  have h0 := bytAt h 0
  have h1 := bytAt h 1
  have h2 := bytAt h 2
  have h3 := bytAt h 3
  unfold vl4
  omega
theorem fsR_bd {zs : List Int} (h : Bytey zs) : (fsR zs).2 = 0 ∨ (8 ≤ (fsR zs).2 ∧ (fsR zs).2 ≤ zs.length) := by
  have hv := vl4_bd h
  unfold fsR
  split
  · exact .inl rfl
  split
  · exact .inl rfl
  split
  · exact .inl rfl
  split
  · exact .inl rfl
  · right
    simp only
    omega
theorem fs_small {zs : List Int} (hb : Bytey zs) : (fsR zs).1.data.length ≤ 65536 ∧ (fsR zs).1.spans.length ≤ 500 := by
  unfold fsR
  split
  · exact ⟨by decide, by decide⟩
  split
  · exact ⟨by decide, by decide⟩
  split
  · exact ⟨by decide, by decide⟩
  split
  · exact ⟨by decide, by decide⟩
  · rename_i r h
    obtain ⟨_, hm⟩ := read_inv (bytTake (bytDrop hb 8) _) h
    obtain ⟨_, _, h1, h2⟩ := may_parts hm
    obtain ⟨h3, h4⟩ := may_lists hm
    constructor
    · cases h9 : hasB (kf r.kind) 9 with
      | true => exact h2 h9
      | false => simp only [h4 h9]; exact Nat.zero_le _
    · cases h8 : hasB (kf r.kind) 8 with
      | true => exact (h1 h8).1
      | false => simp only [h3 h8]; exact Nat.zero_le _

/-- So far Scan has come. -/
structure Scd (zs : List Int) (l : List Rc) (t : Nat) : Prop where
  all : ∀ k, scn (k + l.length) zs = (l ++ (scn k (zs.drop t)).1, t + (scn k (zs.drop t)).2)
  cnt : 8 * l.length ≤ t
  len : t ≤ zs.length
theorem Scd.start (zs : List Int) : Scd zs [] 0 := ⟨fun k => by simp, by simp, by simp⟩
theorem Scd.step {zs : List Int} {l : List Rc} {t : Nat} (h : Scd zs l t) (hb : Bytey zs) (hn : (fsR (zs.drop t)).2 ≠ 0) : Scd zs (l ++ [(fsR (zs.drop t)).1]) (t + (fsR (zs.drop t)).2.toNat) := by
  have h1 := fsR_bd (bytDrop hb t)
  have h2 := h.cnt
  have h3 := h.len
  rw [List.length_drop] at h1
  refine ⟨fun k => ?_, by simp; omega, by omega⟩
  have h4 := h.all (k + 1)
  rw [show k + (l ++ [(fsR (zs.drop t)).1]).length = k + 1 + l.length by simp; omega, h4]
  simp only [scn, if_neg hn, List.drop_drop]
  simp [Nat.add_assoc]
theorem scn_none {zs : List Int} (h : (fsR zs).2 = 0) : ∀ k, scn k zs = ([], 0)
  | 0 => rfl
  | k + 1 => by simp [scn, h]
theorem Scd.fin {zs : List Int} {l : List Rc} {t : Nat} (h : Scd zs l t) (hn : (fsR (zs.drop t)).2 = 0) : scR zs = (l, t) := by
  have h1 := h.all (zs.length - l.length)
  have h2 := h.cnt
  have h3 := h.len
  rw [show zs.length - l.length + l.length = zs.length by omega, scn_none hn] at h1
  unfold scR
  rw [h1]
  simp

theorem scn_small : ∀ (k : Nat) (zs : List Int), Bytey zs → 8 * (scn k zs).1.length ≤ zs.length
  | 0, zs, _ => by simp [scn]
  | k + 1, zs, hb => by
    simp only [scn]
    split
    · simp
    · rename_i h
      have h1 := fsR_bd hb
      have h2 := scn_small k (zs.drop (fsR zs).2.toNat) (bytDrop hb _)
      rw [List.length_drop] at h2
      simp only [List.length_cons]
      omega
theorem scR_small (zs : List Int) (hb : Bytey zs) : 8 * (scR zs).1.length ≤ zs.length := scn_small _ _ hb

/-! ## Frames -/
/-- A record's frame. -/
def frB (r : Rc) : List Int := wd4 ((prB r).length : Nat) ++ (wd4 ((crs (prB r) : Nat) : Int) ++ prB r)
theorem frB_len (r : Rc) : (frB r).length = 8 + (prB r).length := by
  unfold frB wd4
  simp
  omega
end Go.Proofs.YtllhbhogfffedaaGreatDoor

namespace Go.Proofs.YtllhbhogfffedaaGreatDoor
open Go.RowKit
set_option linter.unusedVariables false
set_option linter.unusedSimpArgs false

theorem fs_nil : (fsR []).2 = 0 := by unfold fsR; rfl
theorem fr_take (l : List Rc) {k : Nat} (hk : k < l.length) : (l.take (k + 1)).flatMap frB = (l.take k).flatMap frB ++ frB l[k] := by
  rw [List.take_succ_eq_append_getElem hk, List.flatMap_append]
  simp
end Go.Proofs.YtllhbhogfffedaaGreatDoor

namespace Go.Proofs.YtllhbhogfffedaaGreatDoor
open Go.RowKit
set_option linter.unusedVariables false
set_option linter.unusedSimpArgs false

theorem getD_take {zs : List Int} {t i : Nat} (h : i < t) : (zs.take t).getD i 0 = zs.getD i 0 := by
  rw [List.getD_eq_getElem?_getD, List.getD_eq_getElem?_getD, List.getElem?_take_of_lt h]
theorem vl4_take7 {zs : List Int} {t : Nat} (h : 4 ≤ t) : vl4 (zs.take t) = vl4 zs := by
  unfold vl4
  rw [getD_take (by omega), getD_take (by omega), getD_take (by omega), getD_take (by omega)]
/-- What a whole frame says hangs on its own bytes alone. -/
theorem fs_take {zs : List Int} (hb : Bytey zs) (hn : (fsR zs).2 ≠ 0) {t : Nat} (ht : (fsR zs).2.toNat ≤ t) : fsR (zs.take t) = fsR zs := by
  have hv := vl4_bd hb
  have hd := fsR_bd hb
  obtain ⟨R, hR⟩ : ∃ R, fsR zs = R := ⟨_, rfl⟩
  rw [hR] at hn ht hd ⊢
  unfold fsR at hR
  split at hR
  · subst hR; exact absurd rfl hn
  rename_i h1
  split at hR
  · subst hR; exact absurd rfl hn
  rename_i h2
  split at hR
  · subst hR; exact absurd rfl hn
  rename_i h3
  cases h4 : readP ((zs.drop 8).take (vl4 zs).toNat) with
  | none => rw [h4] at hR; subst hR; exact absurd rfl hn
  | some r =>
    rw [h4] at hR
    have hR2 : R.2 = 8 + vl4 zs := by rw [← hR]
    rw [hR2] at ht hd
    have hl : 8 + (vl4 zs).toNat ≤ (zs.take t).length := by rw [List.length_take]; omega
    have e1 : vl4 (zs.take t) = vl4 zs := vl4_take7 (by omega)
    have e2 : ((zs.take t).drop 8).take (vl4 zs).toNat = (zs.drop 8).take (vl4 zs).toNat := by
      rw [List.drop_take, List.take_take, Nat.min_eq_left (by omega)]
    have e3 : vl4 ((zs.take t).drop 4) = vl4 (zs.drop 4) := by rw [List.drop_take]; exact vl4_take7 (by omega)
    unfold fsR
    rw [e1, e2, e3, if_neg (by omega), if_neg (by omega), if_neg h3, h4]
    exact hR
theorem scn_take : ∀ (k : Nat) (zs : List Int) (m : Nat), Bytey zs → (scn k zs).1.length ≤ m → scn m (zs.take (scn k zs).2) = scn k zs
  | 0, zs, m, _, _ => by
    show scn m (zs.take 0) = ([], 0)
    rw [List.take_zero]
    exact scn_none fs_nil m
  | k + 1, zs, m, hb, hm => by
    by_cases h0 : (fsR zs).2 = 0
    · have e : scn (k + 1) zs = ([], 0) := scn_none h0 _
      rw [e]
      show scn m (zs.take 0) = ([], 0)
      rw [List.take_zero]
      exact scn_none fs_nil m
    · have e : scn (k + 1) zs = ((fsR zs).1 :: (scn k (zs.drop (fsR zs).2.toNat)).1, (fsR zs).2.toNat + (scn k (zs.drop (fsR zs).2.toNat)).2) := by simp only [scn, if_neg h0]
      rw [e] at hm ⊢
      simp only [List.length_cons] at hm ⊢
      obtain ⟨m', rfl⟩ : ∃ m', m = m' + 1 := ⟨m - 1, by omega⟩
      have e1 := fs_take hb h0 (t := (fsR zs).2.toNat + (scn k (zs.drop (fsR zs).2.toNat)).2) (by omega)
      have ih := scn_take k (zs.drop (fsR zs).2.toNat) m' (bytDrop hb _) (by omega)
      simp only [scn]
      rw [e1, if_neg h0, List.drop_take, show (fsR zs).2.toNat + (scn k (zs.drop (fsR zs).2.toNat)).2 - (fsR zs).2.toNat = (scn k (zs.drop (fsR zs).2.toNat)).2 by omega, ih]
theorem scn_len : ∀ (k : Nat) (zs : List Int), Bytey zs → (scn k zs).2 ≤ zs.length
  | 0, zs, _ => Nat.zero_le _
  | k + 1, zs, hb => by
    by_cases h0 : (fsR zs).2 = 0
    · rw [scn_none h0]; exact Nat.zero_le _
    · have h1 := fsR_bd hb
      have h2 := scn_len k (zs.drop (fsR zs).2.toNat) (bytDrop hb _)
      rw [List.length_drop] at h2
      simp only [scn, if_neg h0]
      omega
theorem scR_len {zs : List Int} (hb : Bytey zs) : (scR zs).2 ≤ zs.length := scn_len _ _ hb
/-- The whole frames at the beginning of some bytes, by themselves, say the same. -/
theorem scR_take {zs : List Int} (hb : Bytey zs) : scR (zs.take (scR zs).2) = scR zs := by
  have h1 := scR_len hb
  have hb' := bytTake hb (scR zs).2
  unfold scR
  refine scn_take _ _ _ hb ?_
  -- as many rounds as there are bytes
  have h2 : ∀ (k : Nat) (ys : List Int), Bytey ys → (scn k ys).1.length ≤ (scn k ys).2 := by
    intro k
    induction k with
    | zero => intro ys _; exact Nat.zero_le _
    | succ k ih =>
      intro ys hy
      by_cases h0 : (fsR ys).2 = 0
      · rw [scn_none h0]; exact Nat.zero_le _
      · have h3 := fsR_bd hy
        have h4 := ih (ys.drop (fsR ys).2.toNat) (bytDrop hy _)
        simp only [scn, if_neg h0, List.length_cons]
        omega
  have h5 := h2 zs.length zs hb
  rw [List.length_take]
  unfold scR at h1
  omega
end Go.Proofs.YtllhbhogfffedaaGreatDoor

namespace Go.Proofs.YtllhbhogfffedaaGreatDoor
open Go.RowKit
set_option linter.unusedVariables false

/-- The lists of a record that was lent, with their marks. -/
structure Lnd (w : World) (base gd gs ns nd : Nat) (l : List (Int × Int)) (zs : List Int) : Prop where
  dat : Blk .u8 w gd 5 (mkD zs)
  spn : C.SOwn w base (.slice (some ⟨gs, 0, none⟩) (ns + 2) (ns + 2)) (mkS l)
  ndl : zs.length = nd
  nsl : l.length = ns
  ne : gd ≠ gs
  lo : base ≤ gd
  sd : nd ≤ 140737488351232
  ss : ns * 16 ≤ 140737488351232
theorem Lnd.below {w w' : World} {base gd gs ns nd : Nat} {l : List (Int × Int)} {zs : List Int} (h : Lnd w base gd gs ns nd l zs) (hb : Below w.heap.size w w') : Lnd w' base gd gs ns nd l zs :=
  ⟨(hb.block gd (Array.getElem?_eq_some_iff.mp h.dat).1).trans h.dat, own_below6 h.spn hb, h.ndl, h.nsl, h.ne, h.lo, h.sd, h.ss⟩
end Go.Proofs.YtllhbhogfffedaaGreatDoor

namespace Go.Proofs.YtllhbhogfffedaaGreatDoor
open Go.RowKit
set_option linter.unusedVariables false

/-- What alone two blocks may have changed in. -/
structure Oth (gd gs : Nat) (w w' : World) : Prop where
  os : w'.os = w.os
  tape : w'.tape = w.tape
  output : w'.output = w.output
  size : w.heap.size ≤ w'.heap.size
  block : ∀ g, g < w.heap.size → g ≠ gd → g ≠ gs → w'.heap[g]? = w.heap[g]?
theorem Oth.below {gd gs base : Nat} {w0 w w' : World} (h : Oth gd gs w w') (hb : Below base w0 w) (h1 : base ≤ gd) (h2 : base ≤ gs) (h3 : base ≤ w.heap.size) : Below base w0 w' :=
  ⟨h.os.trans hb.os, h.tape.trans hb.tape, h.output.trans hb.output, Nat.le_trans hb.size h.size, fun g hg => (h.block g (by omega) (by omega) (by omega)).trans (hb.block g hg)⟩
end Go.Proofs.YtllhbhogfffedaaGreatDoor

namespace Go.Proofs.YtllhbhogfffedaaGreatDoor
open Go.RowKit
set_option linter.unusedVariables false

/-- A row of bytes of the call's own. -/
def DOwn (w : World) (base : Nat) (v : Value) (zs : List Int) : Prop := w.ownsRow base 5 1 v zs.length (zs.map (Value.int .u8))
/-- What alone two rows may have changed in. -/
structure OthV (a b : Option Nat) (w w' : World) : Prop where
  os : w'.os = w.os
  tape : w'.tape = w.tape
  output : w'.output = w.output
  size : w.heap.size ≤ w'.heap.size
  block : ∀ g, g < w.heap.size → some g ≠ a → some g ≠ b → w'.heap[g]? = w.heap[g]?
theorem DOwn.put {W : World} {base g n cap : Nat} {L : List Int} (h : DOwn W base (.slice (some ⟨g, 0, none⟩) n cap) L) (k : Nat) (x : Int) : DOwn (W.setCell ⟨g, k, none⟩ (.int .u8 x)) base (.slice (some ⟨g, 0, none⟩) n cap) (L.set k x) := by
  obtain ⟨a', c', hv⟩ := C.own_shape h
  simp only [Value.slice.injEq] at hv
  obtain ⟨_, rfl, _⟩ := hv
  have h1 := (World.ownsRow.stored h k (.int .u8 x)).1
  unfold DOwn
  rw [List.length_set, List.map_set]
  exact h1
theorem DOwn.cells {W : World} {base g n cap k : Nat} {L : List Int} {x : Int} (h : DOwn W base (.slice (some ⟨g, 0, none⟩) n cap) L) (hk : L[k]? = some x) : W.cell? ⟨g, k, none⟩ = some (.int .u8 x) ∧ W.frozen? ⟨g, k, none⟩ = false := by
  obtain ⟨a', c', hv⟩ := C.own_shape h
  simp only [Value.slice.injEq] at hv
  obtain ⟨_, rfl, _⟩ := hv
  have hkl : k < L.length := (List.getElem?_eq_some_iff.mp hk).1
  refine ⟨(World.ownsRow.cellAt h _ (by omega)).trans ?_, World.ownsRow.frozenAt h _⟩
  rw [List.getElem?_map, hk]; rfl

end Go.Proofs.YtllhbhogfffedaaGreatDoor
