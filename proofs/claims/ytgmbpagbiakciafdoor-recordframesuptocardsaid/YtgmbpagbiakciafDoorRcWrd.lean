import Derived.Test.YtgmbpagbiakciafDoorRcAwk
import Derived.BigQuiet
import Derived.Deep.QuietTactic
import Derived.Maps.AppendAt
import Derived.Test.YtgmbpagbiakciafDoorRcBkM
namespace Go.Proofs.YtgmbpagbiakciafDoor
open Go.RowKit
set_option linter.unusedVariables false

theorem or_u32 (k : Nat) (v c : Int) (hk : k ≤ 31) (v0 : 0 ≤ v) (c0 : 0 ≤ c) (hc : c < 2 ^ k) (hv : v * 2 ^ k < 4294967296) (hc2 : c < 4294967296) : bits .or .u32 (v * 2 ^ k) c = v * 2 ^ k + c := by
  obtain ⟨x, rfl⟩ : ∃ x : Nat, v = x := ⟨v.toNat, by omega⟩
  obtain ⟨y, rfl⟩ : ∃ y : Nat, c = y := ⟨c.toNat, by omega⟩
  have hy : y < 2 ^ k := by exact_mod_cast hc
  have h0 : (0 : Int) ≤ (x : Int) * 2 ^ k := Int.mul_nonneg v0 (Int.le_of_lt (Int.pow_pos (by decide)))
  rw [u32_or _ _ h0 hv c0 hc2]
  rw [show ((x : Int) * 2 ^ k).toNat = x * 2 ^ k from by rw [show (x : Int) * 2 ^ k = ((x * 2 ^ k : Nat) : Int) by simp]; exact Int.toNat_natCast _, Int.toNat_natCast, nat_join k (x * 2 ^ k) y (Nat.mul_mod_left _ _) hy]
  simp
set_option maxRecDepth 100000 in
set_option maxHeartbeats 1000000 in
theorem word_any (g off n c : Nat) (x0 x1 x2 x3 : Int) (w : World) (hn : 4 ≤ n) (h0 : 0 ≤ x0 ∧ x0 ≤ 255) (h1 : 0 ≤ x1 ∧ x1 ≤ 255) (h2 : 0 ≤ x2 ∧ x2 ≤ 255) (h3 : 0 ≤ x3 ∧ x3 ≤ 255)
    (c0 : w.cell? ⟨g, off, none⟩ = some (.int .u8 x0)) (c1 : w.cell? ⟨g, off + 1, none⟩ = some (.int .u8 x1)) (c2 : w.cell? ⟨g, off + 2, none⟩ = some (.int .u8 x2)) (c3 : w.cell? ⟨g, off + 3, none⟩ = some (.int .u8 x3)) :
    Calls Tryd.prog 95 #[.slice (some ⟨g, off, none⟩) n c] w fun e w' => e = .returned (.int .u32 (x0 * 16777216 + x1 * 65536 + x2 * 256 + x3)) ∧ Below w.heap.size w w' := by
  have hn' : (4 : Int) ≤ n := by omega
  go_enter Tryd.func95, Tryd.ntmps95
  go_wp2
  go_quiet (fail)
  go_wp2
  go_ret
  refine ⟨congrArg (fun z => Ending.returned (Value.int .u32 z)) ?_, ⟨rfl, rfl, rfl, Nat.le_refl _, fun _ _ => rfl⟩⟩
  rw [show x0 * 16777216 = x0 * 2 ^ 24 by omega, or_u32 24 x0 _ (by omega) (by omega) (by omega) (by omega) (by omega) (by omega)]
  rw [show x0 * 2 ^ 24 + x1 * 65536 = (x0 * 256 + x1) * 2 ^ 16 by omega, or_u32 16 _ _ (by omega) (by omega) (by omega) (by omega) (by omega) (by omega)]
  rw [show (x0 * 256 + x1) * 2 ^ 16 + x2 * 256 = (x0 * 65536 + x1 * 256 + x2) * 2 ^ 8 by omega, or_u32 8 _ _ (by omega) (by omega) (by omega) (by omega) (by omega) (by omega)]
  all_goals omega
end Go.Proofs.YtgmbpagbiakciafDoor

namespace Go.Proofs.YtgmbpagbiakciafDoor
open Go.RowKit
set_option linter.unusedVariables false

/-- A number's four bytes. -/
def wd4 (n : Int) : List Int := [n / 16777216, n / 65536 % 256, n / 256 % 256, n % 256]
theorem four_lit (W : World) (x y z u : Value) (t : TypeId) : ∀ j v, [x, y, z, u][j]? = some v → (W.alloc (.cells #[x, y, z, u] t)).cell? ((⟨W.heap.size, 0, none⟩ : Addr).add j) = some v := by
  intro j v hj
  match j, hj with
  | 0, hj => simp at hj; subst hj; simp [Addr.add]
  | 1, hj => simp at hj; subst hj; simp [Addr.add]
  | 2, hj => simp at hj; subst hj; simp [Addr.add]
  | 3, hj => simp at hj; subst hj; simp [Addr.add]
  | j + 4, hj => simp at hj

set_option maxRecDepth 100000 in
set_option maxHeartbeats 1000000 in
theorem putWord_any (base m : Nat) (v : Value) (zs : List Int) (n : Int) (w : World) (hn : 0 ≤ n ∧ n < 4294967296) (ho : w.ownsRow base 5 1 v m (zs.map (Value.int .u8))) (hm : m ≤ 140737488355000) (hB : base ≤ w.heap.size) :
    Calls Tryd.prog 57 #[v, .int .u32 n] w fun e w' => ∃ v', e = .returned v' ∧ w'.ownsRow base 5 1 v' (m + 4) ((zs ++ wd4 n).map (Value.int .u8)) ∧ w.grownBy w' v.ownBlock ∧ (∀ j, v'.ownBlock = some j → v.ownBlock = some j ∨ w.heap.size ≤ j) := by
  obtain ⟨i0, hinf, hz0, hz1, hz2⟩ := info_parts Tryd.info_u8
  obtain ⟨a, cap, rfl⟩ : ∃ a cap, v = .slice a m cap := by
    obtain ⟨_, ⟨rfl, rfl⟩ | ⟨g, cap, cur, rfl, _⟩⟩ := ho
    · exact ⟨none, 0, rfl⟩
    · exact ⟨_, cap, rfl⟩
  obtain ⟨n0, n1⟩ := hn
  have HO : Hid (∀ o, (w.alloc o).ownsRow base 5 1 (.slice a m cap) m (zs.map (Value.int .u8))) := fun o => ho.alloc o
  clear ho
  go_enter Tryd.func57, Tryd.ntmps57
  go_wp2_with (at_builtin; refine wpList_append_own_at _ rfl _ _ 39 rfl base 5 i0 (.int .u8 0) 1 1 Tryd.underlying39 hinf hz0 hz1 hz2 rfl (by decide) _ _ _ rfl (HO.out _) ⟨w.heap.size, 0, none⟩ 4 4 [.int .u8 (n / 16777216), .int .u8 (n / 65536 % 256), .int .u8 (n / 256 % 256), .int .u8 (n % 256)] rfl rfl (four_lit _ _ _ _ _ _) (by intro u hu; simp at hu; rcases hu with rfl | rfl | rfl | rfl <;> rfl) (by unfold maxLen; omega) (by omega) (by simp; omega) ?_; intro v1 w1 o1 g1 _ t1)
  have hs1 := g1.size
  simp only [World.size_alloc] at hs1
  have HV : Hid (∀ j, v1.ownBlock = some j → (Value.slice a m cap).ownBlock = some j ∨ w.heap.size ≤ j) := fun j hj => by
    rcases t1 with t | t
    · exact .inl (t ▸ hj)
    · right; rw [hj] at t; simp at t; omega
  have HG : Hid (w.grownBy w1 (Value.slice a m cap).ownBlock) := by
    refine ⟨g1.os, g1.tape, g1.output, by omega, fun g hg hne => ?_⟩
    exact (g1.block g (by simp; omega) hne).trans (((Below.refl w.heap.size w).alloc (Nat.le_refl _) _).block g hg)
  have HR : Hid (w1.ownsRow base 5 1 v1 (m + 4) ((zs ++ wd4 n).map (Value.int .u8))) := by unfold Hid; rw [List.map_append]; exact o1
  clear o1 g1 t1
  go_wp2
  go_ret
  exact ⟨_, rfl, HR.out, HG.out, HV.out⟩
end Go.Proofs.YtgmbpagbiakciafDoor

namespace Go.Proofs.YtgmbpagbiakciafDoor
open Go.RowKit
set_option linter.unusedVariables false
set_option linter.unusedSimpArgs false

/-- What four bytes say. -/
def vl4 (zs : List Int) : Int := zs.getD 0 0 * 16777216 + zs.getD 1 0 * 65536 + zs.getD 2 0 * 256 + zs.getD 3 0
/-- What first answers. -/
def fsR (zs : List Int) : Rc × Int :=
  if zs.length < 8 then (rz0, 0)
  else if 131072 < vl4 zs ∨ (zs.length : Int) - 8 < vl4 zs then (rz0, 0)
  else if ((crs ((zs.drop 8).take (vl4 zs).toNat) : Nat) : Int) ≠ vl4 (zs.drop 4) then (rz0, 0)
  else match readP ((zs.drop 8).take (vl4 zs).toNat) with
    | none => (rz0, 0)
    | some r => (r, 8 + vl4 zs)
/-- The records at the beginning of some bytes, at most so many, and where they end. -/
def scn : Nat → List Int → List Rc × Nat
  | 0, _ => ([], 0)
  | k + 1, zs => if (fsR zs).2 = 0 then ([], 0) else ((fsR zs).1 :: (scn k (zs.drop (fsR zs).2.toNat)).1, (fsR zs).2.toNat + (scn k (zs.drop (fsR zs).2.toNat)).2)
/-- What Scan answers. -/
def scR (zs : List Int) : List Rc × Nat := scn zs.length zs

theorem bytAt {zs : List Int} (h : Bytey zs) (i : Nat) : 0 ≤ zs.getD i 0 ∧ zs.getD i 0 ≤ 255 := by
  rcases Nat.lt_or_ge i zs.length with q | q
  · rw [List.getD_eq_getElem?_getD, List.getElem?_eq_getElem q]
    exact h _ (List.getElem_mem q)
  · rw [List.getD_eq_getElem?_getD, List.getElem?_eq_none q]
    exact ⟨by decide, by decide⟩
theorem bytDrop {zs : List Int} (h : Bytey zs) (k : Nat) : Bytey (zs.drop k) := fun z hz => h z (List.mem_of_mem_drop hz)
theorem bytTake {zs : List Int} (h : Bytey zs) (k : Nat) : Bytey (zs.take k) := fun z hz => h z (List.mem_of_mem_take hz)
theorem vl4_bd {zs : List Int} (h : Bytey zs) : 0 ≤ vl4 zs ∧ vl4 zs < 4294967296 := by
  have h0 := bytAt h 0
  have h1 := bytAt h 1
  have h2 := bytAt h 2
  have h3 := bytAt h 3
  unfold vl4
  omega
theorem fsR_bd {zs : List Int} (h : Bytey zs) : (fsR zs).2 = 0 ∨ (8 ≤ (fsR zs).2 ∧ (fsR zs).2 ≤ zs.length) := by
  have hv := vl4_bd h
  unfold fsR
  split
  · exact .inl rfl
  split
  · exact .inl rfl
  split
  · exact .inl rfl
  split
  · exact .inl rfl
  · right
    simp only
    omega
theorem fs_small {zs : List Int} (hb : Bytey zs) : (fsR zs).1.data.length ≤ 65536 ∧ (fsR zs).1.spans.length ≤ 500 := by
  unfold fsR
  split
  · exact ⟨by decide, by decide⟩
  split
  · exact ⟨by decide, by decide⟩
  split
  · exact ⟨by decide, by decide⟩
  split
  · exact ⟨by decide, by decide⟩
  · rename_i r h
    obtain ⟨_, hm⟩ := read_inv (bytTake (bytDrop hb 8) _) h
    obtain ⟨_, _, h1, h2⟩ := may_parts hm
    obtain ⟨h3, h4⟩ := may_lists hm
    constructor
    · cases h9 : hasB (kf r.kind) 9 with
      | true => exact h2 h9
      | false => simp only [h4 h9]; exact Nat.zero_le _
    · cases h8 : hasB (kf r.kind) 8 with
      | true => exact (h1 h8).1
      | false => simp only [h3 h8]; exact Nat.zero_le _

/-- So far Scan has come. -/
structure Scd (zs : List Int) (l : List Rc) (t : Nat) : Prop where
  all : ∀ k, scn (k + l.length) zs = (l ++ (scn k (zs.drop t)).1, t + (scn k (zs.drop t)).2)
  cnt : 8 * l.length ≤ t
  len : t ≤ zs.length
theorem Scd.start (zs : List Int) : Scd zs [] 0 := ⟨fun k => by simp, by simp, by simp⟩
theorem Scd.step {zs : List Int} {l : List Rc} {t : Nat} (h : Scd zs l t) (hb : Bytey zs) (hn : (fsR (zs.drop t)).2 ≠ 0) : Scd zs (l ++ [(fsR (zs.drop t)).1]) (t + (fsR (zs.drop t)).2.toNat) := by
  have h1 := fsR_bd (bytDrop hb t)
  have h2 := h.cnt
  have h3 := h.len
  rw [List.length_drop] at h1
  refine ⟨fun k => ?_, by simp; omega, by omega⟩
  have h4 := h.all (k + 1)
  rw [show k + (l ++ [(fsR (zs.drop t)).1]).length = k + 1 + l.length by simp; omega, h4]
  simp only [scn, if_neg hn, List.drop_drop]
  simp [Nat.add_assoc]
theorem scn_none {zs : List Int} (h : (fsR zs).2 = 0) : ∀ k, scn k zs = ([], 0)
  | 0 => rfl
  | k + 1 => by simp [scn, h]
theorem Scd.fin {zs : List Int} {l : List Rc} {t : Nat} (h : Scd zs l t) (hn : (fsR (zs.drop t)).2 = 0) : scR zs = (l, t) := by
  have h1 := h.all (zs.length - l.length)
  have h2 := h.cnt
  have h3 := h.len
  rw [show zs.length - l.length + l.length = zs.length by omega, scn_none hn] at h1
  unfold scR
  rw [h1]
  simp

theorem scn_small : ∀ (k : Nat) (zs : List Int), Bytey zs → 8 * (scn k zs).1.length ≤ zs.length
  | 0, zs, _ => by simp [scn]
  | k + 1, zs, hb => by
    simp only [scn]
    split
    · simp
    · rename_i h
      have h1 := fsR_bd hb
      have h2 := scn_small k (zs.drop (fsR zs).2.toNat) (bytDrop hb _)
      rw [List.length_drop] at h2
      simp only [List.length_cons]
      omega
theorem scR_small (zs : List Int) (hb : Bytey zs) : 8 * (scR zs).1.length ≤ zs.length := scn_small _ _ hb

/-! ## Frames -/
/-- A record's frame. -/
def frB (r : Rc) : List Int := wd4 ((prB r).length : Nat) ++ (wd4 ((crs (prB r) : Nat) : Int) ++ prB r)
theorem vl4_wd4 (n : Int) (t : List Int) (h : 0 ≤ n ∧ n < 4294967296) : vl4 (wd4 n ++ t) = n := by
  unfold vl4 wd4
  simp
  omega
theorem frB_len (r : Rc) : (frB r).length = 8 + (prB r).length := by
  unfold frB wd4
  simp
  omega
end Go.Proofs.YtgmbpagbiakciafDoor

namespace Go.Proofs.YtgmbpagbiakciafDoor
open Go.RowKit
set_option linter.unusedVariables false
set_option linter.unusedSimpArgs false

theorem fs_frame {r : Rc} (h : mayB6 r = true) (hd : Bytey r.data) (t : List Int) : fsR (frB r ++ t) = (r, ((frB r).length : Int)) := by
  have h1 := prB_len h
  have h2 := crs_lt (prB_bytey h hd)
  have h3 := frB_len r
  have e0 : frB r ++ t = wd4 ((prB r).length : Nat) ++ (wd4 ((crs (prB r) : Nat) : Int) ++ (prB r ++ t)) := by unfold frB; simp only [List.append_assoc]
  have e1 : vl4 (frB r ++ t) = ((prB r).length : Nat) := by rw [e0]; exact vl4_wd4 _ _ (by omega)
  have e2 : (frB r ++ t).drop 4 = wd4 ((crs (prB r) : Nat) : Int) ++ (prB r ++ t) := by rw [e0]; rfl
  have e3 : (frB r ++ t).drop 8 = prB r ++ t := by rw [e0]; rfl
  unfold fsR
  rw [if_neg (by rw [List.length_append]; omega), e1, e2, e3, vl4_wd4 _ _ (by omega), if_neg (by rw [List.length_append]; omega), Int.toNat_natCast, List.take_left, read_back h, if_neg (by simp), h3]
  simp
theorem vl4_take {zs : List Int} {k : Nat} (hk : 4 ≤ k) : vl4 (zs.take k) = vl4 zs := by
  unfold vl4
  simp only [List.getD_eq_getElem?_getD]
  rw [List.getElem?_take_of_lt (by omega), List.getElem?_take_of_lt (by omega), List.getElem?_take_of_lt (by omega), List.getElem?_take_of_lt (by omega)]
theorem fs_short {r : Rc} (h : mayB6 r = true) {k : Nat} (hk : k < (frB r).length) : (fsR ((frB r).take k)).2 = 0 := by
  have h1 := prB_len h
  have h3 := frB_len r
  unfold fsR
  by_cases h8 : k < 8
  · rw [if_pos (by rw [List.length_take]; omega)]
  · rw [if_neg (by rw [List.length_take]; omega), if_pos]
    right
    rw [vl4_take (by omega)]
    have e1 : vl4 (frB r) = ((prB r).length : Nat) := by unfold frB; exact vl4_wd4 _ _ (by omega)
    rw [e1, List.length_take]
    omega
theorem fs_nil : (fsR []).2 = 0 := by unfold fsR; rfl
theorem fs_turn {r : Rc} (h : mayB6 r = true) (hd : Bytey r.data) {o : Nat} {x y : Int} (hx : 0 ≤ x ∧ x ≤ 255) (h4 : 4 ≤ o) (ho : (frB r)[o]? = some y) (hne : x ≠ y) (t : List Int) : (fsR ((frB r).set o x ++ t)).2 = 0 := by
  have h1 := prB_len h
  have hpb := prB_bytey h hd
  have h2 := crs_lt hpb
  have h3 := frB_len r
  have hol : o < (frB r).length := (List.getElem?_eq_some_iff.mp ho).1
  have e0 : (frB r).set o x ++ t = wd4 ((prB r).length : Nat) ++ ((wd4 ((crs (prB r) : Nat) : Int) ++ prB r).set (o - 4) x ++ t) := by
    unfold frB
    rw [List.set_append_right _ _ (by simp [wd4]; omega), List.append_assoc]
    rfl
  have e1 : vl4 ((frB r).set o x ++ t) = ((prB r).length : Nat) := by rw [e0]; exact vl4_wd4 _ _ (by omega)
  have e2 : ((frB r).set o x ++ t).drop 4 = (wd4 ((crs (prB r) : Nat) : Int) ++ prB r).set (o - 4) x ++ t := by rw [e0]; rfl
  have hy : (wd4 ((crs (prB r) : Nat) : Int) ++ prB r)[o - 4]? = some y := by
    unfold frB at ho
    rw [List.getElem?_append_right (by simp [wd4]; omega)] at ho
    exact ho
  unfold fsR
  rw [if_neg (by rw [List.length_append, List.length_set]; omega), e1, if_neg (by rw [List.length_append, List.length_set]; omega), if_pos]
  rw [Int.toNat_natCast]
  by_cases h8 : o < 8
  · have e3 : ((frB r).set o x ++ t).drop 8 = prB r ++ t := by
      rw [show (8 : Nat) = 4 + 4 by rfl, ← List.drop_drop, e2, List.set_append_left _ _ (by simp [wd4]; omega), List.append_assoc, List.drop_left' (by simp [wd4])]
    rw [e3, e2, List.take_left, List.set_append_left _ _ (by simp [wd4]; omega), List.append_assoc]
    rw [List.getElem?_append_left (by simp [wd4]; omega)] at hy
    generalize crs (prB r) = s at *
    have : o = 4 ∨ o = 5 ∨ o = 6 ∨ o = 7 := by omega
    rcases this with rfl | rfl | rfl | rfl <;> simp [wd4, vl4] at hy ⊢ <;> omega
  · have e3 : ((frB r).set o x ++ t).drop 8 = (prB r).set (o - 8) x ++ t := by
      rw [show (8 : Nat) = 4 + 4 by rfl, ← List.drop_drop, e2, List.set_append_right _ _ (by simp [wd4]; omega), List.append_assoc, List.drop_left' (by simp [wd4])]
      rfl
    have hy2 : (prB r)[o - 8]? = some y := by
      rw [List.getElem?_append_right (by simp [wd4]; omega)] at hy
      rw [← hy]
      congr 1
    rw [e3, e2, List.take_left' (by simp), List.set_append_right _ _ (by simp [wd4]; omega), List.append_assoc, vl4_wd4 _ _ (by omega)]
    intro e
    have e' : crs ((prB r).set (o - 8) x) = crs (prB r) := by omega
    exact hne ((crs_set hy2 hpb hx).mp e')

theorem scd_frames : ∀ (n : Nat) (l : List Rc) (t : List Int), l.length = n → (∀ r ∈ l, mayB6 r = true ∧ Bytey r.data) → Bytey (l.flatMap frB ++ t) → Scd (l.flatMap frB ++ t) l (l.flatMap frB).length
  | 0, l, t, hl, h, hb => by
    obtain rfl := List.eq_nil_of_length_eq_zero hl
    exact Scd.start _
  | n + 1, l, t, hl, h, hb => by
    have hne : l ≠ [] := by intro e; rw [e] at hl; simp at hl
    obtain ⟨l', r, rfl⟩ : ∃ l' r, l = l' ++ [r] := ⟨l.dropLast, l.getLast hne, (List.dropLast_concat_getLast hne).symm⟩
    have hr := h r (by simp)
    have e : (l' ++ [r]).flatMap frB ++ t = l'.flatMap frB ++ (frB r ++ t) := by simp [List.append_assoc]
    rw [e] at hb ⊢
    have h1 := scd_frames n l' (frB r ++ t) (by simpa using hl) (fun q hq => h q (by simp [hq])) hb
    have h2 := fs_frame hr.1 hr.2 t
    have h3 := frB_len r
    have hdr : (l'.flatMap frB ++ (frB r ++ t)).drop (l'.flatMap frB).length = frB r ++ t := List.drop_left
    have h4 := h1.step hb (by rw [hdr, h2]; simp only; omega)
    rw [hdr, h2] at h4
    simp only [Int.toNat_natCast] at h4
    rw [show ((l' ++ [r]).flatMap frB).length = (l'.flatMap frB).length + (frB r).length by simp]
    exact h4
theorem fr_bytey {l : List Rc} (h : ∀ r ∈ l, mayB6 r = true ∧ Bytey r.data) : Bytey (l.flatMap frB) := by
  refine bytey_flat (fun r hr => ?_)
  obtain ⟨h1, h2⟩ := h r hr
  have h3 := prB_len h1
  have hpb := prB_bytey h1 h2
  have h4 := crs_lt hpb
  have hw : ∀ n : Int, 0 ≤ n ∧ n < 4294967296 → Bytey (wd4 n) := fun n hn z hz => by
    simp only [wd4, List.mem_cons, List.not_mem_nil, or_false] at hz
    rcases hz with rfl | rfl | rfl | rfl <;> omega
  unfold frB
  exact bytey_app (hw _ (by omega)) (bytey_app (hw _ (by omega)) hpb)
theorem scR_all {l : List Rc} (h : ∀ r ∈ l, mayB6 r = true ∧ Bytey r.data) : scR (l.flatMap frB) = (l, (l.flatMap frB).length) := by
  have h1 := scd_frames l.length l [] rfl h (by rw [List.append_nil]; exact fr_bytey h)
  rw [List.append_nil] at h1
  exact h1.fin (by rw [List.drop_length]; exact fs_nil)
theorem scR_more {l : List Rc} {t : List Int} (h : ∀ r ∈ l, mayB6 r = true ∧ Bytey r.data) (ht : Bytey t) : ∃ m k, scR (l.flatMap frB ++ t) = (l ++ m, (l.flatMap frB).length + k) := by
  have h1 := scd_frames l.length l t rfl h (bytey_app (fr_bytey h) ht)
  have h2 := h1.all ((l.flatMap frB ++ t).length - l.length)
  have h3 := h1.cnt
  have h4 := h1.len
  rw [show (l.flatMap frB ++ t).length - l.length + l.length = (l.flatMap frB ++ t).length by omega] at h2
  exact ⟨_, _, h2⟩
theorem fr_split (l : List Rc) {k : Nat} (hk : k < l.length) : l = l.take k ++ l[k] :: l.drop (k + 1) := by
  rw [← List.drop_eq_getElem_cons hk, List.take_append_drop]
theorem fr_take (l : List Rc) {k : Nat} (hk : k < l.length) : (l.take (k + 1)).flatMap frB = (l.take k).flatMap frB ++ frB l[k] := by
  rw [List.take_succ_eq_append_getElem hk, List.flatMap_append]
  simp
/-- Of frames that are cut, those that stand whole. -/
theorem scR_cut {l : List Rc} (h : ∀ r ∈ l, mayB6 r = true ∧ Bytey r.data) {k c : Nat} (hk : k < l.length) (h1 : ((l.take k).flatMap frB).length ≤ c) (h2 : c < ((l.take (k + 1)).flatMap frB).length) :
    scR ((l.flatMap frB).take c) = (l.take k, ((l.take k).flatMap frB).length) := by
  have hm : l[k] ∈ l := List.getElem_mem hk
  have ht : ∀ r ∈ l.take k, mayB6 r = true ∧ Bytey r.data := fun r hr => h r (List.mem_of_mem_take hr)
  rw [fr_take l hk, List.length_append] at h2
  have e : (l.flatMap frB).take c = (l.take k).flatMap frB ++ (frB l[k]).take (c - ((l.take k).flatMap frB).length) := by
    have e1 : l.flatMap frB = (l.take k).flatMap frB ++ (frB l[k] ++ (l.drop (k + 1)).flatMap frB) := by
      have := congrArg (List.flatMap frB) (fr_split l hk)
      rw [List.flatMap_append, List.flatMap_cons] at this
      exact this
    rw [e1, List.take_append, List.take_of_length_le h1, List.take_append_of_le_length (by omega)]
  rw [e]
  have hbt : Bytey (frB l[k]) := by
    have := fr_bytey (l := [l[k]]) (fun r hr => by simp at hr; rw [hr]; exact h _ hm)
    simpa using this
  have h3 := scd_frames _ (l.take k) ((frB l[k]).take (c - ((l.take k).flatMap frB).length)) rfl ht (bytey_app (fr_bytey ht) (bytTake hbt _))
  exact h3.fin (by rw [List.drop_left]; exact fs_short (h _ hm).1 (by omega))
/-- Of frames in which a byte is turned, those ahead of it. -/
theorem scR_turn {l : List Rc} (h : ∀ r ∈ l, mayB6 r = true ∧ Bytey r.data) {k p : Nat} {x y : Int} (hk : k < l.length) (h1 : ((l.take k).flatMap frB).length + 4 ≤ p) (h2 : p < ((l.take (k + 1)).flatMap frB).length) (hy : (l.flatMap frB)[p]? = some y) (hx : 0 ≤ x ∧ x ≤ 255) (hne : x ≠ y) :
    scR ((l.flatMap frB).set p x) = (l.take k, ((l.take k).flatMap frB).length) := by
  have hm : l[k] ∈ l := List.getElem_mem hk
  have ht : ∀ r ∈ l.take k, mayB6 r = true ∧ Bytey r.data := fun r hr => h r (List.mem_of_mem_take hr)
  rw [fr_take l hk, List.length_append] at h2
  have e1 : l.flatMap frB = (l.take k).flatMap frB ++ (frB l[k] ++ (l.drop (k + 1)).flatMap frB) := by
    have := congrArg (List.flatMap frB) (fr_split l hk)
    rw [List.flatMap_append, List.flatMap_cons] at this
    exact this
  have hb := fr_bytey h
  have hbs : Bytey ((l.flatMap frB).set p x) := fun z hz => by
    rcases List.mem_or_eq_of_mem_set hz with q | q
    · exact hb z q
    · rw [q]; exact hx
  rw [e1] at hy hbs ⊢
  rw [List.getElem?_append_right (by omega), List.getElem?_append_left (by omega)] at hy
  rw [List.set_append_right _ _ (by omega), List.set_append_left _ _ (by omega)] at hbs ⊢
  have h3 := scd_frames _ (l.take k) _ rfl ht hbs
  exact h3.fin (by rw [List.drop_left]; exact fs_turn (h _ hm).1 (h _ hm).2 hx (by omega) hy hne _)
end Go.Proofs.YtgmbpagbiakciafDoor
