import Derived.Test.YtjolflpmeodnaagDoorRcBkM
import Derived.Test.YtjolflpmeodnaagDoorRcPwd
namespace Go.Proofs.YtjolflpmeodnaagDoor
open Go.RowKit
set_option linter.unusedVariables false
set_option linter.unusedSimpArgs false

/-- What four bytes say. -/
def vl4 (zs : List Int) : Int := zs.getD 0 0 * 16777216 + zs.getD 1 0 * 65536 + zs.getD 2 0 * 256 + zs.getD 3 0
/-- What first answers. -/
def fsR (zs : List Int) : Rc × Int :=
  if zs.length < 8 then (rz0, 0)
  else if 131072 < vl4 zs ∨ (zs.length : Int) - 8 < vl4 zs then (rz0, 0)
  else if ((crs ((zs.drop 8).take (vl4 zs).toNat) : Nat) : Int) ≠ vl4 (zs.drop 4) then (rz0, 0)
  else match readP ((zs.drop 8).take (vl4 zs).toNat) with
    | none => (rz0, 0)
    | some r => (r, 8 + vl4 zs)
/-- The records at the beginning of some bytes, at most so many, and where they end. -/
def scn : Nat → List Int → List Rc × Nat
  | 0, _ => ([], 0)
  | k + 1, zs => if (fsR zs).2 = 0 then ([], 0) else ((fsR zs).1 :: (scn k (zs.drop (fsR zs).2.toNat)).1, (fsR zs).2.toNat + (scn k (zs.drop (fsR zs).2.toNat)).2)
/-- What Scan answers. -/
def scR (zs : List Int) : List Rc × Nat := scn zs.length zs

theorem bytAt {zs : List Int} (h : Bytey zs) (i : Nat) : 0 ≤ zs.getD i 0 ∧ zs.getD i 0 ≤ 255 := by
  rcases Nat.lt_or_ge i zs.length with q | q
  · rw [List.getD_eq_getElem?_getD, List.getElem?_eq_getElem q]
    exact h _ (List.getElem_mem q)
  · rw [List.getD_eq_getElem?_getD, List.getElem?_eq_none q]
    exact ⟨by decide, by decide⟩
theorem bytDrop {zs : List Int} (h : Bytey zs) (k : Nat) : Bytey (zs.drop k) := fun z hz => h z (List.mem_of_mem_drop hz)
theorem bytTake {zs : List Int} (h : Bytey zs) (k : Nat) : Bytey (zs.take k) := fun z hz => h z (List.mem_of_mem_take hz)
theorem vl4_bd {zs : List Int} (h : Bytey zs) : 0 ≤ vl4 zs ∧ vl4 zs < 4294967296 := by
  have h0 := bytAt h 0
  have h1 := bytAt h 1
  have h2 := bytAt h 2
  have h3 := bytAt h 3
  unfold vl4
  omega
theorem fsR_bd {zs : List Int} (h : Bytey zs) : (fsR zs).2 = 0 ∨ (8 ≤ (fsR zs).2 ∧ (fsR zs).2 ≤ zs.length) := by
  have hv := vl4_bd h
  unfold fsR
  split
  · exact .inl rfl
  split
  · exact .inl rfl
  split
  · exact .inl rfl
  split
  · exact .inl rfl
  · right
    simp only
    omega
theorem fs_small {zs : List Int} (hb : Bytey zs) : (fsR zs).1.data.length ≤ 65536 ∧ (fsR zs).1.spans.length ≤ 500 := by
  unfold fsR
  split
  · exact ⟨by decide, by decide⟩
  split
  · exact ⟨by decide, by decide⟩
  split
  · exact ⟨by decide, by decide⟩
  split
  · exact ⟨by decide, by decide⟩
  · rename_i r h
    obtain ⟨_, hm⟩ := read_inv (bytTake (bytDrop hb 8) _) h
    obtain ⟨_, _, h1, h2⟩ := may_parts hm
    obtain ⟨h3, h4⟩ := may_lists hm
    constructor
    · cases h9 : hasB (kf r.kind) 9 with
      | true => exact h2 h9
      | false => simp only [h4 h9]; exact Nat.zero_le _
    · cases h8 : hasB (kf r.kind) 8 with
      | true => exact (h1 h8).1
      | false => simp only [h3 h8]; exact Nat.zero_le _

/-- So far Scan has come. -/
structure Scd (zs : List Int) (l : List Rc) (t : Nat) : Prop where
  all : ∀ k, scn (k + l.length) zs = (l ++ (scn k (zs.drop t)).1, t + (scn k (zs.drop t)).2)
  cnt : 8 * l.length ≤ t
  len : t ≤ zs.length
theorem Scd.start (zs : List Int) : Scd zs [] 0 := ⟨fun k => by simp, by simp, by simp⟩
theorem Scd.step {zs : List Int} {l : List Rc} {t : Nat} (h : Scd zs l t) (hb : Bytey zs) (hn : (fsR (zs.drop t)).2 ≠ 0) : Scd zs (l ++ [(fsR (zs.drop t)).1]) (t + (fsR (zs.drop t)).2.toNat) := by
  have h1 := fsR_bd (bytDrop hb t)
  have h2 := h.cnt
  have h3 := h.len
  rw [List.length_drop] at h1
  refine ⟨fun k => ?_, by simp; omega, by omega⟩
  have h4 := h.all (k + 1)
  rw [show k + (l ++ [(fsR (zs.drop t)).1]).length = k + 1 + l.length by simp; omega, h4]
  simp only [scn, if_neg hn, List.drop_drop]
  simp [Nat.add_assoc]
theorem scn_none {zs : List Int} (h : (fsR zs).2 = 0) : ∀ k, scn k zs = ([], 0)
  | 0 => rfl
  | k + 1 => by simp [scn, h]
theorem Scd.fin {zs : List Int} {l : List Rc} {t : Nat} (h : Scd zs l t) (hn : (fsR (zs.drop t)).2 = 0) : scR zs = (l, t) := by
  have h1 := h.all (zs.length - l.length)
  have h2 := h.cnt
  have h3 := h.len
  rw [show zs.length - l.length + l.length = zs.length by omega, scn_none hn] at h1
  unfold scR
  rw [h1]
  simp

theorem scn_small : ∀ (k : Nat) (zs : List Int), Bytey zs → 8 * (scn k zs).1.length ≤ zs.length
  | 0, zs, _ => by simp [scn]
  | k + 1, zs, hb => by
    simp only [scn]
    split
    · simp
    · rename_i h
      have h1 := fsR_bd hb
      have h2 := scn_small k (zs.drop (fsR zs).2.toNat) (bytDrop hb _)
      rw [List.length_drop] at h2
      simp only [List.length_cons]
      omega
theorem scR_small (zs : List Int) (hb : Bytey zs) : 8 * (scR zs).1.length ≤ zs.length := scn_small _ _ hb

/-! ## Frames -/
/-- A record's frame. -/
def frB (r : Rc) : List Int := wd4 ((prB r).length : Nat) ++ (wd4 ((crs (prB r) : Nat) : Int) ++ prB r)
theorem vl4_wd4 (n : Int) (t : List Int) (h : 0 ≤ n ∧ n < 4294967296) : vl4 (wd4 n ++ t) = n := by
  unfold vl4 wd4
  simp
  omega
theorem frB_len (r : Rc) : (frB r).length = 8 + (prB r).length := by
  unfold frB wd4
  simp
  omega
end Go.Proofs.YtjolflpmeodnaagDoor
